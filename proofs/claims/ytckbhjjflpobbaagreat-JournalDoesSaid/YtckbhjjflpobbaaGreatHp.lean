/-
  Headers in two slots, as plain mathematics: nothing here speaks of the program.
-/
import Derived.Test.YtckbhjjflpobbaaGreatFb
namespace Go.Proofs.YtckbhjjflpobbaaGreat.Hk
open Go Go.Proofs.YtckbhjjflpobbaaGreat.Pk
open Go.Proofs.YtckbhjjflpobbaaGreat.Fk (btw btw_iff take_app drop_app drop_step val_short)

structure Hd where
  seq : Int
  boot : Int
  area : Int
  first : Int
  snaps : Int
def Hd.nil : Hd := ⟨0, 0, 0, 0, 0⟩
namespace Hd
def ok (h : Hd) : Bool := btw h.seq 1 281474976710655 && (btw h.first 1 281474976710655 && (btw h.boot 1 4294967295 && (btw h.area 0 1 && btw h.snaps 0 65535)))
def head (h : Hd) : List UInt8 := be h.seq.toNat 6 ++ (be h.boot.toNat 4 ++ (be h.area.toNat 1 ++ (be h.first.toNat 6 ++ be h.snaps.toNat 2)))
def sum (h : Hd) : BitVec 32 := Crc.moreB 0 h.head
def sec (h : Hd) : List UInt8 := h.head ++ (be h.sum.toNat 4 ++ (List.replicate 51 0 ++ be h.seq.toNat 6))
def err (h : Hd) : Int := if h.ok = true then 0 else 2
def enc (h : Hd) : ByteArray := if h.ok = true then str h.sec else str []
structure good (h : Hd) : Prop where
  s1 : 1 ≤ h.seq
  s2 : h.seq ≤ 281474976710655
  f1 : 1 ≤ h.first
  f2 : h.first ≤ 281474976710655
  b1 : 1 ≤ h.boot
  b2 : h.boot ≤ 4294967295
  a1 : 0 ≤ h.area
  a2 : h.area ≤ 1
  n1 : 0 ≤ h.snaps
  n2 : h.snaps ≤ 65535
theorem ok_iff (h : Hd) : h.ok = true ↔ h.good := by
  unfold ok
  rw [Bool.and_eq_true, Bool.and_eq_true, Bool.and_eq_true, Bool.and_eq_true, btw_iff, btw_iff, btw_iff, btw_iff, btw_iff]
  constructor
  · rintro ⟨⟨a, b⟩, ⟨c, d⟩, ⟨e, f⟩, ⟨g, i⟩, j, k⟩
    exact ⟨a, b, c, d, e, f, g, i, j, k⟩
  · rintro ⟨a, b, c, d, e, f, g, i, j, k⟩
    exact ⟨⟨a, b⟩, ⟨c, d⟩, ⟨e, f⟩, ⟨g, i⟩, j, k⟩
theorem err_zero (h : Hd) : h.err = 0 ↔ h.good := by
  unfold err
  rw [← ok_iff]
  split <;> simp_all
theorem enc_good {h : Hd} (g : h.good) : h.enc = str h.sec := by unfold enc; rw [if_pos (h.ok_iff.mpr g)]
theorem enc_bad {h : Hd} (g : ¬ h.good) : h.enc = str [] ∧ h.err = 2 := by
  have : ¬ h.ok = true := fun e => g (h.ok_iff.mp e)
  unfold enc err; rw [if_neg this, if_neg this]; exact ⟨rfl, rfl⟩
end Hd
theorem head_len (h : Hd) : h.head.length = 19 := by unfold Hd.head; simp only [List.length_append, be_length]
theorem sec_len (h : Hd) : h.sec.length = 80 := by unfold Hd.sec; simp only [List.length_append, be_length, head_len, List.length_replicate]
theorem sec_flat (h : Hd) : h.sec = be h.seq.toNat 6 ++ (be h.boot.toNat 4 ++ (be h.area.toNat 1 ++ (be h.first.toNat 6 ++ (be h.snaps.toNat 2 ++ (be h.sum.toNat 4 ++ (List.replicate 51 0 ++ be h.seq.toNat 6)))))) := by
  unfold Hd.sec Hd.head; simp only [List.append_assoc]
/-! The fields of a string. -/
def m1 (s : ByteArray) : List UInt8 := s.data.toList.drop 6
def m2 (s : ByteArray) : List UInt8 := (m1 s).drop 4
def m3 (s : ByteArray) : List UInt8 := (m2 s).drop 1
def m4 (s : ByteArray) : List UInt8 := (m3 s).drop 6
def flds (s : ByteArray) : Hd := ⟨val (s.data.toList.take 6), val ((m1 s).take 4), val ((m2 s).take 1), val ((m3 s).take 6), val ((m4 s).take 2)⟩
def dec (s : ByteArray) : Option Hd := if (flds s).ok = true ∧ (flds s).enc = s then some (flds s) else none
def decF (s : ByteArray) : Hd := (dec s).getD Hd.nil
def decE (s : ByteArray) : Int := if (dec s).isSome = true then 0 else 12
theorem flds_sec {h : Hd} (g : h.good) : flds (str h.sec) = h := by
  have e0 : (str h.sec).data.toList = _ := (list_str h.sec).trans (sec_flat h)
  have e1 : m1 (str h.sec) = _ := drop_step e0 (be_length _ _)
  have e2 : m2 (str h.sec) = _ := drop_step e1 (be_length _ _)
  have e3 : m3 (str h.sec) = _ := drop_step e2 (be_length _ _)
  have e4 : m4 (str h.sec) = _ := drop_step e3 (be_length _ _)
  have s1 := g.s1; have s2 := g.s2; have f1 := g.f1; have f2 := g.f2; have b1 := g.b1; have b2 := g.b2; have a1 := g.a1; have a2 := g.a2; have n1 := g.n1; have n2 := g.n2
  unfold flds
  rw [e0, e1, e2, e3, e4, take_app (be_length _ _), take_app (be_length _ _), take_app (be_length _ _), take_app (be_length _ _), take_app (be_length _ _)]
  rw [val_be_lt (by omega : h.seq.toNat < 256 ^ 6), val_be_lt (by omega : h.boot.toNat < 256 ^ 4), val_be_lt (by omega : h.area.toNat < 256 ^ 1), val_be_lt (by omega : h.first.toNat < 256 ^ 6), val_be_lt (by omega : h.snaps.toNat < 256 ^ 2)]
  rw [Int.toNat_of_nonneg (by omega), Int.toNat_of_nonneg (by omega), Int.toNat_of_nonneg (by omega), Int.toNat_of_nonneg (by omega), Int.toNat_of_nonneg (by omega)]
theorem dec_sec {h : Hd} (g : h.good) : dec (str h.sec) = some h := by
  unfold dec
  rw [flds_sec g, if_pos ⟨h.ok_iff.mpr g, Hd.enc_good g⟩]
theorem dec_enc {h : Hd} (g : h.good) : dec h.enc = some h := by rw [Hd.enc_good g]; exact dec_sec g
theorem dec_some {s : ByteArray} {h : Hd} (e : dec s = some h) : h.good ∧ s = str h.sec := by
  unfold dec at e
  split at e
  · rename_i h1
    obtain rfl : flds s = h := by simpa using e
    have hg := (flds s).ok_iff.mp h1.1
    exact ⟨hg, by rw [← Hd.enc_good hg]; exact h1.2.symm⟩
  · cases e
theorem decF_enc {h : Hd} (g : h.good) : decF h.enc = h ∧ decE h.enc = 0 := by unfold decF decE; rw [dec_enc g]; exact ⟨rfl, rfl⟩
theorem decE_or (s : ByteArray) : decE s = 0 ∧ dec s = some (decF s) ∨ decE s = 12 ∧ dec s = none ∧ decF s = Hd.nil := by
  unfold decE decF
  cases h : dec s with
  | none => exact .inr ⟨rfl, rfl, rfl⟩
  | some c => exact .inl ⟨rfl, rfl⟩
theorem enc_dec {s : ByteArray} (h : decE s = 0) : (decF s).enc = s ∧ (decF s).err = 0 := by
  rcases decE_or s with ⟨_, hd⟩ | ⟨h2, _⟩
  · obtain ⟨hg, he⟩ := dec_some hd
    exact ⟨(Hd.enc_good hg).trans he.symm, (Hd.err_zero _).mpr hg⟩
  · rw [h] at h2; cases h2
theorem enc_inj {a b : Hd} (ga : a.good) (gb : b.good) (h : a.enc = b.enc) : a = b := by
  have h1 := dec_enc ga
  rw [h, dec_enc gb] at h1
  simpa using h1.symm
theorem enc_size {h : Hd} (g : h.good) : h.enc.size = 80 := by rw [Hd.enc_good g, size_str, sec_len]

/-! ### two slots -/
/-- The header that slot i holds. -/
def slot (S : Nat → ByteArray) (i : Nat) : Option Hd := match dec (S i) with
  | some h => if h.seq % 2 = (i : Int) then some h else none
  | none => none
def newest (S : Nat → ByteArray) : Option Hd := match slot S 0, slot S 1 with
  | some a, some b => if a.seq < b.seq then some b else some a
  | some a, none => some a
  | none, x => x
theorem slot_some {S : Nat → ByteArray} {i : Nat} {h : Hd} (e : slot S i = some h) : h.good ∧ S i = str h.sec ∧ h.seq % 2 = (i : Int) := by
  unfold slot at e
  cases hd : dec (S i) with
  | none => rw [hd] at e; cases e
  | some c =>
    rw [hd] at e
    simp only at e
    split at e
    · rename_i h2
      obtain rfl : c = h := by simpa using e
      exact ⟨(dec_some hd).1, (dec_some hd).2, h2⟩
    · cases e
theorem slot_sec {S : Nat → ByteArray} {i : Nat} {h : Hd} (g : h.good) (e : S i = str h.sec) (h2 : h.seq % 2 = (i : Int)) : slot S i = some h := by
  unfold slot; rw [e, dec_sec g]; exact if_pos h2
/-- h is the newest header, and lies in its slot; the other slot has none that is newer. -/
structure Top (S : Nat → ByteArray) (h : Hd) : Prop where
  good : h.good
  here : S (h.seq.toNat % 2) = str h.sec
  low : ∀ c, slot S ((h.seq.toNat + 1) % 2) = some c → c.seq < h.seq
theorem Top.newest {S : Nat → ByteArray} {h : Hd} (t : Top S h) : newest S = some h := by
  have s1 := t.good.s1
  have hs : slot S (h.seq.toNat % 2) = some h := slot_sec t.good t.here (by omega)
  have hl := t.low
  unfold Hk.newest
  rcases (by omega : h.seq.toNat % 2 = 0 ∨ h.seq.toNat % 2 = 1) with e | e
  · have e' : (h.seq.toNat + 1) % 2 = 1 := by omega
    rw [e] at hs; rw [e'] at hl; rw [hs]
    cases h1 : slot S 1 with
    | none => rfl
    | some c => have := hl c h1; simp only; rw [if_neg (by omega)]
  · have e' : (h.seq.toNat + 1) % 2 = 0 := by omega
    rw [e] at hs; rw [e'] at hl; rw [hs]
    cases h1 : slot S 0 with
    | none => rfl
    | some c => have := hl c h1; simp only; rw [if_pos this]
/-- The bytes of a number where a sector has its Seq. -/
def seqAt (n : Nat) (p : Nat) : UInt8 := (be n 6).getD (if p < 6 then p else p - 74) 0
def inSeq (p : Nat) : Prop := p < 6 ∨ 74 ≤ p ∧ p < 80
theorem sec_seq (h : Hd) {p : Nat} (hp : inSeq p) : h.sec.getD p 0 = seqAt h.seq.toNat p := by
  unfold seqAt
  rcases hp with h1 | ⟨h1, h2⟩
  · rw [if_pos h1, sec_flat, List.getD_eq_getElem?_getD, List.getElem?_append_left (by rw [be_length]; exact h1), ← List.getD_eq_getElem?_getD]
  · have e : h.sec = (h.head ++ (be h.sum.toNat 4 ++ List.replicate 51 0)) ++ be h.seq.toNat 6 := by unfold Hd.sec; simp only [List.append_assoc]
    have hl : (h.head ++ (be h.sum.toNat 4 ++ List.replicate 51 0)).length = 74 := by simp only [List.length_append, head_len, be_length, List.length_replicate]
    rw [if_neg (by omega), e, List.getD_eq_getElem?_getD, List.getElem?_append_right (by omega), hl, ← List.getD_eq_getElem?_getD]
/-- What a slot may hold while the header n + 1 is saved into it, again and again, over one with the number n - 1 (or zeros, n being 1): up to some byte it has the new number, from there on the older one. -/
structure Stale (n : Nat) (l : List UInt8) : Prop where
  len : l.length = 80
  mix : ∃ K, K ≤ 79 ∧ ∀ p, inSeq p → l.getD p 0 = if p < K then seqAt (n + 1) p else seqAt (n - 1) p
theorem be_low (n : Nat) : (be n 6).getD 5 0 = UInt8.ofNat n := by
  have : be n 6 = be (n / 256) 5 ++ [UInt8.ofNat n] := rfl
  rw [this, List.getD_eq_getElem?_getD, List.getElem?_append_right (by rw [be_length]; exact Nat.le_refl _), be_length]; rfl
/-- Such a slot holds no header that is newer than n. -/
theorem Stale.low {n : Nat} (h48 : n + 1 < 256 ^ 6) {l : List UInt8} (h : Stale n l) {c : Hd} (hc : dec (str l) = some c) : c.seq < n := by
  obtain ⟨g, e⟩ := dec_some hc
  have el : l = c.sec := by rw [← list_str l, e, list_str]
  subst el
  obtain ⟨K, hK, hm⟩ := h.mix
  have s1 := g.s1; have s2 := g.s2
  have b0 : c.sec.getD 5 0 = c.sec.getD 79 0 := by rw [sec_seq c (.inl (by decide)), sec_seq c (.inr (by decide))]; rfl
  have last := hm 79 (.inr (by decide))
  rw [if_neg (by omega)] at last
  by_cases h6 : 5 < K
  · exfalso
    have f := hm 5 (.inl (by decide))
    rw [if_pos h6] at f
    rw [f, last] at b0
    unfold seqAt at b0
    rw [if_pos (by decide), if_neg (by decide), be_low, be_low] at b0
    have b1 := congrArg UInt8.toNat b0
    rw [UInt8.toNat_ofNat', UInt8.toNat_ofNat'] at b1
    omega
  · have key : ∀ p, p < 6 → seqAt c.seq.toNat p = seqAt (n - 1) p := by
      intro p hp
      have h1 := hm (74 + p) (.inr (by omega))
      rw [if_neg (by omega), sec_seq c (.inr (by omega))] at h1
      have q : ∀ m, seqAt m (74 + p) = seqAt m p := fun m => by unfold seqAt; rw [if_neg (by omega), if_pos hp]; congr 1; omega
      rw [q, q] at h1
      exact h1
    have eb : be c.seq.toNat 6 = be (n - 1) 6 := by
      apply List.ext_getElem (by rw [be_length, be_length])
      intro p h1 h2
      have := key p (by rw [be_length] at h1; exact h1)
      unfold seqAt at this
      rw [be_length] at h1
      rw [if_pos h1, List.getD_eq_getElem?_getD, List.getD_eq_getElem?_getD, List.getElem?_eq_getElem (by rw [be_length]; exact h1), List.getElem?_eq_getElem (by rw [be_length]; exact h1)] at this
      simpa using this
    have ev := congrArg val eb
    rw [val_be_lt (by omega : c.seq.toNat < 256 ^ 6), val_be_lt (by omega : n - 1 < 256 ^ 6)] at ev
    omega
/-- Zeros, before the header 1 is there. -/
theorem Stale.zero : Stale 1 (List.replicate 80 0) := ⟨by simp, 0, by decide, fun p hp => by
  rw [if_neg (by omega)]
  have h1 : (List.replicate 80 (0 : UInt8)).getD p 0 = 0 := by
    rw [List.getD_eq_getElem?_getD, List.getElem?_replicate]; split <;> rfl
  have h2 : ∀ q, (be (1 - 1) 6).getD q 0 = 0 := by
    have e : be (1 - 1) 6 = [0, 0, 0, 0, 0, 0] := by decide
    intro q; rw [e]
    match q with
    | 0 => rfl
    | 1 => rfl
    | 2 => rfl
    | 3 => rfl
    | 4 => rfl
    | 5 => rfl
    | (q + 6) => rfl
  rw [h1]; unfold seqAt; rw [h2]⟩
/-- The header before, wholly there. -/
theorem Stale.sec {h : Hd} {n : Nat} (e : h.seq = (n : Int) - 1) (hn : 1 ≤ n) : Stale n h.sec := ⟨sec_len h, 0, by decide, fun p hp => by
  rw [if_neg (by omega), sec_seq h hp]; congr 1; omega⟩
/-- A torn saving. -/
theorem Stale.torn {n : Nat} {l : List UInt8} (h : Stale n l) {c : Hd} (e : c.seq = (n : Int) + 1) {k : Nat} (hk : k < 80) : Stale n (c.sec.take k ++ l.drop k) := by
  obtain ⟨K, hK, hm⟩ := h.mix
  have hl := h.len; have hs := sec_len c
  have lt : (c.sec.take k).length = k := by rw [List.length_take]; omega
  refine ⟨by rw [List.length_append, lt, List.length_drop]; omega, max k K, by omega, fun p hp => ?_⟩
  have hp80 : p < 80 := by rcases hp with h | h <;> omega
  by_cases hpk : p < k
  · rw [if_pos (by omega), List.getD_eq_getElem?_getD, List.getElem?_append_left (by omega), List.getElem?_take, if_pos hpk, ← List.getD_eq_getElem?_getD, sec_seq c hp]
    congr 1; omega
  · have q : (c.sec.take k ++ l.drop k).getD p 0 = l.getD p 0 := by
      rw [List.getD_eq_getElem?_getD, List.getElem?_append_right (by omega), lt, List.getElem?_drop, List.getD_eq_getElem?_getD]
      congr 2; omega
    rw [q, hm p hp]
    by_cases hK' : p < K
    · rw [if_pos hK', if_pos (by omega)]
    · rw [if_neg hK', if_neg (by omega)]
/-- The two slots: h is the newest header, the other slot is stale. -/
structure Two (S : Nat → ByteArray) (h : Hd) : Prop where
  good : h.good
  next : h.seq < 281474976710655
  here : S (h.seq.toNat % 2) = str h.sec
  other : ∃ l, S ((h.seq.toNat + 1) % 2) = str l ∧ Stale h.seq.toNat l
theorem Two.top {S : Nat → ByteArray} {h : Hd} (t : Two S h) : Top S h := by
  refine ⟨t.good, t.here, fun c hc => ?_⟩
  obtain ⟨l, e, hs⟩ := t.other
  have s1 := t.good.s1; have s2 := t.next
  obtain ⟨g, ec, h2⟩ := slot_some hc
  have := hs.low (by omega) (c := c) (by rw [← e, ec]; exact dec_sec g)
  omega
theorem Two.newest {S : Nat → ByteArray} {h : Hd} (t : Two S h) : newest S = some h := t.top.newest
end Go.Proofs.YtckbhjjflpobbaaGreat.Hk
