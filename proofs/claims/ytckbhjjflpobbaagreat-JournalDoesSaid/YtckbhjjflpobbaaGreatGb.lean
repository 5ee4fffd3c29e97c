/-
  Records as several sectors, as plain mathematics: nothing here speaks of the program.
  How many sectors a record has: what the calls of Parts do, the program's and the specification's.
  A range over a function each of whose rounds goes on, and which, ahead of the first round, lays memory that its rounds read ('over'): round k is handed the values enc k; between two rounds I k holds.
  The pieces of a record's data, as the program yields them: what the function does that pieces returns.
  The frames of a record: what the program's function frames returns.
-/
import Derived.Test.YtckbhjjflpobbaaGreatFb
import Derived.RangeFuncNested
import Derived.RangeFuncBound
import Derived.RangeFuncCalls
import Derived.RangeFuncLeaves
import Derived.RangeFuncBox
import Derived.Shelf.Abstract
import Derived.Test.YtckbhjjflpobbaaGreatBa
import Derived.WalkKit
import Derived.OwnWalkIn
import Derived.TacticsInMore
import Derived.LoopNIn
import Derived.LoopIn
import Derived.Maps.AppendAt
import Derived.Shelf.RegionOpen
namespace Go.Proofs.YtckbhjjflpobbaaGreat.Rc
open Go Go.Proofs.YtckbhjjflpobbaaGreat.Pk Go.Proofs.YtckbhjjflpobbaaGreat.Fk

/-- How many sectors n bytes have. -/
def parts (n : Nat) : Nat := max 1 ((n + 43) / 44)
theorem parts_pos (n : Nat) : 1 ≤ parts n := by unfold parts; omega
theorem parts_le {n : Nat} (h : n ≤ 4096) : parts n ≤ 94 := by unfold parts; omega
/-- Piece i of the data. -/
def piece (d : ByteArray) (i : Nat) : ByteArray := d.extract (44 * i) (min (44 * i + 44) d.size)
theorem piece_size (d : ByteArray) (i : Nat) : (piece d i).size = min (44 * i + 44) d.size - 44 * i := by
  unfold piece; rw [ByteArray.size_extract]; omega
theorem piece_short (d : ByteArray) (i : Nat) : (piece d i).size ≤ 44 := by
  unfold piece; rw [ByteArray.size_extract]; omega
theorem piece_full {d : ByteArray} {i : Nat} (h : i + 1 < parts d.size) : (piece d i).size = 44 := by
  rw [piece_size]; unfold parts at h; omega
theorem piece_list (d : ByteArray) (i : Nat) : (piece d i).data.toList = (d.data.toList.drop (44 * i)).take 44 := by
  unfold piece
  rw [Lib.extract_data]
  by_cases h : 44 * i + 44 ≤ d.size
  · rw [Nat.min_eq_left h, show 44 * i + 44 - 44 * i = 44 by omega]
  · rw [Nat.min_eq_right (by omega), List.take_of_length_le (by rw [List.length_drop, size_list]; omega), List.take_of_length_le (by rw [List.length_drop, size_list]; omega)]
/-- The first k pieces. -/
theorem take_piece (d : ByteArray) (k : Nat) : d.data.toList.take (44 * (k + 1)) = d.data.toList.take (44 * k) ++ (piece d k).data.toList := by
  rw [piece_list, show 44 * (k + 1) = 44 * k + 44 by omega, List.take_add]
theorem take_parts {d : ByteArray} : d.data.toList.take (44 * parts d.size) = d.data.toList :=
  List.take_of_length_le (by rw [size_list]; unfold parts; omega)

/-- The frame of piece i. -/
def fr (b l : Int) (k : Nat) (d : ByteArray) (i : Nat) : Fr := ⟨b, l, i, parts d.size, k, piece d i⟩
def sec (b l : Int) (k : Nat) (d : ByteArray) (i : Nat) : ByteArray := (fr b l k d i).enc
structure num (b l : Int) : Prop where
  b1 : 1 ≤ b
  b2 : b ≤ 4294967295
  l1 : 1 ≤ l
  l2 : l ≤ 281474976710655
theorem fr_good {b l : Int} {k : Nat} {d : ByteArray} {i : Nat} (h : num b l) (hd : d.size ≤ 4096) (hi : i < parts d.size) : (fr b l k d i).good :=
  have hp := parts_le hd
  have hq := parts_pos d.size
  ⟨piece_short d i, h.b1, h.b2, h.l1, h.l2, by show (1 : Int) ≤ (parts d.size : Int); omega, by show (parts d.size : Int) ≤ 255; omega, by show (0 : Int) ≤ (i : Int); omega, by show (i : Int) < (parts d.size : Int); omega⟩
theorem sec_size {b l : Int} {k : Nat} {d : ByteArray} {i : Nat} (h : num b l) (hd : d.size ≤ 4096) (hi : i < parts d.size) : (sec b l k d i).size = 80 := by
  have g := fr_good (k := k) h hd hi
  unfold sec; rw [Fr.enc_good g, size_str, sec_len g.short]
theorem sec_dec {b l : Int} {k : Nat} {d : ByteArray} {i : Nat} (h : num b l) (hk : k < 256) (hd : d.size ≤ 4096) (hi : i < parts d.size) : dec (sec b l k d i) = some (fr b l k d i) := dec_enc (fr_good h hd hi) hk
theorem sec_decF {b l : Int} {k : Nat} {d : ByteArray} {i : Nat} (h : num b l) (hk : k < 256) (hd : d.size ≤ 4096) (hi : i < parts d.size) : decF (sec b l k d i) = fr b l k d i ∧ decE (sec b l k d i) = 0 := decF_enc (fr_good h hd hi) hk
/-- What Sectors says. -/
def secE (b l : Int) (d : ByteArray) : Int := if 4096 < d.size then 5 else if btw b 1 4294967295 && btw l 1 281474976710655 then 0 else 2
def secs (b l : Int) (k : Nat) (d : ByteArray) : List ByteArray := if secE b l d = 0 then (List.range (parts d.size)).map (sec b l k d) else []
theorem secE_zero (b l : Int) (d : ByteArray) : secE b l d = 0 ↔ num b l ∧ d.size ≤ 4096 := by
  unfold secE
  constructor
  · intro h
    split at h
    · exact absurd h (by decide)
    · split at h
      · rename_i h1 h2
        rw [Bool.and_eq_true, btw_iff, btw_iff] at h2
        exact ⟨⟨h2.1.1, h2.1.2, h2.2.1, h2.2.2⟩, by omega⟩
      · exact absurd h (by decide)
  · rintro ⟨h1, h2⟩
    rw [if_neg (by omega), if_pos]
    rw [Bool.and_eq_true, btw_iff, btw_iff]
    exact ⟨⟨h1.b1, h1.b2⟩, h1.l1, h1.l2⟩
theorem secs_length {b l : Int} {k : Nat} {d : ByteArray} (h : secE b l d = 0) : (secs b l k d).length = parts d.size := by unfold secs; rw [if_pos h]; simp
theorem secs_get {b l : Int} {k : Nat} {d : ByteArray} (h : secE b l d = 0) {i : Nat} (hi : i < (secs b l k d).length) : (secs b l k d)[i] = sec b l k d i := by
  have e : secs b l k d = (List.range (parts d.size)).map (sec b l k d) := by unfold secs; rw [if_pos h]
  simp [e]

/-! ### reading -/
/-- The data of n frames, one after the other. -/
def joined (S : Nat → ByteArray) (t : Nat) : Nat → List UInt8
  | 0 => []
  | n + 1 => joined S t n ++ (decF (S (t + n))).data.data.toList
/-- At t there begins the record r. -/
structure begins (S : Nat → ByteArray) (t : Nat) (r : Fr) : Prop where
  num : num r.boot r.lsn
  kind : r.kind < 256
  size : r.data.size ≤ 4096
  part : r.part = 0
  parts : r.parts = parts r.data.size
  all : ∀ i, i < Rc.parts r.data.size → S (t + i) = sec r.boot r.lsn r.kind r.data i
theorem begins.joined {S : Nat → ByteArray} {t : Nat} {r : Fr} (h : begins S t r) : ∀ n, n ≤ Rc.parts r.data.size → Rc.joined S t n = r.data.data.toList.take (44 * n)
  | 0, _ => by simp [Rc.joined]
  | n + 1, hn => by
    rw [take_piece, ← h.joined n (by omega)]
    show Rc.joined S t n ++ _ = _
    rw [h.all n (by omega), (sec_decF h.num h.kind h.size (by omega)).1]
    rfl
theorem begins.first {S : Nat → ByteArray} {t : Nat} {r : Fr} (h : begins S t r) : dec (S t) = some (fr r.boot r.lsn r.kind r.data 0) := by
  have hp := parts_pos r.data.size
  have := h.all 0 hp
  rw [Nat.add_zero] at this
  rw [this]; exact sec_dec h.num h.kind h.size hp
theorem dec_F {s : ByteArray} {c : Fr} (h : dec s = some c) : decF s = c ∧ decE s = 0 := by unfold decF decE; rw [h]; exact ⟨rfl, rfl⟩
theorem begins.unique {S : Nat → ByteArray} {t : Nat} {r q : Fr} (h : begins S t r) (g : begins S t q) : r = q := by
  have e := h.first
  rw [g.first] at e
  have e' := Option.some.inj e
  have e1 : (fr q.boot q.lsn q.kind q.data 0).boot = (fr r.boot r.lsn r.kind r.data 0).boot := congrArg Fr.boot e'
  have e2 : (fr q.boot q.lsn q.kind q.data 0).lsn = (fr r.boot r.lsn r.kind r.data 0).lsn := congrArg Fr.lsn e'
  have e3 : (fr q.boot q.lsn q.kind q.data 0).kind = (fr r.boot r.lsn r.kind r.data 0).kind := congrArg Fr.kind e'
  have e4 : (fr q.boot q.lsn q.kind q.data 0).parts = (fr r.boot r.lsn r.kind r.data 0).parts := congrArg Fr.parts e'
  change q.boot = r.boot at e1
  change q.lsn = r.lsn at e2
  change q.kind = r.kind at e3
  change (Rc.parts q.data.size : Int) = (Rc.parts r.data.size : Int) at e4
  have e5 : Rc.parts q.data.size = Rc.parts r.data.size := by omega
  have j1 := h.joined _ (Nat.le_refl _)
  have j2 := g.joined _ (Nat.le_refl _)
  rw [take_parts] at j1 j2
  rw [e5, j1] at j2
  have hd : r.data = q.data := str_inj j2
  have hp := h.parts; have hq := g.parts
  have h0 := h.part; have g0 := g.part
  cases r; cases q
  simp only at *
  subst e1 e2 e3 hd
  rw [hp, hq, h0, g0]
/-- What Read finds at t, ahead of u. -/
def rdOk (S : Nat → ByteArray) (t u : Nat) (lsn boot : Int) (r : Fr) : Prop := begins S t r ∧ r.lsn = lsn ∧ boot ≤ r.boot ∧ t + parts r.data.size ≤ u
open Classical in
noncomputable def rd (S : Nat → ByteArray) (t u : Nat) (lsn boot : Int) : Option Fr := if h : ∃ r, rdOk S t u lsn boot r then some h.choose else none
theorem rd_some {S : Nat → ByteArray} {t u : Nat} {lsn boot : Int} {r : Fr} (h : rdOk S t u lsn boot r) : rd S t u lsn boot = some r := by
  have hx : ∃ r, rdOk S t u lsn boot r := ⟨r, h⟩
  unfold rd
  rw [dif_pos hx]
  exact congrArg some (hx.choose_spec.1.unique h.1)
theorem rd_none {S : Nat → ByteArray} {t u : Nat} {lsn boot : Int} (h : ∀ r, ¬ rdOk S t u lsn boot r) : rd S t u lsn boot = none := by
  unfold rd; rw [dif_neg fun ⟨r, hr⟩ => h r hr]
theorem rd_or (S : Nat → ByteArray) (t u : Nat) (lsn boot : Int) : (∃ r, rd S t u lsn boot = some r ∧ rdOk S t u lsn boot r) ∨ (rd S t u lsn boot = none ∧ ∀ r, ¬ rdOk S t u lsn boot r) := by
  by_cases h : ∃ r, rdOk S t u lsn boot r
  · obtain ⟨r, hr⟩ := h
    exact .inl ⟨r, rd_some hr, hr⟩
  · exact .inr ⟨rd_none fun r hr => h ⟨r, hr⟩, fun r hr => h ⟨r, hr⟩⟩
noncomputable def rdF (S : Nat → ByteArray) (t u : Nat) (lsn boot : Int) : Fr := (rd S t u lsn boot).getD Fr.nil
noncomputable def rdE (S : Nat → ByteArray) (t u : Nat) (lsn boot : Int) : Int := if (rd S t u lsn boot).isSome = true then 0 else 12
theorem rdF_ok {S : Nat → ByteArray} {t u : Nat} {lsn boot : Int} {r : Fr} (h : rdOk S t u lsn boot r) : rdF S t u lsn boot = r ∧ rdE S t u lsn boot = 0 := by unfold rdF rdE; rw [rd_some h]; exact ⟨rfl, rfl⟩
theorem rdF_bad {S : Nat → ByteArray} {t u : Nat} {lsn boot : Int} (h : ∀ r, ¬ rdOk S t u lsn boot r) : rdF S t u lsn boot = Fr.nil ∧ rdE S t u lsn boot = 12 := by unfold rdF rdE; rw [rd_none h]; exact ⟨rfl, rfl⟩
/-- The first frame leads to no record. -/
theorem rd_head {S : Nat → ByteArray} {t u : Nat} {lsn boot : Int} (h : t = u ∨ decE (S t) ≠ 0 ∨ (decF (S t)).lsn ≠ lsn ∨ (decF (S t)).boot < boot ∨ (decF (S t)).part ≠ 0 ∨ (u : Int) - t < (decF (S t)).parts) (r : Fr) : ¬ rdOk S t u lsn boot r := by
  rintro ⟨hb, h1, h2, h3⟩
  have hp := parts_pos r.data.size
  obtain ⟨e1, e2⟩ := dec_F hb.first
  rw [e1, e2] at h
  have hl : (fr r.boot r.lsn r.kind r.data 0).lsn = r.lsn := rfl
  have hbt : (fr r.boot r.lsn r.kind r.data 0).boot = r.boot := rfl
  have hpt : (fr r.boot r.lsn r.kind r.data 0).part = 0 := rfl
  have hps : (fr r.boot r.lsn r.kind r.data 0).parts = (parts r.data.size : Int) := rfl
  rw [hl, hbt, hpt, hps] at h
  rcases h with h | h | h | h | h | h
  · omega
  · exact h rfl
  · exact h h1
  · omega
  · exact h rfl
  · omega
/-- The candidate: the first frame with all data. -/
def cand (S : Nat → ByteArray) (t : Nat) : Fr := ⟨(decF (S t)).boot, (decF (S t)).lsn, 0, (decF (S t)).parts, (decF (S t)).kind, str (joined S t (decF (S t)).parts.toNat)⟩
theorem cand_is {S : Nat → ByteArray} {t : Nat} {r : Fr} (h : begins S t r) : cand S t = r := by
  have e1 := (dec_F h.first).1
  unfold cand
  rw [e1]
  have hps : (fr r.boot r.lsn r.kind r.data 0).parts = (parts r.data.size : Int) := rfl
  rw [hps, Int.toNat_natCast, h.joined _ (Nat.le_refl _), take_parts, str_list]
  have hp := h.parts; have h0 := h.part
  cases r
  simp only at *
  rw [hp, h0]; rfl
/-- The rest decides. -/
theorem rd_cand {S : Nat → ByteArray} {t u : Nat} {lsn boot : Int} (h0 : decE (S t) = 0) (h1 : (decF (S t)).lsn = lsn) (h2 : boot ≤ (decF (S t)).boot) (h4 : (decF (S t)).parts ≤ (u : Int) - t)
    (hs : (cand S t).data.size ≤ 4096) (hp : (decF (S t)).parts = parts (cand S t).data.size) (ha : ∀ i, i < parts (cand S t).data.size → S (t + i) = sec (decF (S t)).boot lsn (decF (S t)).kind (cand S t).data i) : rdOk S t u lsn boot (cand S t) := by
  have hd : dec (S t) = some (decF (S t)) := by
    rcases decE_or (S t) with ⟨_, h⟩ | ⟨h, _⟩
    · exact h
    · rw [h0] at h; cases h
  obtain ⟨g, hk, _⟩ := dec_some hd
  refine ⟨⟨⟨g.b1, g.b2, g.l1, g.l2⟩, hk, hs, rfl, hp, ?_⟩, h1, h2, ?_⟩
  · intro i hi
    rw [ha i hi, ← h1]; rfl
  · have : (parts (cand S t).data.size : Int) ≤ (u : Int) - t := by rw [← hp]; exact h4
    omega
theorem rd_not {S : Nat → ByteArray} {t u : Nat} {lsn boot : Int} (h : 4096 < (cand S t).data.size ∨ (decF (S t)).parts ≠ parts (cand S t).data.size ∨ ∃ i, i < parts (cand S t).data.size ∧ S (t + i) ≠ sec (decF (S t)).boot lsn (decF (S t)).kind (cand S t).data i) (r : Fr) : ¬ rdOk S t u lsn boot r := by
  rintro ⟨hb, h1, _, _⟩
  have e := cand_is hb
  have e1 := (dec_F hb.first).1
  rw [e, e1] at h
  rcases h with h | h | ⟨i, hi, h⟩
  · have := hb.size; omega
  · exact h rfl
  · refine h ?_
    rw [hb.all i hi, ← h1]; rfl
/-- Only the sectors from t to u matter. -/
theorem rdOk_congr {S T : Nat → ByteArray} {t u : Nat} {lsn boot : Int} {r : Fr} (h : ∀ i, t ≤ i → i < u → S i = T i) (hr : rdOk S t u lsn boot r) : rdOk T t u lsn boot r := by
  obtain ⟨hb, h1, h2, h3⟩ := hr
  exact ⟨⟨hb.num, hb.kind, hb.size, hb.part, hb.parts, fun i hi => by rw [← h _ (by omega) (by omega)]; exact hb.all i hi⟩, h1, h2, h3⟩
theorem rd_congr {S T : Nat → ByteArray} {t u : Nat} {lsn boot : Int} (h : ∀ i, t ≤ i → i < u → S i = T i) : rd S t u lsn boot = rd T t u lsn boot := by
  rcases rd_or S t u lsn boot with ⟨r, h1, h2⟩ | ⟨h1, h2⟩
  · rw [h1, rd_some (rdOk_congr h h2)]
  · rw [h1, rd_none fun r hr => h2 r (rdOk_congr (fun i a b => (h i a b).symm) hr)]
/-- What was written is read. -/
theorem rd_written {S : Nat → ByteArray} {t u : Nat} {b l boot : Int} {k : Nat} {d : ByteArray} (hn : num b l) (hk : k < 256) (hd : d.size ≤ 4096) (ha : ∀ i, i < parts d.size → S (t + i) = sec b l k d i) (hb : boot ≤ b) (hu : t + parts d.size ≤ u) :
    rdOk S t u l boot ⟨b, l, 0, parts d.size, k, d⟩ := ⟨⟨hn, hk, hd, rfl, rfl, ha⟩, rfl, hb, hu⟩
/-- Nothing else is read there. -/
theorem rd_other {S : Nat → ByteArray} {t u : Nat} {b l lsn boot : Int} {k : Nat} {d : ByteArray} (hn : num b l) (hk : k < 256) (hd : d.size ≤ 4096) (ha : S t = sec b l k d 0) (h : lsn ≠ l ∨ b < boot ∨ u < t + parts d.size) (r : Fr) : ¬ rdOk S t u lsn boot r := by
  have hp := parts_pos d.size
  obtain ⟨e1, e2⟩ := sec_decF hn hk hd hp
  rw [← ha] at e1 e2
  refine rd_head ?_ r
  rw [e1]
  have hl : (fr b l k d 0).lsn = l := rfl
  have hbt : (fr b l k d 0).boot = b := rfl
  have hps : (fr b l k d 0).parts = (parts d.size : Int) := rfl
  rw [hl, hbt, hps]
  rcases h with h | h | h
  · exact .inr (.inr (.inl fun e => h e.symm))
  · exact .inr (.inr (.inr (.inl h)))
  · exact .inr (.inr (.inr (.inr (.inr (by omega)))))
/-- A sector that is that of no frame, or of a later part. -/
theorem rd_blank {S : Nat → ByteArray} {t u : Nat} {lsn boot : Int} {r : Fr} (h : rdOk S t u lsn boot r) {i : Nat} (hi : i < parts r.data.size) : dec (S (t + i)) = some (fr r.boot lsn r.kind r.data i) := by
  obtain ⟨hb, h1, _⟩ := h
  rw [hb.all i hi, ← h1]; exact sec_dec hb.num hb.kind hb.size hi
/-! ### torn -/
/-- A sector that holds nothing of the record b, l: that of no frame, or of one with a lesser boot or another number. -/
def older (b l : Int) (s : ByteArray) : Prop := ∀ f, dec s = some f → f.boot < b ∨ f.lsn ≠ l
theorem torn_rec {S : Nat → ByteArray} {t u : Nat} {b l : Int} {k : Nat} {d : ByteArray} (hn : num b l) (hk : k < 256) (hd : d.size ≤ 4096)
    (hS : ∀ i, t ≤ i → i < u → (t ≤ i ∧ i < t + parts d.size ∧ S i = sec b l k d (i - t)) ∨ older b l (S i)) {r : Fr} (h : rdOk S t u l b r) : r = ⟨b, l, 0, parts d.size, k, d⟩ := by
  have hp := parts_pos r.data.size
  have key : ∀ i, i < parts r.data.size → i < parts d.size ∧ S (t + i) = sec b l k d i := by
    intro i hi
    have hu := h.2.2.2
    rcases hS (t + i) (by omega) (by omega) with ⟨_, h2, h3⟩ | ho
    · exact ⟨by omega, by rw [h3]; congr 1; omega⟩
    · exfalso
      rcases ho _ (rd_blank h hi) with h1 | h1
      · have := h.2.2.1
        have e : (fr r.boot l r.kind r.data i).boot = r.boot := rfl
        omega
      · exact h1 rfl
  have f0 := rd_blank h hp
  obtain ⟨_, k0⟩ := key 0 hp
  rw [k0, sec_dec hn hk hd (parts_pos _)] at f0
  have e' := Option.some.inj f0
  have e4 : (parts d.size : Int) = (parts r.data.size : Int) := congrArg Fr.parts e'
  refine begins.unique h.1 ⟨hn, hk, hd, rfl, rfl, fun i hi => (key i (by show i < _; have : i < parts d.size := hi; omega)).2⟩
theorem older_none {b l : Int} {s : ByteArray} (h : dec s = none) : older b l s := fun f hf => by rw [h] at hf; cases hf
theorem older_zero {b l : Int} : older b l (str (List.replicate 80 0)) := older_none zeros_none
theorem older_sec {b l ob ol : Int} {k : Nat} {d : ByteArray} {i : Nat} (hn : num ob ol) (hk : k < 256) (hd : d.size ≤ 4096) (hi : i < parts d.size) (h : ob < b ∨ ol ≠ l) : older b l (sec ob ol k d i) := fun f hf => by
  rw [sec_dec hn hk hd hi] at hf
  obtain rfl := Option.some.inj hf
  exact h
end Go.Proofs.YtckbhjjflpobbaaGreat.Rc

namespace Go.Proofs.YtckbhjjflpobbaaGreat.Rc
open Go.RowKit Go.Proofs.YtckbhjjflpobbaaGreat.Mem Go.Proofs.YtckbhjjflpobbaaGreat.Pk Go.Proofs.YtckbhjjflpobbaaGreat.Fk

def pF (n : Int) : Int := if n < 0 then 0 else if 4096 < n then 0 else (parts n.toNat : Int)
def pE (n : Int) : Int := if n < 0 then 3 else if 4096 < n then 5 else 0
theorem pF_nat {n : Nat} (h : n ≤ 4096) : pF (n : Int) = parts n ∧ pE (n : Int) = 0 := by unfold pF pE; rw [if_neg (by omega), if_neg (by omega), if_neg (by omega), if_neg (by omega)]; exact ⟨by simp, rfl⟩
theorem pF_big {n : Nat} (h : 4096 < n) : pF (n : Int) = 0 ∧ pE (n : Int) = 5 := by unfold pF pE; rw [if_neg (by omega), if_pos (by omega), if_neg (by omega), if_pos (by omega)]; exact ⟨rfl, rfl⟩
theorem pF_neg {n : Int} (h : n < 0) : pF n = 0 ∧ pE n = 3 := by unfold pF pE; rw [if_pos h, if_pos h]; exact ⟨rfl, rfl⟩
theorem parts_int (n : Nat) : max 1 (((n : Int) + 43) / 44) = (parts n : Int) := by unfold parts; omega
theorem parts_c (n : Int) (hn : -9223372036854775808 ≤ n ∧ n ≤ 9223372036854775807) (w : World) : Calls Tryz.prog 54 #[.int .i64 n] w fun e w' => e = .returned (.tuple #[.int .i64 (pF n), .int .i64 (pE n)]) ∧ w = w' := by
  by_cases h1 : n < 0
  · obtain ⟨e1, e2⟩ := pF_neg h1
    rw [e1, e2]
    go_enter Tryz.func54, Tryz.ntmps54
    go_wp2
    go_ret2
    exact ⟨rfl, rfl⟩
  · obtain ⟨n, rfl⟩ := Int.eq_ofNat_of_zero_le (Int.not_lt.1 h1)
    by_cases h2 : 4096 < n
    · obtain ⟨e1, e2⟩ := pF_big h2
      rw [e1, e2]
      go_enter Tryz.func54, Tryz.ntmps54
      go_wp2
      go_ret2
      exact ⟨rfl, rfl⟩
    · obtain ⟨e1, e2⟩ := pF_nat (Nat.not_lt.1 h2)
      rw [e1, e2]
      have e3 := parts_int n
      have h2 : n ≤ 4096 := Nat.not_lt.1 h2
      go_enter Tryz.func54, Tryz.ntmps54
      go_wp2
      go_ret2
      exact ⟨by rw [← e3]; simp; omega, rfl⟩
theorem rparts_c (n : Int) (hn : -9223372036854775808 ≤ n ∧ n ≤ 9223372036854775807) (w : World) : Calls Tryz.prog 60 #[.int .i64 n] w fun e w' => e = .returned (.tuple #[.int .i64 (pF n), .int .i64 (pE n)]) ∧ w = w' := by
  by_cases h1 : n < 0
  · obtain ⟨e1, e2⟩ := pF_neg h1
    rw [e1, e2]
    go_enter Tryz.func60, Tryz.ntmps60
    go_wp2
    go_ret2
    exact ⟨rfl, rfl⟩
  · obtain ⟨n, rfl⟩ := Int.eq_ofNat_of_zero_le (Int.not_lt.1 h1)
    by_cases h2 : 4096 < n
    · obtain ⟨e1, e2⟩ := pF_big h2
      rw [e1, e2]
      go_enter Tryz.func60, Tryz.ntmps60
      go_wp2
      go_ret2
      exact ⟨rfl, rfl⟩
    · obtain ⟨e1, e2⟩ := pF_nat (Nat.not_lt.1 h2)
      rw [e1, e2]
      have e3 := parts_int n
      have h2 : n ≤ 4096 := Nat.not_lt.1 h2
      go_enter Tryz.func60, Tryz.ntmps60
      go_wp2
      go_ret2
      exact ⟨by rw [← e3]; simp; omega, rfl⟩
end Go.Proofs.YtckbhjjflpobbaaGreat.Rc

namespace Go.Proofs.YtckbhjjflpobbaaGreat.Rc
open Go Go.RowKit Go.Shelf Go.Proofs.YtckbhjjflpobbaaGreat.Mem

/-- The body's walk goes off its end. -/
def goesOn (R : World → Prop) : Exit → Act → World → Prop
  | .normal, _, W => R W
  | .ret, _, _ => False
  | .exit _, _, _ => False
  | .goto _, _, _ => False
  | .panic _, _, _ => False
  | .outgrown, _, _ => False
/-- Two blocks are as they were. -/
structure Two (D : Nat) (W W' : World) : Prop where
  d : W'.heap[D]? = W.heap[D]?
  l : W'.heap[D + 1]? = W.heap[D + 1]?
theorem Two.refl (D : Nat) (W : World) : Two D W W := ⟨rfl, rfl⟩
variable {F : Fence} {n : Nat} {P : Program}
theorem over {g : Operand} {ps : Array Tmp} {assign body : Code} {Q : Exit → Act → World → Prop} {a : Act} {w : World} (hro : F.round = none) (h1 : 1 ≤ n)
    {gf : Nat} {lb : Array Value} (hg : a.eval g = .func (.func gf) #[] lb) (hF : F.fn gf) (eg : Enters P gf)
    (N : Nat) (enc : Nat → Array Value) (hps : ∀ k, (enc k).size = ps.size) (S : World → Prop)
    (hit : ∀ W1, Kept w W1 → W1.heap.size = w.heap.size + 2 → ∀ (l : Nat) (J : Nat → World → Prop), (∀ Wb, Kept W1 Wb → S Wb → J 0 Wb) →
      (∀ k W, k < N → J k W → YieldAt F (n - 1 - 1) P l (enc k) W fun e W' => e = .returned (.bool true) ∧ J (k + 1) W') →
      CallsIn F (n - 1) P gf (#[.func (.yield l) #[] #[]] ++ lb) W1 fun e W' => (∃ v, e = .returned v) ∧ J N W')
    (I : Nat → World → Prop) (h0 : ∀ Wb, Kept w Wb → w.heap.size + 2 ≤ Wb.heap.size → S Wb → I 0 Wb) (hput : ∀ k W o, I k W → I k (W.putObj (w.heap.size + 1) o))
    (a₁ : Nat → Act)
    (hassign : ∀ (l k : Nat) (W : World) (K : Act → World → Prop), K (a₁ k) W →
      assign.wpIn (F.inRound l) (n - 1 - 1) P (Exit.then K (fun _ _ _ => False)) { tmps := (ps.zip (enc k)).foldl (fun t (p, v) => t.setIfInBounds p v) a.tmps, defers := [] } W)
    (hbody : ∀ (l k : Nat) (W : World), k < N → I k W → w.heap.size + 1 < W.heap.size → body.wpIn (F.inRound l) (n - 1 - 1) P (goesOn fun W' => Two w.heap.size W W' ∧ I (k + 1) W') (a₁ k) W)
    (hdone : ∀ W, I N W → W.heap[w.heap.size]? = some (.deferred (some [])) → Q .normal { a with defers := { target := .collected w.heap.size, args := #[] } :: a.defers } W) :
    (Code.rangeFunc g ps assign body).wpIn F n P Q a w := by
  refine wpIn_rangeFunc fun fn hfn => ?_
  rw [hro]
  obtain ⟨D, hD⟩ : ∃ D, D = w.heap.size := ⟨_, rfl⟩
  obtain ⟨rc, hrc⟩ : ∃ rc : LoopState → Loop, rc = fun st => { state := st, pending := none, fn, tmps := a.tmps, params := ps, assign, body, defers := D } := ⟨_, rfl⟩
  obtain ⟨W1, hW1⟩ : ∃ W1, W1 = (w.alloc (.deferred (some []))).alloc (.loop (rc .ready)) := ⟨_, rfl⟩
  have s1 : W1.heap.size = D + 2 := by rw [hW1, hD]; simp
  have kept1 : Kept w W1 := by rw [hW1]; exact ((Kept.refl w).alloc _).alloc _
  have l1 : W1.heap[D + 1]? = some (.loop (rc .ready)) := by
    rw [hW1, hD]
    have := World.alloc_heap_new (w.alloc (.deferred (some []))) (.loop (rc .ready))
    rwa [World.size_alloc] at this
  have d1 : W1.heap[D]? = some (.deferred (some [])) := by
    rw [hW1, hD, Below.heap_alloc _ _ _ (by simp)]
    exact World.alloc_heap_new w _
  refine ⟨D + 1, [{ target := .collected D, args := #[] }], W1, { target := .fn (.func gf) lb, args := #[.func (.yield (D + 1)) #[] #[]] }, W1, gf, #[.func (.yield (D + 1)) #[] #[]] ++ lb, W1, ?_, ?_, ?_, ?_, fun _ => h1, ?_⟩
  · rw [hW1, hrc, hD]; exact run_enterLoop_outer _ _ _ _ _
  · simp only [resolve, hg]
    simp [go_sem]
  · intro f' hf'
    simp [Target.leads] at hf'
    rw [← hf']; exact hF
  · simp [invoke, go_sem, eg _ _]
  · refine (hit W1 kept1 (by rw [s1, hD]) (D + 1) (fun k W => I k W ∧ W.heap[D + 1]? = some (.loop (rc .ready)) ∧ W.heap[D]? = some (.deferred (some [])))
      (fun Wb hk hs => ⟨h0 Wb (kept1.trans hk) (by have := hk.size; omega) hs, hk.block l1, hk.block d1⟩) ?_).mono ?_
    · rintro k W hk ⟨hi, hl, hd⟩
      have hlt : D + 1 < W.heap.size := lt_of_block hl
      have hy := run_yield (P := P) (args := enc k) hl (by rw [hrc]; exact hps k)
      rw [hrc] at hy
      refine ⟨fn, _, assign, body, hy, roundIn_of_wpIn hfn (hassign _ k W _ ⟨_, run_beginRound hl (by rw [hrc]), ?_⟩)⟩
      obtain ⟨W2, hW2⟩ : ∃ W2, W2 = W.putObj (D + 1) (.loop { rc .ready with state := .busy }) := ⟨_, rfl⟩
      rw [← hW2]
      have l2 : W2.heap[D + 1]? = some (.loop { rc .ready with state := .busy }) := by rw [hW2]; exact World.putObj_heap_same hlt
      have d2 : W2.heap[D]? = some (.deferred (some [])) := by rw [hW2, World.putObj_heap_other (by omega)]; exact hd
      have i2 : I k W2 := by rw [hW2, hD]; exact hput k W _ hi
      refine wpIn_mono (hbody _ k W2 hk i2 (by rw [hW2, ← hD]; simpa using hlt)) ?_
      intro e a3 W3 hp
      cases e with
      | normal =>
        obtain ⟨ht, i3⟩ := hp
        rw [← hD] at ht
        have l3 := ht.l.trans l2
        have d3 := ht.d.trans d2
        refine ⟨_, _, run_endRound (P := P) none l3, rfl, ?_, ?_, ?_⟩
        · rw [hD]; exact hput _ _ _ i3
        · rw [World.putObj_heap_same (lt_of_block l3), hrc]; rfl
        · rw [World.putObj_heap_other (by omega)]; exact d3
      | ret => exact hp.elim
      | exit id => exact hp.elim
      | goto t => exact hp.elim
      | panic ch => exact hp.elim
      | outgrown => exact hp.elim
    · rintro e W2 ⟨⟨v, rfl⟩, hi, hl, hd⟩
      refine ⟨none, W2.putObj (D + 1) (.loop { rc .ready with state := .exhausted }), ?_, ?_⟩
      · have := run_endLoop (P := P) hl (by rw [hrc]; simp)
        rw [hrc] at this ⊢
        exact this
      · rw [hD]
        exact hdone _ (hput _ _ _ hi) (by rw [World.putObj_heap_other (by omega), ← hD]; exact hd)
end Go.Proofs.YtckbhjjflpobbaaGreat.Rc

namespace Go.Proofs.YtckbhjjflpobbaaGreat.Rc
open Go Go.RowKit Go.Shelf Go.Proofs.YtckbhjjflpobbaaGreat.Mem Go.Proofs.YtckbhjjflpobbaaGreat.Pk Go.Proofs.YtckbhjjflpobbaaGreat.Fk
attribute [local go_sem] Oper.semAt_some

theorem rowOf (s : ByteArray) (w : World) : ∃ cap w1, (convert 9 130 (.string s)).run Tryz.prog w = .ok (.slice (some ⟨w.heap.size, 0, none⟩) s.size cap) w1 ∧ Row w w.heap.size s.data.toList w1 ∧ s.size ≤ cap := by
  have e := run_bytes_of_string (P := Tryz.prog) w 9 130 5 s Tryz.underlying9 Tryz.underlying130 Tryz.underlying5
  refine ⟨_, _, e, ?_, ?_⟩
  · generalize grownCap w s.size 0 5 = cap
    refine ⟨(Below.drew (Below.refl _ _)).alloc (Nat.le_refl _) _, by simp, fun j hj => ?_, fun j hj => ?_⟩
    · have hj' : j < s.size := by simpa using hj
      have h := World.cell?_alloc_mark w.drew (bytesRow s cap) 5 ((bytesRow s cap).size, (bytesRow s cap).size + 1) j
      rw [bytesRow_at s cap j hj'] at h
      exact h
    · have hj' : j < s.size := by simpa using hj
      have h := World.frozen?_alloc_mark w.drew (bytesRow s cap) 5 (bytesRow s cap).size ((bytesRow s cap).size + 1) j
      have hsz : s.size ≤ (bytesRow s cap).size := by simp [bytesRow]
      refine h.trans ?_
      have : decide ((bytesRow s cap).size ≤ j) = false := by simp; omega
      rw [this]; rfl
  · exact grownCap_ge _ _ _ _
/-- What round k is handed. -/
def enc (B : Nat) (s : ByteArray) (k : Nat) : Array Value := #[.int .i64 (k : Int), .slice (some ⟨B, 44 * k, none⟩) (min (s.size - 44 * k) 44) (min (s.size - 44 * k) 44)]
set_option maxRecDepth 100000 in
set_option maxHeartbeats 2000000 in
theorem pieces1_c (F : Fence) (n : Nat) (hF : F.fn 110) (hro : F.round = none) (hn : 1 ≤ n) (l Bx : Nat) (s : ByteArray) (hs : s.size ≤ 1000000) (W : World) (hb : W.cell? ⟨Bx, 0, none⟩ = some (.string s)) (J : Nat → World → Prop)
    (h0 : ∀ Wb, Kept W Wb → Row W W.heap.size s.data.toList Wb → J 0 Wb)
    (hY : ∀ k W1, k < parts s.size → J k W1 → YieldAt F (n - 1) Tryz.prog l (enc W.heap.size s k) W1 fun e W' => e = .returned (.bool true) ∧ J (k + 1) W') :
    CallsIn F n Tryz.prog 110 #[.func (.yield l) #[] #[], .pointer (some ⟨Bx, 0, none⟩)] W fun e W' => (∃ v, e = .returned v) ∧ J (parts s.size) W' := by
  obtain ⟨cap, w1, hcv, hrow, hcap⟩ := rowOf s W
  have H0 := h0 w1 hrow.bel hrow
  have HY := Lib.hid hY
  clear hY h0 hrow
  refine callsIn_of_wp Tryz.func110 rfl hF ?_ hro
  simp only [Tryz.ntmps110, List.size_toArray, List.length_cons, List.length_nil, Nat.reduceAdd, Nat.reduceSub, Array.replicate_succ, Array.replicate_zero, List.push_toArray, List.append_toArray, List.nil_append, List.cons_append]
  gi_wp2
  gi_loopw [3, 4] (fun r p wr => ∃ k : Nat, k < parts s.size ∧ p = .int .i64 (k : Int) ∧ r = .slice (some ⟨W.heap.size, 44 * k, none⟩) (s.size - 44 * k) (cap - 44 * k) ∧ J k wr) (fun _ p _ => parts s.size - (intOf p).toNat)
  case atStart => exact ⟨0, parts_pos _, rfl, by simp, H0⟩
  case round =>
    obtain ⟨k, hk, rfl, rfl, hJ⟩ := hrel
    obtain ⟨fn, tmps, assign, body, hy, hR⟩ := HY.out k wr hk hJ
    dsimp only [enc] at hy
    obtain ⟨R, hRs⟩ : ∃ R, s.size - 44 * k = R := ⟨_, rfl⟩
    obtain ⟨C, hCs⟩ : ∃ C, cap - 44 * k = C := ⟨_, rfl⟩
    have hRC : R ≤ C := by omega
    have hR0 : R ≤ 1000000 := by omega
    rw [hRs] at hy
    rw [hRs, hCs]
    by_cases hl : k + 1 < parts s.size
    · have h44 : 44 < R := by unfold parts at hl; omega
      have hM : (min (R : Int) 44) = 44 := by omega
      rw [show min R 44 = 44 by omega] at hy
      have Hk := Lib.hid (And.intro hk (And.intro hl (And.intro hRs hCs)))
      clear hk hl hRs hCs hcap
      gi_wp2
      refine hR.mono ?_
      rintro e W3 ⟨rfl, hJ3⟩
      gi_wp2
      obtain ⟨hk, hl, hRs, hCs⟩ := Hk.out
      have hp : parts s.size ≤ 100000 := by unfold parts; omega
      have hw : wrap64 ((k : Int) + 1) = ((k + 1 : Nat) : Int) := by unfold wrap64; omega
      rw [hw]
      refine ⟨⟨k + 1, hl, rfl, ?_, hJ3⟩, ?_⟩
      · rw [show s.size - 44 * (k + 1) = R - 44 by omega, show cap - 44 * (k + 1) = C - 44 by omega, show 44 * (k + 1) = 44 * k + 44 by omega]
      · simp [intOf]; omega
    · have h44 : R ≤ 44 := by unfold parts at hl; omega
      have hM : (min (R : Int) 44) = R := by omega
      rw [show min R 44 = R by omega] at hy
      have Hk := Lib.hid (And.intro hk (And.intro hl (And.intro hRs hCs)))
      clear hk hl hRs hCs hcap
      gi_wp2
      refine hR.mono ?_
      rintro e W3 ⟨rfl, hJ3⟩
      gi_wp2
      all_goals
        obtain ⟨hk, hl, hRs, hCs⟩ := Hk.out
        refine bodyPost_ret (results_none rfl _ _ _) rfl ?_
        rw [show k + 1 = parts s.size by omega] at hJ3
        exact ⟨⟨_, rfl⟩, hJ3⟩
set_option maxHeartbeats 1000000 in
theorem pieces_c (F : Fence) (n : Nat) (hF : F.fn 97) (hro : F.round = none) (s : ByteArray) (w : World) :
    CallsIn F n Tryz.prog 97 #[.string s] w fun e w' => e = .returned (.func (.func 110) #[] #[.pointer (some ⟨w.heap.size, 0, none⟩)]) ∧ w' = w.alloc (.cells #[.string s] 9) := by
  refine callsIn_of_wp Tryz.func97 rfl hF ?_ hro
  simp only [Tryz.ntmps97, List.size_toArray, List.length_cons, List.length_nil, Nat.reduceAdd, Nat.reduceSub, Array.replicate_succ, Array.replicate_zero, List.push_toArray, List.append_toArray, List.nil_append, List.cons_append]
  gi_wp2
  go_ret
  exact ⟨rfl, rfl⟩
end Go.Proofs.YtckbhjjflpobbaaGreat.Rc

namespace Go.Proofs.YtckbhjjflpobbaaGreat.Rc
open Go Go.RowKit Go.Shelf Go.ChangeShapes Go.WideShapes Go.ChangeAt Go.Proofs.YtckbhjjflpobbaaGreat.Mem Go.Proofs.YtckbhjjflpobbaaGreat.Pk Go.Proofs.YtckbhjjflpobbaaGreat.Fk
attribute [local go_sem] Oper.semAt_some

/-- Frame i of the record r, as the program makes it: Parts is 0 if the data are too long. -/
def frP (r : Fr) (i : Nat) : Fr := ⟨r.boot, r.lsn, i, pF r.data.size, r.kind, piece r.data i⟩
def fcs (f : Fr) : List Value := [.int .i64 f.boot, .int .i64 f.lsn, .int .i64 f.part, .int .i64 f.parts, .int .u8 (f.kind : Int), .string f.data]
/-- The cells of the first k of the frames X. -/
def fcells6 (X : Nat → Fr) (k : Nat) : List Value := (List.range k).flatMap fun i => fcs (X i)
theorem fcells6_succ (X : Nat → Fr) (k : Nat) : fcells6 X (k + 1) = fcells6 X k ++ fcs (X k) := by simp [fcells6, List.range_succ]
theorem frame_info : (Tryz.prog.info? 113).map (fun i => (i.zero, i.size, i.bytes)) = some (some (.agg #[.int .i64 0, .int .i64 0, .int .i64 0, .int .i64 0, .int .u8 0, .string ByteArray.empty]), 6, 56) := by kernel_rfl
/-- The bytes of s lie in block B. -/
structure Held (B : Nat) (s : ByteArray) (W : World) : Prop where
  lt : B < W.heap.size
  cell : ∀ j (h : j < s.data.toList.length), W.cell? ⟨B, j, none⟩ = some (.int .u8 (s.data.toList[j].toNat : Int))
theorem Held.at {B : Nat} {s : ByteArray} {W V : World} (h : Held B s W) (hs : W.heap.size ≤ V.heap.size) (hb : V.heap[B]? = W.heap[B]?) : Held B s V := ⟨Nat.lt_of_lt_of_le h.lt hs, fun j hj => by rw [World.cell?_of_block hb]; exact h.cell j hj⟩
theorem Held.kept {B : Nat} {s : ByteArray} {W V : World} (h : Held B s W) (k : Kept W V) : Held B s V := h.at k.size (Below.block k B h.lt)
theorem Held.str {B : Nat} {s : ByteArray} {W : World} (h : Held B s W) (k : Nat) (hk : 44 * k ≤ s.size) (M : Nat) (hM : min (s.size - 44 * k) 44 = M) :
    (convert 130 9 (.slice (some ⟨B, 44 * k, none⟩) M M)).run Tryz.prog W = .ok (.string (piece s k)) W := by
  have hl : (piece s k).data.toList.length = M := by rw [size_list, piece_size]; omega
  have key := run_convert_bytes_back (P := Tryz.prog) W 130 9 5 ⟨B, 44 * k, none⟩ M (piece s k).data.toList Tryz.underlying130 Tryz.underlying5 Tryz.underlying9 (fun j hj => by
    have e : (⟨B, 44 * k, none⟩ : Addr).add j = ⟨B, 44 * k + j, none⟩ := by rw [add_plain]
    have hj' : 44 * k + j < s.data.toList.length := by
      rw [hl] at hj
      have := size_list s
      omega
    rw [e, h.cell _ hj']
    have e2 : (piece s k).data.toList[j] = s.data.toList[44 * k + j] := by
      have := piece_list s k
      simp only [this, List.getElem_take, List.getElem_drop]
    rw [e2])
  rw [hl] at key
  exact key
theorem cell_new_one (w : World) (v : Value) (T : TypeId) : (w.alloc (.cells #[v] T)).cell? ⟨w.heap.size, 0, none⟩ = some v := (Boxed.new w T v).cell
/-- Between two rounds. -/
structure Fi (n0 : Nat) (W0 : World) (r : Fr) (k : Nat) (W : World) : Prop where
  but : But (n0 + 1) W0 W
  held : Held (n0 + 5) r.data W
  list : ∃ v, W.heap[n0 + 1]? = some (.cells #[v] 133 (0, 0)) ∧ W.ownsRow (n0 + 6) 113 6 v k (fcells6 (frP r) k)
theorem Fi.put {n0 : Nat} {W0 : World} {r : Fr} {k : Nat} {W : World} (h : Fi n0 W0 r k W) (h3 : W0.heap.size = n0 + 3) (o : Obj) : Fi n0 W0 r k (W.putObj (n0 + 4) o) := by
  obtain ⟨v, h1, h2⟩ := h.list
  refine ⟨⟨h.but.os, h.but.tape, h.but.output, by simpa using h.but.size, fun j hj hn => ?_⟩, h.held.at (by simp) (World.putObj_heap_other (by omega)), v, ?_, ?_⟩
  · rw [World.putObj_heap_other (by omega)]; exact h.but.block j hj hn
  · rw [World.putObj_heap_other (by omega)]; exact h1
  · refine ⟨h2.1, h2.2.imp id ?_⟩
    rintro ⟨g, cap, cur, e, hb, hg, rest⟩
    exact ⟨g, cap, cur, e, hb, by rw [World.putObj_heap_other (by omega)]; exact hg, rest⟩
theorem cell_news (w : World) (cs : Array Value) (T : TypeId) : ∀ (j : Nat) (u : Value), cs.toList[j]? = some u → (w.alloc (.cells cs T)).cell? ((⟨w.heap.size, 0, none⟩ : Addr).add j) = some u := by
  intro j u hj
  rw [add_plain, cell_of_row _ _ _ _ _ _ (World.alloc_heap_new w (.cells cs T))]
  simpa using hj
theorem ownsRow_block {w w' : World} {base : Nat} {e : TypeId} {size : Nat} {v : Value} {n : Nat} {xs : List Value} (h : w.ownsRow base e size v n xs) (hg : ∀ g, base ≤ g → v.ownBlock = some g → w'.heap[g]? = w.heap[g]?) : w'.ownsRow base e size v n xs := by
  refine ⟨h.1, h.2.imp id ?_⟩
  rintro ⟨g, cap, cur, rfl, hb, hh, rest⟩
  exact ⟨g, cap, cur, rfl, hb, by rw [hg g hb rfl]; exact hh, rest⟩
theorem ownsRow_base {w : World} {base : Nat} {e : TypeId} {size : Nat} {v : Value} {n : Nat} {xs : List Value} (h : w.ownsRow base e size v n xs) {g : Nat} (hg : v.ownBlock = some g) : base ≤ g := by
  rcases h.2 with ⟨rfl, _⟩ | ⟨g', cap, cur, rfl, hb, _⟩
  · simp [Value.ownBlock] at hg
  · simp [Value.ownBlock] at hg; omega
theorem ownsRow_mono {w : World} {base base' : Nat} {e : TypeId} {size : Nat} {v : Value} {n : Nat} {xs : List Value} (h : w.ownsRow base e size v n xs) (hb : base' ≤ base) : w.ownsRow base' e size v n xs := by
  refine ⟨h.1, h.2.imp id ?_⟩
  rintro ⟨g, cap, cur, rfl, hg, rest⟩
  exact ⟨g, cap, cur, rfl, by omega, rest⟩
/-- One round's end. -/
theorem Fi.next {n0 : Nat} {W0 : World} {r : Fr} {k : Nat} {W Z w1 : World} {v v' : Value} (h : Fi n0 W0 r k W) (s0 : W0.heap.size = n0 + 3) (hlt : n0 + 4 < W.heap.size) (kZ : Kept W Z) (hv : W.heap[n0 + 1]? = some (.cells #[v] 133 (0, 0)))
    (hrow : W.ownsRow (n0 + 6) 113 6 v k (fcells6 (frP r) k)) (hown : w1.ownsRow (n0 + 6) 113 6 v' (k + 1) (fcells6 (frP r) (k + 1))) (hg : Z.grownBy w1 v.ownBlock) :
    Two (n0 + 3) W (w1.setCell ⟨n0 + 1, 0, none⟩ v') ∧ Fi n0 W0 r (k + 1) (w1.setCell ⟨n0 + 1, 0, none⟩ v') := by
  have old : ∀ j, j < W.heap.size → j < n0 + 6 → w1.heap[j]? = W.heap[j]? := fun j hj h6 => by
    rw [hg.block j (Nat.lt_of_lt_of_le hj kZ.size) (fun e => by have := ownsRow_base hrow e.symm; omega)]
    exact Below.block kZ j hj
  have other : ∀ j, j ≠ n0 + 1 → (w1.setCell ⟨n0 + 1, 0, none⟩ v').heap[j]? = w1.heap[j]? := fun j hj => heap_setCell_other _ _ _ _ hj
  have l5 := h.held.lt
  have sz : W.heap.size ≤ w1.heap.size := Nat.le_trans kZ.size hg.size
  refine ⟨⟨?_, ?_⟩, ⟨?_, ?_, ?_, ?_, ?_⟩, ?_, v', ?_, ?_⟩
  · rw [other _ (by omega)]; exact old _ (by omega) (by omega)
  · rw [other _ (by omega)]; exact old _ (by omega) (by omega)
  · exact (hg.os.trans kZ.os).trans h.but.os
  · exact (hg.tape.trans kZ.tape).trans h.but.tape
  · exact (hg.output.trans kZ.output).trans h.but.output
  · simpa using Nat.le_trans h.but.size sz
  · intro j hj hn
    have := h.but.size
    rw [other _ hn, old _ (by omega) (by omega)]; exact h.but.block j hj hn
  · exact h.held.at (by simpa using sz) (by rw [other _ (by omega)]; exact old _ (by omega) (by omega))
  · have hb : w1.heap[n0 + 1]? = some (.cells #[v] 133 (0, 0)) := (old _ (by omega) (by omega)).trans hv
    have := heap_setCell_same w1 (n0 + 1) 0 _ _ v' hb
    simpa using this
  · exact ownsRow_block hown fun g hb _ => other _ (by omega)
set_option maxRecDepth 100000 in
set_option maxHeartbeats 4000000 in
theorem frames_in (r : Fr) (hz : r.data.size ≤ 1000000) (w : World) :
    Calls Tryz.prog 78 #[.agg #[.int .i64 r.boot, .int .i64 r.lsn, .int .i64 r.part, .int .i64 r.parts, .int .u8 (r.kind : Int), .string r.data]] w fun e w' => ∃ v, e = .returned v ∧ w'.ownsRow w.heap.size 113 6 v (parts r.data.size) (fcells6 (frP r) (parts r.data.size)) ∧ Kept w w' := by
  have hparts : ∀ w, Calls Tryz.prog 54 #[.int .i64 (r.data.size : Int)] w fun e w' => e = .returned (.tuple #[.int .i64 (pF r.data.size), .int .i64 (pE r.data.size)]) ∧ w = w' := parts_c _ ⟨by omega, by omega⟩
  refine (callsIn_wide (n := 4)).1 ?_
  refine callsIn_of_wp_marks Tryz.func78 rfl trivial ?_ rfl
  simp only [Tryz.ntmps78, List.size_toArray, List.length_cons, List.length_nil, Nat.reduceAdd, Nat.reduceSub, Array.replicate_succ, Array.replicate_zero, List.push_toArray, List.append_toArray, List.nil_append, List.cons_append]
  gi_wp2_with (first
    | (refine ⟨trivial, ?_⟩; gi_at_call 54; refine (callsIn_wide.2 (hparts _)).mono ?_; rintro e w' ⟨rfl, rfl⟩)
    | (refine ⟨trivial, ?_⟩; gi_at_call 97; refine (pieces_c Fence.wide _ trivial rfl _ _).mono ?_; rintro e w' ⟨rfl, rfl⟩))
  obtain ⟨W0, hW0⟩ : ∃ W0, W0 = ((w.alloc (.cells #[.int .i64 r.boot, .int .i64 r.lsn, .int .i64 r.part, .int .i64 (pF r.data.size), .int .u8 (r.kind : Int), .string r.data] 113)).alloc (.cells #[.slice none 0 0] 133)).alloc (.cells #[.string r.data] 9) := ⟨_, rfl⟩
  rw [← hW0]
  have s0 : W0.heap.size = w.heap.size + 3 := by rw [hW0]; simp
  have kept0 : Kept w W0 := by rw [hW0]; exact (((Kept.refl w).alloc _).alloc _).alloc _
  have b0 : W0.heap[w.heap.size]? = some (.cells #[.int .i64 r.boot, .int .i64 r.lsn, .int .i64 r.part, .int .i64 (pF r.data.size), .int .u8 (r.kind : Int), .string r.data] 113 (0, 0)) := by
    rw [hW0, Below.heap_alloc _ _ _ (by simp; omega), Below.heap_alloc _ _ _ (by simp)]; exact World.alloc_heap_new w _
  have b1 : W0.heap[w.heap.size + 1]? = some (.cells #[.slice none 0 0] 133 (0, 0)) := by
    rw [hW0, Below.heap_alloc _ _ _ (by simp)]
    have := World.alloc_heap_new (w.alloc (.cells #[.int .i64 r.boot, .int .i64 r.lsn, .int .i64 r.part, .int .i64 (pF r.data.size), .int .u8 (r.kind : Int), .string r.data] 113)) (.cells #[.slice none 0 0] 133)
    rwa [World.size_alloc] at this
  have b2 : W0.cell? ⟨w.heap.size + 1 + 1, 0, none⟩ = some (.string r.data) := by
    rw [hW0]
    have := cell_new_one ((w.alloc (.cells #[.int .i64 r.boot, .int .i64 r.lsn, .int .i64 r.part, .int .i64 (pF r.data.size), .int .u8 (r.kind : Int), .string r.data] 113)).alloc (.cells #[.slice none 0 0] 133)) (.string r.data) 9
    rw [World.size_alloc, World.size_alloc] at this
    exact this
  clear hW0
  refine over (w := W0) rfl (by omega) (gf := 110) (lb := #[.pointer (some ⟨w.heap.size + 1 + 1, 0, none⟩)]) rfl trivial (enters_of Tryz.func110 (by kernel_rfl) rfl)
    (parts r.data.size) (enc (w.heap.size + 5) r.data) (fun _ => rfl) (Held (w.heap.size + 5) r.data) ?hit (Fi w.heap.size W0 r) ?start ?hput
    (fun k => { tmps := #[.agg #[.int .i64 r.boot, .int .i64 r.lsn, .int .i64 r.part, .int .i64 r.parts, .int .u8 (r.kind : Int), .string r.data], .pointer (some ⟨w.heap.size, 0, none⟩), .slice none 0 0, .pointer (some ⟨w.heap.size + 1, 0, none⟩), .int .i64 (k : Int), .slice (some ⟨w.heap.size + 5, 44 * k, none⟩) (min (r.data.size - 44 * k) 44) (min (r.data.size - 44 * k) 44), undef, .tuple #[.int .i64 (pF r.data.size), .int .i64 (pE r.data.size)], .pointer (some ⟨w.heap.size, 5, none⟩), .string r.data, .int .i64 (r.data.size : Int), .tuple #[.int .i64 (pF r.data.size), .int .i64 (pE r.data.size)], .int .i64 (pF r.data.size), .int .i64 (pE r.data.size), .pointer (some ⟨w.heap.size, 3, none⟩), .pointer (some ⟨w.heap.size, 5, none⟩), .string r.data, .func (.func 110) #[] #[.pointer (some ⟨w.heap.size + 1 + 1, 0, none⟩)], .int .i64 (k : Int), .slice (some ⟨w.heap.size + 5, 44 * k, none⟩) (min (r.data.size - 44 * k) 44) (min (r.data.size - 44 * k) 44), undef, undef, undef, undef, undef, undef, undef, undef, undef, undef, undef], defers := [] }) ?assign ?body ?done
  case hit =>
    intro W1 k1 z1 l J hJ hY
    have e5 : W1.heap.size = w.heap.size + 5 := by omega
    refine pieces1_c Fence.wide _ trivial rfl (by omega) l (w.heap.size + 1 + 1) r.data hz W1 ((Below.cell k1 (p := ⟨w.heap.size + 1 + 1, 0, none⟩) (by show w.heap.size + 1 + 1 < _; omega)).trans b2) J ?_ ?_
    · intro Wb hk hr
      refine hJ Wb hk ⟨?_, ?_⟩
      · have := hr.lt; omega
      · rw [← e5]; exact hr.cell
    · rw [e5]; exact hY
  case start =>
    intro Wb hk hs hh
    exact ⟨hk.but _, hh, _, hk.block b1, World.ownsRow_nil _ _ _ _⟩
  case hput => intro k W o h; rw [s0]; exact h.put s0 o
  case assign =>
    intro l k W K hK
    simp only [enc]
    gi_wp2
    exact hK
  case body =>
    intro l k W hk hI hlt
    obtain ⟨v, hv, hrow⟩ := hI.list
    obtain ⟨M, hM⟩ : ∃ M, min (r.data.size - 44 * k) 44 = M := ⟨_, rfl⟩
    rw [hM]
    have hr := hI.but.at b0 (by omega)
    obtain ⟨⟨c0, c1, c2, c3, c4, c5⟩, fz⟩ := rblock hr
    have hv0 : W.cell? ⟨w.heap.size + 1, 0, none⟩ = some v := cell_of_row _ _ _ _ _ _ hv
    have hvf : W.frozen? ⟨w.heap.size + 1, 0, none⟩ = false := frozen_of_row _ _ _ _ _ hv
    have hmx : Tryz.prog.follows .mixedOrders = true := by kernel_rfl
    have hkk : 44 * k ≤ r.data.size := by unfold parts at hk; omega
    obtain ⟨U, hU⟩ : ∃ U, U = W.alloc (.cells #[.int .i64 r.boot, .int .i64 r.lsn, .int .i64 r.part, .int .i64 (pF r.data.size), .int .u8 (r.kind : Int), .string r.data] 113) := ⟨_, rfl⟩
    have hf0 : U.heap[W.heap.size]? = some (.cells #[.int .i64 r.boot, .int .i64 r.lsn, .int .i64 r.part, .int .i64 (pF r.data.size), .int .u8 (r.kind : Int), .string r.data] 113 (0, 0)) := by rw [hU]; exact World.alloc_heap_new W _
    have hUk : Kept W U := by rw [hU]; exact (Kept.refl W).alloc _
    have hUh : Held (w.heap.size + 5) r.data U := hI.held.kept hUk
    have hlt5 := hI.held.lt
    have q0 := (hUh.kept (Kept.refl U).drew).str k hkk M hM
    have q1 : (convert 130 9 (.slice (some ⟨w.heap.size + 5, 44 * k, none⟩) M M)).run Tryz.prog (U.setCell ⟨W.heap.size, 2, none⟩ (.int .i64 (k : Int))).drew = .ok (.string (piece r.data k)) (U.setCell ⟨W.heap.size, 2, none⟩ (.int .i64 (k : Int))).drew :=
      have e : (U.setCell ⟨W.heap.size, 2, none⟩ (.int .i64 (k : Int))).drew.heap[w.heap.size + 5]? = U.heap[w.heap.size + 5]? := heap_setCell_other _ _ _ _ (by show w.heap.size + 5 ≠ W.heap.size; omega)
      Held.str (hUh.at (by simp) e) k hkk M hM
    obtain ⟨PC, hPC⟩ : ∃ PC, PC = piece r.data k := ⟨_, rfl⟩
    rw [← hPC] at q0 q1
    gi_wp2
    rw [← hU]
    have hUs : U.heap.size = W.heap.size + 1 := by rw [hU]; simp
    clear hU
    obtain ⟨⟨d0, d1, d2, d3, d4, d5⟩, fy⟩ := rblock hf0
    have hZ : ((U.setCell ⟨W.heap.size, 2, none⟩ (.int .i64 (k : Int))).setCell ⟨W.heap.size, 5, none⟩ (.string (piece r.data k))).drew.heap[W.heap.size]? = some (.cells (fcells r.boot r.lsn k (pF r.data.size) r.kind (piece r.data k)) 113 (0, 0)) := by
      have := set_block (i := 5) (v := .string (piece r.data k)) (set_block (i := 2) (v := .int .i64 (k : Int)) hf0)
      exact this
    have kZ : Kept W ((U.setCell ⟨W.heap.size, 2, none⟩ (.int .i64 (k : Int))).setCell ⟨W.heap.size, 5, none⟩ (.string (piece r.data k))).drew := ((Below.setCell (p := ⟨W.heap.size, 5, none⟩) (Below.setCell (p := ⟨W.heap.size, 2, none⟩) hUk (Nat.le_refl _) _) (Nat.le_refl _) _)).drew
    have hlt4 : w.heap.size + 4 < W.heap.size := by omega
    have hgrowth : ∀ (Z w1 : World) (v' : Value), Kept W Z → w1.ownsRow (w.heap.size + 6) 113 6 v' (k + 1) (fcells6 (frP r) k ++ [.int .i64 r.boot, .int .i64 r.lsn, .int .i64 (k : Int), .int .i64 (pF r.data.size), .int .u8 (r.kind : Int), .string (piece r.data k)]) → Z.grownBy w1 v.ownBlock → Two (w.heap.size + 3) W (w1.setCell ⟨w.heap.size + 1, 0, none⟩ v') ∧ Fi w.heap.size W0 r (k + 1) (w1.setCell ⟨w.heap.size + 1, 0, none⟩ v') :=
      fun Z w1 v' k1 h1 h2 => hI.next s0 hlt4 k1 hv hrow (by rw [fcells6_succ]; exact h1) h2
    have hHG := Lib.hid (And.intro hrow hgrowth)
    have hkl : k < 100000 := by unfold parts at hk; omega
    obtain ⟨i0, hi, hz0, hz1, hz2⟩ := info_parts frame_info
    gi_region_with_o fail
    all_goals
      clear hrow hgrowth d0 d1 d2 d3 d4 d5 fy hf0 q0 q1 hUk hUh c0 c1 c2 c3 c4 c5 fz hPC
      generalize ((U.setCell ⟨W.heap.size, 2, none⟩ (.int .i64 (k : Int))).setCell ⟨W.heap.size, 5, none⟩ (.string (piece r.data k))).drew = Z at hZ kZ ⊢
      have hv1 := kZ.block hv
      have hv2 : Z.cell? ⟨w.heap.size + 1, 0, none⟩ = some v := cell_of_row _ _ _ _ _ _ hv1
      have hrZ : Z.ownsRow (w.heap.size + 6) 113 6 v k (fcells6 (frP r) k) := ownsRow_block hHG.out.1 fun g hb hg => Below.block kZ g (hHG.out.1.lt g hg).2
      obtain ⟨PC, hPC⟩ : ∃ PC, PC = piece r.data k := ⟨_, rfl⟩
      have hgr := hHG.out.2
      rw [← hPC] at hZ hgr ⊢
      obtain ⟨⟨e0, e1, e2, e3, e4, e5⟩, fz2⟩ := rblock hZ
      have hbx : ∀ w1 : World, Z.grownBy w1 v.ownBlock → w1.heap[w.heap.size + 1]? = some (.cells #[v] 133 (0, 0)) := fun w1 hg => (hg.block _ (lt_of_block hv1) (fun e => by have := ownsRow_base hrZ e.symm; omega)).trans hv1
      have HG2 := Lib.hid (And.intro hgr (And.intro kZ (And.intro hrZ hbx)))
      have hsz := kZ.size
      clear hgr kZ hZ hPC hrZ hv1 hv hI hr hbx
      gi_wp2_with (gi_at_builtin; refine wpListIn_append_own _ rfl _ _ 133 rfl (w.heap.size + 6) 113 i0 (.agg #[.int .i64 0, .int .i64 0, .int .i64 0, .int .i64 0, .int .u8 0, .string ByteArray.empty]) 6 56 Tryz.underlying133 hi hz0 hz1 hz2 rfl (by decide) _ _ _ rfl (HG2.out.2.2.1.alloc _) ⟨Z.heap.size, 0, none⟩ 1 1 [.int .i64 r.boot, .int .i64 r.lsn, .int .i64 (k : Int), .int .i64 (pF r.data.size), .int .u8 (r.kind : Int), .string PC] rfl rfl (cell_news _ _ _) (by intro x hx; simp at hx; rcases hx with rfl | rfl | rfl | rfl | rfl | rfl <;> rfl) (by unfold maxLen; omega) (by omega) (by simp; omega) ?_; intro v' w1 hown' hgrow _; have hgz := (World.grownBy_alloc Z _ v.ownBlock).trans hgrow; obtain ⟨g1, cap1, rfl⟩ := ownsRow_succ hown'; have Hx := Lib.hid (And.intro hown' hgz); have hb1 := HG2.out.2.2.2 _ hgz; have d1 : w1.cell? ⟨w.heap.size + 1, 0, none⟩ = some v := cell_of_row _ _ _ _ _ _ hb1; have f1 : w1.frozen? ⟨w.heap.size + 1, 0, none⟩ = false := frozen_of_row _ _ _ _ _ hb1; clear hown' hgz hgrow hb1)
      rw [s0]
      exact HG2.out.1 Z _ _ HG2.out.2.1 Hx.out.1 Hx.out.2
  case done =>
    intro W hI hd
    obtain ⟨v, hv, hrow⟩ := hI.list
    have hv0 : W.cell? ⟨w.heap.size + 1, 0, none⟩ = some v := cell_of_row _ _ _ _ _ _ hv
    have hvf : W.frozen? ⟨w.heap.size + 1, 0, none⟩ = false := frozen_of_row _ _ _ _ _ hv
    have hrow' : (W.putObj W0.heap.size (.deferred none)).ownsRow w.heap.size 113 6 v (parts r.data.size) (fcells6 (frP r) (parts r.data.size)) :=
      ownsRow_mono (ownsRow_block hrow fun g hb _ => World.putObj_heap_other (by omega)) (by omega)
    have hk : Kept w (W.putObj W0.heap.size (.deferred none)) := by
      refine ⟨hI.but.os.trans kept0.os, hI.but.tape.trans kept0.tape, hI.but.output.trans kept0.output, ?_, fun j hj => ?_⟩
      · have := hI.but.size; have := kept0.size; simp; omega
      · rw [World.putObj_heap_other (by omega), hI.but.block j (by omega) (by omega)]; exact Below.block kept0 j hj
    have HX := Lib.hid (And.intro hrow' hk)
    clear hrow' hk hI hv hrow
    gi_wp2
    refine ⟨by simp, .inl ⟨_, _, rfl, run_takeDeferred hd, ?_⟩⟩
    exact ⟨_, results_tmp rfl _ _ _, v, rfl, HX.out.1, HX.out.2⟩
end Go.Proofs.YtckbhjjflpobbaaGreat.Rc
