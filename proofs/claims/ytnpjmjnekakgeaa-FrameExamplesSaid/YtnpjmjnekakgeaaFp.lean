/-
  Frames and their sectors, as plain mathematics: nothing here speaks of the program.
-/
import Derived.Test.YtnpjmjnekakgeaaPu
import Derived.Test.YtnpjmjnekakgeaaPo
import Derived.Test.YtnpjmjnekakgeaaCm
import Derived.Test.YtnpjmjnekakgeaaCf
namespace Go.Proofs.Ytnpjmjnekakgeaa.Fk
open Go Go.Proofs.Ytnpjmjnekakgeaa.Pk

structure Fr where
  boot : Int
  lsn : Int
  part : Int
  parts : Int
  kind : Nat
  data : ByteArray
def Fr.nil : Fr := ⟨0, 0, 0, 0, 0, ⟨#[]⟩⟩
def btw (n a b : Int) : Bool := decide (a ≤ n) && decide (n ≤ b)
theorem btw_iff {n a b : Int} : btw n a b = true ↔ a ≤ n ∧ n ≤ b := by unfold btw; simp
namespace Fr
/-- Whether its numbers are valid. -/
def nums (f : Fr) : Bool := btw f.boot 1 4294967295 && (btw f.lsn 1 281474976710655 && (btw f.parts 1 255 && btw f.part 0 (f.parts - 1)))
def name (f : Fr) : List UInt8 := be f.boot.toNat 4 ++ (be f.lsn.toNat 6 ++ be f.part.toNat 1)
def head (f : Fr) : List UInt8 := f.name ++ (be f.parts.toNat 1 ++ (be f.kind 1 ++ be f.data.size 1))
def sum (f : Fr) : BitVec 32 := Crc.moreB 0 (f.head ++ f.data.data.toList)
def sec (f : Fr) : List UInt8 := f.head ++ (be f.sum.toNat 4 ++ (f.data.data.toList ++ (List.replicate (51 - f.data.size) 0 ++ f.name)))
def err (f : Fr) : Int := if 44 < f.data.size then 5 else if f.nums = true then 0 else 2
def enc (f : Fr) : ByteArray := if f.err = 0 then str f.sec else str []
structure good (f : Fr) : Prop where
  short : f.data.size ≤ 44
  b1 : 1 ≤ f.boot
  b2 : f.boot ≤ 4294967295
  l1 : 1 ≤ f.lsn
  l2 : f.lsn ≤ 281474976710655
  q1 : 1 ≤ f.parts
  q2 : f.parts ≤ 255
  p1 : 0 ≤ f.part
  p2 : f.part < f.parts
theorem nums_iff (f : Fr) : f.nums = true ↔ (1 ≤ f.boot ∧ f.boot ≤ 4294967295) ∧ (1 ≤ f.lsn ∧ f.lsn ≤ 281474976710655) ∧ (1 ≤ f.parts ∧ f.parts ≤ 255) ∧ 0 ≤ f.part ∧ f.part ≤ f.parts - 1 := by
  unfold nums; rw [Bool.and_eq_true, Bool.and_eq_true, Bool.and_eq_true, btw_iff, btw_iff, btw_iff, btw_iff]
theorem err_zero (f : Fr) : f.err = 0 ↔ f.good := by
  unfold err
  constructor
  · intro h
    split at h
    · exact absurd h (by decide)
    · split at h
      · rename_i h1 h2
        obtain ⟨a, b, c, d⟩ := f.nums_iff.mp h2
        exact ⟨by omega, a.1, a.2, b.1, b.2, c.1, c.2, d.1, by omega⟩
      · exact absurd h (by decide)
  · intro h
    rw [if_neg (by have := h.short; omega), if_pos (f.nums_iff.mpr ⟨⟨h.b1, h.b2⟩, ⟨h.l1, h.l2⟩, ⟨h.q1, h.q2⟩, h.p1, by have := h.p2; omega⟩)]
theorem enc_good {f : Fr} (h : f.good) : f.enc = str f.sec := by unfold enc; rw [if_pos (f.err_zero.mpr h)]
theorem enc_bad {f : Fr} (h : f.err ≠ 0) : f.enc = str [] := by unfold enc; rw [if_neg h]
theorem err_ne {f : Fr} (h : ¬ f.good) : f.err ≠ 0 := fun e => h (f.err_zero.mp e)
end Fr

/-! The fields of a string. -/
def l1 (s : ByteArray) : List UInt8 := s.data.toList.drop 4
def l2 (s : ByteArray) : List UInt8 := (l1 s).drop 6
def l3 (s : ByteArray) : List UInt8 := (l2 s).drop 1
def l4 (s : ByteArray) : List UInt8 := (l3 s).drop 1
def l5 (s : ByteArray) : List UInt8 := (l4 s).drop 1
def l6 (s : ByteArray) : List UInt8 := (l5 s).drop 1
def l7 (s : ByteArray) : List UInt8 := (l6 s).drop 4
def flds (s : ByteArray) : Fr := ⟨val (s.data.toList.take 4), val ((l1 s).take 6), val ((l2 s).take 1), val ((l3 s).take 1), val ((l4 s).take 1), str ((l7 s).take (val ((l5 s).take 1)))⟩
def dec (s : ByteArray) : Option Fr := if (flds s).err = 0 ∧ (flds s).enc = s then some (flds s) else none
def decF (s : ByteArray) : Fr := (dec s).getD Fr.nil
def decE (s : ByteArray) : Int := if (dec s).isSome = true then 0 else 12

theorem take_app {a b : List UInt8} {n : Nat} (h : a.length = n) : (a ++ b).take n = a := by subst h; simp
theorem drop_app {a b : List UInt8} {n : Nat} (h : a.length = n) : (a ++ b).drop n = b := by subst h; simp
theorem drop_step {l a b : List UInt8} {n : Nat} (h : l = a ++ b) (ha : a.length = n) : l.drop n = b := by subst h; exact drop_app ha
theorem take_whole {a : List UInt8} {n : Nat} (h : a.length = n) : a.take n = a := by subst h; simp
theorem val_short {l : List UInt8} {k : Nat} : val (l.take k) < 256 ^ k := by
  have h := val_lt (l.take k).length (l.take k) rfl
  exact Nat.lt_of_lt_of_le h (Nat.pow_le_pow_right (by decide) (by rw [List.length_take]; omega))

theorem name_len (f : Fr) : f.name.length = 11 := by unfold Fr.name; rw [List.length_append, List.length_append, be_length, be_length, be_length]
theorem head_len (f : Fr) : f.head.length = 14 := by unfold Fr.head; rw [List.length_append, List.length_append, List.length_append, name_len, be_length, be_length, be_length]
theorem sec_len {f : Fr} (h : f.data.size ≤ 44) : f.sec.length = 80 := by
  have := size_list f.data
  unfold Fr.sec; rw [List.length_append, List.length_append, List.length_append, List.length_append, name_len, head_len, be_length, List.length_replicate]; omega
theorem sec_flat (f : Fr) : f.sec = be f.boot.toNat 4 ++ (be f.lsn.toNat 6 ++ (be f.part.toNat 1 ++ (be f.parts.toNat 1 ++ (be f.kind 1 ++ (be f.data.size 1 ++ (be f.sum.toNat 4 ++ (f.data.data.toList ++ (List.replicate (51 - f.data.size) 0 ++ f.name)))))))) := by
  unfold Fr.sec Fr.head Fr.name
  simp only [List.append_assoc]
theorem flds_sec {f : Fr} (h : f.good) (hk : f.kind < 256) : flds (str f.sec) = f := by
  have e0 : (str f.sec).data.toList = _ := (list_str f.sec).trans (sec_flat f)
  have e1 : l1 (str f.sec) = _ := drop_step e0 (be_length _ _)
  have e2 : l2 (str f.sec) = _ := drop_step e1 (be_length _ _)
  have e3 : l3 (str f.sec) = _ := drop_step e2 (be_length _ _)
  have e4 : l4 (str f.sec) = _ := drop_step e3 (be_length _ _)
  have e5 : l5 (str f.sec) = _ := drop_step e4 (be_length _ _)
  have e6 : l6 (str f.sec) = _ := drop_step e5 (be_length _ _)
  have e7 : l7 (str f.sec) = _ := drop_step e6 (be_length _ _)
  have b1 := h.b1; have b2 := h.b2; have c1 := h.l1; have c2 := h.l2; have d1 := h.q1; have d2 := h.q2; have g1 := h.p1; have g2 := h.p2; have z := h.short
  unfold flds
  rw [e0, e1, e2, e3, e4, e5, e7, take_app (be_length _ _), take_app (be_length _ _), take_app (be_length _ _), take_app (be_length _ _), take_app (be_length _ _), take_app (be_length _ _)]
  rw [val_be_lt (by omega : f.boot.toNat < 256 ^ 4), val_be_lt (by omega : f.lsn.toNat < 256 ^ 6), val_be_lt (by omega : f.part.toNat < 256 ^ 1), val_be_lt (by omega : f.parts.toNat < 256 ^ 1), val_be_lt (by omega : f.kind < 256 ^ 1), val_be_lt (by omega : f.data.size < 256 ^ 1)]
  rw [take_app (size_list _), str_list, Int.toNat_of_nonneg (by omega), Int.toNat_of_nonneg (by omega), Int.toNat_of_nonneg (by omega), Int.toNat_of_nonneg (by omega)]
theorem dec_sec {f : Fr} (h : f.good) (hk : f.kind < 256) : dec (str f.sec) = some f := by
  unfold dec
  rw [flds_sec h hk, if_pos ⟨f.err_zero.mpr h, Fr.enc_good h⟩]
theorem dec_some {s : ByteArray} {c : Fr} (h : dec s = some c) : c.good ∧ c.kind < 256 ∧ s = str c.sec := by
  unfold dec at h
  split at h
  · rename_i h1
    obtain rfl : flds s = c := by simpa using h
    have hg := (flds s).err_zero.mp h1.1
    exact ⟨hg, val_short, by rw [← Fr.enc_good hg]; exact h1.2.symm⟩
  · cases h
theorem dec_enc {f : Fr} (h : f.good) (hk : f.kind < 256) : dec f.enc = some f := by rw [Fr.enc_good h]; exact dec_sec h hk
theorem decF_enc {f : Fr} (h : f.good) (hk : f.kind < 256) : decF f.enc = f ∧ decE f.enc = 0 := by
  unfold decF decE; rw [dec_enc h hk]; exact ⟨rfl, rfl⟩
theorem decE_or (s : ByteArray) : decE s = 0 ∧ dec s = some (decF s) ∨ decE s = 12 ∧ dec s = none ∧ decF s = Fr.nil := by
  unfold decE decF
  cases h : dec s with
  | none => exact .inr ⟨rfl, rfl, rfl⟩
  | some c => exact .inl ⟨rfl, rfl⟩
theorem enc_dec {s : ByteArray} (h : decE s = 0) : (decF s).enc = s ∧ (decF s).err = 0 := by
  rcases decE_or s with ⟨_, hd⟩ | ⟨h2, _⟩
  · obtain ⟨hg, _, he⟩ := dec_some hd
    exact ⟨(Fr.enc_good hg).trans he.symm, (Fr.err_zero _).mpr hg⟩
  · rw [h] at h2; cases h2
theorem sec_inj {a b : Fr} (ha : a.good) (hb : b.good) (ka : a.kind < 256) (kb : b.kind < 256) (h : a.enc = b.enc) : a = b := by
  have h1 := dec_enc ha ka
  rw [h, dec_enc hb kb] at h1
  simpa using h1.symm

/-! Torn sectors. -/
theorem sec_take (f : Fr) : f.sec.take 11 = f.name := by unfold Fr.sec Fr.head; rw [List.append_assoc]; exact take_app (name_len f)
theorem sec_drop {f : Fr} (h : f.data.size ≤ 44) : f.sec.drop 69 = f.name := by
  have := size_list f.data
  have e : f.sec = (f.head ++ (be f.sum.toNat 4 ++ (f.data.data.toList ++ List.replicate (51 - f.data.size) 0))) ++ f.name := by unfold Fr.sec; simp only [List.append_assoc]
  rw [e]; refine drop_app ?_
  rw [List.length_append, List.length_append, List.length_append, head_len, be_length, List.length_replicate]; omega
theorem name_inj {a b : Fr} (ha : a.good) (hb : b.good) (h : a.name = b.name) : a.boot = b.boot ∧ a.lsn = b.lsn ∧ a.part = b.part := by
  have b1 := ha.b1; have b2 := ha.b2; have c1 := ha.l1; have c2 := ha.l2; have d2 := ha.q2; have g1 := ha.p1; have g2 := ha.p2
  have b1' := hb.b1; have b2' := hb.b2; have c1' := hb.l1; have c2' := hb.l2; have d2' := hb.q2; have g1' := hb.p1; have g2' := hb.p2
  unfold Fr.name at h
  obtain ⟨h1, h⟩ := List.append_inj h (by rw [be_length, be_length])
  obtain ⟨h2, h3⟩ := List.append_inj h (by rw [be_length, be_length])
  have e1 := congrArg val h1; have e2 := congrArg val h2; have e3 := congrArg val h3
  rw [val_be_lt (by omega), val_be_lt (by omega)] at e1 e2 e3
  omega
theorem name_zeros {a : Fr} (ha : a.good) (h : a.name = List.replicate 11 0) : False := by
  have b1 := ha.b1; have b2 := ha.b2
  have e : val (a.name.take 4) = val ((List.replicate 11 0).take 4) := by rw [h]
  unfold Fr.name at e
  rw [take_app (be_length _ _), val_be_lt (by omega)] at e
  have z : val ((List.replicate 11 (0 : UInt8)).take 4) = 0 := by decide
  omega
theorem torn {x y : List UInt8} {n : Nat} (hx : x.take 11 = x.drop 69) (hy : y.take 11 = y.drop 69) (hne : x.take 11 ≠ y.take 11) (lx : x.length = 80) (hn : n ≤ 80)
    (hs : (x.take n ++ y.drop n).take 11 = (x.take n ++ y.drop n).drop 69) : x.take n ++ y.drop n = x ∨ x.take n ++ y.drop n = y := by
  have lt : (x.take n).length = n := by rw [List.length_take]; omega
  by_cases h : n ≤ 69
  · right
    have hd : (x.take n ++ y.drop n).drop 69 = y.drop 69 := by
      rw [List.drop_append, List.drop_eq_nil_of_le (by omega), List.nil_append, lt, List.drop_drop]
      congr 1; omega
    rw [hd, ← hy] at hs
    by_cases h2 : 11 ≤ n
    · exfalso; apply hne
      rw [← hs, List.take_append, lt, show 11 - n = 0 by omega, List.take_zero, List.append_nil, List.take_take]
      congr 1; omega
    · have e := congrArg (List.take n) hs
      rw [List.take_take, List.take_take, Nat.min_eq_left (by omega), take_app lt] at e
      rw [e, List.take_append_drop]
  · left
    have h1 : (x.take n ++ y.drop n).take 11 = x.take 11 := by
      rw [List.take_append, lt, show 11 - n = 0 by omega, List.take_zero, List.append_nil, List.take_take]
      congr 1; omega
    have h2 : (x.take n ++ y.drop n).drop 69 = (x.drop 69).take (n - 69) ++ y.drop n := by
      rw [List.drop_append, lt, show 69 - n = 0 by omega, List.drop_zero, List.drop_take]
    rw [h1, h2, hx] at hs
    have e : (x.drop 69).drop (n - 69) = y.drop n := by
      have := congrArg (List.drop (n - 69)) hs
      rw [drop_app (by rw [List.length_take, List.length_drop]; omega)] at this
      exact this
    rw [← e, List.drop_drop, show 69 + (n - 69) = n by omega, List.take_append_drop]

/-! Order. -/
theorem val_app (a b : List UInt8) : val (a ++ b) = val a * 256 ^ b.length + val b := by
  show (a ++ b).foldl _ 0 = _
  rw [List.foldl_append]; exact foldl_val b (val a)
theorem lex {K v v' r r' : Nat} (h : r < K) (h' : r' < K) (hne : v ≠ v') : v * K + r < v' * K + r' ↔ v < v' := by
  constructor
  · intro hl
    refine Nat.lt_of_not_le fun hle => ?_
    have : (v' + 1) * K ≤ v * K := Nat.mul_le_mul_right K (by omega)
    rw [Nat.succ_mul] at this; omega
  · intro hl
    have : (v + 1) * K ≤ v' * K := Nat.mul_le_mul_right K (by omega)
    rw [Nat.succ_mul] at this; omega
theorem val_name {a : Fr} (ha : a.good) : (val a.name : Int) = a.boot * 72057594037927936 + (a.lsn * 256 + a.part) := by
  have b1 := ha.b1; have b2 := ha.b2; have c1 := ha.l1; have c2 := ha.l2; have d2 := ha.q2; have g1 := ha.p1; have g2 := ha.p2
  unfold Fr.name
  rw [val_app, val_app, List.length_append, be_length, be_length, val_be_lt (by omega), val_be_lt (by omega), val_be_lt (by omega)]
  omega
theorem less_sec {a b : Fr} (ha : a.good) (hb : b.good) (hne : ¬ (a.boot = b.boot ∧ a.lsn = b.lsn ∧ a.part = b.part)) :
    Op.bytesLess a.sec b.sec = decide (a.boot < b.boot ∨ a.boot = b.boot ∧ (a.lsn < b.lsn ∨ a.lsn = b.lsn ∧ a.part < b.part)) := by
  have sa := sec_len ha.short; have sb := sec_len hb.short
  rw [less_val _ _ (by omega)]
  have ea : a.sec = a.name ++ a.sec.drop 11 := by rw [← sec_take a, List.take_append_drop]
  have eb : b.sec = b.name ++ b.sec.drop 11 := by rw [← sec_take b, List.take_append_drop]
  have la : (a.sec.drop 11).length = 69 := by rw [List.length_drop]; omega
  have lb : (b.sec.drop 11).length = 69 := by rw [List.length_drop]; omega
  have ra := val_lt 69 _ la; have rb := val_lt 69 _ lb
  have va := val_name ha; have vb := val_name hb
  have b1 := ha.b1; have b2 := ha.b2; have c1 := ha.l1; have c2 := ha.l2; have d2 := ha.q2; have g1 := ha.p1; have g2 := ha.p2
  have b1' := hb.b1; have b2' := hb.b2; have c1' := hb.l1; have c2' := hb.l2; have d2' := hb.q2; have g1' := hb.p1; have g2' := hb.p2
  have hn : val a.name ≠ val b.name := by
    intro e
    have : (val a.name : Int) = (val b.name : Int) := by rw [e]
    rw [va, vb] at this
    omega
  rw [ea, eb, val_app, val_app, la, lb]
  apply decide_eq_decide.mpr
  rw [lex ra rb hn]
  omega
theorem ne_sec {a b : Fr} (ha : a.good) (hb : b.good) (hne : ¬ (a.boot = b.boot ∧ a.lsn = b.lsn ∧ a.part = b.part)) : a.sec ≠ b.sec := by
  intro h
  have := congrArg (List.take 11) h
  rw [sec_take, sec_take] at this
  exact hne (name_inj ha hb this)
end Go.Proofs.Ytnpjmjnekakgeaa.Fk
