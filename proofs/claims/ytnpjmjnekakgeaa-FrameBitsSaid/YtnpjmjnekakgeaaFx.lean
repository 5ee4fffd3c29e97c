/-
  Bits of a sector that are changed: those of the bytes 0 to 12 and of Data, within 32 bits: it is the sector of no frame.
-/
import Derived.Test.YtnpjmjnekakgeaaFt
import Derived.Test.YtnpjmjnekakgeaaFc
namespace Go.Proofs.Ytnpjmjnekakgeaa.Fk
open Go Go.Proofs.Ytnpjmjnekakgeaa.Pk Go.Proofs.Ytnpjmjnekakgeaa.Mem Go.Proofs.Ytnpjmjnekakgeaa.Crc

/-- Where byte k of the bytes 0 to 13 and Data lies in the sector. -/
def ph (k : Nat) : Nat := if k < 14 then k else k + 4
/-- The bytes 0 to 13 and m bytes of Data. -/
def bd (m : Nat) (l : List UInt8) : List UInt8 := l.take 14 ++ (l.drop 18).take m
theorem bd_len {m : Nat} {l : List UInt8} (hl : l.length = 80) (hm : m ≤ 44) : (bd m l).length = 14 + m := by
  unfold bd; rw [List.length_append, List.length_take, List.length_take, List.length_drop]; omega
theorem bd_get {m : Nat} {l : List UInt8} (hl : l.length = 80) (hm : m ≤ 44) {k : Nat} (hk : k < 14 + m) : (bd m l)[k]? = l[ph k]? := by
  unfold bd ph
  by_cases h : k < 14
  · rw [if_pos h, List.getElem?_append_left (by rw [List.length_take]; omega), List.getElem?_take, if_pos h]
  · rw [if_neg h, List.getElem?_append_right (by rw [List.length_take]; omega), List.length_take, List.getElem?_take, if_pos (by omega), List.getElem?_drop]
    congr 1; omega
theorem ph_lt {m k : Nat} (hm : m ≤ 44) (hk : k < 14 + m) : ph k < 80 := by unfold ph; split <;> omega
theorem ph_inj {a b : Nat} (h : ph a = ph b) : a = b := by unfold ph at h; split at h <;> split at h <;> omega
/-- Which bits are to differ after k rounds. -/
def dif (P : BitVec 32) (F k p : Nat) : Bool := decide (F ≤ p ∧ p < F + k) && (P.getLsbD (p - F) && !decide (p / 8 = 13))
theorem dif_zero (P : BitVec 32) (F p : Nat) : dif P F 0 p = false := by unfold dif; simp; omega
theorem dif_succ (P : BitVec 32) (F k p : Nat) : dif P F (k + 1) p = (dif P F k p ^^ (decide (p = F + k) && (P.getLsbD k && !decide (p / 8 = 13)))) := by
  unfold dif
  by_cases e : p = F + k
  · subst e
    have h1 : decide (F ≤ F + k ∧ F + k < F + (k + 1)) = true := by simp
    have h2 : decide (F ≤ F + k ∧ F + k < F + k) = false := by simp
    rw [h1, h2, show F + k - F = k by omega]; simp
  · have h1 : decide (F ≤ p ∧ p < F + (k + 1)) = decide (F ≤ p ∧ p < F + k) := by
      apply decide_eq_decide.mpr; omega
    rw [h1]; simp [e]
/-- The bytes l are those of X but for the bits of the first k rounds. -/
structure Dif (X : List UInt8) (m : Nat) (P : BitVec 32) (F k : Nat) (l : List UInt8) : Prop where
  len : l.length = 80
  bit : ∀ p, p < 8 * (14 + m) → bitAt (bd m l) p = (bitAt (bd m X) p ^^ dif P F k p)
  rest : ∀ j, 13 ≤ j → j < 18 → l[j]? = X[j]?
theorem Dif.start {X : List UInt8} (m : Nat) (P : BitVec 32) (F : Nat) (h : X.length = 80) : Dif X m P F 0 X :=
  ⟨h, fun p _ => by rw [dif_zero]; simp, fun _ _ _ => rfl⟩
theorem Dif.skip {X : List UInt8} {m : Nat} {P : BitVec 32} {F k : Nat} {l : List UInt8} (h : Dif X m P F k l) (hb : P.getLsbD k = false ∨ (F + k) / 8 = 13) : Dif X m P F (k + 1) l :=
  ⟨h.len, fun p hp => by
    rw [h.bit p hp, dif_succ]
    have : (decide (p = F + k) && (P.getLsbD k && !decide (p / 8 = 13))) = false := by
      rcases hb with hb | hb
      · rw [hb]; simp
      · by_cases e : p = F + k
        · subst e; simp [hb]
        · simp [e]
    rw [this]; simp, h.rest⟩
theorem pow_byte (e : Nat) (he : e < 8) : (UInt8.ofNat (2 ^ e)).toNat = 2 ^ e := by
  rw [UInt8.toNat_ofNat']
  refine Nat.mod_eq_of_lt ?_
  calc 2 ^ e ≤ 2 ^ 7 := Nat.pow_le_pow_right (by omega) (by omega)
    _ < 2 ^ 8 := by decide
theorem xor_u8 (a b : UInt8) : bits .xor .u8 (a.toNat : Int) (b.toNat : Int) = ((a ^^^ b).toNat : Int) := by
  rw [u8_xor_nat _ _ (u8_lt a) (u8_lt b), UInt8.toNat_xor]
theorem bitOf_xor (a b : UInt8) (k : Nat) : bitOf (a ^^^ b) k = (bitOf a k ^^ bitOf b k) := by
  unfold bitOf; rw [UInt8.toNat_xor, Nat.testBit_xor]
theorem flip_val (v : UInt8) (e : Nat) (he : e < 8) : bits .xor .u8 (v.toNat : Int) ((2 : Int) ^ e % 256) = ((v ^^^ UInt8.ofNat (2 ^ e)).toNat : Int) := by
  have h : (2 : Int) ^ e % 256 = ((UInt8.ofNat (2 ^ e)).toNat : Int) := by
    have hlt : (2 ^ e : Nat) < 256 := by rw [← pow_byte e he]; exact u8_lt _
    have hc : (2 : Int) ^ e = ((2 ^ e : Nat) : Int) := by simp
    rw [pow_byte e he, hc]
    exact Int.emod_eq_of_lt (Int.natCast_nonneg _) (show ((2 ^ e : Nat) : Int) < ((256 : Nat) : Int) from Int.ofNat_lt.mpr hlt)
  rw [h, xor_u8]
theorem bit_pow (e j : Nat) (he : e < 8) : bitOf (UInt8.ofNat (2 ^ e)) j = decide (e = j) := by
  unfold bitOf; rw [pow_byte e he, Nat.testBit_two_pow]
theorem bitAt_get {l : List UInt8} {p : Nat} {c : UInt8} (h : l[p / 8]? = some c) : bitAt l p = bitOf c (p % 8) := by
  unfold bitAt; rw [List.getD_eq_getElem?_getD, h]; rfl
theorem Dif.flip {X : List UInt8} {m : Nat} {P : BitVec 32} {F k : Nat} {l : List UInt8} (h : Dif X m P F k l) (hm : m ≤ 44) (hb : P.getLsbD k = true) (h13 : (F + k) / 8 ≠ 13) (hq : ph ((F + k) / 8) < l.length) :
    Dif X m P F (k + 1) (l.set (ph ((F + k) / 8)) (l[ph ((F + k) / 8)] ^^^ UInt8.ofNat (2 ^ ((F + k) % 8)))) := by
  refine ⟨by rw [List.length_set]; exact h.len, fun p hp => ?_, fun j h1 h2 => ?_⟩
  · rw [dif_succ, hb, Bool.true_and, ← Bool.xor_assoc, ← h.bit p hp]
    have hp8 : p / 8 < 14 + m := by omega
    have hl := ph_lt hm hp8
    have hl' : ph (p / 8) < l.length := by rw [h.len]; exact hl
    have e1 : (bd m l)[p / 8]? = some l[ph (p / 8)] := by rw [bd_get h.len hm hp8, List.getElem?_eq_getElem hl']
    rw [bitAt_get e1]
    by_cases e : (F + k) / 8 = p / 8
    · have e2 : (bd m (l.set (ph ((F + k) / 8)) (l[ph ((F + k) / 8)] ^^^ UInt8.ofNat (2 ^ ((F + k) % 8)))))[p / 8]? = some (l[ph (p / 8)] ^^^ UInt8.ofNat (2 ^ ((F + k) % 8))) := by
        rw [bd_get (by rw [List.length_set]; exact h.len) hm hp8, List.getElem?_set, if_pos (by rw [e]), if_pos hq]
        congr 2; simp only [e]
      rw [bitAt_get e2, bitOf_xor, bit_pow _ _ (Nat.mod_lt _ (by decide))]
      have : decide ((F + k) % 8 = p % 8) = (decide (p = F + k) && !decide (p / 8 = 13)) := by
        have h0 : decide (p / 8 = 13) = false := by simp; omega
        rw [h0, Bool.not_false, Bool.and_true]
        apply decide_eq_decide.mpr; omega
      rw [this]
    · have e2 : (bd m (l.set (ph ((F + k) / 8)) (l[ph ((F + k) / 8)] ^^^ UInt8.ofNat (2 ^ ((F + k) % 8)))))[p / 8]? = some l[ph (p / 8)] := by
        rw [bd_get (by rw [List.length_set]; exact h.len) hm hp8, List.getElem?_set, if_neg (fun x => e (ph_inj x)), List.getElem?_eq_getElem hl']
      rw [bitAt_get e2]
      have : decide (p = F + k) = false := by simp; omega
      rw [this]; simp
  · rw [List.getElem?_set, if_neg (by unfold ph; split <;> omega)]
    exact h.rest j h1 h2
theorem bd_sec (f : Fr) : bd f.data.size f.sec = f.head ++ f.data.data.toList := by
  have e : f.sec = (f.head ++ be f.sum.toNat 4) ++ (f.data.data.toList ++ (List.replicate (51 - f.data.size) 0 ++ f.name)) := by unfold Fr.sec; simp only [List.append_assoc]
  have e1 : f.sec.take 14 = f.head := by unfold Fr.sec; exact take_app (head_len f)
  have e2 : f.sec.drop 18 = f.data.data.toList ++ (List.replicate (51 - f.data.size) 0 ++ f.name) := by
    rw [e]; exact drop_app (by rw [List.length_append, head_len, be_length])
  unfold bd
  rw [e1, e2, take_app (size_list _)]
theorem mid_sec (f : Fr) : (f.sec.drop 13).take 5 = be f.data.size 1 ++ be f.sum.toNat 4 := by
  have e : f.sec = (be f.boot.toNat 4 ++ (be f.lsn.toNat 6 ++ (be f.part.toNat 1 ++ (be f.parts.toNat 1 ++ be f.kind 1)))) ++ ((be f.data.size 1 ++ be f.sum.toNat 4) ++ (f.data.data.toList ++ (List.replicate (51 - f.data.size) 0 ++ f.name))) := by
    rw [sec_flat]; simp only [List.append_assoc]
  rw [e, drop_app (by simp only [List.length_append, be_length]), take_app (by simp only [List.length_append, be_length])]
theorem Dif.none {f : Fr} {P : BitVec 32} {F k : Nat} {l : List UInt8} (h : Dif f.sec f.data.size P F k l) (hg : f.good) (h0 : P.getLsbD 0 = true) (h13 : F / 8 ≠ 13) (hF : F < 8 * (14 + f.data.size)) (hk0 : 0 < k) (hk : k ≤ 32) : dec (str l) = none := by
  cases hd : dec (str l) with
  | none => rfl
  | some g =>
    exfalso
    obtain ⟨rfl, _, _, gg⟩ := dec_ends hd
    have hm : (g.sec.drop 13).take 5 = (f.sec.drop 13).take 5 := by
      apply List.ext_getElem?
      intro i
      rw [List.getElem?_take, List.getElem?_take]
      split
      · rw [List.getElem?_drop, List.getElem?_drop]; exact h.rest _ (by omega) (by omega)
      · rfl
    rw [mid_sec, mid_sec] at hm
    obtain ⟨hm1, hm2⟩ := List.append_inj hm (by rw [be_length, be_length])
    have s1 := gg.short; have s2 := hg.short
    have e1 : g.data.size = f.data.size := by
      have := congrArg val hm1
      rwa [val_be_lt (by omega), val_be_lt (by omega)] at this
    have e2 : g.sum = f.sum := by
      have := congrArg val hm2
      rw [val_be_lt (by have := g.sum.isLt; omega), val_be_lt (by have := f.sum.isLt; omega)] at this
      exact BitVec.eq_of_toNat_eq this
    unfold Fr.sum at e2
    rw [← bd_sec, ← bd_sec, e1] at e2
    have lg := bd_len (sec_len s1) s2
    have lf := bd_len (sec_len s2) s2
    have hb := h.bit
    generalize bd f.data.size g.sec = x at e2 lg hb
    generalize bd f.data.size f.sec = y at e2 lf hb
    unfold moreB at e2
    have hrun := BitVec.not_inj.mp e2
    rw [run_feed, run_feed y, lg, lf] at hrun
    have hf := feed_xor (bitAt y) (dif P F k) (~~~ 0) 0 (8 * (14 + f.data.size))
    rw [xz] at hf
    rw [feed_congr (~~~ 0) (8 * (14 + f.data.size)) hb, hf] at hrun
    have hz : feed (dif P F k) 0 (8 * (14 + f.data.size)) = 0 := by
      have := congrArg (fun z => feed (bitAt y) (~~~ 0) (8 * (14 + f.data.size)) ^^^ z) hrun
      simp only [← BitVec.xor_assoc, BitVec.xor_self, BitVec.zero_xor] at this
      exact this
    refine burst (dif P F k) F (8 * (14 + f.data.size)) (fun p hp => ?_) ?_ (fun p hp => ?_) hF hz
    · unfold dif; simp; omega
    · unfold dif; rw [Nat.sub_self, h0]; simp [h13]; omega
    · unfold dif; simp; omega
end Go.Proofs.Ytnpjmjnekakgeaa.Fk
