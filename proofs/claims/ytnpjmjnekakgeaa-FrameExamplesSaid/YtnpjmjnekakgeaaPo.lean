/-
  Plain mathematics of package pack: the order of bytes.
-/
import Derived.Test.YtnpjmjnekakgeaaPu
import GoSem.Op.String
namespace Go.Proofs.Ytnpjmjnekakgeaa.Pk
open Go

theorem foldl_val (l : List UInt8) : ∀ a : Nat, l.foldl (fun a b => a * 256 + b.toNat) a = a * 256 ^ l.length + val l := by
  induction l with
  | nil => intro a; simp [val]
  | cons b l ih =>
    intro a
    unfold val
    rw [List.foldl_cons, List.foldl_cons, ih, ih (0 * 256 + b.toNat), List.length_cons, Nat.pow_succ]
    rw [Nat.add_mul, Nat.zero_mul, Nat.zero_add, Nat.mul_assoc, Nat.mul_comm 256, Nat.add_assoc]
theorem val_cons (b : UInt8) (l : List UInt8) : val (b :: l) = b.toNat * 256 ^ l.length + val l := by
  show List.foldl _ (0 * 256 + b.toNat) l = _
  rw [foldl_val, Nat.zero_mul, Nat.zero_add]
theorem less_val : ∀ a b : List UInt8, a.length = b.length → Op.bytesLess a b = decide (val a < val b) := by
  intro a
  induction a with
  | nil => intro b h; cases b with
    | nil => simp [Op.bytesLess]
    | cons _ _ => simp at h
  | cons x a ih =>
    intro b h
    cases b with
    | nil => simp at h
    | cons y b =>
      have hl : a.length = b.length := by simpa using h
      have ha := val_lt _ a rfl
      have hb := val_lt _ b rfl
      rw [Op.bytesLess, ih b hl, val_cons, val_cons, hl]
      rw [hl] at ha
      generalize 256 ^ b.length = p at *
      rw [Bool.eq_iff_iff]
      simp only [Bool.or_eq_true, Bool.and_eq_true, decide_eq_true_eq, beq_iff_eq, UInt8.lt_iff_toNat_lt]
      constructor
      · rintro (h1 | ⟨rfl, h1⟩)
        · have : (x.toNat + 1) * p ≤ y.toNat * p := Nat.mul_le_mul_right _ h1
          rw [Nat.add_mul, Nat.one_mul] at this; omega
        · omega
      · intro h1
        rcases Nat.lt_trichotomy x.toNat y.toNat with h2 | h2 | h2
        · exact .inl h2
        · exact .inr ⟨UInt8.toNat_inj.1 h2, by rw [h2] at h1; omega⟩
        · have : (y.toNat + 1) * p ≤ x.toNat * p := Nat.mul_le_mul_right _ h2
          rw [Nat.add_mul, Nat.one_mul] at this; omega
theorem less_be {m n k : Nat} (hm : m < 256 ^ k) (hn : n < 256 ^ k) : Op.bytesLess (be m k) (be n k) = decide (m < n) := by
  rw [less_val _ _ (by rw [be_length, be_length]), val_be_lt hm, val_be_lt hn]
theorem eq_be {m n k : Nat} (hm : m < 256 ^ k) (hn : n < 256 ^ k) : (be m k == be n k) = decide (m = n) := by
  rw [Bool.eq_iff_iff]
  simp only [beq_iff_eq, decide_eq_true_eq]
  constructor
  · intro h; rw [← val_be_lt hm, h, val_be_lt hn]
  · rintro rfl; rfl
theorem num_mono {m n : Nat} (h : m ≤ n) : (num m).length ≤ (num n).length := by
  have h1 := wd_bd m
  have h2 := wd_bd n
  have h3 := wd_mono h
  rw [num_length, num_length]; split <;> split <;> omega
theorem eq_num {m n k : Nat} (hm : U64 m) (hn : U64 n) (hk : k = min (num m).length (num n).length) : ((num m).take k == (num n).take k) = decide (m = n) := by
  rw [Bool.eq_iff_iff]
  simp only [beq_iff_eq, decide_eq_true_eq]
  constructor
  · exact num_pre hm hn k hk
  · rintro rfl; rfl
end Go.Proofs.Ytnpjmjnekakgeaa.Pk
