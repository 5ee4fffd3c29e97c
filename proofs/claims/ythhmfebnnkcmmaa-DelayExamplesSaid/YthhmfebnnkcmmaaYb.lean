/-
  Layer 11, plain mathematics: delays that are doubled until they are Most. (Nothing here speaks of the program.)
-/
import Derived.Test.YthhmfebnnkcmmaaBa
namespace Go.Proofs.Ythhmfebnnkcmmaa.De

/-- The delay behind k doublings. -/
def it (b m : Int) : Nat → Int
  | 0 => b
  | k + 1 => min (2 * it b m k) m
theorem it_zero (b m : Int) : it b m 0 = b := rfl
theorem it_succ (b m : Int) (k : Nat) : it b m (k + 1) = min (2 * it b m k) m := rfl
theorem it_bounds {b m : Int} (h1 : 1 ≤ b) (h2 : b ≤ m) (k : Nat) : b ≤ it b m k ∧ it b m k ≤ m := by
  induction k with
  | zero => exact ⟨Int.le_refl _, h2⟩
  | succ k ih => rw [it_succ]; omega
theorem it_step {b m : Int} (h1 : 1 ≤ b) (h2 : b ≤ m) (k : Nat) :
    it b m k ≤ it b m (k + 1) ∧ it b m (k + 1) ≤ 2 * it b m k ∧ (it b m (k + 1) < m → it b m (k + 1) = 2 * it b m k) ∧ (2 * it b m k ≤ m → it b m (k + 1) = 2 * it b m k) := by
  have := it_bounds h1 h2 k
  rw [it_succ]
  refine ⟨?_, ?_, fun h => ?_, fun h => ?_⟩ <;> omega
theorem it_mono {b m : Int} (h1 : 1 ≤ b) (h2 : b ≤ m) {k l : Nat} (h : k ≤ l) : it b m k ≤ it b m l := by
  induction l with
  | zero => rw [show k = 0 by omega]; exact Int.le_refl _
  | succ l ih =>
    by_cases e : k = l + 1
    · rw [e]; exact Int.le_refl _
    · exact Int.le_trans (ih (by omega)) (it_step h1 h2 l).1
theorem it_top {b m : Int} (h1 : 1 ≤ b) (h2 : b ≤ m) {k l : Nat} (h : it b m k = m) (hl : k ≤ l) : it b m l = m := by
  have := it_mono h1 h2 hl
  have := (it_bounds h1 h2 l).2
  omega
theorem it_pow {b m : Int} (h1 : 1 ≤ b) (h2 : b ≤ m) (k : Nat) : (2 : Int) ^ k ≤ it b m k ∨ it b m k = m := by
  induction k with
  | zero => exact .inl (by show (2 : Int) ^ 0 ≤ b; rw [Int.pow_zero]; exact h1)
  | succ k ih =>
    have hb := it_bounds h1 h2 k
    have hp : (2 : Int) ^ (k + 1) = 2 * 2 ^ k := by rw [Int.pow_succ]; omega
    rw [it_succ, hp]
    rcases ih with h | h <;> omega
theorem it_end {b m : Int} (h1 : 1 ≤ b) (h2 : b ≤ m) (hm : m ≤ 1099511627776) {k : Nat} (hk : 40 ≤ k) : it b m k = m := by
  refine it_top h1 h2 ?_ hk
  rcases it_pow h1 h2 40 with h | h
  · have := (it_bounds h1 h2 40).2
    have e : (2 : Int) ^ 40 = 1099511627776 := by decide
    omega
  · exact h
theorem it_base {b b' m : Int} (h : b ≤ b') (k : Nat) : it b m k ≤ it b' m k := by
  induction k with
  | zero => exact h
  | succ k ih => rw [it_succ, it_succ]; omega
theorem it_most {b m m' : Int} (h : m ≤ m') (k : Nat) : it b m k ≤ it b m' k := by
  induction k with
  | zero => exact Int.le_refl _
  | succ k ih => rw [it_succ, it_succ]; omega
theorem it_double (b m : Int) (k : Nat) : it (2 * b) (2 * m) k = 2 * it b m k := by
  induction k with
  | zero => rfl
  | succ k ih => rw [it_succ, it_succ, ih]; omega
/-- The delay behind n starts. -/
def after (b m : Int) (n : Nat) : Int := it b m (n - 1)
theorem after_zero (b m : Int) : after b m 0 = b := rfl
theorem after_one (b m : Int) : after b m 1 = b := rfl
theorem after_succ (b m : Int) {n : Nat} (h : 1 ≤ n) : after b m (n + 1) = min (2 * after b m n) m := by
  unfold after
  rw [show n + 1 - 1 = (n - 1) + 1 by omega, it_succ]
end Go.Proofs.Ythhmfebnnkcmmaa.De
