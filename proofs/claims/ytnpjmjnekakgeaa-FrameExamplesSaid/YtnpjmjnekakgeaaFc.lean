/-
  What the calls of package frame do that write a sector.
-/
import Derived.Test.YtnpjmjnekakgeaaPq
import Derived.Test.YtnpjmjnekakgeaaCk
import Derived.Test.YtnpjmjnekakgeaaFp
import Derived.Test.YtnpjmjnekakgeaaSr
namespace Go.Proofs.Ytnpjmjnekakgeaa.Fk
open Go.RowKit Go.Proofs.Ytnpjmjnekakgeaa.Mem Go.Proofs.Ytnpjmjnekakgeaa.Pk

theorem between_c (n a b : Int) (w : World) : Calls Try.prog 28 #[.int .i64 n, .int .i64 a, .int .i64 b] w fun e w' => e = .returned (.bool (btw n a b)) ∧ w = w' := by
  unfold btw
  go_enter Try.func28, Try.ntmps28
  go_wp2
  all_goals
    go_ret
    exact ⟨by simp [*] <;> omega, rfl⟩

theorem fixed_n (n k : Nat) (h : n < 9223372036854775808) (h1 : 1 ≤ k) (h8 : k ≤ 8) (hw : n < 256 ^ k) (w : World) :
    Calls Try.prog 29 #[.int .i64 n, .int .i64 k] w fun e w' => e = .returned (.string (str (be n k))) ∧ Kept w w' := by
  have hc : ∀ w, Calls Try.prog 15 #[.int .u64 n, .int .i64 k] w fun e w' => e = .returned (.tuple #[.string (str (be n k)), .int .i64 0]) ∧ Kept w w' :=
    fixed_ok n k (by unfold U64; omega) h1 h8 (wd_least h1 h8 hw)
  obtain ⟨S, hS⟩ : ∃ S, S = str (be n k) := ⟨_, rfl⟩
  rw [← hS] at hc ⊢
  clear hS hw
  go_enter Try.func29, Try.ntmps29
  go_wp2_with (go_at_call 15; (with_reducible refine (hc _).mono ?_); rintro e w' ⟨rfl, hk⟩)
  go_ret
  exact ⟨rfl, hk⟩
theorem fixed_i (n : Int) (k : Nat) (h0 : 0 ≤ n) (h : n.toNat < 9223372036854775808) (h1 : 1 ≤ k) (h8 : k ≤ 8) (hw : n.toNat < 256 ^ k) (w : World) :
    Calls Try.prog 29 #[.int .i64 n, .int .i64 k] w fun e w' => e = .returned (.string (str (be n.toNat k))) ∧ Kept w w' := by
  have := fixed_n n.toNat k h h1 h8 hw w
  rwa [Int.toNat_of_nonneg h0] at this

/-- numbered. -/
theorem numbered_c (f : Fr) (w : World) :
    Calls Try.prog 17 #[.agg #[.int .i64 f.boot, .int .i64 f.lsn, .int .i64 f.part, .int .i64 f.parts, .int .u8 f.kind, .string f.data]] w fun e w' => e = .returned (.bool f.nums) ∧ Kept w w' := by
  obtain ⟨b, l, p, q, k, d⟩ := f
  unfold Fr.nums
  dsimp only
  have hk0 := Kept.alloc (Kept.refl w) (.cells #[.int .i64 b, .int .i64 l, .int .i64 p, .int .i64 q, .int .u8 k, .string d] 23)
  have cb := fun w => between_c b 1 4294967295 w
  have cl := fun w => between_c l 1 281474976710655 w
  have cq := fun w => between_c q 1 255 w
  have cp := fun w => between_c p 0 (q - 1) w
  obtain ⟨B, hB⟩ : ∃ B, B = btw b 1 4294967295 := ⟨_, rfl⟩
  obtain ⟨L, hL⟩ : ∃ L, L = btw l 1 281474976710655 := ⟨_, rfl⟩
  obtain ⟨Q, hQ⟩ : ∃ Q, Q = btw q 1 255 := ⟨_, rfl⟩
  obtain ⟨P, hP⟩ : ∃ P, P = btw p 0 (q - 1) := ⟨_, rfl⟩
  rw [← hB, ← hL, ← hQ, ← hP]
  rw [← hB] at cb; rw [← hL] at cl; rw [← hQ] at cq; rw [← hP] at cp
  clear hB hL hP
  cases Q with
  | true =>
    obtain ⟨q1, q2⟩ := btw_iff.mp hQ.symm
    clear hQ
    cases B <;> cases L <;> cases P
    all_goals
      go_enter Try.func17, Try.ntmps17
      go_wp2_with (first
        | (go_at_call 28; (with_reducible refine (cb _).mono ?_); rintro e w' ⟨rfl, rfl⟩)
        | (go_at_call 28; (with_reducible refine (cl _).mono ?_); rintro e w' ⟨rfl, rfl⟩)
        | (go_at_call 28; (with_reducible refine (cq _).mono ?_); rintro e w' ⟨rfl, rfl⟩)
        | (go_at_call 28; (with_reducible refine (cp _).mono ?_); rintro e w' ⟨rfl, rfl⟩))
      go_ret
      exact ⟨rfl, hk0⟩
  | false =>
    clear hQ cp
    cases B <;> cases L
    all_goals
      go_enter Try.func17, Try.ntmps17
      go_wp2_with (first
        | (go_at_call 28; (with_reducible refine (cb _).mono ?_); rintro e w' ⟨rfl, rfl⟩)
        | (go_at_call 28; (with_reducible refine (cl _).mono ?_); rintro e w' ⟨rfl, rfl⟩)
        | (go_at_call 28; (with_reducible refine (cq _).mono ?_); rintro e w' ⟨rfl, rfl⟩))
      go_ret
      exact ⟨rfl, hk0⟩
end Go.Proofs.Ytnpjmjnekakgeaa.Fk
