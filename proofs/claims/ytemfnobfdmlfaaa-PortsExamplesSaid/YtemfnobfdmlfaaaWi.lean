/-
  The chapter's examples (awake).
-/
import Derived.Test.YtemfnobfdmlfaaaWh
namespace Go.Proofs.Ytemfnobfdmlfaaa.In
open Go.RowKit Go.Proofs.Ytemfnobfdmlfaaa.Mem Go.Proofs.Ytemfnobfdmlfaaa.Po Go.ChangeShapes Go.WideShapes Go.ChangeAt

instance (l : List Int) : Decidable (Fit l) := inferInstanceAs (Decidable (∀ x ∈ l, isI x))
theorem lit_at (W : World) (l : List Int) (hf : Fit l) (hl : l.length ≤ 1000) : At (W.alloc (.cells (l.map encZ).toArray 3)) (some ⟨W.heap.size, 0, none⟩) l.length l.length l :=
  (New.lit (B := 0) W (Nat.zero_le _) l hf (by unfold maxLen; omega)).at
theorem aw_check0 (W : World) : Calls Try.prog 13 #[.slice (some ⟨W.heap.size, 0, none⟩) 2 2] (W.alloc (.cells #[.int .i64 80, .int .i64 443] 3)) fun e w' => e = .returned (.int .i64 0) ∧ Kept W w' :=
  (check_c (lit_at W [80, 443] (by decide) (by decide))).mono fun e w' h => ⟨by rw [h.1]; rfl, ((Kept.refl W).alloc _).trans h.2⟩
theorem aw_check1 (W : World) : Calls Try.prog 13 #[.slice (some ⟨W.heap.size, 0, none⟩) 2 2] (W.alloc (.cells #[.int .i64 443, .int .i64 80] 3)) fun e w' => e = .returned (.int .i64 13) ∧ Kept W w' :=
  (check_c (lit_at W [443, 80] (by decide) (by decide))).mono fun e w' h => ⟨by rw [h.1]; rfl, ((Kept.refl W).alloc _).trans h.2⟩
theorem aw_check2 (W : World) : Calls Try.prog 13 #[.slice (some ⟨W.heap.size, 0, none⟩) 1 1] (W.alloc (.cells #[.int .i64 0] 3)) fun e w' => e = .returned (.int .i64 3) ∧ Kept W w' :=
  (check_c (lit_at W [0] (by decide) (by decide))).mono fun e w' h => ⟨by rw [h.1]; rfl, ((Kept.refl W).alloc _).trans h.2⟩
theorem aw_check3 (W : World) : Calls Try.prog 13 #[.slice (some ⟨W.heap.size, 0, none⟩) 9 9] (W.alloc (.cells #[.int .i64 1, .int .i64 2, .int .i64 3, .int .i64 4, .int .i64 5, .int .i64 6, .int .i64 7, .int .i64 8, .int .i64 9] 3)) fun e w' => e = .returned (.int .i64 5) ∧ Kept W w' :=
  (check_c (lit_at W [1, 2, 3, 4, 5, 6, 7, 8, 9] (by decide) (by decide))).mono fun e w' h => ⟨by rw [h.1]; rfl, ((Kept.refl W).alloc _).trans h.2⟩
theorem aw_meet (W : World) : Calls Try.prog 10 #[.slice (some ⟨W.heap.size, 0, none⟩) 3 3, .slice (some ⟨W.heap.size + 1, 0, none⟩) 4 4] ((W.alloc (.cells #[.int .i64 1, .int .i64 5, .int .i64 9] 3)).alloc (.cells #[.int .i64 9, .int .i64 3, .int .i64 5, .int .i64 5] 3)) fun e w' => ∃ ro s d, e = .returned (.slice ro s d) ∧ At w' ro s d [5, 9] ∧ Kept W w' := by
  have h2 := lit_at (W.alloc (.cells #[.int .i64 1, .int .i64 5, .int .i64 9] 3)) [9, 3, 5, 5] (by decide) (by decide)
  rw [size_alloc1] at h2
  refine (meet_c ((lit_at W [1, 5, 9] (by decide) (by decide)).kept ((Kept.refl _).alloc _)) h2 (by decide) (by decide)).mono ?_
  rintro e w' ⟨ro, s, d, rfl, hn, hk⟩
  have hat := hn.at
  rw [show meet [1, 5, 9] [9, 3, 5, 5] = [5, 9] by decide] at hat
  exact ⟨ro, s, d, rfl, hat, (((Kept.refl W).alloc _).alloc _).trans hk⟩
theorem aw_union (W : World) : Calls Try.prog 18 #[.slice (some ⟨W.heap.size + 2, 0, none⟩) 2 2] (((W.alloc (.cells #[.int .i64 3, .int .i64 1] 3)).alloc (.cells #[.int .i64 2, .int .i64 3] 3)).alloc (.cells #[.slice (some ⟨W.heap.size, 0, none⟩) 2 2, .slice (some ⟨W.heap.size + 1, 0, none⟩) 2 2] 22)) fun e w' => ∃ ro s d, e = .returned (.slice ro s d) ∧ At w' ro s d [1, 2, 3] ∧ Kept W w' := by
  have h2 := lit_at (W.alloc (.cells #[.int .i64 3, .int .i64 1] 3)) [2, 3] (by decide) (by decide)
  rw [size_alloc1] at h2
  have h3 := Ats.two ((lit_at W [3, 1] (by decide) (by decide)).kept ((Kept.refl _).alloc (.cells #[.int .i64 2, .int .i64 3] 3))) h2
  rw [size_alloc1, size_alloc1] at h3
  refine (union_c h3 (by decide)).mono ?_
  rintro e w' ⟨ro, s, d, rfl, hn, hk⟩
  have hat := hn.at
  rw [show union [[3, 1], [2, 3]] = [1, 2, 3] by decide] at hat
  exact ⟨ro, s, d, rfl, hat, ((((Kept.refl W).alloc _).alloc _).alloc _).trans hk⟩
theorem aw_has (W : World) : Calls Try.prog 15 #[.slice (some ⟨W.heap.size, 0, none⟩) 2 2, .int .i64 5] (W.alloc (.cells #[.int .i64 1, .int .i64 5] 3)) fun e w' => e = .returned (.bool true) ∧ Kept W w' :=
  (has_c (lit_at W [1, 5] (by decide) (by decide)) 5).mono fun e w' h => ⟨by rw [h.1]; rfl, ((Kept.refl W).alloc _).trans h.2⟩
theorem aw_not (W : World) : Calls Try.prog 15 #[.slice none 0 0, .int .i64 5] W fun e w' => e = .returned (.bool false) ∧ Kept W w' :=
  (has_c (At.empty W) 5).mono fun e w' h => ⟨by rw [h.1]; rfl, h.2⟩
theorem aw_eq5 (W : World) (ro : Option Addr) (s d : Nat) (h : At W ro s d [5, 9]) : Calls Try.prog 11 #[.slice ro s d, .slice (some ⟨W.heap.size, 0, none⟩) 2 2] (W.alloc (.cells #[.int .i64 5, .int .i64 9] 3)) fun e w' => e = .returned (.bool true) ∧ Kept W w' :=
  (eq_c (h.kept ((Kept.refl _).alloc _)) (lit_at W [5, 9] (by decide) (by decide)) rfl).mono fun e w' h => ⟨h.1, ((Kept.refl W).alloc _).trans h.2⟩
theorem aw_eq7 (W : World) (ro : Option Addr) (s d : Nat) (h : At W ro s d [1, 2, 3]) : Calls Try.prog 11 #[.slice ro s d, .slice (some ⟨W.heap.size, 0, none⟩) 3 3] (W.alloc (.cells #[.int .i64 1, .int .i64 2, .int .i64 3] 3)) fun e w' => e = .returned (.bool true) ∧ Kept W w' :=
  (eq_c (h.kept ((Kept.refl _).alloc _)) (lit_at W [1, 2, 3] (by decide) (by decide)) rfl).mono fun e w' h => ⟨h.1, ((Kept.refl W).alloc _).trans h.2⟩
set_option maxHeartbeats 4000000 in
set_option maxRecDepth 100000 in
theorem awake_c (w : World) : Calls Try.prog 17 #[] w fun e w' => e = .returned (.bool true) ∧ Kept w w' := by
  go_enter Try.func17, Try.ntmps17
  go_wp2_with (first
    | (go_at_call 13; first
      | ((with_reducible refine (aw_check0 _).mono ?_); rintro e w1 ⟨rfl, k1⟩)
      | ((with_reducible refine (aw_check1 _).mono ?_); rintro e w2 ⟨rfl, k2⟩)
      | ((with_reducible refine (aw_check2 _).mono ?_); rintro e w3 ⟨rfl, k3⟩)
      | ((with_reducible refine (aw_check3 _).mono ?_); rintro e w4 ⟨rfl, k4⟩))
    | (go_at_call 10; (with_reducible refine (aw_meet _).mono ?_); rintro e w5 ⟨ro5, s5, d5, rfl, h5, k5⟩)
    | (go_at_call 18; (with_reducible refine (aw_union _).mono ?_); rintro e w7 ⟨ro7, s7, d7, rfl, h7, k7⟩)
    | (go_at_call 11; first
      | ((with_reducible refine (aw_eq5 _ _ _ _ h5).mono ?_); rintro e w6 ⟨rfl, k6⟩)
      | ((with_reducible refine (aw_eq7 _ _ _ _ h7).mono ?_); rintro e w8 ⟨rfl, k8⟩))
    | (go_at_call 15; first
      | ((with_reducible refine (aw_has _).mono ?_); rintro e w9 ⟨rfl, k9⟩)
      | ((with_reducible refine (aw_not _).mono ?_); rintro e wa ⟨rfl, ka⟩)))
  go_ret
  exact ⟨rfl, k1.trans (k2.trans (k3.trans (k4.trans (k5.trans (k6.trans (k7.trans (k8.trans (k9.trans ka))))))))⟩
end Go.Proofs.Ytemfnobfdmlfaaa.In
