/-
  Layer 12: the chapter's examples (awake).
-/
import Derived.Test.YtojgbacdniagiaaTp
import Derived.Test.YtojgbacdniagiaaTd
namespace Go.Proofs.Ytojgbacdniagiaa.Wi
open Go.RowKit Go.Proofs.Ytojgbacdniagiaa.Mem Go.Proofs.Ytojgbacdniagiaa.Bx Go.Proofs.Ytojgbacdniagiaa.In Go.ChangeShapes Go.WideShapes Go.ChangeAt
set_option linter.unusedVariables false

theorem lit_at (w : World) (l : List Int) (hf : Fit l) (hl : l.length ≤ maxLen) : At (w.alloc (.cells (l.map encZ).toArray 3)) (some ⟨w.heap.size, 0, none⟩) l.length l.length l := (New.lit w (Nat.zero_le _) l hf hl).at
theorem fit_small {l : List Int} (h : ∀ x ∈ l, -1000 ≤ x ∧ x ≤ 1000) : Fit l := fun x hx => by have := h x hx; constructor <;> omega
/-- A few numbers, just written out. -/
theorem new_at {w W : World} {l : List Int} (hf : ∀ x ∈ l, -1000 ≤ x ∧ x ≤ 1000) (hl : l.length ≤ 100) {n : Nat} (hn : n = l.length) (e : W = w.alloc (.cells (l.map encZ).toArray 3)) : At W (some ⟨w.heap.size, 0, none⟩) n n l := by
  subst hn; subst e; exact lit_at w l (fit_small hf) (by unfold maxLen; omega)
theorem aw1 {w : World} {ao : Option Addr} {cap : Nat} (h : At w ao 4 cap [1, 5, 5, 9]) : Calls Try.prog 10 #[.slice ao 4 cap, .int .i64 5, .int .i64 9] w fun e w' => e = .returned (.tuple #[.int .i64 3, .int .i64 0]) ∧ Kept w w' := by
  have := count_c h 5 9
  rwa [show countV [1, 5, 5, 9] 5 9 = 3 by decide, show errT [1, 5, 5, 9] 5 9 = 0 by decide] at this
theorem aw2 {w : World} {ao : Option Addr} {cap : Nat} (h : At w ao 4 cap [1, 5, 5, 9]) : Calls Try.prog 10 #[.slice ao 4 cap, .int .i64 4, .int .i64 9] w fun e w' => e = .returned (.tuple #[.int .i64 1, .int .i64 0]) ∧ Kept w w' := by
  have := count_c h 4 9
  rwa [show countV [1, 5, 5, 9] 4 9 = 1 by decide, show errT [1, 5, 5, 9] 4 9 = 0 by decide] at this
theorem aw3 (w : World) : Calls Try.prog 12 #[.slice (some ⟨w.heap.size, 0, none⟩) 3 3, .int .i64 4, .int .i64 9] (w.alloc (.cells #[.int .i64 1, .int .i64 5, .int .i64 9] 3)) fun e w' => ∃ bo m c, e = .returned (.tuple #[.slice bo m c, .int .i64 0]) ∧ At w' bo m c [9] ∧ Kept w w' := by
  have := keep_c (new_at (w := w) (l := [1, 5, 9]) (by decide) (by decide) rfl rfl) (by decide) 4 9
  rw [show keepV [1, 5, 9] 4 9 = [9] by decide, show errT [1, 5, 9] 4 9 = 0 by decide] at this
  exact this.mono fun e w' ⟨bo, m, c, he, hn, hk⟩ => ⟨bo, m, c, he, hn.at, ((Kept.refl w).alloc _).trans hk⟩
theorem aw4 (w : World) : Calls Try.prog 12 #[.slice (some ⟨w.heap.size, 0, none⟩) 2 2, .int .i64 2, .int .i64 50] (w.alloc (.cells #[.int .i64 1, .int .i64 5] 3)) fun e w' => ∃ bo m c, e = .returned (.tuple #[.slice bo m c, .int .i64 0]) ∧ At w' bo m c [5] ∧ Kept w w' := by
  have := keep_c (new_at (w := w) (l := [1, 5]) (by decide) (by decide) rfl rfl) (by decide) 2 50
  rw [show keepV [1, 5] 2 50 = [5] by decide, show errT [1, 5] 2 50 = 0 by decide] at this
  exact this.mono fun e w' ⟨bo, m, c, he, hn, hk⟩ => ⟨bo, m, c, he, hn.at, ((Kept.refl w).alloc _).trans hk⟩
theorem aw5 (w : World) : Calls Try.prog 14 #[.slice (some ⟨w.heap.size, 0, none⟩) 3 3, .int .i64 4, .int .i64 1] (w.alloc (.cells #[.int .i64 1, .int .i64 5, .int .i64 9] 3)) fun e w' => e = .returned (.tuple #[.bool true, .int .i64 0]) ∧ Kept w w' := by
  have := within_c (new_at (w := w) (l := [1, 5, 9]) (by decide) (by decide) rfl rfl) 4 1
  rw [show withinV [1, 5, 9] 4 1 = true by decide, show errM [1, 5, 9] 4 1 = 0 by decide] at this
  exact this.mono fun e w' ⟨he, hk⟩ => ⟨he, ((Kept.refl w).alloc _).trans hk⟩
theorem aw6 (w : World) : Calls Try.prog 14 #[.slice (some ⟨w.heap.size, 0, none⟩) 3 3, .int .i64 5, .int .i64 1] (w.alloc (.cells #[.int .i64 1, .int .i64 5, .int .i64 9] 3)) fun e w' => e = .returned (.tuple #[.bool false, .int .i64 0]) ∧ Kept w w' := by
  have := within_c (new_at (w := w) (l := [1, 5, 9]) (by decide) (by decide) rfl rfl) 5 1
  rw [show withinV [1, 5, 9] 5 1 = false by decide, show errM [1, 5, 9] 5 1 = 0 by decide] at this
  exact this.mono fun e w' ⟨he, hk⟩ => ⟨he, ((Kept.refl w).alloc _).trans hk⟩
theorem aw7 (w : World) : Calls Try.prog 10 #[.slice (some ⟨w.heap.size, 0, none⟩) 2 2, .int .i64 2, .int .i64 9] (w.alloc (.cells #[.int .i64 5, .int .i64 1] 3)) fun e w' => e = .returned (.tuple #[.int .i64 0, .int .i64 13]) ∧ Kept w w' := by
  have := count_c (new_at (w := w) (l := [5, 1]) (by decide) (by decide) rfl rfl) 2 9
  rw [show countV [5, 1] 2 9 = 0 by decide, show errT [5, 1] 2 9 = 13 by decide] at this
  exact this.mono fun e w' ⟨he, hk⟩ => ⟨he, ((Kept.refl w).alloc _).trans hk⟩
theorem aw8 (w : World) : Calls Try.prog 10 #[.slice (some ⟨w.heap.size, 0, none⟩) 1 1, .int .i64 0, .int .i64 9] (w.alloc (.cells #[.int .i64 1] 3)) fun e w' => e = .returned (.tuple #[.int .i64 0, .int .i64 3]) ∧ Kept w w' := by
  have := count_c (new_at (w := w) (l := [1]) (by decide) (by decide) rfl rfl) 0 9
  rw [show countV [1] 0 9 = 0 by decide, show errT [1] 0 9 = 3 by decide] at this
  exact this.mono fun e w' ⟨he, hk⟩ => ⟨he, ((Kept.refl w).alloc _).trans hk⟩
theorem aw9 {w : World} {ao : Option Addr} {n cap : Nat} (h : At w ao n cap [9]) : Calls Try.prog 16 #[.slice ao n cap, .slice (some ⟨w.heap.size, 0, none⟩) 1 1] (w.alloc (.cells #[.int .i64 9] 3)) fun e w' => e = .returned (.bool true) ∧ Kept w w' :=
  (eq_c (h.kept ((Kept.refl w).alloc _)) (new_at (w := w) (l := [9]) (by decide) (by decide) rfl rfl) rfl).mono fun e w' ⟨he, hk⟩ => ⟨he, ((Kept.refl w).alloc _).trans hk⟩
theorem aw10 {w : World} {ao : Option Addr} {n cap : Nat} (h : At w ao n cap [5]) : Calls Try.prog 16 #[.slice ao n cap, .slice (some ⟨w.heap.size, 0, none⟩) 1 1] (w.alloc (.cells #[.int .i64 5] 3)) fun e w' => e = .returned (.bool true) ∧ Kept w w' :=
  (eq_c (h.kept ((Kept.refl w).alloc _)) (new_at (w := w) (l := [5]) (by decide) (by decide) rfl rfl) rfl).mono fun e w' ⟨he, hk⟩ => ⟨he, ((Kept.refl w).alloc _).trans hk⟩
set_option maxRecDepth 100000 in
set_option maxHeartbeats 4000000 in
theorem awake_c (w : World) : Calls Try.prog 17 #[] w fun e w' => e = .returned (.bool true) ∧ Kept w w' := by
  have h0 : At (w.alloc (.cells #[.int .i64 1, .int .i64 5, .int .i64 5, .int .i64 9] 3)) (some ⟨w.heap.size, 0, none⟩) 4 4 [1, 5, 5, 9] := (new_at (w := w) (l := [1, 5, 5, 9]) (by decide) (by decide) rfl rfl)
  have k0 : Kept w (w.alloc (.cells #[.int .i64 1, .int .i64 5, .int .i64 5, .int .i64 9] 3)) := (Kept.refl w).alloc _
  go_enter Try.func17, Try.ntmps17
  go_wp2_with (first
    | (go_at_call 10; first
      | ((with_reducible refine (aw1 h0).mono ?_); rintro e w1 ⟨rfl, k1⟩; have h1 := h0.kept k1)
      | ((with_reducible refine (aw2 h1).mono ?_); rintro e w2 ⟨rfl, k2⟩)
      | ((with_reducible refine (aw7 _).mono ?_); rintro e w7 ⟨rfl, k7⟩)
      | ((with_reducible refine (aw8 _).mono ?_); rintro e w8 ⟨rfl, k8⟩))
    | (go_at_call 12; first
      | ((with_reducible refine (aw3 _).mono ?_); rintro e w3 ⟨o3, m3, c3, rfl, h3, k3⟩)
      | ((with_reducible refine (aw4 _).mono ?_); rintro e w4 ⟨o4, m4, c4, rfl, h4, k4⟩; have h3b := h3.kept k4))
    | (go_at_call 14; first
      | ((with_reducible refine (aw5 _).mono ?_); rintro e w5 ⟨rfl, k5⟩)
      | ((with_reducible refine (aw6 _).mono ?_); rintro e w6 ⟨rfl, k6⟩))
    | (go_at_call 16; first
      | ((with_reducible refine (aw9 (h3b.kept (k5.trans (k6.trans (k7.trans k8))))).mono ?_); rintro e w9 ⟨rfl, k9⟩)
      | ((with_reducible refine (aw10 (h4.kept (k5.trans (k6.trans (k7.trans (k8.trans k9)))))).mono ?_); rintro e wa ⟨rfl, ka⟩)))
  go_ret
  exact ⟨rfl, k0.trans (k1.trans (k2.trans (k3.trans (k4.trans (k5.trans (k6.trans (k7.trans (k8.trans (k9.trans ka)))))))))⟩
end Go.Proofs.Ytojgbacdniagiaa.Wi
