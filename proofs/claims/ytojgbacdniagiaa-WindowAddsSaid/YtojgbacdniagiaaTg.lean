/-
  WindowAdds, for any starts given by their distances.
-/
import Derived.Test.YtojgbacdniagiaaTe
import Derived.Test.YtojgbacdniagiaaTz
import Derived.Deep.CutBlock
import Derived.Deep.CutRange
namespace Go.Proofs.Ytojgbacdniagiaa.Wi
open Go.RowKit Go.Proofs.Ytojgbacdniagiaa.Mem Go.Proofs.Ytojgbacdniagiaa.Bx Go.Proofs.Ytojgbacdniagiaa.In Go.ChangeShapes Go.WideShapes Go.ChangeAt
set_option linter.unusedVariables false

/-- What the law asks of the starts l, the tick and the start behind it. -/
theorem adds_fact {l : List Int} (hg : Good l) {V T t s : Int} (h1 : 1 ≤ V) (h2 : V ≤ 200) (h3 : 1 ≤ T) (h4 : T ≤ 9) (ht : 0 ≤ t) (ht2 : t ≤ 5000) (hs : t ≤ s) (hs2 : s ≤ 6000) (hl : ∀ x ∈ l, x ≤ t) :
    ∃ (q r : Bool) (C : Nat), (∀ {u : World} {bo : Option Addr} {n c : Nat}, At u bo n c l → Calls Try.prog 14 #[.slice bo n c, .int .i64 V, .int .i64 T] u fun e w' => e = .returned (.tuple #[.bool q, .int .i64 0]) ∧ Kept u w') ∧
      (∀ {u : World} {bo : Option Addr} {n c : Nat}, At u bo n c l → Calls Try.prog 10 #[.slice bo n c, .int .i64 V, .int .i64 t] u fun e w' => e = .returned (.tuple #[.int .i64 (C : Int), .int .i64 0]) ∧ Kept u w') ∧
      (∀ {u : World} {bo : Option Addr} {n c : Nat}, At u bo n c (l ++ [s]) → Calls Try.prog 14 #[.slice bo n c, .int .i64 V, .int .i64 T] u fun e w' => e = .returned (.tuple #[.bool r, .int .i64 0]) ∧ Kept u w') ∧
      (q = true → ¬ T ≤ (C : Int) → r = true) := by
  have e1 : errM l V T = 0 := errM_ok hg h1 (by omega) (by omega)
  have e2 : errT l V t = 0 := errT_ok hg h1 (by omega) ht (by omega)
  have hg2 : Good (l ++ [s]) := (hg.snoc hl hs (by omega) (by omega)).1
  have e3 : errM (l ++ [s]) V T = 0 := errM_ok hg2 h1 (by omega) (by omega)
  refine ⟨withinV l V T, withinV (l ++ [s]) V T, cnt l V t, fun h => ?_, fun h => ?_, fun h => ?_, fun hq hc => ?_⟩
  · have := within_c h V T; rwa [e1] at this
  · have := count_c h V t; rwa [e2, countV_ok e2] at this
  · have := within_c h V T; rwa [e3] at this
  · rw [withinV_ok e1, decide_eq_true_eq] at hq
    rw [withinV_ok e3, decide_eq_true_eq]
    exact within_add hq hl hs (by omega)
set_option maxHeartbeats 8000000 in
set_option maxRecDepth 100000 in
theorem adds_core (w : World) (ao : Option Addr) (n cap : Nat) (g : List Int) (v m : Int) (d : Duo) (hA : At w ao n cap g) :
    Calls Try.prog 7 #[.slice ao n cap, .int .i64 v, .int .i64 m, .agg #[.int .i64 d.x, .int .i64 d.y]] w fun e w' => e = .returned (.bool true) ∧ Kept w w' := by
  obtain ⟨x0, x1⟩ := d
  obtain ⟨V, V1, V2, hV⟩ := mod_c v 200 (by omega) (by omega)
  obtain ⟨T, T1, T2, hT⟩ := mod_c m 9 (by omega) (by omega)
  obtain ⟨P, P1, P2, hP⟩ := mod_c x0 100 (by omega) (by omega)
  obtain ⟨R, R1, R2, hR⟩ := mod_c x1 100 (by omega) (by omega)
  have haw := awake_c
  have h0 := (Mem.Own.nil w).box #[.int .i64 x0, .int .i64 x1] 38
  have hst := starts_c (hA.kept h0.kept)
  simp only []
  clear hA
  go_enter Try.func7, Try.ntmps7
  go_upto_region 3 with (first
    | (go_at_call 18; (with_reducible refine hst.mono ?_); rintro e w1 ⟨bo, c, l, rfl, hn, hg, hb, h40, k1⟩; have h1 := h0.later k1)
    | (go_at_call 19; first
      | ((with_reducible refine (hV _).mono ?_); rintro e w2 ⟨rfl, hw2⟩; obtain rfl := hw2)
      | ((with_reducible refine (hT _).mono ?_); rintro e w3 ⟨rfl, hw3⟩; obtain rfl := hw3)))
  clear h0 k1
  obtain ⟨L, hL⟩ : ∃ L, L = l.length := ⟨_, rfl⟩
  rw [← hL] at hn h40 ⊢
  have HL := Lib.hid hL
  clear hL
  have hb' := hb
  have h1' := h1.kept
  replace hn := hn.base (show w.heap.size ≤ (w.alloc (.cells #[.int .i64 x0, .int .i64 x1] 38)).heap.size by simp)
  obtain ⟨⟨a0, _⟩, _⟩ := box2 (h1.boxed 0 rfl)
  clear hb' h1'
  by_cases hz : L = 0
  · have hall : ∀ x ∈ l, x ≤ P - 1 := fun x hx => by rw [List.eq_nil_of_length_eq_zero (HL.out.symm.trans hz)] at hx; simp at hx
    obtain ⟨t, ht⟩ : ∃ t, P - 1 = t := ⟨_, rfl⟩
    rw [ht] at hall
    have hz3 : decide (0 < (L : Int)) = false := decide_eq_false (by omega)
    have hz4 : decide (0 < L) = false := decide_eq_false (by omega)
    clear hz
    obtain ⟨q, r, C, c1, c2, c3, hqr⟩ := adds_fact hg V1 V2 T1 T2 (t := t) (s := t + R - 1) (by omega) (by omega) (by omega) (by omega) hall
    have HC := Lib.hid (And.intro @c1 (And.intro @c2 @c3))
    have HR := Lib.hid hqr
    have HF := Lib.hid (And.intro hg hall)
    clear c1 c2 c3 hqr hg hall
    have hs : isI (t + R - 1) := ⟨by omega, by omega⟩
    have HN := Lib.hid hn
    clear hn
    obtain ⟨qc, hqc⟩ : ∃ qc, decide (T ≤ (C : Int)) = qc := ⟨_, rfl⟩
    have HQ := Lib.hid hqc
    cases q <;> cases qc <;> cases r
    all_goals first
      | exact absurd (HR.out rfl (of_decide_eq_false HQ.out)) Bool.false_ne_true
      | (
        go_wp2_with (first
          | (go_at_call 14; first
            | ((with_reducible refine (HC.out.1 HN.out.at).mono ?_); rintro e u1 ⟨rfl, k1⟩; have H1 := Lib.hid (h1.later k1); have N1 := Lib.hid (HN.out.kept k1); clear k1)
            | ((with_reducible refine (HC.out.2.2 N3.out).mono ?_); rintro e u4 ⟨rfl, k4⟩; have H4 := Lib.hid (H3.out.trans k4); clear k4))
          | (go_at_call 10; (with_reducible refine (HC.out.2.1 N1.out.at).mono ?_); rintro e u2 ⟨rfl, k2⟩; have H2 := Lib.hid (H1.out.later k2); have N2 := Lib.hid (N1.out.kept k2); obtain ⟨⟨_, a1⟩, _⟩ := box2 (H2.out.boxed 0 rfl); clear k2)
          | (go_at_call 19; first | ((with_reducible refine (hP _).mono ?_); rintro e u0 ⟨rfl, hu0⟩; obtain rfl := hu0) | ((with_reducible refine (hR _).mono ?_); rintro e u3 ⟨rfl, hu3⟩; obtain rfl := hu3))
          | (at_builtin; (refine wpList_app (N := L + 1) (N2.out.kept ((Kept.refl _).alloc _)) (New.lit _ (Nat.zero_le _) [t + R - 1] (fun y hy => by rw [List.mem_singleton] at hy; subst hy; exact hs) (by simp [maxLen])).at (Nat.le_trans H2.out.kept.size (by simp)) rfl (by omega) rfl _ _ rfl rfl rfl ?_; intro bo' c' w5 m5 g5 f5; have H3 := Lib.hid (f5 w (Nat.le_refl _) (H2.out.kept.alloc _)); have N3 := Lib.hid m5.at; clear m5 g5 f5))
          | (go_at_call 17; (with_reducible refine (haw _).mono ?_); rintro e u6 ⟨rfl, k6⟩))
        go_ret
        exact ⟨rfl, H4.out.trans k6⟩)
  · obtain ⟨y, b, o, hy, ⟨y1, y2⟩, rfl, hbl, hcy⟩ := hn.at.get (show L - 1 < L by omega)
    rw [HL.out] at hy
    have hy3 := last_all hg hy
    have hy4 : 0 ≤ y := (hg.1 y (List.mem_of_getElem? hy)).1
    have hy5 : y ≤ 4000 := hb y (List.mem_of_getElem? hy)
    have hall : ∀ x ∈ l, x ≤ P - 1 + y := fun x hx => by have := hy3 x hx; omega
    obtain ⟨t, ht⟩ : ∃ t, P - 1 + y = t := ⟨_, rfl⟩
    rw [ht] at hall
    have hz3 : decide (0 < (L : Int)) = true := decide_eq_true (by omega)
    have hz4 : decide (0 < L) = true := decide_eq_true (by omega)
    obtain ⟨K, hK⟩ : ∃ K : Nat, (L : Int) - 1 = (K : Int) := ⟨L - 1, by omega⟩
    rw [show L - 1 = K by omega] at hcy
    have hk0 : (0 : Int) ≤ (K : Int) := by omega
    have hk1 : (K : Int) < (L : Int) := by omega
    clear hy hy3
    obtain ⟨q, r, C, c1, c2, c3, hqr⟩ := adds_fact hg V1 V2 T1 T2 (t := t) (s := t + R - 1) (by omega) (by omega) (by omega) (by omega) hall
    have HC := Lib.hid (And.intro @c1 (And.intro @c2 @c3))
    have HR := Lib.hid hqr
    have HF := Lib.hid (And.intro hg hall)
    clear c1 c2 c3 hqr hg hall
    have hs : isI (t + R - 1) := ⟨by omega, by omega⟩
    have HN := Lib.hid hn
    clear hn
    obtain ⟨qc, hqc⟩ : ∃ qc, decide (T ≤ (C : Int)) = qc := ⟨_, rfl⟩
    have HQ := Lib.hid hqc
    cases q <;> cases qc <;> cases r
    all_goals first
      | exact absurd (HR.out rfl (of_decide_eq_false HQ.out)) Bool.false_ne_true
      | (
        go_wp2_with (first
          | (go_at_call 14; first
            | ((with_reducible refine (HC.out.1 HN.out.at).mono ?_); rintro e u1 ⟨rfl, k1⟩; have H1 := Lib.hid (h1.later k1); have N1 := Lib.hid (HN.out.kept k1); clear k1)
            | ((with_reducible refine (HC.out.2.2 N3.out).mono ?_); rintro e u4 ⟨rfl, k4⟩; have H4 := Lib.hid (H3.out.trans k4); clear k4))
          | (go_at_call 10; (with_reducible refine (HC.out.2.1 N1.out.at).mono ?_); rintro e u2 ⟨rfl, k2⟩; have H2 := Lib.hid (H1.out.later k2); have N2 := Lib.hid (N1.out.kept k2); obtain ⟨⟨_, a1⟩, _⟩ := box2 (H2.out.boxed 0 rfl); clear k2)
          | (go_at_call 19; first | ((with_reducible refine (hP _).mono ?_); rintro e u0 ⟨rfl, hu0⟩; obtain rfl := hu0) | ((with_reducible refine (hR _).mono ?_); rintro e u3 ⟨rfl, hu3⟩; obtain rfl := hu3))
          | (at_builtin; (refine wpList_app (N := L + 1) (N2.out.kept ((Kept.refl _).alloc _)) (New.lit _ (Nat.zero_le _) [t + R - 1] (fun y hy => by rw [List.mem_singleton] at hy; subst hy; exact hs) (by simp [maxLen])).at (Nat.le_trans H2.out.kept.size (by simp)) rfl (by omega) rfl _ _ rfl rfl rfl ?_; intro bo' c' w5 m5 g5 f5; have H3 := Lib.hid (f5 w (Nat.le_refl _) (H2.out.kept.alloc _)); have N3 := Lib.hid m5.at; clear m5 g5 f5))
          | (go_at_call 17; (with_reducible refine (haw _).mono ?_); rintro e u6 ⟨rfl, k6⟩))
        go_ret
        exact ⟨rfl, H4.out.trans k6⟩)
end Go.Proofs.Ytojgbacdniagiaa.Wi
