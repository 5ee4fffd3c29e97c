/-
  DelayScales, for any policy made valid by numbers.
-/
import Derived.Test.YthhmfebnnkcmmaaUf
namespace Go.Proofs.Ythhmfebnnkcmmaa.De
open Go.RowKit Go.Proofs.Ythhmfebnnkcmmaa.Mem Go.Proofs.Ythhmfebnnkcmmaa.Bx Go.ChangeShapes Go.WideShapes Go.ChangeAt
set_option linter.unusedVariables false

theorem sca (a b : Int) (M N : Nat) (hM : M < 1000) (hN : N < 64) : ∃ C D B A Y Z x y z u e : Int, (1 ≤ B ∧ B ≤ A ∧ A ≤ 1099511627776) ∧ (0 ≤ x ∧ x ≤ 1099511627776) ∧
    (if A < B + (M : Int) then A else B + (M : Int)) = Y ∧ (if 1099511627776 < A + (M : Int) then 1099511627776 else A + (M : Int)) = Z ∧
    (∀ w, Calls Try.prog 13 #[.int .i64 a, .int .i64 b, .int .i64 0, .int .i64 0] w fun e w' => e = .returned (.agg #[.bool false, .int .i64 C, .int .i64 D, .int .i64 B, .int .i64 A]) ∧ Kept w w') ∧
    (∀ w, Calls Try.prog 8 #[.agg #[.bool false, .int .i64 C, .int .i64 D, .int .i64 B, .int .i64 A], .int .i64 (N : Int)] w fun e w' => e = .returned (.tuple #[.int .i64 x, .int .i64 0]) ∧ Kept w w') ∧
    (∀ w, Calls Try.prog 8 #[.agg #[.bool false, .int .i64 C, .int .i64 D, .int .i64 Y, .int .i64 A], .int .i64 (N : Int)] w fun e w' => e = .returned (.tuple #[.int .i64 y, .int .i64 0]) ∧ Kept w w') ∧
    (∀ w, Calls Try.prog 8 #[.agg #[.bool false, .int .i64 C, .int .i64 D, .int .i64 B, .int .i64 Z], .int .i64 (N : Int)] w fun e w' => e = .returned (.tuple #[.int .i64 z, .int .i64 0]) ∧ Kept w w') ∧
    (∀ w, Calls Try.prog 8 #[.agg #[.bool false, .int .i64 C, .int .i64 D, .int .i64 (2 * B), .int .i64 (2 * A)], .int .i64 (N : Int)] w fun f w' => f = .returned (.tuple #[.int .i64 u, .int .i64 e]) ∧ Kept w w') ∧
    ¬ y < x ∧ ¬ z < x ∧ ((1099511627776 < 2 * A ∧ u = 0 ∧ e = 3) ∨ (¬ 1099511627776 < 2 * A ∧ u = 2 * x ∧ e = 0)) := by
  have hg := md_good a b 0 0
  have hv := valid_c a b 0 0
  have haf := after_good _ hg N (by omega)
  obtain ⟨g1, g2, g3, g4⟩ := hg
  simp only [] at g1 g2 g3 g4 haf
  generalize md b (md a 1099511627776) = B at *
  generalize md a 1099511627776 = A at *
  generalize md 0 8 = C at *
  generalize md 0 100 = D at *
  obtain ⟨Y, hY⟩ : ∃ Y, (if A < B + (M : Int) then A else B + (M : Int)) = Y := ⟨_, rfl⟩
  obtain ⟨Z, hZ⟩ : ∃ Z, (if 1099511627776 < A + (M : Int) then 1099511627776 else A + (M : Int)) = Z := ⟨_, rfl⟩
  have hY1 : B ≤ Y ∧ Y ≤ A := by rw [← hY]; split <;> omega
  have hZ1 : A ≤ Z ∧ Z ≤ 1099511627776 := by rw [← hZ]; split <;> omega
  have hx := after_bounds g4.1 g4.2 N
  have hq := after_good ⟨false, C, D, Y, A⟩ ⟨g1, g2, g3, by simp only []; omega⟩ N (by omega)
  have hs := after_good ⟨false, C, D, B, Z⟩ ⟨g1, g2, by simp only []; omega, by simp only []; omega⟩ N (by omega)
  have m1 : after B A N ≤ after Y A N := it_base hY1.1 _
  have m2 : after B A N ≤ after B Z N := it_most hZ1.1 _
  by_cases h2 : 1099511627776 < 2 * A
  · exact ⟨C, D, B, A, Y, Z, _, _, _, 0, 3, by omega, by omega, hY, hZ, hv, haf, hq, hs, after_bad ⟨false, C, D, 2 * B, 2 * A⟩ N (fun h => by have := h.2.2.1.2; simp only [] at this; omega), Int.not_lt.2 m1, Int.not_lt.2 m2, .inl ⟨h2, rfl, rfl⟩⟩
  · have ht := after_good ⟨false, C, D, 2 * B, 2 * A⟩ ⟨g1, g2, by simp only []; omega, by simp only []; omega⟩ N (by omega)
    exact ⟨C, D, B, A, Y, Z, _, _, _, _, 0, by omega, by omega, hY, hZ, hv, haf, hq, hs, ht, Int.not_lt.2 m1, Int.not_lt.2 m2, .inr ⟨h2, it_double B A _, rfl⟩⟩
set_option maxHeartbeats 8000000 in
set_option maxRecDepth 100000 in
theorem scales_core (w : World) (a b more n : Int) : Calls Try.prog 7 #[.int .i64 a, .int .i64 b, .int .i64 more, .int .i64 n] w fun e w' => e = .returned (.bool true) ∧ Kept w w' := by
  obtain ⟨N, hN, hN'⟩ := red_eq n 64 (by omega) (by omega)
  obtain ⟨M, hM, hM'⟩ := red_eq more 1000 (by omega) (by omega)
  obtain ⟨C, D, B, A, Y, Z, x, y, z, u, e, ⟨r1, r2, r3⟩, ⟨x0, x1⟩, hY, hZ, hv, c1, c2, c3, c4, yx, zx, fin⟩ := sca a b M N (by omega) (by omega)
  have haw := awake_c
  have H := Lib.hid (And.intro c1 (And.intro c2 (And.intro c3 (And.intro c4 fin))))
  clear c1 c2 c3 c4 fin
  have h0 := Mem.Own.nil w
  go_enter Try.func7, Try.ntmps7
  go_upto_region 3 with (go_at_call 13; (with_reducible refine (hv _).mono ?_); rintro e w1 ⟨rfl, k1⟩; have h1 := (h0.later k1).box #[.bool false, .int .i64 C, .int .i64 D, .int .i64 B, .int .i64 A] 23)
  have hB := h1.drew.boxed 0 rfl
  have hK := h1.drew.kept
  clear h0 h1 k1
  obtain ⟨WZ, hWZ⟩ : ∃ WZ, WZ = (w1.alloc (.cells #[.bool false, .int .i64 C, .int .i64 D, .int .i64 B, .int .i64 A] 23)).drew := ⟨_, rfl⟩
  have HZ := Lib.hid hWZ
  rw [← hWZ] at hB hK
  clear hWZ
  have HB := Lib.hid hB
  have HK := Lib.hid hK
  clear hB hK
  generalize w1.heap.size = b9 at HB ⊢
  go_cut [10, 11, 12] from 32 to 34 (fun v10 v11 v12 wx => ∃ b0 b1 b2 : Nat, v10 = .pointer (some ⟨b0, 0, none⟩) ∧ v11 = .pointer (some ⟨b1, 0, none⟩) ∧ v12 = .pointer (some ⟨b2, 0, none⟩) ∧ Kept w WZ ∧ Mem.Own WZ [boxA b2 #[.bool false, .int .i64 C, .int .i64 D, .int .i64 B, .int .i64 A] 23, boxA b1 #[.bool false, .int .i64 C, .int .i64 D, .int .i64 B, .int .i64 A] 23, boxA b0 #[.bool false, .int .i64 C, .int .i64 D, .int .i64 B, .int .i64 A] 23] wx)
  case first =>
    refine wp_region_held (S := fun W => Kept WZ W) (by kernel_rfl) ?_
    change wpAnyH _ _ _ _ _ _ _ _ (World.drew _)
    rw [← HZ.out]
    refine wpAnyH_take (i := 0) (v := .agg #[.bool false, .int .i64 C, .int .i64 D, .int .i64 B, .int .i64 A]) rfl (by kernel_rfl) (by kernel_rfl) (by kernel_rfl) (fun _ _ _ h => h) (Or.inl ⟨by kernel_rfl, fun W k => Mch.ld_row rfl (by kernel_rfl) (k.block HB.out) Try.underlying23 rfl (by kernel_rfl)⟩) (Kept.refl WZ) ?_
    refine wpAnyH_take (i := 1) (v := .agg #[.bool false, .int .i64 C, .int .i64 D, .int .i64 B, .int .i64 A]) rfl (by kernel_rfl) (by kernel_rfl) (by kernel_rfl) (fun _ _ _ h => h) (Or.inl ⟨by kernel_rfl, fun W k => Mch.ld_row rfl (by kernel_rfl) (k.block HB.out) Try.underlying23 rfl (by kernel_rfl)⟩) (Kept.refl WZ) ?_
    refine wpAnyH_take (i := 2) (v := .agg #[.bool false, .int .i64 C, .int .i64 D, .int .i64 B, .int .i64 A]) rfl (by kernel_rfl) (by kernel_rfl) (by kernel_rfl) (fun _ _ _ h => h) (Or.inl ⟨by kernel_rfl, fun W k => Mch.ld_row rfl (by kernel_rfl) (k.block HB.out) Try.underlying23 rfl (by kernel_rfl)⟩) (Kept.refl WZ) ?_
    refine Mch.machine (I := fun L0 a0 k listed a W => ∃ (A0 A1 A2 b0 b1 b2 : Nat), A0 ≤ 1 ∧ A1 ≤ 1 ∧ A2 ≤ 1 ∧ k = 6 - A0 - A1 - A2 ∧
      listed = Mch.sets ((match A0 with | 0 => [] | _ => [3]) ++ (match A1 with | 0 => [] | _ => [4]) ++ (match A2 with | 0 => [] | _ => [5])) L0 ∧
      a = Mch.puts ((match A0 with | 0 => [] | _ => [(10, .pointer (some ⟨b0, 0, none⟩))]) ++ (match A1 with | 0 => [] | _ => [(11, .pointer (some ⟨b1, 0, none⟩))]) ++ (match A2 with | 0 => [] | _ => [(12, .pointer (some ⟨b2, 0, none⟩))])) a0 ∧
      Mem.Own WZ ((match A2 with | 0 => [] | _ => [boxA b2 #[.bool false, .int .i64 0, .int .i64 0, .int .i64 0, .int .i64 0] 23]) ++ (match A1 with | 0 => [] | _ => [boxA b1 #[.bool false, .int .i64 0, .int .i64 0, .int .i64 0, .int .i64 0] 23]) ++ (match A0 with | 0 => [] | _ => [boxA b0 #[.bool false, .int .i64 0, .int .i64 0, .int .i64 0, .int .i64 0] 23])) W) ?_ ?_
    · intro k IH listed a W hI
      obtain ⟨A0, A1, A2, b0, b1, b2, hA0, hA1, hA2, rfl, rfl, rfl, hO⟩ := hI
      have hA0' : A0 = 0 ∨ A0 = 1 := by omega
      have hA1' : A1 = 0 ∨ A1 = 1 := by omega
      have hA2' : A2 = 0 ∨ A2 = 1 := by omega
      rcases hA0' with rfl | rfl <;> rcases hA1' with rfl | rfl <;> rcases hA2' with rfl | rfl
      · have hO : Mem.Own WZ [] W := hO
        change wpAnyH _ _ _ _ _ 6 _ _ _
        refine wpAnyH_ready (rs := [3, 4, 5]) (by kernel_rfl) (by simp) ?_
        refine Mch.ready_run (i := 3) (v := .pointer (some ⟨W.heap.size, 0, none⟩)) (w' := W.alloc (.cells #[.bool false, .int .i64 0, .int .i64 0, .int .i64 0, .int .i64 0] 23)) rfl (by kernel_rfl) (by kernel_rfl) (hO.box _ _).kept ?_ ?_
        · exact IH 5 (by decide) _ _ _ ⟨1, 0, 0, W.heap.size, b1, b2, by decide, by decide, by decide, rfl, by kernel_rfl, by kernel_rfl, hO.box _ _⟩
        refine Mch.ready_run (i := 4) (v := .pointer (some ⟨W.heap.size, 0, none⟩)) (w' := W.alloc (.cells #[.bool false, .int .i64 0, .int .i64 0, .int .i64 0, .int .i64 0] 23)) rfl (by kernel_rfl) (by kernel_rfl) (hO.box _ _).kept ?_ ?_
        · exact IH 5 (by decide) _ _ _ ⟨0, 1, 0, b0, W.heap.size, b2, by decide, by decide, by decide, rfl, by kernel_rfl, by kernel_rfl, hO.box _ _⟩
        refine Mch.ready_run (i := 5) (v := .pointer (some ⟨W.heap.size, 0, none⟩)) (w' := W.alloc (.cells #[.bool false, .int .i64 0, .int .i64 0, .int .i64 0, .int .i64 0] 23)) rfl (by kernel_rfl) (by kernel_rfl) (hO.box _ _).kept ?_ ?_
        · exact IH 5 (by decide) _ _ _ ⟨0, 0, 1, b0, b1, W.heap.size, by decide, by decide, by decide, rfl, by kernel_rfl, by kernel_rfl, hO.box _ _⟩
        exact AllReadyH.nil
      · have hO : Mem.Own WZ [boxA b2 #[.bool false, .int .i64 0, .int .i64 0, .int .i64 0, .int .i64 0] 23] W := hO
        change wpAnyH _ _ _ _ _ 5 _ _ _
        refine wpAnyH_ready (rs := [3, 4]) (by kernel_rfl) (by simp) ?_
        refine Mch.ready_run (i := 3) (v := .pointer (some ⟨W.heap.size, 0, none⟩)) (w' := W.alloc (.cells #[.bool false, .int .i64 0, .int .i64 0, .int .i64 0, .int .i64 0] 23)) rfl (by kernel_rfl) (by kernel_rfl) (hO.box _ _).kept ?_ ?_
        · exact IH 4 (by decide) _ _ _ ⟨1, 0, 1, W.heap.size, b1, b2, by decide, by decide, by decide, rfl, by kernel_rfl, by kernel_rfl, Mch.own_pickt (L := [boxA W.heap.size #[.bool false, .int .i64 0, .int .i64 0, .int .i64 0, .int .i64 0] 23, boxA b2 #[.bool false, .int .i64 0, .int .i64 0, .int .i64 0, .int .i64 0] 23]) (M := [boxA b2 #[.bool false, .int .i64 0, .int .i64 0, .int .i64 0, .int .i64 0] 23, boxA W.heap.size #[.bool false, .int .i64 0, .int .i64 0, .int .i64 0, .int .i64 0] 23]) (Z := []) (hO.box #[.bool false, .int .i64 0, .int .i64 0, .int .i64 0, .int .i64 0] 23) [1, 0] (by decide) rfl⟩
        refine Mch.ready_run (i := 4) (v := .pointer (some ⟨W.heap.size, 0, none⟩)) (w' := W.alloc (.cells #[.bool false, .int .i64 0, .int .i64 0, .int .i64 0, .int .i64 0] 23)) rfl (by kernel_rfl) (by kernel_rfl) (hO.box _ _).kept ?_ ?_
        · exact IH 4 (by decide) _ _ _ ⟨0, 1, 1, b0, W.heap.size, b2, by decide, by decide, by decide, rfl, by kernel_rfl, by kernel_rfl, Mch.own_pickt (L := [boxA W.heap.size #[.bool false, .int .i64 0, .int .i64 0, .int .i64 0, .int .i64 0] 23, boxA b2 #[.bool false, .int .i64 0, .int .i64 0, .int .i64 0, .int .i64 0] 23]) (M := [boxA b2 #[.bool false, .int .i64 0, .int .i64 0, .int .i64 0, .int .i64 0] 23, boxA W.heap.size #[.bool false, .int .i64 0, .int .i64 0, .int .i64 0, .int .i64 0] 23]) (Z := []) (hO.box #[.bool false, .int .i64 0, .int .i64 0, .int .i64 0, .int .i64 0] 23) [1, 0] (by decide) rfl⟩
        exact AllReadyH.nil
      · have hO : Mem.Own WZ [boxA b1 #[.bool false, .int .i64 0, .int .i64 0, .int .i64 0, .int .i64 0] 23] W := hO
        change wpAnyH _ _ _ _ _ 5 _ _ _
        refine wpAnyH_ready (rs := [3, 5]) (by kernel_rfl) (by simp) ?_
        refine Mch.ready_run (i := 3) (v := .pointer (some ⟨W.heap.size, 0, none⟩)) (w' := W.alloc (.cells #[.bool false, .int .i64 0, .int .i64 0, .int .i64 0, .int .i64 0] 23)) rfl (by kernel_rfl) (by kernel_rfl) (hO.box _ _).kept ?_ ?_
        · exact IH 4 (by decide) _ _ _ ⟨1, 1, 0, W.heap.size, b1, b2, by decide, by decide, by decide, rfl, by kernel_rfl, by kernel_rfl, Mch.own_pickt (L := [boxA W.heap.size #[.bool false, .int .i64 0, .int .i64 0, .int .i64 0, .int .i64 0] 23, boxA b1 #[.bool false, .int .i64 0, .int .i64 0, .int .i64 0, .int .i64 0] 23]) (M := [boxA b1 #[.bool false, .int .i64 0, .int .i64 0, .int .i64 0, .int .i64 0] 23, boxA W.heap.size #[.bool false, .int .i64 0, .int .i64 0, .int .i64 0, .int .i64 0] 23]) (Z := []) (hO.box #[.bool false, .int .i64 0, .int .i64 0, .int .i64 0, .int .i64 0] 23) [1, 0] (by decide) rfl⟩
        refine Mch.ready_run (i := 5) (v := .pointer (some ⟨W.heap.size, 0, none⟩)) (w' := W.alloc (.cells #[.bool false, .int .i64 0, .int .i64 0, .int .i64 0, .int .i64 0] 23)) rfl (by kernel_rfl) (by kernel_rfl) (hO.box _ _).kept ?_ ?_
        · exact IH 4 (by decide) _ _ _ ⟨0, 1, 1, b0, b1, W.heap.size, by decide, by decide, by decide, rfl, by kernel_rfl, by kernel_rfl, hO.box _ _⟩
        exact AllReadyH.nil
      · have hO : Mem.Own WZ [boxA b2 #[.bool false, .int .i64 0, .int .i64 0, .int .i64 0, .int .i64 0] 23, boxA b1 #[.bool false, .int .i64 0, .int .i64 0, .int .i64 0, .int .i64 0] 23] W := hO
        change wpAnyH _ _ _ _ _ 4 _ _ _
        refine wpAnyH_ready (rs := [3]) (by kernel_rfl) (by simp) ?_
        refine Mch.ready_run (i := 3) (v := .pointer (some ⟨W.heap.size, 0, none⟩)) (w' := W.alloc (.cells #[.bool false, .int .i64 0, .int .i64 0, .int .i64 0, .int .i64 0] 23)) rfl (by kernel_rfl) (by kernel_rfl) (hO.box _ _).kept ?_ ?_
        · exact IH 3 (by decide) _ _ _ ⟨1, 1, 1, W.heap.size, b1, b2, by decide, by decide, by decide, rfl, by kernel_rfl, by kernel_rfl, Mch.own_pickt (L := [boxA W.heap.size #[.bool false, .int .i64 0, .int .i64 0, .int .i64 0, .int .i64 0] 23, boxA b2 #[.bool false, .int .i64 0, .int .i64 0, .int .i64 0, .int .i64 0] 23, boxA b1 #[.bool false, .int .i64 0, .int .i64 0, .int .i64 0, .int .i64 0] 23]) (M := [boxA b2 #[.bool false, .int .i64 0, .int .i64 0, .int .i64 0, .int .i64 0] 23, boxA b1 #[.bool false, .int .i64 0, .int .i64 0, .int .i64 0, .int .i64 0] 23, boxA W.heap.size #[.bool false, .int .i64 0, .int .i64 0, .int .i64 0, .int .i64 0] 23]) (Z := []) (hO.box #[.bool false, .int .i64 0, .int .i64 0, .int .i64 0, .int .i64 0] 23) [1, 2, 0] (by decide) rfl⟩
        exact AllReadyH.nil
      · have hO : Mem.Own WZ [boxA b0 #[.bool false, .int .i64 0, .int .i64 0, .int .i64 0, .int .i64 0] 23] W := hO
        change wpAnyH _ _ _ _ _ 5 _ _ _
        refine wpAnyH_ready (rs := [4, 5]) (by kernel_rfl) (by simp) ?_
        refine Mch.ready_run (i := 4) (v := .pointer (some ⟨W.heap.size, 0, none⟩)) (w' := W.alloc (.cells #[.bool false, .int .i64 0, .int .i64 0, .int .i64 0, .int .i64 0] 23)) rfl (by kernel_rfl) (by kernel_rfl) (hO.box _ _).kept ?_ ?_
        · exact IH 4 (by decide) _ _ _ ⟨1, 1, 0, b0, W.heap.size, b2, by decide, by decide, by decide, rfl, by kernel_rfl, by kernel_rfl, hO.box _ _⟩
        refine Mch.ready_run (i := 5) (v := .pointer (some ⟨W.heap.size, 0, none⟩)) (w' := W.alloc (.cells #[.bool false, .int .i64 0, .int .i64 0, .int .i64 0, .int .i64 0] 23)) rfl (by kernel_rfl) (by kernel_rfl) (hO.box _ _).kept ?_ ?_
        · exact IH 4 (by decide) _ _ _ ⟨1, 0, 1, b0, b1, W.heap.size, by decide, by decide, by decide, rfl, by kernel_rfl, by kernel_rfl, hO.box _ _⟩
        exact AllReadyH.nil
      · have hO : Mem.Own WZ [boxA b2 #[.bool false, .int .i64 0, .int .i64 0, .int .i64 0, .int .i64 0] 23, boxA b0 #[.bool false, .int .i64 0, .int .i64 0, .int .i64 0, .int .i64 0] 23] W := hO
        change wpAnyH _ _ _ _ _ 4 _ _ _
        refine wpAnyH_ready (rs := [4]) (by kernel_rfl) (by simp) ?_
        refine Mch.ready_run (i := 4) (v := .pointer (some ⟨W.heap.size, 0, none⟩)) (w' := W.alloc (.cells #[.bool false, .int .i64 0, .int .i64 0, .int .i64 0, .int .i64 0] 23)) rfl (by kernel_rfl) (by kernel_rfl) (hO.box _ _).kept ?_ ?_
        · exact IH 3 (by decide) _ _ _ ⟨1, 1, 1, b0, W.heap.size, b2, by decide, by decide, by decide, rfl, by kernel_rfl, by kernel_rfl, Mch.own_pickt (L := [boxA W.heap.size #[.bool false, .int .i64 0, .int .i64 0, .int .i64 0, .int .i64 0] 23, boxA b2 #[.bool false, .int .i64 0, .int .i64 0, .int .i64 0, .int .i64 0] 23, boxA b0 #[.bool false, .int .i64 0, .int .i64 0, .int .i64 0, .int .i64 0] 23]) (M := [boxA b2 #[.bool false, .int .i64 0, .int .i64 0, .int .i64 0, .int .i64 0] 23, boxA W.heap.size #[.bool false, .int .i64 0, .int .i64 0, .int .i64 0, .int .i64 0] 23, boxA b0 #[.bool false, .int .i64 0, .int .i64 0, .int .i64 0, .int .i64 0] 23]) (Z := []) (hO.box #[.bool false, .int .i64 0, .int .i64 0, .int .i64 0, .int .i64 0] 23) [1, 0, 2] (by decide) rfl⟩
        exact AllReadyH.nil
      · have hO : Mem.Own WZ [boxA b1 #[.bool false, .int .i64 0, .int .i64 0, .int .i64 0, .int .i64 0] 23, boxA b0 #[.bool false, .int .i64 0, .int .i64 0, .int .i64 0, .int .i64 0] 23] W := hO
        change wpAnyH _ _ _ _ _ 4 _ _ _
        refine wpAnyH_ready (rs := [5]) (by kernel_rfl) (by simp) ?_
        refine Mch.ready_run (i := 5) (v := .pointer (some ⟨W.heap.size, 0, none⟩)) (w' := W.alloc (.cells #[.bool false, .int .i64 0, .int .i64 0, .int .i64 0, .int .i64 0] 23)) rfl (by kernel_rfl) (by kernel_rfl) (hO.box _ _).kept ?_ ?_
        · exact IH 3 (by decide) _ _ _ ⟨1, 1, 1, b0, b1, W.heap.size, by decide, by decide, by decide, rfl, by kernel_rfl, by kernel_rfl, hO.box _ _⟩
        exact AllReadyH.nil
      · have hO : Mem.Own WZ [boxA b2 #[.bool false, .int .i64 0, .int .i64 0, .int .i64 0, .int .i64 0] 23, boxA b1 #[.bool false, .int .i64 0, .int .i64 0, .int .i64 0, .int .i64 0] 23, boxA b0 #[.bool false, .int .i64 0, .int .i64 0, .int .i64 0, .int .i64 0] 23] W := hO
        change wpAnyH _ _ _ _ _ 3 _ _ _
        refine wpAnyH_ready (rs := [6]) (by kernel_rfl) (by simp) ?_
        refine Mch.ready_store (i := 6) (j := 2) (cs' := #[.bool false, .int .i64 C, .int .i64 D, .int .i64 B, .int .i64 A]) hO rfl rfl (by kernel_rfl) rfl (by kernel_rfl) (by kernel_rfl) (by kernel_rfl) rfl (by kernel_rfl) (fun W1 h1 => ⟨h1.kept, ?_⟩) AllReadyH.nil
        refine wpAnyH_ready (rs := [7]) (by kernel_rfl) (by simp) ?_
        refine Mch.ready_store (i := 7) (j := 1) (cs' := #[.bool false, .int .i64 C, .int .i64 D, .int .i64 B, .int .i64 A]) h1 rfl rfl (by kernel_rfl) rfl (by kernel_rfl) (by kernel_rfl) (by kernel_rfl) rfl (by kernel_rfl) (fun W2 h2 => ⟨h2.kept, ?_⟩) AllReadyH.nil
        refine wpAnyH_ready (rs := [8]) (by kernel_rfl) (by simp) ?_
        refine Mch.ready_store (i := 8) (j := 0) (cs' := #[.bool false, .int .i64 C, .int .i64 D, .int .i64 B, .int .i64 A]) h2 rfl rfl (by kernel_rfl) rfl (by kernel_rfl) (by kernel_rfl) (by kernel_rfl) rfl (by kernel_rfl) (fun W3 h3 => ⟨h3.kept, ?_⟩) AllReadyH.nil
        refine wpAnyH_done (by kernel_rfl) ?_ _
        go_wp2_with fail
        go_meet
        exact ⟨_, _, _, rfl, rfl, rfl, HK.out, h3⟩
    · exact ⟨0, 0, 0, 0, 0, 0, by decide, by decide, by decide, by kernel_rfl, rfl, rfl, Mem.Own.nil WZ⟩
  case rest =>
    obtain ⟨b0, b1, b2, rfl, rfl, rfl, hk1, h1⟩ := hcut
    obtain ⟨⟨d0, d1, d2, d3, d4⟩, _⟩ := box5 (h1.kept.block HB.out)
    have f1 := (box5 (h1.boxed 2 rfl)).2 3
    obtain ⟨⟨a0, a1, a2, a3, a4⟩, _⟩ := box5 (h1.boxed 2 rfl)
    replace h1 := h1.boxset 2 rfl 3 (.int .i64 Y)
    obtain ⟨⟨e0, e1, e2, e3, e4⟩, _⟩ := box5 (h1.kept.block HB.out)
    have f2 := (box5 (h1.boxed 1 rfl)).2 4
    obtain ⟨⟨i0, i1, i2, i3, i4⟩, _⟩ := box5 (h1.boxed 1 rfl)
    replace h1 := h1.boxset 1 rfl 4 (.int .i64 Z)
    go_upto_region 6 with fail
    clear d0 d1 d2 d3 d4 f1 a0 a1 a2 a3 a4 e0 e1 e2 e3 e4 f2 i0 i1 i2 i3 i4
    generalize (wc.setCell _ _).setCell _ _ = U at h1 ⊢
    have hS : ∀ W, Kept WZ W → W.cell? ⟨b9, 3, none⟩ = some (.int .i64 B) ∧ W.cell? ⟨b9, 4, none⟩ = some (.int .i64 A) := fun W k => by
      obtain ⟨⟨_, _, _, d3, d4⟩, _⟩ := box5 (k.block HB.out)
      exact ⟨d3, d4⟩
    have h2 := h1.drew
    have h3 := (h1.boxset 0 rfl 3 (.int .i64 (2 * B))).drew
    have h4 := (h1.boxset 0 rfl 4 (.int .i64 (2 * A))).drew
    have h5 := ((h1.boxset 0 rfl 3 (.int .i64 (2 * B))).boxset 0 rfl 4 (.int .i64 (2 * A))).drew
    have h6 := ((h1.boxset 0 rfl 4 (.int .i64 (2 * A))).boxset 0 rfl 3 (.int .i64 (2 * B))).drew
    have wB : IntKind.i64.wrap (2 * B) = 2 * B := by simp [IntKind.wrap, IntKind.signed, IntKind.bits]; omega
    have wA : IntKind.i64.wrap (2 * A) = 2 * A := by simp [IntKind.wrap, IntKind.signed, IntKind.bits]; omega
    obtain ⟨⟨_, _, _, a3, a4⟩, f1⟩ := box5 (h2.boxed 0 rfl)
    obtain ⟨⟨_, _, _, i3, i4⟩, f2⟩ := box5 (h3.boxed 0 rfl)
    obtain ⟨⟨_, _, _, j3, j4⟩, f3⟩ := box5 (h4.boxed 0 rfl)
    have f13 := f1 3
    have f14 := f1 4
    have f24 := f2 4
    have f33 := f3 3
    clear f1 f2 f3
    have S1 := hS _ h1.kept
    have S2 := hS _ h2.kept
    have S3 := hS _ h3.kept
    have S4 := hS _ h4.kept
    have S5 := hS _ h5.kept
    have S6 := hS _ h6.kept
    have P := Lib.hid (And.intro h5 h6)
    clear h1 h2 h3 h4 h5 h6 hS
    go_cut [] from 49 to 56 (fun wx => Mem.Own WZ [boxA b2 #[.bool false, .int .i64 C, .int .i64 D, .int .i64 (2 * B), .int .i64 (2 * A)] 23, boxA b1 #[.bool false, .int .i64 C, .int .i64 D, .int .i64 B, .int .i64 Z] 23, boxA b0 #[.bool false, .int .i64 C, .int .i64 D, .int .i64 Y, .int .i64 A] 23] wx)
    case first =>
      go_region_held3 (fun W => W.cell? ⟨b9, 3, none⟩ = some (.int .i64 B) ∧ W.cell? ⟨b9, 4, none⟩ = some (.int .i64 A))
        (first | assumption)
        (first | fail)
      all_goals
        go_wp2_with fail
        go_meet
        first | exact P.out.1 | exact P.out.2
    case rest =>
      clear S1 S2 S3 S4 S5 S6 a3 a4 i3 i4 j3 j4 f13 f14 f24 f33 P
      have h1 := hcut
      clear hcut
      obtain ⟨c1, c2, c3, c4, fin⟩ := H.out
      obtain ⟨⟨d0, d1, d2, d3, d4⟩, _⟩ := box5 (h1.kept.block HB.out)
      rcases fin with ⟨t1, rfl, rfl⟩ | ⟨t1, rfl, rfl⟩
      all_goals
        go_wp2_with (first
          | (go_at_call 8; first
            | ((with_reducible refine (c1 _).mono ?_); rintro e w2 ⟨rfl, k2⟩; replace h1 := h1.later k2; obtain ⟨⟨e0, e1, e2, e3, e4⟩, _⟩ := box5 (h1.boxed 2 rfl))
            | ((with_reducible refine (c2 _).mono ?_); rintro e w3 ⟨rfl, k3⟩; replace h1 := h1.later k3; obtain ⟨⟨i0, i1, i2, i3, i4⟩, _⟩ := box5 (h1.boxed 1 rfl))
            | ((with_reducible refine (c3 _).mono ?_); rintro e w4 ⟨rfl, k4⟩; replace h1 := h1.later k4; obtain ⟨⟨j0, j1, j2, j3, j4⟩, _⟩ := box5 (h1.boxed 0 rfl))
            | ((with_reducible refine (c4 _).mono ?_); rintro e w5 ⟨rfl, k5⟩; replace h1 := h1.later k5; obtain ⟨⟨l0, l1, l2, l3, l4⟩, _⟩ := box5 (h1.boxed 0 rfl)))
          | (go_at_call 12; (with_reducible refine (haw _).mono ?_); rintro e w6 ⟨rfl, k6⟩; replace h1 := h1.later k6))
        go_ret
        exact ⟨rfl, hk1.trans h1.kept⟩
end Go.Proofs.Ythhmfebnnkcmmaa.De
