/-
  DelayAlone, for any two policies made valid by numbers with the same delays.
-/
import Derived.Test.YthhmfebnnkcmmaaUe
import Derived.Test.YthhmfebnnkcmmaaUo
import Derived.Test.YthhmfebnnkcmmaaUq
import Derived.Deep.CutBlock
import Derived.Deep.CutRange
namespace Go.Proofs.Ythhmfebnnkcmmaa.De
open Go.RowKit Go.Proofs.Ythhmfebnnkcmmaa.Mem Go.Proofs.Ythhmfebnnkcmmaa.Bx Go.ChangeShapes Go.WideShapes Go.ChangeAt
set_option linter.unusedVariables false

theorem box2 {y : World} {F : Nat} {T : TypeId} {a b : Value} (h : y.heap[F]? = some (.cells #[a, b] T (0, 0))) :
    (y.cell? ⟨F, 0, none⟩ = some a ∧ y.cell? ⟨F, 1, none⟩ = some b) ∧ ∀ i, y.frozen? ⟨F, i, none⟩ = false :=
  ⟨⟨cell_of_row _ _ _ _ _ _ h, cell_of_row _ _ _ _ _ _ h⟩, fun i => frozen_of_row y F i _ _ h⟩
set_option maxHeartbeats 8000000 in
set_option maxRecDepth 100000 in
theorem alone_core (w : World) (a b : Int) (x y : Duo) (n : Int) (hn : n ≤ 9223372036854775807) : Calls Try.prog 6 #[.int .i64 a, .int .i64 b, .agg #[.int .i64 x.x, .int .i64 x.y], .agg #[.int .i64 y.x, .int .i64 y.y], .int .i64 n] w fun e w' => e = .returned (.bool true) ∧ Kept w w' := by
  obtain ⟨x0, x1⟩ := x
  obtain ⟨y0, y1⟩ := y
  obtain ⟨N, hN, hN'⟩ : ∃ N : Nat, (if n < 0 then 0 else n) = (N : Int) ∧ N < 9223372036854775808 := ⟨(if n < 0 then 0 else n).toNat, by split <;> omega, by split <;> omega⟩
  have hv1 := valid_c a b x0 x1
  have hv2 := valid_c a b y0 y1
  have haf := after_good _ (md_good a b x0 x1) N hN'
  have hag : ∀ w, Calls Try.prog 8 #[.agg #[.bool true, .int .i64 (md y0 8), .int .i64 (md y1 100), .int .i64 (md b (md a 1099511627776)), .int .i64 (md a 1099511627776)], .int .i64 (N : Int)] w fun e w' => e = .returned (.tuple #[.int .i64 (after (md b (md a 1099511627776)) (md a 1099511627776) N), .int .i64 0]) ∧ Kept w w' :=
    after_good ⟨true, md y0 8, md y1 100, md b (md a 1099511627776), md a 1099511627776⟩ (md_good a b y0 y1) N hN'
  have haw := awake_c
  simp only [] at haf ⊢
  generalize after (md b (md a 1099511627776)) (md a 1099511627776) N = z at *
  generalize md b (md a 1099511627776) = B0 at *
  generalize md a 1099511627776 = A0 at *
  generalize md x0 8 = C at *
  generalize md x1 100 = D at *
  generalize md y0 8 = E at *
  generalize md y1 100 = F at *
  have h0 := ((Mem.Own.nil w).box #[.int .i64 x0, .int .i64 x1] 33).box #[.int .i64 y0, .int .i64 y1] 33
  rw [World.size_alloc] at h0
  go_enter Try.func6, Try.ntmps6
  go_upto_region 2 with fail
  have hS : ∀ W, Kept ((w.alloc (.cells #[.int .i64 x0, .int .i64 x1] 33)).alloc (.cells #[.int .i64 y0, .int .i64 y1] 33)).drew W → W.cell? ⟨w.heap.size, 0, none⟩ = some (.int .i64 x0) ∧ W.cell? ⟨w.heap.size, 1, none⟩ = some (.int .i64 x1) ∧ W.cell? ⟨w.heap.size + 1, 0, none⟩ = some (.int .i64 y0) ∧ W.cell? ⟨w.heap.size + 1, 1, none⟩ = some (.int .i64 y1) := fun W k => by
    obtain ⟨⟨a0, a1⟩, _⟩ := box2 (k.block (h0.drew.boxed 1 rfl))
    obtain ⟨⟨b0, b1⟩, _⟩ := box2 (k.block (h0.drew.boxed 0 rfl))
    exact ⟨a0, a1, b0, b1⟩
  have hk0 := h0.drew.kept
  clear h0
  obtain ⟨WZ, hWZ⟩ : ∃ WZ, WZ = ((w.alloc (.cells #[.int .i64 x0, .int .i64 x1] 33)).alloc (.cells #[.int .i64 y0, .int .i64 y1] 33)).drew := ⟨_, rfl⟩
  have HZ := Lib.hid hWZ
  rw [← hWZ] at hS hk0
  clear hWZ
  have HS := Lib.hid hS
  have P := Lib.hid hk0
  clear hS hk0
  go_cut [11, 12] from 19 to 32 (fun v11 v12 wx => ∃ B1 B2 : Nat, v11 = .pointer (some ⟨B1, 0, none⟩) ∧ v12 = .pointer (some ⟨B2, 0, none⟩) ∧ Kept w WZ ∧ Mem.Own WZ [boxA B2 #[.bool false, .int .i64 E, .int .i64 F, .int .i64 B0, .int .i64 A0] 23, boxA B1 #[.bool false, .int .i64 C, .int .i64 D, .int .i64 B0, .int .i64 A0] 23] wx)
  case first =>
    refine wp_region_held (S := fun W => Kept WZ W) (by kernel_rfl) ?_
    change wpAnyH _ _ _ _ _ _ _ _ (World.drew _)
    rw [← HZ.out]
    refine wpAnyH_take (i := 0) (v := .int .i64 a) rfl (by kernel_rfl) (by kernel_rfl) (by kernel_rfl) (fun _ _ _ h => h) (Or.inl ⟨by kernel_rfl, fun _ _ => by kernel_rfl⟩) (Kept.refl WZ) ?_
    refine wpAnyH_take (i := 1) (v := .int .i64 b) rfl (by kernel_rfl) (by kernel_rfl) (by kernel_rfl) (fun _ _ _ h => h) (Or.inl ⟨by kernel_rfl, fun _ _ => by kernel_rfl⟩) (Kept.refl WZ) ?_
    refine wpAnyH_take (i := 2) (v := .pointer (some ⟨w.heap.size, 0, none⟩)) rfl (by kernel_rfl) (by kernel_rfl) (by kernel_rfl) (fun _ _ _ h => h) (Or.inl ⟨by kernel_rfl, fun _ _ => by kernel_rfl⟩) (Kept.refl WZ) ?_
    refine wpAnyH_take (i := 3) (v := .int .i64 x0) rfl (by kernel_rfl) (by kernel_rfl) (by kernel_rfl) (fun _ _ _ h => h) (Or.inl ⟨by kernel_rfl, fun W k => Mch.ld_int rfl (by kernel_rfl) (HS.out W k).1⟩) (Kept.refl WZ) ?_
    refine wpAnyH_take (i := 4) (v := .pointer (some ⟨w.heap.size, 1, none⟩)) rfl (by kernel_rfl) (by kernel_rfl) (by kernel_rfl) (fun _ _ _ h => h) (Or.inl ⟨by kernel_rfl, fun _ _ => by kernel_rfl⟩) (Kept.refl WZ) ?_
    refine wpAnyH_take (i := 5) (v := .int .i64 x1) rfl (by kernel_rfl) (by kernel_rfl) (by kernel_rfl) (fun _ _ _ h => h) (Or.inl ⟨by kernel_rfl, fun W k => Mch.ld_int rfl (by kernel_rfl) (HS.out W k).2.1⟩) (Kept.refl WZ) ?_
    refine wpAnyH_take (i := 7) (v := .int .i64 a) rfl (by kernel_rfl) (by kernel_rfl) (by kernel_rfl) (fun _ _ _ h => h) (Or.inl ⟨by kernel_rfl, fun _ _ => by kernel_rfl⟩) (Kept.refl WZ) ?_
    refine wpAnyH_take (i := 8) (v := .int .i64 b) rfl (by kernel_rfl) (by kernel_rfl) (by kernel_rfl) (fun _ _ _ h => h) (Or.inl ⟨by kernel_rfl, fun _ _ => by kernel_rfl⟩) (Kept.refl WZ) ?_
    refine wpAnyH_take (i := 9) (v := .pointer (some ⟨w.heap.size + 1, 0, none⟩)) rfl (by kernel_rfl) (by kernel_rfl) (by kernel_rfl) (fun _ _ _ h => h) (Or.inl ⟨by kernel_rfl, fun _ _ => by kernel_rfl⟩) (Kept.refl WZ) ?_
    refine wpAnyH_take (i := 10) (v := .int .i64 y0) rfl (by kernel_rfl) (by kernel_rfl) (by kernel_rfl) (fun _ _ _ h => h) (Or.inl ⟨by kernel_rfl, fun W k => Mch.ld_int rfl (by kernel_rfl) (HS.out W k).2.2.1⟩) (Kept.refl WZ) ?_
    refine wpAnyH_take (i := 11) (v := .pointer (some ⟨w.heap.size + 1, 1, none⟩)) rfl (by kernel_rfl) (by kernel_rfl) (by kernel_rfl) (fun _ _ _ h => h) (Or.inl ⟨by kernel_rfl, fun _ _ => by kernel_rfl⟩) (Kept.refl WZ) ?_
    refine wpAnyH_take (i := 12) (v := .int .i64 y1) rfl (by kernel_rfl) (by kernel_rfl) (by kernel_rfl) (fun _ _ _ h => h) (Or.inl ⟨by kernel_rfl, fun W k => Mch.ld_int rfl (by kernel_rfl) (HS.out W k).2.2.2⟩) (Kept.refl WZ) ?_
    refine Mch.machine (I := fun L0 a0 k listed a W => ∃ (c A B bA bB : Nat), c ≤ 2 ∧ A ≤ 1 ∧ B ≤ 1 ∧ k = 6 - c - A - B ∧
      listed = Mch.sets ((match c with | 0 => [] | 1 => [6] | _ => [6, 13]) ++ (match A with | 0 => [] | _ => [14]) ++ (match B with | 0 => [] | _ => [15])) L0 ∧
      a = Mch.puts ((match c with | 0 => [] | 1 => [(25, .agg #[.bool false, .int .i64 C, .int .i64 D, .int .i64 B0, .int .i64 A0])] | _ => [(25, .agg #[.bool false, .int .i64 C, .int .i64 D, .int .i64 B0, .int .i64 A0]), (32, .agg #[.bool false, .int .i64 E, .int .i64 F, .int .i64 B0, .int .i64 A0])]) ++ (match A with | 0 => [] | _ => [(11, .pointer (some ⟨bA, 0, none⟩))]) ++ (match B with | 0 => [] | _ => [(12, .pointer (some ⟨bB, 0, none⟩))])) a0 ∧
      Mem.Own WZ ((match B with | 0 => [] | _ => [boxA bB #[.bool false, .int .i64 0, .int .i64 0, .int .i64 0, .int .i64 0] 23]) ++ (match A with | 0 => [] | _ => [boxA bA #[.bool false, .int .i64 0, .int .i64 0, .int .i64 0, .int .i64 0] 23])) W) ?_ ?_
    · intro k IH listed a W hI
      obtain ⟨c, A, B, bA, bB, hc, hA, hB, rfl, rfl, rfl, hO⟩ := hI
      have hc' : c = 0 ∨ c = 1 ∨ c = 2 := by omega
      have hA' : A = 0 ∨ A = 1 := by omega
      have hB' : B = 0 ∨ B = 1 := by omega
      rcases hc' with rfl | rfl | rfl <;> rcases hA' with rfl | rfl <;> rcases hB' with rfl | rfl
      · have hO : Mem.Own WZ [] W := hO
        change wpAnyH _ _ _ _ _ 6 _ _ _
        refine wpAnyH_ready (rs := [6, 14, 15]) (by kernel_rfl) (by simp) ?_
        refine Mch.ready_call (i := 6) rfl (by kernel_rfl) (by kernel_rfl) ((hv1 W).mono ?_) ?_
        · rintro e W2 ⟨rfl, k2⟩
          exact ⟨_, rfl, (hO.later k2).kept, IH 5 (by decide) _ _ _ ⟨1, 0, 0, bA, bB, by decide, by decide, by decide, rfl, by kernel_rfl, by kernel_rfl, hO.later k2⟩⟩
        refine Mch.ready_run (i := 14) (v := .pointer (some ⟨W.heap.size, 0, none⟩)) (w' := W.alloc (.cells #[.bool false, .int .i64 0, .int .i64 0, .int .i64 0, .int .i64 0] 23)) rfl (by kernel_rfl) (by kernel_rfl) (hO.box _ _).kept ?_ ?_
        · exact IH 5 (by decide) _ _ _ ⟨0, 1, 0, W.heap.size, bB, by decide, by decide, by decide, rfl, by kernel_rfl, by kernel_rfl, hO.box _ _⟩
        refine Mch.ready_run (i := 15) (v := .pointer (some ⟨W.heap.size, 0, none⟩)) (w' := W.alloc (.cells #[.bool false, .int .i64 0, .int .i64 0, .int .i64 0, .int .i64 0] 23)) rfl (by kernel_rfl) (by kernel_rfl) (hO.box _ _).kept ?_ ?_
        · exact IH 5 (by decide) _ _ _ ⟨0, 0, 1, bA, W.heap.size, by decide, by decide, by decide, rfl, by kernel_rfl, by kernel_rfl, hO.box _ _⟩
        exact AllReadyH.nil
      · have hO : Mem.Own WZ [boxA bB #[.bool false, .int .i64 0, .int .i64 0, .int .i64 0, .int .i64 0] 23] W := hO
        change wpAnyH _ _ _ _ _ 5 _ _ _
        refine wpAnyH_ready (rs := [6, 14]) (by kernel_rfl) (by simp) ?_
        refine Mch.ready_call (i := 6) rfl (by kernel_rfl) (by kernel_rfl) ((hv1 W).mono ?_) ?_
        · rintro e W2 ⟨rfl, k2⟩
          exact ⟨_, rfl, (hO.later k2).kept, IH 4 (by decide) _ _ _ ⟨1, 0, 1, bA, bB, by decide, by decide, by decide, rfl, by kernel_rfl, by kernel_rfl, hO.later k2⟩⟩
        refine Mch.ready_run (i := 14) (v := .pointer (some ⟨W.heap.size, 0, none⟩)) (w' := W.alloc (.cells #[.bool false, .int .i64 0, .int .i64 0, .int .i64 0, .int .i64 0] 23)) rfl (by kernel_rfl) (by kernel_rfl) (hO.box _ _).kept ?_ ?_
        · exact IH 4 (by decide) _ _ _ ⟨0, 1, 1, W.heap.size, bB, by decide, by decide, by decide, rfl, by kernel_rfl, by kernel_rfl, Mch.own_pickt (L := [boxA W.heap.size #[.bool false, .int .i64 0, .int .i64 0, .int .i64 0, .int .i64 0] 23, boxA bB #[.bool false, .int .i64 0, .int .i64 0, .int .i64 0, .int .i64 0] 23]) (M := [boxA bB #[.bool false, .int .i64 0, .int .i64 0, .int .i64 0, .int .i64 0] 23, boxA W.heap.size #[.bool false, .int .i64 0, .int .i64 0, .int .i64 0, .int .i64 0] 23]) (Z := []) (hO.box #[.bool false, .int .i64 0, .int .i64 0, .int .i64 0, .int .i64 0] 23) [1, 0] (by decide) rfl⟩
        exact AllReadyH.nil
      · have hO : Mem.Own WZ [boxA bA #[.bool false, .int .i64 0, .int .i64 0, .int .i64 0, .int .i64 0] 23] W := hO
        change wpAnyH _ _ _ _ _ 5 _ _ _
        refine wpAnyH_ready (rs := [6, 15]) (by kernel_rfl) (by simp) ?_
        refine Mch.ready_call (i := 6) rfl (by kernel_rfl) (by kernel_rfl) ((hv1 W).mono ?_) ?_
        · rintro e W2 ⟨rfl, k2⟩
          exact ⟨_, rfl, (hO.later k2).kept, IH 4 (by decide) _ _ _ ⟨1, 1, 0, bA, bB, by decide, by decide, by decide, rfl, by kernel_rfl, by kernel_rfl, hO.later k2⟩⟩
        refine Mch.ready_run (i := 15) (v := .pointer (some ⟨W.heap.size, 0, none⟩)) (w' := W.alloc (.cells #[.bool false, .int .i64 0, .int .i64 0, .int .i64 0, .int .i64 0] 23)) rfl (by kernel_rfl) (by kernel_rfl) (hO.box _ _).kept ?_ ?_
        · exact IH 4 (by decide) _ _ _ ⟨0, 1, 1, bA, W.heap.size, by decide, by decide, by decide, rfl, by kernel_rfl, by kernel_rfl, hO.box _ _⟩
        exact AllReadyH.nil
      · have hO : Mem.Own WZ [boxA bB #[.bool false, .int .i64 0, .int .i64 0, .int .i64 0, .int .i64 0] 23, boxA bA #[.bool false, .int .i64 0, .int .i64 0, .int .i64 0, .int .i64 0] 23] W := hO
        change wpAnyH _ _ _ _ _ 4 _ _ _
        refine wpAnyH_ready (rs := [6]) (by kernel_rfl) (by simp) ?_
        refine Mch.ready_call (i := 6) rfl (by kernel_rfl) (by kernel_rfl) ((hv1 W).mono ?_) ?_
        · rintro e W2 ⟨rfl, k2⟩
          exact ⟨_, rfl, (hO.later k2).kept, IH 3 (by decide) _ _ _ ⟨1, 1, 1, bA, bB, by decide, by decide, by decide, rfl, by kernel_rfl, by kernel_rfl, hO.later k2⟩⟩
        exact AllReadyH.nil
      · have hO : Mem.Own WZ [] W := hO
        change wpAnyH _ _ _ _ _ 5 _ _ _
        refine wpAnyH_ready (rs := [13, 14, 15]) (by kernel_rfl) (by simp) ?_
        refine Mch.ready_call (i := 13) rfl (by kernel_rfl) (by kernel_rfl) ((hv2 W).mono ?_) ?_
        · rintro e W2 ⟨rfl, k2⟩
          exact ⟨_, rfl, (hO.later k2).kept, IH 4 (by decide) _ _ _ ⟨2, 0, 0, bA, bB, by decide, by decide, by decide, rfl, by kernel_rfl, by kernel_rfl, hO.later k2⟩⟩
        refine Mch.ready_run (i := 14) (v := .pointer (some ⟨W.heap.size, 0, none⟩)) (w' := W.alloc (.cells #[.bool false, .int .i64 0, .int .i64 0, .int .i64 0, .int .i64 0] 23)) rfl (by kernel_rfl) (by kernel_rfl) (hO.box _ _).kept ?_ ?_
        · exact IH 4 (by decide) _ _ _ ⟨1, 1, 0, W.heap.size, bB, by decide, by decide, by decide, rfl, by kernel_rfl, by kernel_rfl, hO.box _ _⟩
        refine Mch.ready_run (i := 15) (v := .pointer (some ⟨W.heap.size, 0, none⟩)) (w' := W.alloc (.cells #[.bool false, .int .i64 0, .int .i64 0, .int .i64 0, .int .i64 0] 23)) rfl (by kernel_rfl) (by kernel_rfl) (hO.box _ _).kept ?_ ?_
        · exact IH 4 (by decide) _ _ _ ⟨1, 0, 1, bA, W.heap.size, by decide, by decide, by decide, rfl, by kernel_rfl, by kernel_rfl, hO.box _ _⟩
        exact AllReadyH.nil
      · have hO : Mem.Own WZ [boxA bB #[.bool false, .int .i64 0, .int .i64 0, .int .i64 0, .int .i64 0] 23] W := hO
        change wpAnyH _ _ _ _ _ 4 _ _ _
        refine wpAnyH_ready (rs := [13, 14]) (by kernel_rfl) (by simp) ?_
        refine Mch.ready_call (i := 13) rfl (by kernel_rfl) (by kernel_rfl) ((hv2 W).mono ?_) ?_
        · rintro e W2 ⟨rfl, k2⟩
          exact ⟨_, rfl, (hO.later k2).kept, IH 3 (by decide) _ _ _ ⟨2, 0, 1, bA, bB, by decide, by decide, by decide, rfl, by kernel_rfl, by kernel_rfl, hO.later k2⟩⟩
        refine Mch.ready_run (i := 14) (v := .pointer (some ⟨W.heap.size, 0, none⟩)) (w' := W.alloc (.cells #[.bool false, .int .i64 0, .int .i64 0, .int .i64 0, .int .i64 0] 23)) rfl (by kernel_rfl) (by kernel_rfl) (hO.box _ _).kept ?_ ?_
        · exact IH 3 (by decide) _ _ _ ⟨1, 1, 1, W.heap.size, bB, by decide, by decide, by decide, rfl, by kernel_rfl, by kernel_rfl, Mch.own_pickt (L := [boxA W.heap.size #[.bool false, .int .i64 0, .int .i64 0, .int .i64 0, .int .i64 0] 23, boxA bB #[.bool false, .int .i64 0, .int .i64 0, .int .i64 0, .int .i64 0] 23]) (M := [boxA bB #[.bool false, .int .i64 0, .int .i64 0, .int .i64 0, .int .i64 0] 23, boxA W.heap.size #[.bool false, .int .i64 0, .int .i64 0, .int .i64 0, .int .i64 0] 23]) (Z := []) (hO.box #[.bool false, .int .i64 0, .int .i64 0, .int .i64 0, .int .i64 0] 23) [1, 0] (by decide) rfl⟩
        exact AllReadyH.nil
      · have hO : Mem.Own WZ [boxA bA #[.bool false, .int .i64 0, .int .i64 0, .int .i64 0, .int .i64 0] 23] W := hO
        change wpAnyH _ _ _ _ _ 4 _ _ _
        refine wpAnyH_ready (rs := [13, 15]) (by kernel_rfl) (by simp) ?_
        refine Mch.ready_call (i := 13) rfl (by kernel_rfl) (by kernel_rfl) ((hv2 W).mono ?_) ?_
        · rintro e W2 ⟨rfl, k2⟩
          exact ⟨_, rfl, (hO.later k2).kept, IH 3 (by decide) _ _ _ ⟨2, 1, 0, bA, bB, by decide, by decide, by decide, rfl, by kernel_rfl, by kernel_rfl, hO.later k2⟩⟩
        refine Mch.ready_run (i := 15) (v := .pointer (some ⟨W.heap.size, 0, none⟩)) (w' := W.alloc (.cells #[.bool false, .int .i64 0, .int .i64 0, .int .i64 0, .int .i64 0] 23)) rfl (by kernel_rfl) (by kernel_rfl) (hO.box _ _).kept ?_ ?_
        · exact IH 3 (by decide) _ _ _ ⟨1, 1, 1, bA, W.heap.size, by decide, by decide, by decide, rfl, by kernel_rfl, by kernel_rfl, hO.box _ _⟩
        exact AllReadyH.nil
      · have hO : Mem.Own WZ [boxA bB #[.bool false, .int .i64 0, .int .i64 0, .int .i64 0, .int .i64 0] 23, boxA bA #[.bool false, .int .i64 0, .int .i64 0, .int .i64 0, .int .i64 0] 23] W := hO
        change wpAnyH _ _ _ _ _ 3 _ _ _
        refine wpAnyH_ready (rs := [13]) (by kernel_rfl) (by simp) ?_
        refine Mch.ready_call (i := 13) rfl (by kernel_rfl) (by kernel_rfl) ((hv2 W).mono ?_) ?_
        · rintro e W2 ⟨rfl, k2⟩
          exact ⟨_, rfl, (hO.later k2).kept, IH 2 (by decide) _ _ _ ⟨2, 1, 1, bA, bB, by decide, by decide, by decide, rfl, by kernel_rfl, by kernel_rfl, hO.later k2⟩⟩
        exact AllReadyH.nil
      · have hO : Mem.Own WZ [] W := hO
        change wpAnyH _ _ _ _ _ 4 _ _ _
        refine wpAnyH_ready (rs := [14, 15]) (by kernel_rfl) (by simp) ?_
        refine Mch.ready_run (i := 14) (v := .pointer (some ⟨W.heap.size, 0, none⟩)) (w' := W.alloc (.cells #[.bool false, .int .i64 0, .int .i64 0, .int .i64 0, .int .i64 0] 23)) rfl (by kernel_rfl) (by kernel_rfl) (hO.box _ _).kept ?_ ?_
        · exact IH 3 (by decide) _ _ _ ⟨2, 1, 0, W.heap.size, bB, by decide, by decide, by decide, rfl, by kernel_rfl, by kernel_rfl, hO.box _ _⟩
        refine Mch.ready_run (i := 15) (v := .pointer (some ⟨W.heap.size, 0, none⟩)) (w' := W.alloc (.cells #[.bool false, .int .i64 0, .int .i64 0, .int .i64 0, .int .i64 0] 23)) rfl (by kernel_rfl) (by kernel_rfl) (hO.box _ _).kept ?_ ?_
        · exact IH 3 (by decide) _ _ _ ⟨2, 0, 1, bA, W.heap.size, by decide, by decide, by decide, rfl, by kernel_rfl, by kernel_rfl, hO.box _ _⟩
        exact AllReadyH.nil
      · have hO : Mem.Own WZ [boxA bB #[.bool false, .int .i64 0, .int .i64 0, .int .i64 0, .int .i64 0] 23] W := hO
        change wpAnyH _ _ _ _ _ 3 _ _ _
        refine wpAnyH_ready (rs := [14]) (by kernel_rfl) (by simp) ?_
        refine Mch.ready_run (i := 14) (v := .pointer (some ⟨W.heap.size, 0, none⟩)) (w' := W.alloc (.cells #[.bool false, .int .i64 0, .int .i64 0, .int .i64 0, .int .i64 0] 23)) rfl (by kernel_rfl) (by kernel_rfl) (hO.box _ _).kept ?_ ?_
        · exact IH 2 (by decide) _ _ _ ⟨2, 1, 1, W.heap.size, bB, by decide, by decide, by decide, rfl, by kernel_rfl, by kernel_rfl, Mch.own_pickt (L := [boxA W.heap.size #[.bool false, .int .i64 0, .int .i64 0, .int .i64 0, .int .i64 0] 23, boxA bB #[.bool false, .int .i64 0, .int .i64 0, .int .i64 0, .int .i64 0] 23]) (M := [boxA bB #[.bool false, .int .i64 0, .int .i64 0, .int .i64 0, .int .i64 0] 23, boxA W.heap.size #[.bool false, .int .i64 0, .int .i64 0, .int .i64 0, .int .i64 0] 23]) (Z := []) (hO.box #[.bool false, .int .i64 0, .int .i64 0, .int .i64 0, .int .i64 0] 23) [1, 0] (by decide) rfl⟩
        exact AllReadyH.nil
      · have hO : Mem.Own WZ [boxA bA #[.bool false, .int .i64 0, .int .i64 0, .int .i64 0, .int .i64 0] 23] W := hO
        change wpAnyH _ _ _ _ _ 3 _ _ _
        refine wpAnyH_ready (rs := [15]) (by kernel_rfl) (by simp) ?_
        refine Mch.ready_run (i := 15) (v := .pointer (some ⟨W.heap.size, 0, none⟩)) (w' := W.alloc (.cells #[.bool false, .int .i64 0, .int .i64 0, .int .i64 0, .int .i64 0] 23)) rfl (by kernel_rfl) (by kernel_rfl) (hO.box _ _).kept ?_ ?_
        · exact IH 2 (by decide) _ _ _ ⟨2, 1, 1, bA, W.heap.size, by decide, by decide, by decide, rfl, by kernel_rfl, by kernel_rfl, hO.box _ _⟩
        exact AllReadyH.nil
      · have hO : Mem.Own WZ [boxA bB #[.bool false, .int .i64 0, .int .i64 0, .int .i64 0, .int .i64 0] 23, boxA bA #[.bool false, .int .i64 0, .int .i64 0, .int .i64 0, .int .i64 0] 23] W := hO
        change wpAnyH _ _ _ _ _ 2 _ _ _
        refine wpAnyH_ready (rs := [16]) (by kernel_rfl) (by simp) ?_
        refine Mch.ready_store (i := 16) (j := 1) (cs' := #[.bool false, .int .i64 C, .int .i64 D, .int .i64 B0, .int .i64 A0]) hO rfl rfl (by kernel_rfl) rfl (by kernel_rfl) (by kernel_rfl) (by kernel_rfl) rfl (by kernel_rfl) (fun W1 h1 => ⟨h1.kept, ?_⟩) AllReadyH.nil
        refine wpAnyH_ready (rs := [17]) (by kernel_rfl) (by simp) ?_
        refine Mch.ready_store (i := 17) (j := 0) (cs' := #[.bool false, .int .i64 E, .int .i64 F, .int .i64 B0, .int .i64 A0]) h1 rfl rfl (by kernel_rfl) rfl (by kernel_rfl) (by kernel_rfl) (by kernel_rfl) rfl (by kernel_rfl) (fun W2 h2 => ⟨h2.kept, ?_⟩) AllReadyH.nil
        refine wpAnyH_done (by kernel_rfl) ?_ _
        go_wp2_with fail
        go_meet
        exact ⟨_, _, rfl, rfl, P.out, h2⟩
    · exact ⟨0, 0, 0, 0, 0, by decide, by decide, by decide, by kernel_rfl, rfl, rfl, Mem.Own.nil WZ⟩
  case rest =>
    obtain ⟨B1, B2, rfl, rfl, hk1, h1⟩ := hcut
    obtain ⟨⟨a0, a1, a2, a3, a4⟩, f0⟩ := box5 (h1.boxed 0 rfl)
    have f1 := f0 0
    clear f0
    replace h1 := h1.boxset 0 rfl 0 (.bool true)
    obtain ⟨⟨b0, b1, b2, b3, b4⟩, _⟩ := box5 (h1.boxed 1 rfl)
    go_wp2_with (first
      | (go_at_call 8; first
        | ((with_reducible refine (haf _).mono ?_); rintro e w2 ⟨rfl, k2⟩; replace h1 := h1.later k2; obtain ⟨⟨c0, c1, c2, c3, c4⟩, _⟩ := box5 (h1.boxed 0 rfl))
        | ((with_reducible refine (hag _).mono ?_); rintro e w3 ⟨rfl, k3⟩; replace h1 := h1.later k3))
      | (go_at_call 12; (with_reducible refine (haw _).mono ?_); rintro e w4 ⟨rfl, k4⟩; replace h1 := h1.later k4))
    go_ret
    exact ⟨rfl, hk1.trans h1.kept⟩
end Go.Proofs.Ythhmfebnnkcmmaa.De
