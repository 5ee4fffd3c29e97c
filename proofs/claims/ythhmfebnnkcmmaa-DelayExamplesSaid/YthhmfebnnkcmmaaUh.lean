/-
  DelayExamples: the chapter's examples, and each field of a policy at both ends of what is valid, and beyond.
-/
import Derived.Test.YthhmfebnnkcmmaaUg
import Derived.BigRegion
namespace Go.Proofs.Ythhmfebnnkcmmaa.De
open Go.RowKit Go.Proofs.Ythhmfebnnkcmmaa.Mem Go.Proofs.Ythhmfebnnkcmmaa.Bx Go.ChangeShapes Go.WideShapes Go.ChangeAt
set_option linter.unusedVariables false

def endsC : Array Value := #[.int .i64 (-9223372036854775808), .int .i64 (-1), .int .i64 0, .int .i64 1, .int .i64 2, .int .i64 3, .int .i64 8, .int .i64 9, .int .i64 10, .int .i64 1099511627775, .int .i64 1099511627776, .int .i64 1099511627777, .int .i64 9223372036854775807]
theorem ends_of {w : World} {G : Nat} (h : w.heap[G]? = some (.cells endsC 3 (0, 0))) (i : Nat) (hi : i < 13) : ∃ X : Int, w.cell? ⟨G, i, none⟩ = some (.int .i64 X) ∧ X ≤ 9223372036854775807 := by
  have e := cell_of_row w G i _ _ _ h
  rw [e]
  match i, hi with
  | 0, _ => exact ⟨-9223372036854775808, rfl, by decide⟩
  | 1, _ => exact ⟨-1, rfl, by decide⟩
  | 2, _ => exact ⟨0, rfl, by decide⟩
  | 3, _ => exact ⟨1, rfl, by decide⟩
  | 4, _ => exact ⟨2, rfl, by decide⟩
  | 5, _ => exact ⟨3, rfl, by decide⟩
  | 6, _ => exact ⟨8, rfl, by decide⟩
  | 7, _ => exact ⟨9, rfl, by decide⟩
  | 8, _ => exact ⟨10, rfl, by decide⟩
  | 9, _ => exact ⟨1099511627775, rfl, by decide⟩
  | 10, _ => exact ⟨1099511627776, rfl, by decide⟩
  | 11, _ => exact ⟨1099511627777, rfl, by decide⟩
  | 12, _ => exact ⟨9223372036854775807, rfl, by decide⟩
theorem base_matches (n : Int) (hn : n ≤ 9223372036854775807) (w : World) : Calls Try.prog 3 #[.agg #[.bool false, .int .i64 2, .int .i64 20, .int .i64 2, .int .i64 9], .int .i64 n] w fun e w' => e = .returned (.bool true) ∧ Kept w w' := matches_core w ⟨false, 2, 20, 2, 9⟩ n hn
theorem one_matches (n : Int) (hn : n ≤ 9223372036854775807) (w : World) : Calls Try.prog 3 #[.agg #[.bool false, .int .i64 1, .int .i64 1, .int .i64 1, .int .i64 1099511627776], .int .i64 n] w fun e w' => e = .returned (.bool true) ∧ Kept w w' := matches_core w ⟨false, 1, 1, 1, 1099511627776⟩ n hn
theorem seventeen {WZ W : World} {b5 b6 b7 G i k : Nat} {X Y : Int} (hX : ∀ W, Kept WZ W → W.cell? ⟨G, i, none⟩ = some (.int .i64 X)) (hY : ∀ W, Kept WZ W → W.cell? ⟨G, k, none⟩ = some (.int .i64 Y))
    (h : Mem.Own WZ [boxA b7 #[.bool true, .int .i64 2, .int .i64 20, .int .i64 X, .int .i64 Y] 23, boxA b6 #[.bool false, .int .i64 2, .int .i64 X, .int .i64 2, .int .i64 9] 23, boxA b5 #[.bool false, .int .i64 X, .int .i64 20, .int .i64 2, .int .i64 9] 23] W) : W.cell? ⟨G, i, none⟩ = some (.int .i64 X) ∧ W.cell? ⟨G, k, none⟩ = some (.int .i64 Y) ∧ W.cell? ⟨b5, 0, none⟩ = some (.bool false) ∧ W.cell? ⟨b5, 1, none⟩ = some (.int .i64 X) ∧ W.cell? ⟨b5, 2, none⟩ = some (.int .i64 20) ∧ W.cell? ⟨b5, 3, none⟩ = some (.int .i64 2) ∧ W.cell? ⟨b5, 4, none⟩ = some (.int .i64 9) ∧ W.cell? ⟨b6, 0, none⟩ = some (.bool false) ∧ W.cell? ⟨b6, 1, none⟩ = some (.int .i64 2) ∧ W.cell? ⟨b6, 2, none⟩ = some (.int .i64 X) ∧ W.cell? ⟨b6, 3, none⟩ = some (.int .i64 2) ∧ W.cell? ⟨b6, 4, none⟩ = some (.int .i64 9) ∧ W.cell? ⟨b7, 0, none⟩ = some (.bool true) ∧ W.cell? ⟨b7, 1, none⟩ = some (.int .i64 2) ∧ W.cell? ⟨b7, 2, none⟩ = some (.int .i64 20) ∧ W.cell? ⟨b7, 3, none⟩ = some (.int .i64 X) ∧ W.cell? ⟨b7, 4, none⟩ = some (.int .i64 Y) := by
  obtain ⟨⟨a0, a1, a2, a3, a4⟩, _⟩ := box5 (h.boxed 2 rfl)
  obtain ⟨⟨c0, c1, c2, c3, c4⟩, _⟩ := box5 (h.boxed 1 rfl)
  obtain ⟨⟨e0, e1, e2, e3, e4⟩, _⟩ := box5 (h.boxed 0 rfl)
  exact ⟨hX _ h.kept, hY _ h.kept, a0, a1, a2, a3, a4, c0, c1, c2, c3, c4, e0, e1, e2, e3, e4⟩
set_option maxHeartbeats 8000000 in
set_option maxRecDepth 100000 in
theorem examples_core (w : World) : Calls Try.prog 4 #[] w fun e w' => e = .returned (.bool true) ∧ Kept w w' := by
  have h0 := ((Mem.Own.nil w).box #[.bool false, .int .i64 2, .int .i64 20, .int .i64 2, .int .i64 9] 23).box endsC 3
  rw [World.size_alloc] at h0
  unfold endsC at h0
  have haw := awake_c
  go_enter Try.func4, Try.ntmps4
  go_wp2
  rw [show #[.int .i64 (-9223372036854775808), .int .i64 (-1), .int .i64 0, .int .i64 1, .int .i64 2, .int .i64 3, .int .i64 8, .int .i64 9, .int .i64 10, .int .i64 1099511627775, .int .i64 1099511627776, .int .i64 1099511627777, .int .i64 9223372036854775807] = endsC from rfl] at h0
  obtain ⟨G, hG⟩ : ∃ G, G = w.heap.size + 1 := ⟨_, rfl⟩
  obtain ⟨B1, hB1⟩ : ∃ B1, B1 = w.heap.size := ⟨_, rfl⟩
  rw [← hG, ← hB1] at h0 ⊢
  clear hG hB1
  go_loopw [3] (fun i wr => ∃ j : Nat, j ≤ 13 ∧ i = .int .i64 j ∧ Mem.Own w [boxA G endsC 3, boxA B1 #[.bool false, .int .i64 2, .int .i64 20, .int .i64 2, .int .i64 9] 23] wr) (fun i _ => 13 - (intOf i).toNat)
  case atStart => exact ⟨0, by omega, rfl, h0⟩
  case round =>
    clear h0
    obtain ⟨i, hi, rfl, h1⟩ := hrel
    by_cases hlt : i < 13
    · have t1 : decide ((i : Int) < 13) = true := by simp; omega
      go_wp2
      go_loopw [4] (fun k wr => ∃ j : Nat, j ≤ 13 ∧ k = .int .i64 j ∧ Mem.Own w [boxA G endsC 3, boxA B1 #[.bool false, .int .i64 2, .int .i64 20, .int .i64 2, .int .i64 9] 23] wr) (fun k _ => 13 - (intOf k).toNat)
      case atStart => exact ⟨0, by omega, rfl, h1⟩
      case round =>
        clear h1
        obtain ⟨k, hk, rfl, h2⟩ := hrel
        by_cases hlt2 : k < 13
        · have t2 : decide ((k : Int) < 13) = true := by simp; omega
          obtain ⟨X, cX, lX⟩ := ends_of (h2.boxed 0 rfl) i hlt
          obtain ⟨Y, cY, lY⟩ := ends_of (h2.boxed 0 rfl) k hlt2
          have hB := h2.drew.boxed 1 rfl
          have hG := lt_of_block (h2.boxed 0 rfl)
          have PB := Lib.hid h2.drew
          clear h2
          go_upto_region 9 with fail
          obtain ⟨WZ, hWZ⟩ : ∃ WZ, WZ = wr.drew := ⟨_, rfl⟩
          have HZ := Lib.hid hWZ
          rw [← hWZ] at hB PB
          have hX : ∀ W, Kept WZ W → W.cell? ⟨G, i, none⟩ = some (.int .i64 X) := fun W h => (h.cell (p := ⟨G, i, none⟩) (by rw [hWZ]; exact hG)).trans (by rw [hWZ]; exact cX)
          have hY : ∀ W, Kept WZ W → W.cell? ⟨G, k, none⟩ = some (.int .i64 Y) := fun W h => (h.cell (p := ⟨G, k, none⟩) (by rw [hWZ]; exact hG)).trans (by rw [hWZ]; exact cY)
          clear hWZ cX cY hG
          have HB := Lib.hid hB
          have HC := Lib.hid (And.intro hX hY)
          clear hB hX hY
          go_cut [5, 6, 7] from 23 to 25 (fun v5 v6 v7 wx => ∃ b5 b6 b7 : Nat, v5 = .pointer (some ⟨b5, 0, none⟩) ∧ v6 = .pointer (some ⟨b6, 0, none⟩) ∧ v7 = .pointer (some ⟨b7, 0, none⟩) ∧ Mem.Own WZ [boxA b7 #[.bool false, .int .i64 2, .int .i64 20, .int .i64 2, .int .i64 9] 23, boxA b6 #[.bool false, .int .i64 2, .int .i64 20, .int .i64 2, .int .i64 9] 23, boxA b5 #[.bool false, .int .i64 2, .int .i64 20, .int .i64 2, .int .i64 9] 23] wx)
          case first =>
            refine wp_region_held (S := fun W => Kept WZ W) (by kernel_rfl) ?_
            change wpAnyH _ _ _ _ _ _ _ _ (World.drew _)
            rw [← HZ.out]
            refine wpAnyH_take (i := 0) (v := .agg #[.bool false, .int .i64 2, .int .i64 20, .int .i64 2, .int .i64 9]) rfl (by kernel_rfl) (by kernel_rfl) (by kernel_rfl) (fun _ _ _ h => h) (Or.inl ⟨by kernel_rfl, fun W k => Mch.ld_row rfl (by kernel_rfl) (k.block HB.out) Try.underlying23 rfl (by kernel_rfl)⟩) (Kept.refl WZ) ?_
            refine wpAnyH_take (i := 1) (v := .agg #[.bool false, .int .i64 2, .int .i64 20, .int .i64 2, .int .i64 9]) rfl (by kernel_rfl) (by kernel_rfl) (by kernel_rfl) (fun _ _ _ h => h) (Or.inl ⟨by kernel_rfl, fun W k => Mch.ld_row rfl (by kernel_rfl) (k.block HB.out) Try.underlying23 rfl (by kernel_rfl)⟩) (Kept.refl WZ) ?_
            refine wpAnyH_take (i := 2) (v := .agg #[.bool false, .int .i64 2, .int .i64 20, .int .i64 2, .int .i64 9]) rfl (by kernel_rfl) (by kernel_rfl) (by kernel_rfl) (fun _ _ _ h => h) (Or.inl ⟨by kernel_rfl, fun W k => Mch.ld_row rfl (by kernel_rfl) (k.block HB.out) Try.underlying23 rfl (by kernel_rfl)⟩) (Kept.refl WZ) ?_
            refine Mch.machine (I := fun L0 a0 k listed a W => ∃ (A0 A1 A2 b0 b1 b2 : Nat), A0 ≤ 1 ∧ A1 ≤ 1 ∧ A2 ≤ 1 ∧ k = 6 - A0 - A1 - A2 ∧
              listed = Mch.sets ((match A0 with | 0 => [] | _ => [3]) ++ (match A1 with | 0 => [] | _ => [4]) ++ (match A2 with | 0 => [] | _ => [5])) L0 ∧
              a = Mch.puts ((match A0 with | 0 => [] | _ => [(5, .pointer (some ⟨b0, 0, none⟩))]) ++ (match A1 with | 0 => [] | _ => [(6, .pointer (some ⟨b1, 0, none⟩))]) ++ (match A2 with | 0 => [] | _ => [(7, .pointer (some ⟨b2, 0, none⟩))])) a0 ∧
              Mem.Own WZ ((match A2 with | 0 => [] | _ => [boxA b2 #[.bool false, .int .i64 0, .int .i64 0, .int .i64 0, .int .i64 0] 23]) ++ (match A1 with | 0 => [] | _ => [boxA b1 #[.bool false, .int .i64 0, .int .i64 0, .int .i64 0, .int .i64 0] 23]) ++ (match A0 with | 0 => [] | _ => [boxA b0 #[.bool false, .int .i64 0, .int .i64 0, .int .i64 0, .int .i64 0] 23])) W) ?_ ?_
            · intro k IH listed a W hI
              obtain ⟨A0, A1, A2, b0, b1, b2, hA0, hA1, hA2, rfl, rfl, rfl, hO⟩ := hI
              have hA0' : A0 = 0 ∨ A0 = 1 := by omega
              have hA1' : A1 = 0 ∨ A1 = 1 := by omega
              have hA2' : A2 = 0 ∨ A2 = 1 := by omega
              rcases hA0' with rfl | rfl <;> rcases hA1' with rfl | rfl <;> rcases hA2' with rfl | rfl
              · have hO : Mem.Own WZ [] W := hO
                change wpAnyH _ _ _ _ _ 6 _ _ _
                refine wpAnyH_ready (rs := [3, 4, 5]) (by kernel_rfl) (by simp) ?_
                refine Mch.ready_run (i := 3) (v := .pointer (some ⟨W.heap.size, 0, none⟩)) (w' := W.alloc (.cells #[.bool false, .int .i64 0, .int .i64 0, .int .i64 0, .int .i64 0] 23)) rfl (by kernel_rfl) (by kernel_rfl) (hO.box _ _).kept ?_ ?_
                · exact IH 5 (by decide) _ _ _ ⟨1, 0, 0, W.heap.size, b1, b2, by decide, by decide, by decide, rfl, by kernel_rfl, by kernel_rfl, hO.box _ _⟩
                refine Mch.ready_run (i := 4) (v := .pointer (some ⟨W.heap.size, 0, none⟩)) (w' := W.alloc (.cells #[.bool false, .int .i64 0, .int .i64 0, .int .i64 0, .int .i64 0] 23)) rfl (by kernel_rfl) (by kernel_rfl) (hO.box _ _).kept ?_ ?_
                · exact IH 5 (by decide) _ _ _ ⟨0, 1, 0, b0, W.heap.size, b2, by decide, by decide, by decide, rfl, by kernel_rfl, by kernel_rfl, hO.box _ _⟩
                refine Mch.ready_run (i := 5) (v := .pointer (some ⟨W.heap.size, 0, none⟩)) (w' := W.alloc (.cells #[.bool false, .int .i64 0, .int .i64 0, .int .i64 0, .int .i64 0] 23)) rfl (by kernel_rfl) (by kernel_rfl) (hO.box _ _).kept ?_ ?_
                · exact IH 5 (by decide) _ _ _ ⟨0, 0, 1, b0, b1, W.heap.size, by decide, by decide, by decide, rfl, by kernel_rfl, by kernel_rfl, hO.box _ _⟩
                exact AllReadyH.nil
              · have hO : Mem.Own WZ [boxA b2 #[.bool false, .int .i64 0, .int .i64 0, .int .i64 0, .int .i64 0] 23] W := hO
                change wpAnyH _ _ _ _ _ 5 _ _ _
                refine wpAnyH_ready (rs := [3, 4]) (by kernel_rfl) (by simp) ?_
                refine Mch.ready_run (i := 3) (v := .pointer (some ⟨W.heap.size, 0, none⟩)) (w' := W.alloc (.cells #[.bool false, .int .i64 0, .int .i64 0, .int .i64 0, .int .i64 0] 23)) rfl (by kernel_rfl) (by kernel_rfl) (hO.box _ _).kept ?_ ?_
                · exact IH 4 (by decide) _ _ _ ⟨1, 0, 1, W.heap.size, b1, b2, by decide, by decide, by decide, rfl, by kernel_rfl, by kernel_rfl, Mch.own_pickt (L := [boxA W.heap.size #[.bool false, .int .i64 0, .int .i64 0, .int .i64 0, .int .i64 0] 23, boxA b2 #[.bool false, .int .i64 0, .int .i64 0, .int .i64 0, .int .i64 0] 23]) (M := [boxA b2 #[.bool false, .int .i64 0, .int .i64 0, .int .i64 0, .int .i64 0] 23, boxA W.heap.size #[.bool false, .int .i64 0, .int .i64 0, .int .i64 0, .int .i64 0] 23]) (Z := []) (hO.box #[.bool false, .int .i64 0, .int .i64 0, .int .i64 0, .int .i64 0] 23) [1, 0] (by decide) rfl⟩
                refine Mch.ready_run (i := 4) (v := .pointer (some ⟨W.heap.size, 0, none⟩)) (w' := W.alloc (.cells #[.bool false, .int .i64 0, .int .i64 0, .int .i64 0, .int .i64 0] 23)) rfl (by kernel_rfl) (by kernel_rfl) (hO.box _ _).kept ?_ ?_
                · exact IH 4 (by decide) _ _ _ ⟨0, 1, 1, b0, W.heap.size, b2, by decide, by decide, by decide, rfl, by kernel_rfl, by kernel_rfl, Mch.own_pickt (L := [boxA W.heap.size #[.bool false, .int .i64 0, .int .i64 0, .int .i64 0, .int .i64 0] 23, boxA b2 #[.bool false, .int .i64 0, .int .i64 0, .int .i64 0, .int .i64 0] 23]) (M := [boxA b2 #[.bool false, .int .i64 0, .int .i64 0, .int .i64 0, .int .i64 0] 23, boxA W.heap.size #[.bool false, .int .i64 0, .int .i64 0, .int .i64 0, .int .i64 0] 23]) (Z := []) (hO.box #[.bool false, .int .i64 0, .int .i64 0, .int .i64 0, .int .i64 0] 23) [1, 0] (by decide) rfl⟩
                exact AllReadyH.nil
              · have hO : Mem.Own WZ [boxA b1 #[.bool false, .int .i64 0, .int .i64 0, .int .i64 0, .int .i64 0] 23] W := hO
                change wpAnyH _ _ _ _ _ 5 _ _ _
                refine wpAnyH_ready (rs := [3, 5]) (by kernel_rfl) (by simp) ?_
                refine Mch.ready_run (i := 3) (v := .pointer (some ⟨W.heap.size, 0, none⟩)) (w' := W.alloc (.cells #[.bool false, .int .i64 0, .int .i64 0, .int .i64 0, .int .i64 0] 23)) rfl (by kernel_rfl) (by kernel_rfl) (hO.box _ _).kept ?_ ?_
                · exact IH 4 (by decide) _ _ _ ⟨1, 1, 0, W.heap.size, b1, b2, by decide, by decide, by decide, rfl, by kernel_rfl, by kernel_rfl, Mch.own_pickt (L := [boxA W.heap.size #[.bool false, .int .i64 0, .int .i64 0, .int .i64 0, .int .i64 0] 23, boxA b1 #[.bool false, .int .i64 0, .int .i64 0, .int .i64 0, .int .i64 0] 23]) (M := [boxA b1 #[.bool false, .int .i64 0, .int .i64 0, .int .i64 0, .int .i64 0] 23, boxA W.heap.size #[.bool false, .int .i64 0, .int .i64 0, .int .i64 0, .int .i64 0] 23]) (Z := []) (hO.box #[.bool false, .int .i64 0, .int .i64 0, .int .i64 0, .int .i64 0] 23) [1, 0] (by decide) rfl⟩
                refine Mch.ready_run (i := 5) (v := .pointer (some ⟨W.heap.size, 0, none⟩)) (w' := W.alloc (.cells #[.bool false, .int .i64 0, .int .i64 0, .int .i64 0, .int .i64 0] 23)) rfl (by kernel_rfl) (by kernel_rfl) (hO.box _ _).kept ?_ ?_
                · exact IH 4 (by decide) _ _ _ ⟨0, 1, 1, b0, b1, W.heap.size, by decide, by decide, by decide, rfl, by kernel_rfl, by kernel_rfl, hO.box _ _⟩
                exact AllReadyH.nil
              · have hO : Mem.Own WZ [boxA b2 #[.bool false, .int .i64 0, .int .i64 0, .int .i64 0, .int .i64 0] 23, boxA b1 #[.bool false, .int .i64 0, .int .i64 0, .int .i64 0, .int .i64 0] 23] W := hO
                change wpAnyH _ _ _ _ _ 4 _ _ _
                refine wpAnyH_ready (rs := [3]) (by kernel_rfl) (by simp) ?_
                refine Mch.ready_run (i := 3) (v := .pointer (some ⟨W.heap.size, 0, none⟩)) (w' := W.alloc (.cells #[.bool false, .int .i64 0, .int .i64 0, .int .i64 0, .int .i64 0] 23)) rfl (by kernel_rfl) (by kernel_rfl) (hO.box _ _).kept ?_ ?_
                · exact IH 3 (by decide) _ _ _ ⟨1, 1, 1, W.heap.size, b1, b2, by decide, by decide, by decide, rfl, by kernel_rfl, by kernel_rfl, Mch.own_pickt (L := [boxA W.heap.size #[.bool false, .int .i64 0, .int .i64 0, .int .i64 0, .int .i64 0] 23, boxA b2 #[.bool false, .int .i64 0, .int .i64 0, .int .i64 0, .int .i64 0] 23, boxA b1 #[.bool false, .int .i64 0, .int .i64 0, .int .i64 0, .int .i64 0] 23]) (M := [boxA b2 #[.bool false, .int .i64 0, .int .i64 0, .int .i64 0, .int .i64 0] 23, boxA b1 #[.bool false, .int .i64 0, .int .i64 0, .int .i64 0, .int .i64 0] 23, boxA W.heap.size #[.bool false, .int .i64 0, .int .i64 0, .int .i64 0, .int .i64 0] 23]) (Z := []) (hO.box #[.bool false, .int .i64 0, .int .i64 0, .int .i64 0, .int .i64 0] 23) [1, 2, 0] (by decide) rfl⟩
                exact AllReadyH.nil
              · have hO : Mem.Own WZ [boxA b0 #[.bool false, .int .i64 0, .int .i64 0, .int .i64 0, .int .i64 0] 23] W := hO
                change wpAnyH _ _ _ _ _ 5 _ _ _
                refine wpAnyH_ready (rs := [4, 5]) (by kernel_rfl) (by simp) ?_
                refine Mch.ready_run (i := 4) (v := .pointer (some ⟨W.heap.size, 0, none⟩)) (w' := W.alloc (.cells #[.bool false, .int .i64 0, .int .i64 0, .int .i64 0, .int .i64 0] 23)) rfl (by kernel_rfl) (by kernel_rfl) (hO.box _ _).kept ?_ ?_
                · exact IH 4 (by decide) _ _ _ ⟨1, 1, 0, b0, W.heap.size, b2, by decide, by decide, by decide, rfl, by kernel_rfl, by kernel_rfl, hO.box _ _⟩
                refine Mch.ready_run (i := 5) (v := .pointer (some ⟨W.heap.size, 0, none⟩)) (w' := W.alloc (.cells #[.bool false, .int .i64 0, .int .i64 0, .int .i64 0, .int .i64 0] 23)) rfl (by kernel_rfl) (by kernel_rfl) (hO.box _ _).kept ?_ ?_
                · exact IH 4 (by decide) _ _ _ ⟨1, 0, 1, b0, b1, W.heap.size, by decide, by decide, by decide, rfl, by kernel_rfl, by kernel_rfl, hO.box _ _⟩
                exact AllReadyH.nil
              · have hO : Mem.Own WZ [boxA b2 #[.bool false, .int .i64 0, .int .i64 0, .int .i64 0, .int .i64 0] 23, boxA b0 #[.bool false, .int .i64 0, .int .i64 0, .int .i64 0, .int .i64 0] 23] W := hO
                change wpAnyH _ _ _ _ _ 4 _ _ _
                refine wpAnyH_ready (rs := [4]) (by kernel_rfl) (by simp) ?_
                refine Mch.ready_run (i := 4) (v := .pointer (some ⟨W.heap.size, 0, none⟩)) (w' := W.alloc (.cells #[.bool false, .int .i64 0, .int .i64 0, .int .i64 0, .int .i64 0] 23)) rfl (by kernel_rfl) (by kernel_rfl) (hO.box _ _).kept ?_ ?_
                · exact IH 3 (by decide) _ _ _ ⟨1, 1, 1, b0, W.heap.size, b2, by decide, by decide, by decide, rfl, by kernel_rfl, by kernel_rfl, Mch.own_pickt (L := [boxA W.heap.size #[.bool false, .int .i64 0, .int .i64 0, .int .i64 0, .int .i64 0] 23, boxA b2 #[.bool false, .int .i64 0, .int .i64 0, .int .i64 0, .int .i64 0] 23, boxA b0 #[.bool false, .int .i64 0, .int .i64 0, .int .i64 0, .int .i64 0] 23]) (M := [boxA b2 #[.bool false, .int .i64 0, .int .i64 0, .int .i64 0, .int .i64 0] 23, boxA W.heap.size #[.bool false, .int .i64 0, .int .i64 0, .int .i64 0, .int .i64 0] 23, boxA b0 #[.bool false, .int .i64 0, .int .i64 0, .int .i64 0, .int .i64 0] 23]) (Z := []) (hO.box #[.bool false, .int .i64 0, .int .i64 0, .int .i64 0, .int .i64 0] 23) [1, 0, 2] (by decide) rfl⟩
                exact AllReadyH.nil
              · have hO : Mem.Own WZ [boxA b1 #[.bool false, .int .i64 0, .int .i64 0, .int .i64 0, .int .i64 0] 23, boxA b0 #[.bool false, .int .i64 0, .int .i64 0, .int .i64 0, .int .i64 0] 23] W := hO
                change wpAnyH _ _ _ _ _ 4 _ _ _
                refine wpAnyH_ready (rs := [5]) (by kernel_rfl) (by simp) ?_
                refine Mch.ready_run (i := 5) (v := .pointer (some ⟨W.heap.size, 0, none⟩)) (w' := W.alloc (.cells #[.bool false, .int .i64 0, .int .i64 0, .int .i64 0, .int .i64 0] 23)) rfl (by kernel_rfl) (by kernel_rfl) (hO.box _ _).kept ?_ ?_
                · exact IH 3 (by decide) _ _ _ ⟨1, 1, 1, b0, b1, W.heap.size, by decide, by decide, by decide, rfl, by kernel_rfl, by kernel_rfl, hO.box _ _⟩
                exact AllReadyH.nil
              · have hO : Mem.Own WZ [boxA b2 #[.bool false, .int .i64 0, .int .i64 0, .int .i64 0, .int .i64 0] 23, boxA b1 #[.bool false, .int .i64 0, .int .i64 0, .int .i64 0, .int .i64 0] 23, boxA b0 #[.bool false, .int .i64 0, .int .i64 0, .int .i64 0, .int .i64 0] 23] W := hO
                change wpAnyH _ _ _ _ _ 3 _ _ _
                refine wpAnyH_ready (rs := [6]) (by kernel_rfl) (by simp) ?_
                refine Mch.ready_store (i := 6) (j := 2) (cs' := #[.bool false, .int .i64 2, .int .i64 20, .int .i64 2, .int .i64 9]) hO rfl rfl (by kernel_rfl) rfl (by kernel_rfl) (by kernel_rfl) (by kernel_rfl) rfl (by kernel_rfl) (fun W1 h1 => ⟨h1.kept, ?_⟩) AllReadyH.nil
                refine wpAnyH_ready (rs := [7]) (by kernel_rfl) (by simp) ?_
                refine Mch.ready_store (i := 7) (j := 1) (cs' := #[.bool false, .int .i64 2, .int .i64 20, .int .i64 2, .int .i64 9]) h1 rfl rfl (by kernel_rfl) rfl (by kernel_rfl) (by kernel_rfl) (by kernel_rfl) rfl (by kernel_rfl) (fun W2 h2 => ⟨h2.kept, ?_⟩) AllReadyH.nil
                refine wpAnyH_ready (rs := [8]) (by kernel_rfl) (by simp) ?_
                refine Mch.ready_store (i := 8) (j := 0) (cs' := #[.bool false, .int .i64 2, .int .i64 20, .int .i64 2, .int .i64 9]) h2 rfl rfl (by kernel_rfl) rfl (by kernel_rfl) (by kernel_rfl) (by kernel_rfl) rfl (by kernel_rfl) (fun W3 h3 => ⟨h3.kept, ?_⟩) AllReadyH.nil
                refine wpAnyH_done (by kernel_rfl) ?_ _
                go_wp2_with fail
                go_meet
                exact ⟨_, _, _, rfl, rfl, rfl, h3⟩
            · exact ⟨0, 0, 0, 0, 0, 0, by decide, by decide, by decide, by kernel_rfl, rfl, rfl, Mem.Own.nil WZ⟩
          case rest =>
            obtain ⟨b5, b6, b7, rfl, rfl, rfl, h3⟩ := hcut
            go_upto_region 10 with fail
            have e1 := h3.drew
            have e2 := (h3.boxset 2 rfl 1 (.int .i64 X)).drew
            have e3 := ((h3.boxset 2 rfl 1 (.int .i64 X)).boxset 1 rfl 2 (.int .i64 X)).drew
            have e4 := (((h3.boxset 2 rfl 1 (.int .i64 X)).boxset 1 rfl 2 (.int .i64 X)).boxset 0 rfl 3 (.int .i64 X)).drew
            have e5 := ((((h3.boxset 2 rfl 1 (.int .i64 X)).boxset 1 rfl 2 (.int .i64 X)).boxset 0 rfl 3 (.int .i64 X)).boxset 0 rfl 4 (.int .i64 Y)).drew
            have hS : ∀ W, Kept WZ W → W.cell? ⟨G, i, none⟩ = some (.int .i64 X) ∧ W.cell? ⟨G, k, none⟩ = some (.int .i64 Y) := fun W h => ⟨HC.out.1 W h, HC.out.2 W h⟩
            have S0 := hS _ h3.kept
            have S1 := hS _ e1.kept
            have S2 := hS _ e2.kept
            have S3 := hS _ e3.kept
            have S4 := hS _ e4.kept
            have S5 := hS _ e5.kept
            obtain ⟨⟨_, c1, _, _, _⟩, f1⟩ := box5 (e1.boxed 2 rfl)
            obtain ⟨⟨_, _, c2, _, _⟩, f2⟩ := box5 (e2.boxed 1 rfl)
            obtain ⟨⟨_, _, _, c3, _⟩, f3⟩ := box5 (e3.boxed 0 rfl)
            obtain ⟨⟨_, _, _, _, c4⟩, f4⟩ := box5 (e4.boxed 0 rfl)
            have g1 := f1 1
            have g2 := f2 2
            have g3 := f3 3
            have g4 := f4 4
            clear f1 f2 f3 f4
            have P5 := Lib.hid e5
            clear h3 e1 e2 e3 e4 e5 hS
            go_cut [] from 26 to 45 (fun wx => Mem.Own WZ [boxA b7 #[.bool false, .int .i64 2, .int .i64 20, .int .i64 X, .int .i64 Y] 23, boxA b6 #[.bool false, .int .i64 2, .int .i64 X, .int .i64 2, .int .i64 9] 23, boxA b5 #[.bool false, .int .i64 X, .int .i64 20, .int .i64 2, .int .i64 9] 23] wx)
            case first =>
              have i0 : (0 : Int) ≤ (i : Int) := by omega
              have i1 : (i : Int) < 13 := by omega
              have k0 : (0 : Int) ≤ (k : Int) := by omega
              have k1 : (k : Int) < 13 := by omega
              go_region_held3 (fun W => W.cell? ⟨G, i, none⟩ = some (.int .i64 X) ∧ W.cell? ⟨G, k, none⟩ = some (.int .i64 Y))
                (first | assumption)
                (first | fail)
              all_goals
                go_wp2_with fail
                go_meet
                exact P5.out
            case rest =>
              clear S0 S1 S2 S3 S4 S5 c1 c2 c3 c4 g1 g2 g3 g4 P5
              have h3 := hcut
              clear hcut
              obtain ⟨⟨c0, _, _, _, _⟩, f0⟩ := box5 (h3.boxed 0 rfl)
              have g0 := f0 0
              clear f0
              replace h3 := h3.boxset 0 rfl 0 (.bool true)
              go_upto_region 12 with fail
              have i0 : (0 : Int) ≤ (i : Int) := by omega
              have i1 : (i : Int) < 13 := by omega
              have k0 : (0 : Int) ≤ (k : Int) := by omega
              have k1 : (k : Int) < 13 := by omega
              clear c0 g0
              generalize wc.setCell _ _ = U at h3 ⊢
              have q1 : ∀ w, Calls Try.prog 3 #[.agg #[.bool false, .int .i64 X, .int .i64 20, .int .i64 2, .int .i64 9], .int .i64 Y] w fun e w' => e = .returned (.bool true) ∧ Kept w w' := fun w => matches_core w ⟨false, X, 20, 2, 9⟩ Y (by omega)
              have q2 : ∀ w, Calls Try.prog 3 #[.agg #[.bool false, .int .i64 2, .int .i64 X, .int .i64 2, .int .i64 9], .int .i64 Y] w fun e w' => e = .returned (.bool true) ∧ Kept w w' := fun w => matches_core w ⟨false, 2, X, 2, 9⟩ Y (by omega)
              have q3 : ∀ w, Calls Try.prog 3 #[.agg #[.bool true, .int .i64 2, .int .i64 20, .int .i64 X, .int .i64 Y], .int .i64 5] w fun e w' => e = .returned (.bool true) ∧ Kept w w' := fun w => matches_core w ⟨true, 2, 20, X, Y⟩ 5 (by decide)
              have q4 : ∀ w, Calls Try.prog 3 #[.agg #[.bool true, .int .i64 2, .int .i64 20, .int .i64 X, .int .i64 Y], .int .i64 X] w fun e w' => e = .returned (.bool true) ∧ Kept w w' := fun w => matches_core w ⟨true, 2, 20, X, Y⟩ X (by omega)
              have q5 : ∀ w, Calls Try.prog 3 #[.agg #[.bool true, .int .i64 2, .int .i64 20, .int .i64 X, .int .i64 Y], .int .i64 9223372036854775807] w fun e w' => e = .returned (.bool true) ∧ Kept w w' := fun w => matches_core w ⟨true, 2, 20, X, Y⟩ 9223372036854775807 (by decide)
              have T0 := seventeen HC.out.1 HC.out.2 h3
              have T0' := seventeen HC.out.1 HC.out.2 h3.drew
              have P0 := Lib.hid h3
              clear h3
              go_region_held3 (fun W => W.cell? ⟨G, i, none⟩ = some (.int .i64 X) ∧ W.cell? ⟨G, k, none⟩ = some (.int .i64 Y) ∧ W.cell? ⟨b5, 0, none⟩ = some (.bool false) ∧ W.cell? ⟨b5, 1, none⟩ = some (.int .i64 X) ∧ W.cell? ⟨b5, 2, none⟩ = some (.int .i64 20) ∧ W.cell? ⟨b5, 3, none⟩ = some (.int .i64 2) ∧ W.cell? ⟨b5, 4, none⟩ = some (.int .i64 9) ∧ W.cell? ⟨b6, 0, none⟩ = some (.bool false) ∧ W.cell? ⟨b6, 1, none⟩ = some (.int .i64 2) ∧ W.cell? ⟨b6, 2, none⟩ = some (.int .i64 X) ∧ W.cell? ⟨b6, 3, none⟩ = some (.int .i64 2) ∧ W.cell? ⟨b6, 4, none⟩ = some (.int .i64 9) ∧ W.cell? ⟨b7, 0, none⟩ = some (.bool true) ∧ W.cell? ⟨b7, 1, none⟩ = some (.int .i64 2) ∧ W.cell? ⟨b7, 2, none⟩ = some (.int .i64 20) ∧ W.cell? ⟨b7, 3, none⟩ = some (.int .i64 X) ∧ W.cell? ⟨b7, 4, none⟩ = some (.int .i64 Y))
                (first | assumption)
                (first
                  | (go_at_call 3; (with_reducible refine (q1 _).mono ?_); rintro e u1w ⟨rfl, l1⟩; have P1 := Lib.hid (P0.out.drew.later l1); have T1 := seventeen HC.out.1 HC.out.2 P1.out; clear l1)
                  | (go_at_call 3; (with_reducible refine (q2 _).mono ?_); rintro e u2w ⟨rfl, l2⟩; have P2 := Lib.hid (P1.out.later l2); have T2 := seventeen HC.out.1 HC.out.2 P2.out; clear l2)
                  | (go_at_call 3; (with_reducible refine (q3 _).mono ?_); rintro e u3w ⟨rfl, l3⟩; have P3 := Lib.hid (P2.out.later l3); have T3 := seventeen HC.out.1 HC.out.2 P3.out; clear l3)
                  | (go_at_call 3; (with_reducible refine (q4 _).mono ?_); rintro e u4w ⟨rfl, l4⟩; have P4 := Lib.hid (P3.out.later l4); have T4 := seventeen HC.out.1 HC.out.2 P4.out; clear l4)
                  | (go_at_call 3; (with_reducible refine (q5 _).mono ?_); rintro e u5w ⟨rfl, l5⟩; have P5 := Lib.hid (P4.out.later l5); have T5 := seventeen HC.out.1 HC.out.2 P5.out; clear l5))
              clear T0 T0' T1 T2 T3 T4 T5 q1 q2 q3 q4 q5
              go_wp2
              go_roundw
              case rel => exact ⟨k + 1, by omega, by go_num, PB.out.later P5.out.kept⟩
              case measure => simp [intOf]; omega
        · go_wp2
          go_roundw
          case rel => exact ⟨i + 1, by omega, by go_num, h2⟩
          case measure => simp [intOf]; omega
    · have t1 : decide ((i : Int) < 13) = false := by simp; omega
      obtain ⟨⟨a0, a1, a2, a3, a4⟩, _⟩ := box5 (h1.boxed 1 rfl)
      go_wp2
      clear a0 a1 a2 a3 a4
      go_loopw [8] (fun i wr => ∃ n : Int, -2 ≤ n ∧ n ≤ 70 ∧ i = .int .i64 n ∧ Mem.Own w [boxA G endsC 3, boxA B1 #[.bool false, .int .i64 2, .int .i64 20, .int .i64 2, .int .i64 9] 23] wr) (fun i _ => (70 - intOf i).toNat)
      case atStart => exact ⟨-2, by omega, by omega, rfl, h1⟩
      case round =>
        clear h1
        obtain ⟨n, hn1, hn2, rfl, h2⟩ := hrel
        by_cases hlt3 : n < 70
        · have m1 := base_matches n (by omega)
          have m2 := one_matches n (by omega)
          obtain ⟨⟨a0, a1, a2, a3, a4⟩, _⟩ := box5 (h2.boxed 1 rfl)
          go_wp2_with (go_at_call 3; first
            | ((with_reducible refine (m1 _).mono ?_); rintro e w1 ⟨rfl, k1⟩; replace h2 := h2.later k1)
            | ((with_reducible refine (m2 _).mono ?_); rintro e w2 ⟨rfl, k2⟩; replace h2 := h2.later k2))
          go_roundw
          case rel => exact ⟨n + 1, by omega, by omega, rfl, h2⟩
          case measure => simp [intOf]; omega
        · go_wp2_with (go_at_call 12; (with_reducible refine (haw _).mono ?_); rintro e w1 ⟨rfl, k1⟩; replace h2 := h2.later k1)
          go_ret
          exact ⟨rfl, h2.kept⟩
end Go.Proofs.Ythhmfebnnkcmmaa.De
