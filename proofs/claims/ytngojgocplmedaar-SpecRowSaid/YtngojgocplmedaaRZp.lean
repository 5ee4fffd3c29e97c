/-
  Few of the statements of layer 13: a specification with at most 20 ports and 10 tasks, copied. (Its walk is written by program.)
-/
import Derived.Test.YtngojgocplmedaaRZo
namespace Go.Proofs.YtngojgocplmedaaR.Ls
open Go.RowKit Go.Proofs.YtngojgocplmedaaR.Mem Go.Proofs.YtngojgocplmedaaR.Bx Go.Proofs.YtngojgocplmedaaR.In Go.Proofs.YtngojgocplmedaaR.Sp Go.ChangeShapes Go.WideShapes Go.ChangeAt
set_option linter.unusedVariables false

def few (s : Sp) : Sp := { s with ports := s.ports.take 20, tasks := s.tasks.take 10 }
theorem take_min {α : Type} {l : List α} {n : Nat} (h : l.length = n) (k : Nat) : l.take (min n k) = l.take k := by
  rw [Nat.min_comm, ← List.take_take, List.take_of_length_le (l := l) (i := n) (by omega)]
def subT (ta : Option Addr) (tc : Nat) : Option Addr := if tc = 0 then ta else ta.map (·.add (0 * 6))
theorem subT_h (ao : Option Addr) (n c m : Nat) (h : m ≤ c) (W : World) : (Instr.slice 25 (.slice ao n c) none (some (.int .i64 (m : Int))) none).run Try.prog W = .ok (.slice (subT ao c) m c) W := subE_h elT_fine ao n c m h W
theorem AtE.headT {w : World} {ao : Option Addr} {n cap : Nat} {l : List Tsk} (h : AtE elT w ao n cap l) {m : Nat} (hm : m ≤ n) : AtE elT w (subT ao cap) m cap (l.take m) := h.head hm
theorem few_end {w u w' : World} {s : Sp} {bo eo : Option Addr} {M c R c2 : Nat} (h1 : New (w.heap.size + 2) u bo M c (s.ports.take 20)) (h2 : NewE elT (w.heap.size + 2) u eo R c2 (s.tasks.take 10)) (k : Kept w u) (h : Only w.heap.size (w.heap.size + 2) u w') :
    ∃ q : Pl, Ending.returned (.agg #[.int .i64 s.id, .int .i64 s.c, .int .i64 s.m, .int .i64 s.d, .slice bo M c, .slice eo R c2]) = .returned (.agg (spC (few s) q)) ∧ SpNew w.heap.size w' (few s) q ∧ Kept w w' :=
  ⟨⟨bo, M, c, eo, R, c2⟩, rfl, ⟨(h1.off fun g hg => h.block g (fun e => by omega)).base (by omega), (h2.off fun g hg => h.block g (fun e => by omega)).base (by omega)⟩, h.kept k (Nat.le_refl _)⟩
set_option maxHeartbeats 8000000 in
set_option maxRecDepth 100000 in
theorem few_c {w : World} {s : Sp} {p : Pl} (h : SpAt w s p) : Calls Try.prog 9 #[.agg (spC s p)] w fun e w' => ∃ q : Pl, e = .returned (.agg (spC (few s) q)) ∧ SpNew w.heap.size w' (few s) q ∧ Kept w w' := by
  obtain ⟨po, pn, pc, ta, tn, tc⟩ := p
  obtain ⟨M, hM0⟩ : ∃ M, M = min pn 20 := ⟨_, rfl⟩
  obtain ⟨R, hR0⟩ : ∃ R, R = min tn 10 := ⟨_, rfl⟩
  have hM : min (pn : Int) 20 = (M : Int) := by omega
  have hR : min (tn : Int) 10 = (R : Int) := by omega
  have hMc : M ≤ pc := by have := h.ports.le; show M ≤ pc; simp only at this; omega
  have hRc : R ≤ tc := by have := h.tasks.le; show R ≤ tc; simp only at this; omega
  have e1 := sub_h po pn pc M hMc
  have e2 := subT_h ta tn tc R hRc
  have hP := h.ports.head (m := M) (by show M ≤ pn; omega)
  have hT := h.tasks.headT (m := R) (by show R ≤ tn; omega)
  rw [show s.ports.take M = s.ports.take 20 by rw [hM0]; exact take_min h.ports.len 20] at hP
  rw [show s.tasks.take R = s.tasks.take 10 by rw [hR0]; exact take_min h.tasks.len 10] at hT
  have hM2 : M ≤ 1000000 := by omega
  have hR2 : R ≤ 1000000 := by omega
  clear hM0 hR0 hMc hRc h
  have h0 := boxes2 w (spC s ⟨po, pn, pc, ta, tn, tc⟩) spZ 27
  unfold spC spZ at h0
  unfold spC
  go_enter Try.func9, Try.ntmps9
  go_wp2_with fail
  refine wp_region_held (S := fun W => Kept w W) (by kernel_rfl) ?_
  change wpAnyH _ _ _ _ _ _ _ _ (World.drew _)
  refine wpAnyH_take (i := 0) (v := .pointer (some ⟨w.heap.size, 4, none⟩)) rfl (by kernel_rfl) (by kernel_rfl) (by kernel_rfl) (fun _ _ _ h => h) (Or.inl ⟨by kernel_rfl, fun W _ => by kernel_rfl⟩) h0.drew.kept ?_
  refine wpAnyH_take (i := 2) (v := .pointer (some ⟨w.heap.size, 4, none⟩)) rfl (by kernel_rfl) (by kernel_rfl) (by kernel_rfl) (fun _ _ _ h => h) (Or.inl ⟨by kernel_rfl, fun W _ => by kernel_rfl⟩) h0.drew.kept ?_
  refine wpAnyH_take (i := 8) (v := .pointer (some ⟨w.heap.size, 5, none⟩)) rfl (by kernel_rfl) (by kernel_rfl) (by kernel_rfl) (fun _ _ _ h => h) (Or.inl ⟨by kernel_rfl, fun W _ => by kernel_rfl⟩) h0.drew.kept ?_
  refine wpAnyH_take (i := 10) (v := .pointer (some ⟨w.heap.size, 5, none⟩)) rfl (by kernel_rfl) (by kernel_rfl) (by kernel_rfl) (fun _ _ _ h => h) (Or.inl ⟨by kernel_rfl, fun W _ => by kernel_rfl⟩) h0.drew.kept ?_
  refine Mch.machine (I := fun L0 a0 k listed a W => ∃ (l1 l3 l9 l11 c bc ec : Nat) (bo eo : Option Addr), l1 ≤ 1 ∧ l3 ≤ 1 ∧ l9 ≤ 1 ∧ l11 ≤ 1 ∧ (c = 0 ∨ l1 = 1 ∧ l3 = 1 ∧ (c = 1 ∨ c = 2 ∧ l9 = 1 ∧ l11 = 1)) ∧ k = 16 - ((match l1 with | 0 => [] | _ => [1]) ++ (match l3 with | 0 => [] | _ => [3, 4, 5]) ++ (match l1, l3 with | 1, 1 => [6] | _, _ => []) ++ (match l9 with | 0 => [] | _ => [9]) ++ (match l11 with | 0 => [] | _ => [11, 12, 13]) ++ (match l9, l11 with | 1, 1 => [14] | _, _ => []) ++ (match c with | 0 => [] | _ => [7]) ++ (match c, l9, l11 with | 0, _, _ => [] | _, 1, 1 => [16] | _, _, _ => []) ++ (match c with | 2 => [15] | _ => [])).length ∧
    listed = Mch.sets ((match l1 with | 0 => [] | _ => [1]) ++ (match l3 with | 0 => [] | _ => [3, 4, 5]) ++ (match l1, l3 with | 1, 1 => [6] | _, _ => []) ++ (match l9 with | 0 => [] | _ => [9]) ++ (match l11 with | 0 => [] | _ => [11, 12, 13]) ++ (match l9, l11 with | 1, 1 => [14] | _, _ => []) ++ (match c with | 0 => [] | _ => [7]) ++ (match c, l9, l11 with | 0, _, _ => [] | _, 1, 1 => [16] | _, _, _ => []) ++ (match c with | 2 => [15] | _ => [])) L0 ∧
    a = Mch.puts ((match l1 with | 0 => [] | _ => [(4, .slice po pn pc)]) ++ (match l3 with | 0 => [] | _ => [(6, .slice po pn pc), (7, .int .i64 (pn : Int)), (8, .int .i64 (M : Int))]) ++ (match l1, l3 with | 1, 1 => [(9, .slice (subA po pc 0) M pc)] | _, _ => []) ++ (match l9 with | 0 => [] | _ => [(12, .slice ta tn tc)]) ++ (match l11 with | 0 => [] | _ => [(14, .slice ta tn tc), (15, .int .i64 (tn : Int)), (16, .int .i64 (R : Int))]) ++ (match l9, l11 with | 1, 1 => [(17, .slice (subT ta tc) R tc)] | _, _ => []) ++ (match c with | 0 => [] | _ => [(10, .slice bo M bc)]) ++ (match c, l9, l11 with | 0, _, _ => [] | _, 1, 1 => [(19, .pointer (some ⟨w.heap.size, 4, none⟩))] | _, _, _ => []) ++ (match c with | 2 => [(18, .slice eo R ec)] | _ => [])) a0 ∧
    Mem.Own w [boxA (w.heap.size + 1) #[.int .i64 0, .int .i64 0, .int .i64 0, .int .i64 0, .slice none 0 0, .slice none 0 0] 27, boxA w.heap.size #[.int .i64 s.id, .int .i64 s.c, .int .i64 s.m, .int .i64 s.d, .slice po pn pc, .slice ta tn tc] 27] W ∧ (1 ≤ c → New (w.heap.size + 2) W bo M bc (s.ports.take 20)) ∧ (2 ≤ c → NewE elT (w.heap.size + 2) W eo R ec (s.tasks.take 10))) ?_ ?_
  · intro k IH listed a W hI
    obtain ⟨l1, l3, l9, l11, c, bc, ec, bo, eo, h1, h3, h9, h11, hc, rfl, rfl, rfl, hO, hN, hE⟩ := hI
    obtain ⟨⟨_, _, _, _, c4, c5⟩, fa⟩ := box6 (hO.boxed 1 rfl)
    have hsz : w.heap.size + 2 ≤ W.heap.size := lt_of_block (hO.boxed 0 rfl)
    have g1 : l1 = 0 ∨ l1 = 1 := by omega
    have g3 : l3 = 0 ∨ l3 = 1 := by omega
    have g9 : l9 = 0 ∨ l9 = 1 := by omega
    have g11 : l11 = 0 ∨ l11 = 1 := by omega
    rcases hc with rfl | ⟨rfl, rfl, rfl | ⟨rfl, rfl, rfl⟩⟩
    · rcases g1 with rfl | rfl <;> rcases g3 with rfl | rfl <;> rcases g9 with rfl | rfl <;> rcases g11 with rfl | rfl
      · have hO := hO
        change wpAnyH _ _ _ _ _ 16 _ _ _
        refine wpAnyH_ready (rs := [1, 3, 9, 11]) (by kernel_rfl) (by simp) ?_
        refine Mch.ready_run (i := 1) (v := .slice po pn pc) (w' := W) rfl (by kernel_rfl) (op_load (ad := ⟨w.heap.size, 4, none⟩) rfl (by kernel_rfl) c4 (fun _ => by kernel_rfl)) hO.kept ?_ ?_
        · exact IH 15 (by decide) _ _ _ ⟨1, 0, 0, 0, 0, bc, ec, bo, eo, by decide, by decide, by decide, by decide, by decide, rfl, by kernel_rfl, by kernel_rfl, hO, hN, hE⟩
        refine Mch.ready_run (i := 3) (v := .slice po pn pc) (w' := W) rfl (by kernel_rfl) (op_load (ad := ⟨w.heap.size, 4, none⟩) rfl (by kernel_rfl) c4 (fun _ => by kernel_rfl)) hO.kept ?_ ?_
        · refine wpAnyH_take (i := 4) (v := .int .i64 (pn : Int)) rfl (by kernel_rfl) (by kernel_rfl) (by kernel_rfl) (fun _ _ _ h => h) (Or.inl ⟨by kernel_rfl, fun W _ => op_len (ao := po) (n := pn) (c := pc) rfl (by kernel_rfl) Try.underlying24⟩) hO.kept ?_
          refine wpAnyH_take (i := 5) (v := .int .i64 (M : Int)) rfl (by kernel_rfl) (by kernel_rfl) (by kernel_rfl) (fun _ _ _ h => h) (Or.inl ⟨by kernel_rfl, fun W _ => op_min (a := (pn : Int)) (b := 20) rfl (by kernel_rfl) (by kernel_rfl) hM⟩) hO.kept ?_
          exact IH 13 (by decide) _ _ _ ⟨0, 1, 0, 0, 0, bc, ec, bo, eo, by decide, by decide, by decide, by decide, by decide, rfl, by kernel_rfl, by kernel_rfl, hO, hN, hE⟩
        refine Mch.ready_run (i := 9) (v := .slice ta tn tc) (w' := W) rfl (by kernel_rfl) (op_load (ad := ⟨w.heap.size, 5, none⟩) rfl (by kernel_rfl) c5 (fun _ => by kernel_rfl)) hO.kept ?_ ?_
        · exact IH 15 (by decide) _ _ _ ⟨0, 0, 1, 0, 0, bc, ec, bo, eo, by decide, by decide, by decide, by decide, by decide, rfl, by kernel_rfl, by kernel_rfl, hO, hN, hE⟩
        refine Mch.ready_run (i := 11) (v := .slice ta tn tc) (w' := W) rfl (by kernel_rfl) (op_load (ad := ⟨w.heap.size, 5, none⟩) rfl (by kernel_rfl) c5 (fun _ => by kernel_rfl)) hO.kept ?_ ?_
        · refine wpAnyH_take (i := 12) (v := .int .i64 (tn : Int)) rfl (by kernel_rfl) (by kernel_rfl) (by kernel_rfl) (fun _ _ _ h => h) (Or.inl ⟨by kernel_rfl, fun W _ => op_len (ao := ta) (n := tn) (c := tc) rfl (by kernel_rfl) Try.underlying25⟩) hO.kept ?_
          refine wpAnyH_take (i := 13) (v := .int .i64 (R : Int)) rfl (by kernel_rfl) (by kernel_rfl) (by kernel_rfl) (fun _ _ _ h => h) (Or.inl ⟨by kernel_rfl, fun W _ => op_min (a := (tn : Int)) (b := 10) rfl (by kernel_rfl) (by kernel_rfl) hR⟩) hO.kept ?_
          exact IH 13 (by decide) _ _ _ ⟨0, 0, 0, 1, 0, bc, ec, bo, eo, by decide, by decide, by decide, by decide, by decide, rfl, by kernel_rfl, by kernel_rfl, hO, hN, hE⟩
        exact AllReadyH.nil
      · have hO := hO
        change wpAnyH _ _ _ _ _ 13 _ _ _
        refine wpAnyH_ready (rs := [1, 3, 9]) (by kernel_rfl) (by simp) ?_
        refine Mch.ready_run (i := 1) (v := .slice po pn pc) (w' := W) rfl (by kernel_rfl) (op_load (ad := ⟨w.heap.size, 4, none⟩) rfl (by kernel_rfl) c4 (fun _ => by kernel_rfl)) hO.kept ?_ ?_
        · exact IH 12 (by decide) _ _ _ ⟨1, 0, 0, 1, 0, bc, ec, bo, eo, by decide, by decide, by decide, by decide, by decide, rfl, by kernel_rfl, by kernel_rfl, hO, hN, hE⟩
        refine Mch.ready_run (i := 3) (v := .slice po pn pc) (w' := W) rfl (by kernel_rfl) (op_load (ad := ⟨w.heap.size, 4, none⟩) rfl (by kernel_rfl) c4 (fun _ => by kernel_rfl)) hO.kept ?_ ?_
        · refine wpAnyH_take (i := 4) (v := .int .i64 (pn : Int)) rfl (by kernel_rfl) (by kernel_rfl) (by kernel_rfl) (fun _ _ _ h => h) (Or.inl ⟨by kernel_rfl, fun W _ => op_len (ao := po) (n := pn) (c := pc) rfl (by kernel_rfl) Try.underlying24⟩) hO.kept ?_
          refine wpAnyH_take (i := 5) (v := .int .i64 (M : Int)) rfl (by kernel_rfl) (by kernel_rfl) (by kernel_rfl) (fun _ _ _ h => h) (Or.inl ⟨by kernel_rfl, fun W _ => op_min (a := (pn : Int)) (b := 20) rfl (by kernel_rfl) (by kernel_rfl) hM⟩) hO.kept ?_
          exact IH 10 (by decide) _ _ _ ⟨0, 1, 0, 1, 0, bc, ec, bo, eo, by decide, by decide, by decide, by decide, by decide, rfl, by kernel_rfl, by kernel_rfl, hO, hN, hE⟩
        refine Mch.ready_run (i := 9) (v := .slice ta tn tc) (w' := W) rfl (by kernel_rfl) (op_load (ad := ⟨w.heap.size, 5, none⟩) rfl (by kernel_rfl) c5 (fun _ => by kernel_rfl)) hO.kept ?_ ?_
        · refine wpAnyH_take (i := 14) (v := .slice (subT ta tc) R tc) rfl (by kernel_rfl) (by kernel_rfl) (by kernel_rfl) (fun _ _ _ h => h) (Or.inl ⟨by kernel_rfl, fun W _ => op_cut (ao := ta) (n := tn) (c := tc) (z := .int .i64 (R : Int)) rfl (by kernel_rfl) (by kernel_rfl) (e2 W) Try.underlying25⟩) hO.kept ?_
          exact IH 11 (by decide) _ _ _ ⟨0, 0, 1, 1, 0, bc, ec, bo, eo, by decide, by decide, by decide, by decide, by decide, rfl, by kernel_rfl, by kernel_rfl, hO, hN, hE⟩
        exact AllReadyH.nil
      · have hO := hO
        change wpAnyH _ _ _ _ _ 15 _ _ _
        refine wpAnyH_ready (rs := [1, 3, 11]) (by kernel_rfl) (by simp) ?_
        refine Mch.ready_run (i := 1) (v := .slice po pn pc) (w' := W) rfl (by kernel_rfl) (op_load (ad := ⟨w.heap.size, 4, none⟩) rfl (by kernel_rfl) c4 (fun _ => by kernel_rfl)) hO.kept ?_ ?_
        · exact IH 14 (by decide) _ _ _ ⟨1, 0, 1, 0, 0, bc, ec, bo, eo, by decide, by decide, by decide, by decide, by decide, rfl, by kernel_rfl, by kernel_rfl, hO, hN, hE⟩
        refine Mch.ready_run (i := 3) (v := .slice po pn pc) (w' := W) rfl (by kernel_rfl) (op_load (ad := ⟨w.heap.size, 4, none⟩) rfl (by kernel_rfl) c4 (fun _ => by kernel_rfl)) hO.kept ?_ ?_
        · refine wpAnyH_take (i := 4) (v := .int .i64 (pn : Int)) rfl (by kernel_rfl) (by kernel_rfl) (by kernel_rfl) (fun _ _ _ h => h) (Or.inl ⟨by kernel_rfl, fun W _ => op_len (ao := po) (n := pn) (c := pc) rfl (by kernel_rfl) Try.underlying24⟩) hO.kept ?_
          refine wpAnyH_take (i := 5) (v := .int .i64 (M : Int)) rfl (by kernel_rfl) (by kernel_rfl) (by kernel_rfl) (fun _ _ _ h => h) (Or.inl ⟨by kernel_rfl, fun W _ => op_min (a := (pn : Int)) (b := 20) rfl (by kernel_rfl) (by kernel_rfl) hM⟩) hO.kept ?_
          exact IH 12 (by decide) _ _ _ ⟨0, 1, 1, 0, 0, bc, ec, bo, eo, by decide, by decide, by decide, by decide, by decide, rfl, by kernel_rfl, by kernel_rfl, hO, hN, hE⟩
        refine Mch.ready_run (i := 11) (v := .slice ta tn tc) (w' := W) rfl (by kernel_rfl) (op_load (ad := ⟨w.heap.size, 5, none⟩) rfl (by kernel_rfl) c5 (fun _ => by kernel_rfl)) hO.kept ?_ ?_
        · refine wpAnyH_take (i := 12) (v := .int .i64 (tn : Int)) rfl (by kernel_rfl) (by kernel_rfl) (by kernel_rfl) (fun _ _ _ h => h) (Or.inl ⟨by kernel_rfl, fun W _ => op_len (ao := ta) (n := tn) (c := tc) rfl (by kernel_rfl) Try.underlying25⟩) hO.kept ?_
          refine wpAnyH_take (i := 13) (v := .int .i64 (R : Int)) rfl (by kernel_rfl) (by kernel_rfl) (by kernel_rfl) (fun _ _ _ h => h) (Or.inl ⟨by kernel_rfl, fun W _ => op_min (a := (tn : Int)) (b := 10) rfl (by kernel_rfl) (by kernel_rfl) hR⟩) hO.kept ?_
          refine wpAnyH_take (i := 14) (v := .slice (subT ta tc) R tc) rfl (by kernel_rfl) (by kernel_rfl) (by kernel_rfl) (fun _ _ _ h => h) (Or.inl ⟨by kernel_rfl, fun W _ => op_cut (ao := ta) (n := tn) (c := tc) (z := .int .i64 (R : Int)) rfl (by kernel_rfl) (by kernel_rfl) (e2 W) Try.underlying25⟩) hO.kept ?_
          exact IH 11 (by decide) _ _ _ ⟨0, 0, 1, 1, 0, bc, ec, bo, eo, by decide, by decide, by decide, by decide, by decide, rfl, by kernel_rfl, by kernel_rfl, hO, hN, hE⟩
        exact AllReadyH.nil
      · have hO := hO
        change wpAnyH _ _ _ _ _ 11 _ _ _
        refine wpAnyH_ready (rs := [1, 3]) (by kernel_rfl) (by simp) ?_
        refine Mch.ready_run (i := 1) (v := .slice po pn pc) (w' := W) rfl (by kernel_rfl) (op_load (ad := ⟨w.heap.size, 4, none⟩) rfl (by kernel_rfl) c4 (fun _ => by kernel_rfl)) hO.kept ?_ ?_
        · exact IH 10 (by decide) _ _ _ ⟨1, 0, 1, 1, 0, bc, ec, bo, eo, by decide, by decide, by decide, by decide, by decide, rfl, by kernel_rfl, by kernel_rfl, hO, hN, hE⟩
        refine Mch.ready_run (i := 3) (v := .slice po pn pc) (w' := W) rfl (by kernel_rfl) (op_load (ad := ⟨w.heap.size, 4, none⟩) rfl (by kernel_rfl) c4 (fun _ => by kernel_rfl)) hO.kept ?_ ?_
        · refine wpAnyH_take (i := 4) (v := .int .i64 (pn : Int)) rfl (by kernel_rfl) (by kernel_rfl) (by kernel_rfl) (fun _ _ _ h => h) (Or.inl ⟨by kernel_rfl, fun W _ => op_len (ao := po) (n := pn) (c := pc) rfl (by kernel_rfl) Try.underlying24⟩) hO.kept ?_
          refine wpAnyH_take (i := 5) (v := .int .i64 (M : Int)) rfl (by kernel_rfl) (by kernel_rfl) (by kernel_rfl) (fun _ _ _ h => h) (Or.inl ⟨by kernel_rfl, fun W _ => op_min (a := (pn : Int)) (b := 20) rfl (by kernel_rfl) (by kernel_rfl) hM⟩) hO.kept ?_
          exact IH 8 (by decide) _ _ _ ⟨0, 1, 1, 1, 0, bc, ec, bo, eo, by decide, by decide, by decide, by decide, by decide, rfl, by kernel_rfl, by kernel_rfl, hO, hN, hE⟩
        exact AllReadyH.nil
      · have hO := hO
        change wpAnyH _ _ _ _ _ 13 _ _ _
        refine wpAnyH_ready (rs := [1, 9, 11]) (by kernel_rfl) (by simp) ?_
        refine Mch.ready_run (i := 1) (v := .slice po pn pc) (w' := W) rfl (by kernel_rfl) (op_load (ad := ⟨w.heap.size, 4, none⟩) rfl (by kernel_rfl) c4 (fun _ => by kernel_rfl)) hO.kept ?_ ?_
        · refine wpAnyH_take (i := 6) (v := .slice (subA po pc 0) M pc) rfl (by kernel_rfl) (by kernel_rfl) (by kernel_rfl) (fun _ _ _ h => h) (Or.inl ⟨by kernel_rfl, fun W _ => op_cut (ao := po) (n := pn) (c := pc) (z := .int .i64 (M : Int)) rfl (by kernel_rfl) (by kernel_rfl) (e1 W) Try.underlying24⟩) hO.kept ?_
          exact IH 11 (by decide) _ _ _ ⟨1, 1, 0, 0, 0, bc, ec, bo, eo, by decide, by decide, by decide, by decide, by decide, rfl, by kernel_rfl, by kernel_rfl, hO, hN, hE⟩
        refine Mch.ready_run (i := 9) (v := .slice ta tn tc) (w' := W) rfl (by kernel_rfl) (op_load (ad := ⟨w.heap.size, 5, none⟩) rfl (by kernel_rfl) c5 (fun _ => by kernel_rfl)) hO.kept ?_ ?_
        · exact IH 12 (by decide) _ _ _ ⟨0, 1, 1, 0, 0, bc, ec, bo, eo, by decide, by decide, by decide, by decide, by decide, rfl, by kernel_rfl, by kernel_rfl, hO, hN, hE⟩
        refine Mch.ready_run (i := 11) (v := .slice ta tn tc) (w' := W) rfl (by kernel_rfl) (op_load (ad := ⟨w.heap.size, 5, none⟩) rfl (by kernel_rfl) c5 (fun _ => by kernel_rfl)) hO.kept ?_ ?_
        · refine wpAnyH_take (i := 12) (v := .int .i64 (tn : Int)) rfl (by kernel_rfl) (by kernel_rfl) (by kernel_rfl) (fun _ _ _ h => h) (Or.inl ⟨by kernel_rfl, fun W _ => op_len (ao := ta) (n := tn) (c := tc) rfl (by kernel_rfl) Try.underlying25⟩) hO.kept ?_
          refine wpAnyH_take (i := 13) (v := .int .i64 (R : Int)) rfl (by kernel_rfl) (by kernel_rfl) (by kernel_rfl) (fun _ _ _ h => h) (Or.inl ⟨by kernel_rfl, fun W _ => op_min (a := (tn : Int)) (b := 10) rfl (by kernel_rfl) (by kernel_rfl) hR⟩) hO.kept ?_
          exact IH 10 (by decide) _ _ _ ⟨0, 1, 0, 1, 0, bc, ec, bo, eo, by decide, by decide, by decide, by decide, by decide, rfl, by kernel_rfl, by kernel_rfl, hO, hN, hE⟩
        exact AllReadyH.nil
      · have hO := hO
        change wpAnyH _ _ _ _ _ 10 _ _ _
        refine wpAnyH_ready (rs := [1, 9]) (by kernel_rfl) (by simp) ?_
        refine Mch.ready_run (i := 1) (v := .slice po pn pc) (w' := W) rfl (by kernel_rfl) (op_load (ad := ⟨w.heap.size, 4, none⟩) rfl (by kernel_rfl) c4 (fun _ => by kernel_rfl)) hO.kept ?_ ?_
        · refine wpAnyH_take (i := 6) (v := .slice (subA po pc 0) M pc) rfl (by kernel_rfl) (by kernel_rfl) (by kernel_rfl) (fun _ _ _ h => h) (Or.inl ⟨by kernel_rfl, fun W _ => op_cut (ao := po) (n := pn) (c := pc) (z := .int .i64 (M : Int)) rfl (by kernel_rfl) (by kernel_rfl) (e1 W) Try.underlying24⟩) hO.kept ?_
          exact IH 8 (by decide) _ _ _ ⟨1, 1, 0, 1, 0, bc, ec, bo, eo, by decide, by decide, by decide, by decide, by decide, rfl, by kernel_rfl, by kernel_rfl, hO, hN, hE⟩
        refine Mch.ready_run (i := 9) (v := .slice ta tn tc) (w' := W) rfl (by kernel_rfl) (op_load (ad := ⟨w.heap.size, 5, none⟩) rfl (by kernel_rfl) c5 (fun _ => by kernel_rfl)) hO.kept ?_ ?_
        · refine wpAnyH_take (i := 14) (v := .slice (subT ta tc) R tc) rfl (by kernel_rfl) (by kernel_rfl) (by kernel_rfl) (fun _ _ _ h => h) (Or.inl ⟨by kernel_rfl, fun W _ => op_cut (ao := ta) (n := tn) (c := tc) (z := .int .i64 (R : Int)) rfl (by kernel_rfl) (by kernel_rfl) (e2 W) Try.underlying25⟩) hO.kept ?_
          exact IH 8 (by decide) _ _ _ ⟨0, 1, 1, 1, 0, bc, ec, bo, eo, by decide, by decide, by decide, by decide, by decide, rfl, by kernel_rfl, by kernel_rfl, hO, hN, hE⟩
        exact AllReadyH.nil
      · have hO := hO
        change wpAnyH _ _ _ _ _ 12 _ _ _
        refine wpAnyH_ready (rs := [1, 11]) (by kernel_rfl) (by simp) ?_
        refine Mch.ready_run (i := 1) (v := .slice po pn pc) (w' := W) rfl (by kernel_rfl) (op_load (ad := ⟨w.heap.size, 4, none⟩) rfl (by kernel_rfl) c4 (fun _ => by kernel_rfl)) hO.kept ?_ ?_
        · refine wpAnyH_take (i := 6) (v := .slice (subA po pc 0) M pc) rfl (by kernel_rfl) (by kernel_rfl) (by kernel_rfl) (fun _ _ _ h => h) (Or.inl ⟨by kernel_rfl, fun W _ => op_cut (ao := po) (n := pn) (c := pc) (z := .int .i64 (M : Int)) rfl (by kernel_rfl) (by kernel_rfl) (e1 W) Try.underlying24⟩) hO.kept ?_
          exact IH 10 (by decide) _ _ _ ⟨1, 1, 1, 0, 0, bc, ec, bo, eo, by decide, by decide, by decide, by decide, by decide, rfl, by kernel_rfl, by kernel_rfl, hO, hN, hE⟩
        refine Mch.ready_run (i := 11) (v := .slice ta tn tc) (w' := W) rfl (by kernel_rfl) (op_load (ad := ⟨w.heap.size, 5, none⟩) rfl (by kernel_rfl) c5 (fun _ => by kernel_rfl)) hO.kept ?_ ?_
        · refine wpAnyH_take (i := 12) (v := .int .i64 (tn : Int)) rfl (by kernel_rfl) (by kernel_rfl) (by kernel_rfl) (fun _ _ _ h => h) (Or.inl ⟨by kernel_rfl, fun W _ => op_len (ao := ta) (n := tn) (c := tc) rfl (by kernel_rfl) Try.underlying25⟩) hO.kept ?_
          refine wpAnyH_take (i := 13) (v := .int .i64 (R : Int)) rfl (by kernel_rfl) (by kernel_rfl) (by kernel_rfl) (fun _ _ _ h => h) (Or.inl ⟨by kernel_rfl, fun W _ => op_min (a := (tn : Int)) (b := 10) rfl (by kernel_rfl) (by kernel_rfl) hR⟩) hO.kept ?_
          refine wpAnyH_take (i := 14) (v := .slice (subT ta tc) R tc) rfl (by kernel_rfl) (by kernel_rfl) (by kernel_rfl) (fun _ _ _ h => h) (Or.inl ⟨by kernel_rfl, fun W _ => op_cut (ao := ta) (n := tn) (c := tc) (z := .int .i64 (R : Int)) rfl (by kernel_rfl) (by kernel_rfl) (e2 W) Try.underlying25⟩) hO.kept ?_
          exact IH 8 (by decide) _ _ _ ⟨0, 1, 1, 1, 0, bc, ec, bo, eo, by decide, by decide, by decide, by decide, by decide, rfl, by kernel_rfl, by kernel_rfl, hO, hN, hE⟩
        exact AllReadyH.nil
      · have hO := hO
        change wpAnyH _ _ _ _ _ 8 _ _ _
        refine wpAnyH_ready (rs := [1]) (by kernel_rfl) (by simp) ?_
        refine Mch.ready_run (i := 1) (v := .slice po pn pc) (w' := W) rfl (by kernel_rfl) (op_load (ad := ⟨w.heap.size, 4, none⟩) rfl (by kernel_rfl) c4 (fun _ => by kernel_rfl)) hO.kept ?_ ?_
        · refine wpAnyH_take (i := 6) (v := .slice (subA po pc 0) M pc) rfl (by kernel_rfl) (by kernel_rfl) (by kernel_rfl) (fun _ _ _ h => h) (Or.inl ⟨by kernel_rfl, fun W _ => op_cut (ao := po) (n := pn) (c := pc) (z := .int .i64 (M : Int)) rfl (by kernel_rfl) (by kernel_rfl) (e1 W) Try.underlying24⟩) hO.kept ?_
          exact IH 6 (by decide) _ _ _ ⟨1, 1, 1, 1, 0, bc, ec, bo, eo, by decide, by decide, by decide, by decide, by decide, rfl, by kernel_rfl, by kernel_rfl, hO, hN, hE⟩
        exact AllReadyH.nil
      · have hO := hO
        change wpAnyH _ _ _ _ _ 15 _ _ _
        refine wpAnyH_ready (rs := [3, 9, 11]) (by kernel_rfl) (by simp) ?_
        refine Mch.ready_run (i := 3) (v := .slice po pn pc) (w' := W) rfl (by kernel_rfl) (op_load (ad := ⟨w.heap.size, 4, none⟩) rfl (by kernel_rfl) c4 (fun _ => by kernel_rfl)) hO.kept ?_ ?_
        · refine wpAnyH_take (i := 4) (v := .int .i64 (pn : Int)) rfl (by kernel_rfl) (by kernel_rfl) (by kernel_rfl) (fun _ _ _ h => h) (Or.inl ⟨by kernel_rfl, fun W _ => op_len (ao := po) (n := pn) (c := pc) rfl (by kernel_rfl) Try.underlying24⟩) hO.kept ?_
          refine wpAnyH_take (i := 5) (v := .int .i64 (M : Int)) rfl (by kernel_rfl) (by kernel_rfl) (by kernel_rfl) (fun _ _ _ h => h) (Or.inl ⟨by kernel_rfl, fun W _ => op_min (a := (pn : Int)) (b := 20) rfl (by kernel_rfl) (by kernel_rfl) hM⟩) hO.kept ?_
          refine wpAnyH_take (i := 6) (v := .slice (subA po pc 0) M pc) rfl (by kernel_rfl) (by kernel_rfl) (by kernel_rfl) (fun _ _ _ h => h) (Or.inl ⟨by kernel_rfl, fun W _ => op_cut (ao := po) (n := pn) (c := pc) (z := .int .i64 (M : Int)) rfl (by kernel_rfl) (by kernel_rfl) (e1 W) Try.underlying24⟩) hO.kept ?_
          exact IH 11 (by decide) _ _ _ ⟨1, 1, 0, 0, 0, bc, ec, bo, eo, by decide, by decide, by decide, by decide, by decide, rfl, by kernel_rfl, by kernel_rfl, hO, hN, hE⟩
        refine Mch.ready_run (i := 9) (v := .slice ta tn tc) (w' := W) rfl (by kernel_rfl) (op_load (ad := ⟨w.heap.size, 5, none⟩) rfl (by kernel_rfl) c5 (fun _ => by kernel_rfl)) hO.kept ?_ ?_
        · exact IH 14 (by decide) _ _ _ ⟨1, 0, 1, 0, 0, bc, ec, bo, eo, by decide, by decide, by decide, by decide, by decide, rfl, by kernel_rfl, by kernel_rfl, hO, hN, hE⟩
        refine Mch.ready_run (i := 11) (v := .slice ta tn tc) (w' := W) rfl (by kernel_rfl) (op_load (ad := ⟨w.heap.size, 5, none⟩) rfl (by kernel_rfl) c5 (fun _ => by kernel_rfl)) hO.kept ?_ ?_
        · refine wpAnyH_take (i := 12) (v := .int .i64 (tn : Int)) rfl (by kernel_rfl) (by kernel_rfl) (by kernel_rfl) (fun _ _ _ h => h) (Or.inl ⟨by kernel_rfl, fun W _ => op_len (ao := ta) (n := tn) (c := tc) rfl (by kernel_rfl) Try.underlying25⟩) hO.kept ?_
          refine wpAnyH_take (i := 13) (v := .int .i64 (R : Int)) rfl (by kernel_rfl) (by kernel_rfl) (by kernel_rfl) (fun _ _ _ h => h) (Or.inl ⟨by kernel_rfl, fun W _ => op_min (a := (tn : Int)) (b := 10) rfl (by kernel_rfl) (by kernel_rfl) hR⟩) hO.kept ?_
          exact IH 12 (by decide) _ _ _ ⟨1, 0, 0, 1, 0, bc, ec, bo, eo, by decide, by decide, by decide, by decide, by decide, rfl, by kernel_rfl, by kernel_rfl, hO, hN, hE⟩
        exact AllReadyH.nil
      · have hO := hO
        change wpAnyH _ _ _ _ _ 12 _ _ _
        refine wpAnyH_ready (rs := [3, 9]) (by kernel_rfl) (by simp) ?_
        refine Mch.ready_run (i := 3) (v := .slice po pn pc) (w' := W) rfl (by kernel_rfl) (op_load (ad := ⟨w.heap.size, 4, none⟩) rfl (by kernel_rfl) c4 (fun _ => by kernel_rfl)) hO.kept ?_ ?_
        · refine wpAnyH_take (i := 4) (v := .int .i64 (pn : Int)) rfl (by kernel_rfl) (by kernel_rfl) (by kernel_rfl) (fun _ _ _ h => h) (Or.inl ⟨by kernel_rfl, fun W _ => op_len (ao := po) (n := pn) (c := pc) rfl (by kernel_rfl) Try.underlying24⟩) hO.kept ?_
          refine wpAnyH_take (i := 5) (v := .int .i64 (M : Int)) rfl (by kernel_rfl) (by kernel_rfl) (by kernel_rfl) (fun _ _ _ h => h) (Or.inl ⟨by kernel_rfl, fun W _ => op_min (a := (pn : Int)) (b := 20) rfl (by kernel_rfl) (by kernel_rfl) hM⟩) hO.kept ?_
          refine wpAnyH_take (i := 6) (v := .slice (subA po pc 0) M pc) rfl (by kernel_rfl) (by kernel_rfl) (by kernel_rfl) (fun _ _ _ h => h) (Or.inl ⟨by kernel_rfl, fun W _ => op_cut (ao := po) (n := pn) (c := pc) (z := .int .i64 (M : Int)) rfl (by kernel_rfl) (by kernel_rfl) (e1 W) Try.underlying24⟩) hO.kept ?_
          exact IH 8 (by decide) _ _ _ ⟨1, 1, 0, 1, 0, bc, ec, bo, eo, by decide, by decide, by decide, by decide, by decide, rfl, by kernel_rfl, by kernel_rfl, hO, hN, hE⟩
        refine Mch.ready_run (i := 9) (v := .slice ta tn tc) (w' := W) rfl (by kernel_rfl) (op_load (ad := ⟨w.heap.size, 5, none⟩) rfl (by kernel_rfl) c5 (fun _ => by kernel_rfl)) hO.kept ?_ ?_
        · refine wpAnyH_take (i := 14) (v := .slice (subT ta tc) R tc) rfl (by kernel_rfl) (by kernel_rfl) (by kernel_rfl) (fun _ _ _ h => h) (Or.inl ⟨by kernel_rfl, fun W _ => op_cut (ao := ta) (n := tn) (c := tc) (z := .int .i64 (R : Int)) rfl (by kernel_rfl) (by kernel_rfl) (e2 W) Try.underlying25⟩) hO.kept ?_
          exact IH 10 (by decide) _ _ _ ⟨1, 0, 1, 1, 0, bc, ec, bo, eo, by decide, by decide, by decide, by decide, by decide, rfl, by kernel_rfl, by kernel_rfl, hO, hN, hE⟩
        exact AllReadyH.nil
      · have hO := hO
        change wpAnyH _ _ _ _ _ 14 _ _ _
        refine wpAnyH_ready (rs := [3, 11]) (by kernel_rfl) (by simp) ?_
        refine Mch.ready_run (i := 3) (v := .slice po pn pc) (w' := W) rfl (by kernel_rfl) (op_load (ad := ⟨w.heap.size, 4, none⟩) rfl (by kernel_rfl) c4 (fun _ => by kernel_rfl)) hO.kept ?_ ?_
        · refine wpAnyH_take (i := 4) (v := .int .i64 (pn : Int)) rfl (by kernel_rfl) (by kernel_rfl) (by kernel_rfl) (fun _ _ _ h => h) (Or.inl ⟨by kernel_rfl, fun W _ => op_len (ao := po) (n := pn) (c := pc) rfl (by kernel_rfl) Try.underlying24⟩) hO.kept ?_
          refine wpAnyH_take (i := 5) (v := .int .i64 (M : Int)) rfl (by kernel_rfl) (by kernel_rfl) (by kernel_rfl) (fun _ _ _ h => h) (Or.inl ⟨by kernel_rfl, fun W _ => op_min (a := (pn : Int)) (b := 20) rfl (by kernel_rfl) (by kernel_rfl) hM⟩) hO.kept ?_
          refine wpAnyH_take (i := 6) (v := .slice (subA po pc 0) M pc) rfl (by kernel_rfl) (by kernel_rfl) (by kernel_rfl) (fun _ _ _ h => h) (Or.inl ⟨by kernel_rfl, fun W _ => op_cut (ao := po) (n := pn) (c := pc) (z := .int .i64 (M : Int)) rfl (by kernel_rfl) (by kernel_rfl) (e1 W) Try.underlying24⟩) hO.kept ?_
          exact IH 10 (by decide) _ _ _ ⟨1, 1, 1, 0, 0, bc, ec, bo, eo, by decide, by decide, by decide, by decide, by decide, rfl, by kernel_rfl, by kernel_rfl, hO, hN, hE⟩
        refine Mch.ready_run (i := 11) (v := .slice ta tn tc) (w' := W) rfl (by kernel_rfl) (op_load (ad := ⟨w.heap.size, 5, none⟩) rfl (by kernel_rfl) c5 (fun _ => by kernel_rfl)) hO.kept ?_ ?_
        · refine wpAnyH_take (i := 12) (v := .int .i64 (tn : Int)) rfl (by kernel_rfl) (by kernel_rfl) (by kernel_rfl) (fun _ _ _ h => h) (Or.inl ⟨by kernel_rfl, fun W _ => op_len (ao := ta) (n := tn) (c := tc) rfl (by kernel_rfl) Try.underlying25⟩) hO.kept ?_
          refine wpAnyH_take (i := 13) (v := .int .i64 (R : Int)) rfl (by kernel_rfl) (by kernel_rfl) (by kernel_rfl) (fun _ _ _ h => h) (Or.inl ⟨by kernel_rfl, fun W _ => op_min (a := (tn : Int)) (b := 10) rfl (by kernel_rfl) (by kernel_rfl) hR⟩) hO.kept ?_
          refine wpAnyH_take (i := 14) (v := .slice (subT ta tc) R tc) rfl (by kernel_rfl) (by kernel_rfl) (by kernel_rfl) (fun _ _ _ h => h) (Or.inl ⟨by kernel_rfl, fun W _ => op_cut (ao := ta) (n := tn) (c := tc) (z := .int .i64 (R : Int)) rfl (by kernel_rfl) (by kernel_rfl) (e2 W) Try.underlying25⟩) hO.kept ?_
          exact IH 10 (by decide) _ _ _ ⟨1, 0, 1, 1, 0, bc, ec, bo, eo, by decide, by decide, by decide, by decide, by decide, rfl, by kernel_rfl, by kernel_rfl, hO, hN, hE⟩
        exact AllReadyH.nil
      · have hO := hO
        change wpAnyH _ _ _ _ _ 10 _ _ _
        refine wpAnyH_ready (rs := [3]) (by kernel_rfl) (by simp) ?_
        refine Mch.ready_run (i := 3) (v := .slice po pn pc) (w' := W) rfl (by kernel_rfl) (op_load (ad := ⟨w.heap.size, 4, none⟩) rfl (by kernel_rfl) c4 (fun _ => by kernel_rfl)) hO.kept ?_ ?_
        · refine wpAnyH_take (i := 4) (v := .int .i64 (pn : Int)) rfl (by kernel_rfl) (by kernel_rfl) (by kernel_rfl) (fun _ _ _ h => h) (Or.inl ⟨by kernel_rfl, fun W _ => op_len (ao := po) (n := pn) (c := pc) rfl (by kernel_rfl) Try.underlying24⟩) hO.kept ?_
          refine wpAnyH_take (i := 5) (v := .int .i64 (M : Int)) rfl (by kernel_rfl) (by kernel_rfl) (by kernel_rfl) (fun _ _ _ h => h) (Or.inl ⟨by kernel_rfl, fun W _ => op_min (a := (pn : Int)) (b := 20) rfl (by kernel_rfl) (by kernel_rfl) hM⟩) hO.kept ?_
          refine wpAnyH_take (i := 6) (v := .slice (subA po pc 0) M pc) rfl (by kernel_rfl) (by kernel_rfl) (by kernel_rfl) (fun _ _ _ h => h) (Or.inl ⟨by kernel_rfl, fun W _ => op_cut (ao := po) (n := pn) (c := pc) (z := .int .i64 (M : Int)) rfl (by kernel_rfl) (by kernel_rfl) (e1 W) Try.underlying24⟩) hO.kept ?_
          exact IH 6 (by decide) _ _ _ ⟨1, 1, 1, 1, 0, bc, ec, bo, eo, by decide, by decide, by decide, by decide, by decide, rfl, by kernel_rfl, by kernel_rfl, hO, hN, hE⟩
        exact AllReadyH.nil
      · have hO := hO
        change wpAnyH _ _ _ _ _ 11 _ _ _
        refine wpAnyH_ready (rs := [7, 9, 11]) (by kernel_rfl) (by simp) ?_
        refine Mch.ready_call (i := 7) rfl (by kernel_rfl) (by kernel_rfl) ((copy_c (hP.kept hO.kept) hM2).mono ?_) ?_
        · rintro e W2 ⟨bo, bc, rfl, hnew, k2⟩
          refine ⟨_, rfl, (hO.later k2).kept, ?_⟩
          exact IH 10 (by decide) _ _ _ ⟨1, 1, 0, 0, 1, bc, ec, bo, eo, by decide, by decide, by decide, by decide, by decide, rfl, by kernel_rfl, by kernel_rfl, hO.later k2, fun _ => hnew.base hsz, fun h => absurd h (by decide)⟩
        refine Mch.ready_run (i := 9) (v := .slice ta tn tc) (w' := W) rfl (by kernel_rfl) (op_load (ad := ⟨w.heap.size, 5, none⟩) rfl (by kernel_rfl) c5 (fun _ => by kernel_rfl)) hO.kept ?_ ?_
        · exact IH 10 (by decide) _ _ _ ⟨1, 1, 1, 0, 0, bc, ec, bo, eo, by decide, by decide, by decide, by decide, by decide, rfl, by kernel_rfl, by kernel_rfl, hO, hN, hE⟩
        refine Mch.ready_run (i := 11) (v := .slice ta tn tc) (w' := W) rfl (by kernel_rfl) (op_load (ad := ⟨w.heap.size, 5, none⟩) rfl (by kernel_rfl) c5 (fun _ => by kernel_rfl)) hO.kept ?_ ?_
        · refine wpAnyH_take (i := 12) (v := .int .i64 (tn : Int)) rfl (by kernel_rfl) (by kernel_rfl) (by kernel_rfl) (fun _ _ _ h => h) (Or.inl ⟨by kernel_rfl, fun W _ => op_len (ao := ta) (n := tn) (c := tc) rfl (by kernel_rfl) Try.underlying25⟩) hO.kept ?_
          refine wpAnyH_take (i := 13) (v := .int .i64 (R : Int)) rfl (by kernel_rfl) (by kernel_rfl) (by kernel_rfl) (fun _ _ _ h => h) (Or.inl ⟨by kernel_rfl, fun W _ => op_min (a := (tn : Int)) (b := 10) rfl (by kernel_rfl) (by kernel_rfl) hR⟩) hO.kept ?_
          exact IH 8 (by decide) _ _ _ ⟨1, 1, 0, 1, 0, bc, ec, bo, eo, by decide, by decide, by decide, by decide, by decide, rfl, by kernel_rfl, by kernel_rfl, hO, hN, hE⟩
        exact AllReadyH.nil
      · have hO := hO
        change wpAnyH _ _ _ _ _ 8 _ _ _
        refine wpAnyH_ready (rs := [7, 9]) (by kernel_rfl) (by simp) ?_
        refine Mch.ready_call (i := 7) rfl (by kernel_rfl) (by kernel_rfl) ((copy_c (hP.kept hO.kept) hM2).mono ?_) ?_
        · rintro e W2 ⟨bo, bc, rfl, hnew, k2⟩
          refine ⟨_, rfl, (hO.later k2).kept, ?_⟩
          exact IH 7 (by decide) _ _ _ ⟨1, 1, 0, 1, 1, bc, ec, bo, eo, by decide, by decide, by decide, by decide, by decide, rfl, by kernel_rfl, by kernel_rfl, hO.later k2, fun _ => hnew.base hsz, fun h => absurd h (by decide)⟩
        refine Mch.ready_run (i := 9) (v := .slice ta tn tc) (w' := W) rfl (by kernel_rfl) (op_load (ad := ⟨w.heap.size, 5, none⟩) rfl (by kernel_rfl) c5 (fun _ => by kernel_rfl)) hO.kept ?_ ?_
        · refine wpAnyH_take (i := 14) (v := .slice (subT ta tc) R tc) rfl (by kernel_rfl) (by kernel_rfl) (by kernel_rfl) (fun _ _ _ h => h) (Or.inl ⟨by kernel_rfl, fun W _ => op_cut (ao := ta) (n := tn) (c := tc) (z := .int .i64 (R : Int)) rfl (by kernel_rfl) (by kernel_rfl) (e2 W) Try.underlying25⟩) hO.kept ?_
          exact IH 6 (by decide) _ _ _ ⟨1, 1, 1, 1, 0, bc, ec, bo, eo, by decide, by decide, by decide, by decide, by decide, rfl, by kernel_rfl, by kernel_rfl, hO, hN, hE⟩
        exact AllReadyH.nil
      · have hO := hO
        change wpAnyH _ _ _ _ _ 10 _ _ _
        refine wpAnyH_ready (rs := [7, 11]) (by kernel_rfl) (by simp) ?_
        refine Mch.ready_call (i := 7) rfl (by kernel_rfl) (by kernel_rfl) ((copy_c (hP.kept hO.kept) hM2).mono ?_) ?_
        · rintro e W2 ⟨bo, bc, rfl, hnew, k2⟩
          refine ⟨_, rfl, (hO.later k2).kept, ?_⟩
          exact IH 9 (by decide) _ _ _ ⟨1, 1, 1, 0, 1, bc, ec, bo, eo, by decide, by decide, by decide, by decide, by decide, rfl, by kernel_rfl, by kernel_rfl, hO.later k2, fun _ => hnew.base hsz, fun h => absurd h (by decide)⟩
        refine Mch.ready_run (i := 11) (v := .slice ta tn tc) (w' := W) rfl (by kernel_rfl) (op_load (ad := ⟨w.heap.size, 5, none⟩) rfl (by kernel_rfl) c5 (fun _ => by kernel_rfl)) hO.kept ?_ ?_
        · refine wpAnyH_take (i := 12) (v := .int .i64 (tn : Int)) rfl (by kernel_rfl) (by kernel_rfl) (by kernel_rfl) (fun _ _ _ h => h) (Or.inl ⟨by kernel_rfl, fun W _ => op_len (ao := ta) (n := tn) (c := tc) rfl (by kernel_rfl) Try.underlying25⟩) hO.kept ?_
          refine wpAnyH_take (i := 13) (v := .int .i64 (R : Int)) rfl (by kernel_rfl) (by kernel_rfl) (by kernel_rfl) (fun _ _ _ h => h) (Or.inl ⟨by kernel_rfl, fun W _ => op_min (a := (tn : Int)) (b := 10) rfl (by kernel_rfl) (by kernel_rfl) hR⟩) hO.kept ?_
          refine wpAnyH_take (i := 14) (v := .slice (subT ta tc) R tc) rfl (by kernel_rfl) (by kernel_rfl) (by kernel_rfl) (fun _ _ _ h => h) (Or.inl ⟨by kernel_rfl, fun W _ => op_cut (ao := ta) (n := tn) (c := tc) (z := .int .i64 (R : Int)) rfl (by kernel_rfl) (by kernel_rfl) (e2 W) Try.underlying25⟩) hO.kept ?_
          exact IH 6 (by decide) _ _ _ ⟨1, 1, 1, 1, 0, bc, ec, bo, eo, by decide, by decide, by decide, by decide, by decide, rfl, by kernel_rfl, by kernel_rfl, hO, hN, hE⟩
        exact AllReadyH.nil
      · have hO := hO
        change wpAnyH _ _ _ _ _ 6 _ _ _
        refine wpAnyH_ready (rs := [7]) (by kernel_rfl) (by simp) ?_
        refine Mch.ready_call (i := 7) rfl (by kernel_rfl) (by kernel_rfl) ((copy_c (hP.kept hO.kept) hM2).mono ?_) ?_
        · rintro e W2 ⟨bo, bc, rfl, hnew, k2⟩
          refine ⟨_, rfl, (hO.later k2).kept, ?_⟩
          refine wpAnyH_take (i := 16) (v := .pointer (some ⟨w.heap.size, 4, none⟩)) rfl (by kernel_rfl) (by kernel_rfl) (by kernel_rfl) (fun _ _ _ h => h) (Or.inl ⟨by kernel_rfl, fun W _ => by kernel_rfl⟩) (hO.later k2).kept ?_
          exact IH 4 (by decide) _ _ _ ⟨1, 1, 1, 1, 1, bc, ec, bo, eo, by decide, by decide, by decide, by decide, by decide, rfl, by kernel_rfl, by kernel_rfl, hO.later k2, fun _ => hnew.base hsz, fun h => absurd h (by decide)⟩
        exact AllReadyH.nil
    · rcases g9 with rfl | rfl <;> rcases g11 with rfl | rfl
      · have hO := hO
        change wpAnyH _ _ _ _ _ 10 _ _ _
        refine wpAnyH_ready (rs := [9, 11]) (by kernel_rfl) (by simp) ?_
        refine Mch.ready_run (i := 9) (v := .slice ta tn tc) (w' := W) rfl (by kernel_rfl) (op_load (ad := ⟨w.heap.size, 5, none⟩) rfl (by kernel_rfl) c5 (fun _ => by kernel_rfl)) hO.kept ?_ ?_
        · exact IH 9 (by decide) _ _ _ ⟨1, 1, 1, 0, 1, bc, ec, bo, eo, by decide, by decide, by decide, by decide, by decide, rfl, by kernel_rfl, by kernel_rfl, hO, hN, hE⟩
        refine Mch.ready_run (i := 11) (v := .slice ta tn tc) (w' := W) rfl (by kernel_rfl) (op_load (ad := ⟨w.heap.size, 5, none⟩) rfl (by kernel_rfl) c5 (fun _ => by kernel_rfl)) hO.kept ?_ ?_
        · refine wpAnyH_take (i := 12) (v := .int .i64 (tn : Int)) rfl (by kernel_rfl) (by kernel_rfl) (by kernel_rfl) (fun _ _ _ h => h) (Or.inl ⟨by kernel_rfl, fun W _ => op_len (ao := ta) (n := tn) (c := tc) rfl (by kernel_rfl) Try.underlying25⟩) hO.kept ?_
          refine wpAnyH_take (i := 13) (v := .int .i64 (R : Int)) rfl (by kernel_rfl) (by kernel_rfl) (by kernel_rfl) (fun _ _ _ h => h) (Or.inl ⟨by kernel_rfl, fun W _ => op_min (a := (tn : Int)) (b := 10) rfl (by kernel_rfl) (by kernel_rfl) hR⟩) hO.kept ?_
          exact IH 7 (by decide) _ _ _ ⟨1, 1, 0, 1, 1, bc, ec, bo, eo, by decide, by decide, by decide, by decide, by decide, rfl, by kernel_rfl, by kernel_rfl, hO, hN, hE⟩
        exact AllReadyH.nil
      · have hO := hO
        change wpAnyH _ _ _ _ _ 7 _ _ _
        refine wpAnyH_ready (rs := [9]) (by kernel_rfl) (by simp) ?_
        refine Mch.ready_run (i := 9) (v := .slice ta tn tc) (w' := W) rfl (by kernel_rfl) (op_load (ad := ⟨w.heap.size, 5, none⟩) rfl (by kernel_rfl) c5 (fun _ => by kernel_rfl)) hO.kept ?_ ?_
        · refine wpAnyH_take (i := 14) (v := .slice (subT ta tc) R tc) rfl (by kernel_rfl) (by kernel_rfl) (by kernel_rfl) (fun _ _ _ h => h) (Or.inl ⟨by kernel_rfl, fun W _ => op_cut (ao := ta) (n := tn) (c := tc) (z := .int .i64 (R : Int)) rfl (by kernel_rfl) (by kernel_rfl) (e2 W) Try.underlying25⟩) hO.kept ?_
          refine wpAnyH_take (i := 16) (v := .pointer (some ⟨w.heap.size, 4, none⟩)) rfl (by kernel_rfl) (by kernel_rfl) (by kernel_rfl) (fun _ _ _ h => h) (Or.inl ⟨by kernel_rfl, fun W _ => by kernel_rfl⟩) hO.kept ?_
          exact IH 4 (by decide) _ _ _ ⟨1, 1, 1, 1, 1, bc, ec, bo, eo, by decide, by decide, by decide, by decide, by decide, rfl, by kernel_rfl, by kernel_rfl, hO, hN, hE⟩
        exact AllReadyH.nil
      · have hO := hO
        change wpAnyH _ _ _ _ _ 9 _ _ _
        refine wpAnyH_ready (rs := [11]) (by kernel_rfl) (by simp) ?_
        refine Mch.ready_run (i := 11) (v := .slice ta tn tc) (w' := W) rfl (by kernel_rfl) (op_load (ad := ⟨w.heap.size, 5, none⟩) rfl (by kernel_rfl) c5 (fun _ => by kernel_rfl)) hO.kept ?_ ?_
        · refine wpAnyH_take (i := 12) (v := .int .i64 (tn : Int)) rfl (by kernel_rfl) (by kernel_rfl) (by kernel_rfl) (fun _ _ _ h => h) (Or.inl ⟨by kernel_rfl, fun W _ => op_len (ao := ta) (n := tn) (c := tc) rfl (by kernel_rfl) Try.underlying25⟩) hO.kept ?_
          refine wpAnyH_take (i := 13) (v := .int .i64 (R : Int)) rfl (by kernel_rfl) (by kernel_rfl) (by kernel_rfl) (fun _ _ _ h => h) (Or.inl ⟨by kernel_rfl, fun W _ => op_min (a := (tn : Int)) (b := 10) rfl (by kernel_rfl) (by kernel_rfl) hR⟩) hO.kept ?_
          refine wpAnyH_take (i := 14) (v := .slice (subT ta tc) R tc) rfl (by kernel_rfl) (by kernel_rfl) (by kernel_rfl) (fun _ _ _ h => h) (Or.inl ⟨by kernel_rfl, fun W _ => op_cut (ao := ta) (n := tn) (c := tc) (z := .int .i64 (R : Int)) rfl (by kernel_rfl) (by kernel_rfl) (e2 W) Try.underlying25⟩) hO.kept ?_
          refine wpAnyH_take (i := 16) (v := .pointer (some ⟨w.heap.size, 4, none⟩)) rfl (by kernel_rfl) (by kernel_rfl) (by kernel_rfl) (fun _ _ _ h => h) (Or.inl ⟨by kernel_rfl, fun W _ => by kernel_rfl⟩) hO.kept ?_
          exact IH 4 (by decide) _ _ _ ⟨1, 1, 1, 1, 1, bc, ec, bo, eo, by decide, by decide, by decide, by decide, by decide, rfl, by kernel_rfl, by kernel_rfl, hO, hN, hE⟩
        exact AllReadyH.nil
      · have hO := hO
        change wpAnyH _ _ _ _ _ 4 _ _ _
        refine wpAnyH_ready (rs := [15]) (by kernel_rfl) (by simp) ?_
        refine Mch.ready_call (i := 15) rfl (by kernel_rfl) (by kernel_rfl) ((copyt_c (hT.kept hO.kept) hR2).mono ?_) ?_
        · rintro e W2 ⟨eo, ec, rfl, hnew, k2⟩
          refine ⟨_, rfl, (hO.later k2).kept, ?_⟩
          exact IH 3 (by decide) _ _ _ ⟨1, 1, 1, 1, 2, bc, ec, bo, eo, by decide, by decide, by decide, by decide, by decide, rfl, by kernel_rfl, by kernel_rfl, hO.later k2, fun h => (hN (by decide)).kept k2, fun _ => hnew.base hsz⟩
        exact AllReadyH.nil
    · have hO := hO
      change wpAnyH _ _ _ _ _ 3 _ _ _
      refine wpAnyH_ready (rs := [17]) (by kernel_rfl) (by simp) ?_
      refine Mch.ready_wp (i := 17) rfl (by kernel_rfl) (fun K hK => ?_) AllReadyH.nil
      unfold Oper.wp
      rw [op_store (ad := ⟨w.heap.size, 4, none⟩) (ao := bo) (n := M) (cp := bc) rfl (by kernel_rfl) (by kernel_rfl) c4 (fa 4) (fun _ => by kernel_rfl)]
      have hO1 : Mem.Own w [boxA (w.heap.size + 1) #[.int .i64 0, .int .i64 0, .int .i64 0, .int .i64 0, .slice none 0 0, .slice none 0 0] 27, boxA w.heap.size #[.int .i64 s.id, .int .i64 s.c, .int .i64 s.m, .int .i64 s.d, .slice bo M bc, .slice ta tn tc] 27] (W.setCell ⟨w.heap.size, 4, none⟩ (.slice bo M bc)) := hO.boxset 1 rfl 4 _
      refine hK _ _ hO1.kept ?_
      refine wpAnyH_take (i := 18) (v := .pointer (some ⟨w.heap.size, 5, none⟩)) rfl (by kernel_rfl) (by kernel_rfl) (by kernel_rfl) (fun _ _ _ h => h) (Or.inl ⟨by kernel_rfl, fun W _ => by kernel_rfl⟩) hO1.kept ?_
      generalize hfr : Act.put _ _ _ = fr
      replace hfr : fr = { tmps := #[.agg #[.int .i64 s.id, .int .i64 s.c, .int .i64 s.m, .int .i64 s.d, .slice po pn pc, .slice ta tn tc], .pointer (some ⟨w.heap.size, 0, none⟩), .pointer (some ⟨w.heap.size + 1, 0, none⟩), .pointer (some ⟨w.heap.size, 4, none⟩), .slice po pn pc, .pointer (some ⟨w.heap.size, 4, none⟩), .slice po pn pc, .int .i64 (pn : Int), .int .i64 (M : Int), .slice (subA po pc 0) M pc, .slice bo M bc, .pointer (some ⟨w.heap.size, 5, none⟩), .slice ta tn tc, .pointer (some ⟨w.heap.size, 5, none⟩), .slice ta tn tc, .int .i64 (tn : Int), .int .i64 (R : Int), .slice (subT ta tc) R tc, .slice eo R ec, .pointer (some ⟨w.heap.size, 4, none⟩), .pointer (some ⟨w.heap.size, 5, none⟩), undef], defers := [] } := by rw [← hfr]; kernel_rfl
      subst hfr
      refine wpAnyH_ready (rs := [19]) (by kernel_rfl) (by simp) ?_
      refine Mch.ready_wp (i := 19) rfl (by kernel_rfl) (fun K hK => ?_) AllReadyH.nil
      unfold Oper.wp
      obtain ⟨⟨_, _, _, _, _, b5⟩, fb⟩ := box6 (hO1.boxed 1 rfl)
      rw [op_store (ad := ⟨w.heap.size, 5, none⟩) (ao := eo) (n := R) (cp := ec) rfl (by kernel_rfl) (by kernel_rfl) b5 (fb 5) (fun _ => by kernel_rfl)]
      have hO2 : Mem.Own w [boxA (w.heap.size + 1) #[.int .i64 0, .int .i64 0, .int .i64 0, .int .i64 0, .slice none 0 0, .slice none 0 0] 27, boxA w.heap.size #[.int .i64 s.id, .int .i64 s.c, .int .i64 s.m, .int .i64 s.d, .slice bo M bc, .slice eo R ec] 27] ((W.setCell ⟨w.heap.size, 4, none⟩ (.slice bo M bc)).setCell ⟨w.heap.size, 5, none⟩ (.slice eo R ec)) := hO1.boxset 1 rfl 5 _
      refine hK _ _ hO2.kept ?_
      refine wpAnyH_done (by kernel_rfl) ?_ _
      have hF : w.heap.size ≤ w.heap.size ∧ w.heap.size < w.heap.size + 2 := by omega
      have hOn : Only w.heap.size (w.heap.size + 2) W ((W.setCell ⟨w.heap.size, 4, none⟩ (.slice bo M bc)).setCell ⟨w.heap.size, 5, none⟩ (.slice eo R ec)) := ((Only.refl _ _ W).set hF).set hF
      have hN1 := hN (by decide)
      have hE1 := hE (by decide)
      have hK1 := hO.kept
      generalize ((W.setCell ⟨w.heap.size, 4, none⟩ (.slice bo M bc)).setCell ⟨w.heap.size, 5, none⟩ (.slice eo R ec)) = u2 at hO2 hOn ⊢
      obtain ⟨⟨d0, d1, d2, d3, d4, d5⟩, fd⟩ := box6 (hO2.boxed 1 rfl); have f4 := fd 4; have f5 := fd 5; clear fd
      obtain ⟨⟨z0, z1, z2, z3, z4, z5⟩, fz⟩ := box6 (hO2.boxed 0 rfl); have y0 := fz 0; have y1 := fz 1; have y2 := fz 2; have y3 := fz 3; have y4 := fz 4; have y5 := fz 5; clear fz
      clear IH hN hE hO hO1 c4 c5 fa fb b5 hO2
      have HA := Lib.hid (And.intro hN1 (And.intro hE1 (And.intro hK1 hOn)))
      clear hN1 hE1 hK1 hOn
      go_wp2_with fail
      refine bodyPost_ret (v := .agg #[.int .i64 s.id, .int .i64 s.c, .int .i64 s.m, .int .i64 s.d, .slice bo M bc, .slice eo R ec]) (by simp [results, Try.results9, go_sem, z0, z1, z2, z3, z4, z5]) rfl ?_
      have hG : w.heap.size ≤ w.heap.size + 1 ∧ w.heap.size + 1 < w.heap.size + 2 := by omega
      exact few_end HA.out.1 HA.out.2.1 HA.out.2.2.1 ((((((HA.out.2.2.2.set hG).set hG).set hG).set hG).set hG).set hG)
  · exact ⟨0, 0, 0, 0, 0, 0, 0, none, none, by decide, by decide, by decide, by decide, by decide, by kernel_rfl, rfl, rfl, h0.drew, fun h => absurd h (by decide), fun h => absurd h (by decide)⟩
end Go.Proofs.YtngojgocplmedaaR.Ls
