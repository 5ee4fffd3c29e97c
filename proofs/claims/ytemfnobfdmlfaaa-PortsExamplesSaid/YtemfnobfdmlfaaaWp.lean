/-
  PortsUnions, for any lists: the first loop, which copies them (its drawn statement as a machine of 25 states).
-/
import Derived.Test.YtemfnobfdmlfaaaWq
import Derived.BigRegion
import Derived.BigQuiet
namespace Go.Proofs.Ytemfnobfdmlfaaa.In
open Go.RowKit Go.Proofs.Ytemfnobfdmlfaaa.Mem Go.Proofs.Ytemfnobfdmlfaaa.Bx Go.Proofs.Ytemfnobfdmlfaaa.Po Go.ChangeShapes Go.WideShapes Go.ChangeAt
set_option linter.unusedVariables false

theorem wpAny_states2 {P : Program} {md : Region.Mode} {ops : Array Oper} {Q : Exit → Act → World → Prop} {fuel : Nat} {L0 : Array Bool} {a0 : Act} {w : World} (I : Array Bool → Act → Nat → Array Bool → Act → World → Prop)
    (h : ∀ k, (∀ k', k' < k → ∀ listed a w, I L0 a0 k' listed a w → wpAny P md ops Q k' listed a w) → ∀ listed a w, I L0 a0 k listed a w → wpAny P md ops Q k listed a w) (init : I L0 a0 fuel L0 a0 w) : wpAny P md ops Q fuel L0 a0 w :=
  wpAny_states (I L0 a0) h fuel L0 a0 w init
def tX (x : Nat) (A B : As) : As := match x with
  | 4 => B
  | _ => A
def pX (x : Nat) (b l : As) : List As := match x with
  | 2 => [l]
  | 3 => [b, l]
  | 4 => [l]
  | _ => []
def vX (x s : Nat) (v0 v1 v2 v3 v4 : Value) : List (Nat × Value) := match x with
  | 0 => []
  | 1 => [(s, v0), (s + 2, v1)]
  | 2 => [(s, v0), (s + 2, v1), (s + 3, v2)]
  | 3 => [(s, v0), (s + 2, v1), (s + 3, v2), (s + 4, v3)]
  | _ => [(s, v0), (s + 2, v1), (s + 3, v2), (s + 4, v3), (s + 5, v4)]
def iX (x i : Nat) : List Nat := match x with
  | 0 => []
  | 1 => [i, i + 2]
  | 2 => [i, i + 2, i + 3]
  | 3 => [i, i + 2, i + 3, i + 4]
  | _ => [i, i + 2, i + 3, i + 4, i + 5]
def cX (x : Nat) : Nat := match x with
  | 0 => 0
  | n + 1 => n + 2
theorem slice_yields {ρ : Operand → Value} {o : Oper} {x y : Operand} {bo : Option Addr} {n c m : Nat} {v : Value} {w : World} (hop : o.op = .slice 22 x none (some y) none) (hx : ρ x = .slice bo n c) (hy : ρ y = .int .i64 (m : Int)) (h : (Instr.slice 22 (.slice bo n c) none (some (.int .i64 (m : Int))) none).run Try.prog w = .ok v w) : (execOp ρ o).run Try.prog w = .ok (.value v) w := by
  have h2 : (Instr.sliceAt 22 (.slice bo n c) none (some (.int .i64 (m : Int))) none).run Try.prog w = .ok v w := by
    rw [← h]
    simp [go_sem, Instr.sliceAt, Try.underlying22]
  unfold execOp
  rw [hop]
  simp only [Option.map_none, Option.map_some, hx, hy, Sem.run_bind, Sem.run_pure, h2, Result.andThen_ok]
theorem index_yields {ρ : Operand → Value} {o : Oper} {x y : Operand} {g f n c j : Nat} {w : World} (hop : o.op = .indexAddr 32 x y) (hx : ρ x = .slice (some ⟨g, f, none⟩) n c) (hy : ρ y = .int .i64 (j : Int)) (h : j < n) : (execOp ρ o).run Try.prog w = .ok (.value (.pointer (some ⟨g, f + j, none⟩))) w := by
  unfold execOp
  rw [hop]
  have h1 : (j : Int) < (n : Int) := by omega
  simp [go_sem, hx, hy, h1]
theorem take_map {ls : List (List Int)} {l : List Int} {j : Nat} (h : ls[j]? = some l) : (ls.take (j + 1)).map (List.take 12) = (ls.take j).map (List.take 12) ++ [l.take 12] := by
  rw [List.take_add_one, h]; simp
/-- The list of the first at most 12 numbers. -/
theorem take_min (l : List Int) : l.take (min l.length 12) = l.take 12 := by
  rcases Nat.le_total l.length 12 with h | h
  · rw [Nat.min_eq_left h, List.take_of_length_le (Nat.le_refl _), List.take_of_length_le h]
  · rw [Nat.min_eq_right h]
def Cop (ls : List (List Int)) (j : Nat) (ps : List (Sl × List Int)) (Z : List As) : Prop := (ps.map fun p => p.2) = (ls.take j).map (List.take 12) ∧ ∀ p ∈ ps, listA p.1 p.2 ∈ Z
theorem Cop.step {ls : List (List Int)} {l lx : List Int} {j : Nat} {ps : List (Sl × List Int)} {Z : List As} (h : Cop ls j ps Z) (hl : ls[j]? = some l) (hx : lx = l.take 12) (s : Sl) (Y : List As) (hY : listA s lx ∈ Y) : Cop ls (j + 1) (ps ++ [(s, lx)]) (Y ++ Z) := by
  subst hx
  refine ⟨by rw [List.map_append, h.1, take_map hl]; rfl, fun p hp => ?_⟩
  rcases List.mem_append.1 hp with hp | hp
  · exact List.mem_append.2 (.inr (h.2 p hp))
  · simp at hp; subst hp; exact List.mem_append.2 (.inl hY)
theorem cop_len (ls : List (List Int)) (j : Nat) (hj : j ≤ 12) : ((ls.take j).map (List.take 12)).flatten.length ≤ 100000 := by
  have h : ∀ (l : List (List Int)), (l.map (List.take 12)).flatten.length ≤ 12 * l.length := by
    intro l
    induction l with
    | nil => simp
    | cons x l ih =>
      simp only [List.map_cons, List.flatten_cons, List.length_append, List.length_take, List.length_cons]
      omega
  have h1 := h (ls.take j)
  have h2 : (ls.take j).length ≤ j := by rw [List.length_take]; omega
  omega
set_option maxHeartbeats 16000000 in
set_option maxRecDepth 100000 in
theorem unions_core (w : World) (ao : Option Addr) (n cap : Nat) (ls : List (List Int)) (hA : Ats w ao n cap ls) :
    Calls Try.prog 4 #[.slice ao n cap] w fun e w' => e = .returned (.bool true) ∧ Kept w w' := by
  have hn62 : n ≤ maxLen := Nat.le_trans hA.le hA.max
  unfold maxLen at hn62
  have H := Lib.hid hA
  clear hA
  go_enter Try.func4, Try.ntmps4
  go_wp2
  go_loopw [3, 4, 5] (fun va vb i wr => ∃ (j : Nat) (ps qs : List (Sl × List Int)) (aoX aoY : Option Addr) (cX cY : Nat) (Z : List As), j ≤ n ∧ j ≤ 12 ∧ i = .int .i64 j ∧ va = .slice aoX j cX ∧ vb = .slice aoY j cY ∧ Cop ls j ps Z ∧ Cop ls j qs Z ∧ Mem.Own w ([rowT ps aoX j cX, rowT qs aoY j cY] ++ Z) wr) (fun _ _ i _ => n - (RowKit.intOf i).toNat)
  case atStart => exact ⟨0, [], [], none, none, 0, 0, [], Nat.zero_le _, by omega, rfl, rfl, rfl, ⟨rfl, fun p hp => by cases hp⟩, ⟨rfl, fun p hp => by cases hp⟩, rowT_nil (rowT_nil (Own.nil w))⟩
  case round =>
    obtain ⟨j, ps, qs, aoX, aoY, cX, cY, Z, hj, hj12, rfl, rfl, rfl, hps, hqs, hO⟩ := hrel
    by_cases hlt : j < n ∧ j < 12
    · have n1 : decide ((j : Int) < (n : Int)) = true := decide_eq_true (by omega)
      have n2 : decide ((j : Int) < 12) = true := decide_eq_true (by omega)
      obtain ⟨l, g, o, bo, m, c, hl, rfl, hg, hc, hl2⟩ := H.out.get hlt.1
      have hm3 := hl2.n62
      unfold maxLen at hm3
      obtain ⟨M, hm, hmn, hM12⟩ := cut_of m 12
      have f1 : min (m : Int) 12 = (M : Int) := hm
      have e1 := sub_h bo m c M (Nat.le_trans hmn hl2.le)
      have hs0 := hl2.head hmn
      have hlx : l.take M = l.take 12 := by
        have : M = min l.length 12 := by rw [hl2.len]; omega
        rw [this, take_min]
      obtain ⟨lx, hlx2⟩ : ∃ lx, lx = l.take M := ⟨_, rfl⟩
      rw [← hlx2] at hs0 hlx
      generalize subA bo c 0 = s1 at e1 hs0
      have hc1 := (hO.kept.cell (p := ⟨g, _, none⟩) hg).trans hc
      have hM : M ≤ 1000000 := by omega
      have hj1 : j ≤ 1000 := by omega
      have HC := Lib.hid (And.intro hps (And.intro hqs (And.intro hl hlx)))
      have HO := Lib.hid hO
      have hs1 := Lib.hid hs0
      have hg2 := hlt.1
      clear hl hl2 hs0 hlx hlx2 hps hqs hO hm
      go_wp2_with fail
      clear n1 n2 f1 hc1
      have hO := HO.out
      have hs1 := hs1.out
      refine wp_region_any (by kernel_rfl) ?_
      change wpAny _ _ _ _ _ _ _ (World.drew _)
      replace hO := hO.drew
      generalize World.drew _ = wz at hO ⊢
      refine wpAny_take (i := 0) (v := .slice aoX j cX) rfl (by kernel_rfl) (by kernel_rfl) (by kernel_rfl) (fun _ _ _ h => h) (Or.inl ⟨by kernel_rfl, fun _ => by kernel_rfl⟩) ?_
      refine wpAny_take (i := 1) (v := .slice (some ⟨g, o, none⟩) n cap) rfl (by kernel_rfl) (by kernel_rfl) (by kernel_rfl) (fun _ _ _ h => h) (Or.inl ⟨by kernel_rfl, fun _ => by kernel_rfl⟩) ?_
      refine wpAny_take (i := 2) (v := .int .i64 (j : Int)) rfl (by kernel_rfl) (by kernel_rfl) (by kernel_rfl) (fun _ _ _ h => h) (Or.inl ⟨by kernel_rfl, fun _ => by kernel_rfl⟩) ?_
      refine wpAny_take (i := 3) (v := .pointer (some ⟨g, o + j, none⟩)) rfl (by kernel_rfl) (by kernel_rfl) (by kernel_rfl) (fun _ _ _ h => h) (Or.inl ⟨by kernel_rfl, fun W2 => index_yields (g := g) (f := o) (n := n) (c := cap) (j := j) rfl (by kernel_rfl) (by kernel_rfl) hg2⟩) ?_
      refine wpAny_take (i := 5) (v := .int .i64 (M : Int)) rfl (by kernel_rfl) (by kernel_rfl) (by kernel_rfl) (fun _ _ _ h => h) (Or.inl ⟨by kernel_rfl, fun _ => by kernel_rfl⟩) ?_
      refine wpAny_take (i := 10) (v := .slice aoY j cY) rfl (by kernel_rfl) (by kernel_rfl) (by kernel_rfl) (fun _ _ _ h => h) (Or.inl ⟨by kernel_rfl, fun _ => by kernel_rfl⟩) ?_
      refine wpAny_take (i := 11) (v := .slice (some ⟨g, o, none⟩) n cap) rfl (by kernel_rfl) (by kernel_rfl) (by kernel_rfl) (fun _ _ _ h => h) (Or.inl ⟨by kernel_rfl, fun _ => by kernel_rfl⟩) ?_
      refine wpAny_take (i := 12) (v := .int .i64 (j : Int)) rfl (by kernel_rfl) (by kernel_rfl) (by kernel_rfl) (fun _ _ _ h => h) (Or.inl ⟨by kernel_rfl, fun _ => by kernel_rfl⟩) ?_
      refine wpAny_take (i := 13) (v := .pointer (some ⟨g, o + j, none⟩)) rfl (by kernel_rfl) (by kernel_rfl) (by kernel_rfl) (fun _ _ _ h => h) (Or.inl ⟨by kernel_rfl, fun W2 => index_yields (g := g) (f := o) (n := n) (c := cap) (j := j) rfl (by kernel_rfl) (by kernel_rfl) hg2⟩) ?_
      refine wpAny_take (i := 15) (v := .int .i64 (M : Int)) rfl (by kernel_rfl) (by kernel_rfl) (by kernel_rfl) (fun _ _ _ h => h) (Or.inl ⟨by kernel_rfl, fun _ => by kernel_rfl⟩) ?_
      refine wpAny_states2 (I := fun L0 a0 k listed a W => ∃ (x y : Nat), x ≤ 4 ∧ y ≤ 4 ∧ (y ≤ 1 ∨ x = 4) ∧ ∃ (px py : Sl) (bx by1 : Nat) (ox : Option Addr) (cx : Nat) (oy : Option Addr) (cy : Nat), k = 12 - In.cX x - In.cX y ∧ listed = sets (iX x 4 ++ iX y 14) L0 ∧
          a = puts (vX x 31 (.slice bo m c) (.slice s1 M c) px.v (.slice (some ⟨bx, 0, none⟩) 1 1) (.slice ox (j + 1) cx) ++ vX y 41 (.slice bo m c) (.slice s1 M c) py.v (.slice (some ⟨by1, 0, none⟩) 1 1) (.slice oy (j + 1) cy)) a0 ∧
          Mem.Own w ((tX x (rowT ps aoX j cX) (rowT (ps ++ [(px, lx)]) ox (j + 1) cx) :: tX y (rowT qs aoY j cY) (rowT (qs ++ [(py, lx)]) oy (j + 1) cy) :: (pX x (boxA bx #[px.v] 22) (listA px lx) ++ pX y (boxA by1 #[py.v] 22) (listA py lx))) ++ Z) W) ?_ ?_
      · intro k IH listed a W hI
        obtain ⟨x, y, hx, hy, hxy, px, py, bx, by1, ox, cx, oy, cy, rfl, rfl, rfl, hO⟩ := hI
        have hxs : x = 0 ∨ x = 1 ∨ x = 2 ∨ x = 3 ∨ x = 4 := by omega
        have hys : y = 0 ∨ y = 1 ∨ y = 2 ∨ y = 3 ∨ y = 4 := by omega
        clear hx hy
        rcases hxs with rfl | rfl | rfl | rfl | rfl
        · rcases hys with rfl | rfl | rfl | rfl | rfl
          · have hO : Mem.Own w ([rowT ps aoX j cX, rowT qs aoY j cY] ++ Z) W := hO
            change wpAny _ _ _ _ 12 _ _ _
            refine wpAny_ready (rs := [4, 14]) (by kernel_rfl) (by simp) ?_
            refine ready_run (i := 4) rfl (by kernel_rfl) (run_ldv rfl rfl (by kernel_rfl) ((hO.kept.cell (p := ⟨g, _, none⟩) hg).trans hc)) ?_ ?_
            · refine wpAny_take (i := 6) (v := .slice s1 M c) rfl (by kernel_rfl) (by kernel_rfl) (by kernel_rfl) (fun _ _ _ h => h) (Or.inl ⟨by kernel_rfl, fun W2 => slice_yields (bo := bo) (n := m) (c := c) (m := M) rfl (by kernel_rfl) (by kernel_rfl) (e1 W2)⟩) ?_
              exact IH 10 (by decide) _ _ _ ⟨1, 0, by decide, by decide, by decide, px, py, bx, by1, ox, cx, oy, cy, rfl, by kernel_rfl, by kernel_rfl, hO⟩
            refine ready_run (i := 14) rfl (by kernel_rfl) (run_ldv rfl rfl (by kernel_rfl) ((hO.kept.cell (p := ⟨g, _, none⟩) hg).trans hc)) ?_ ?_
            · refine wpAny_take (i := 16) (v := .slice s1 M c) rfl (by kernel_rfl) (by kernel_rfl) (by kernel_rfl) (fun _ _ _ h => h) (Or.inl ⟨by kernel_rfl, fun W2 => slice_yields (bo := bo) (n := m) (c := c) (m := M) rfl (by kernel_rfl) (by kernel_rfl) (e1 W2)⟩) ?_
              exact IH 10 (by decide) _ _ _ ⟨0, 1, by decide, by decide, by decide, px, py, bx, by1, ox, cx, oy, cy, rfl, by kernel_rfl, by kernel_rfl, hO⟩
            exact AllReady.nil
          · have hO : Mem.Own w ([rowT ps aoX j cX, rowT qs aoY j cY] ++ Z) W := hO
            change wpAny _ _ _ _ 10 _ _ _
            refine wpAny_ready (rs := [4]) (by kernel_rfl) (by simp) ?_
            refine ready_run (i := 4) rfl (by kernel_rfl) (run_ldv rfl rfl (by kernel_rfl) ((hO.kept.cell (p := ⟨g, _, none⟩) hg).trans hc)) ?_ ?_
            · refine wpAny_take (i := 6) (v := .slice s1 M c) rfl (by kernel_rfl) (by kernel_rfl) (by kernel_rfl) (fun _ _ _ h => h) (Or.inl ⟨by kernel_rfl, fun W2 => slice_yields (bo := bo) (n := m) (c := c) (m := M) rfl (by kernel_rfl) (by kernel_rfl) (e1 W2)⟩) ?_
              exact IH 8 (by decide) _ _ _ ⟨1, 1, by decide, by decide, by decide, px, py, bx, by1, ox, cx, oy, cy, rfl, by kernel_rfl, by kernel_rfl, hO⟩
            exact AllReady.nil
          · exact absurd hxy (by decide)
          · exact absurd hxy (by decide)
          · exact absurd hxy (by decide)
        · rcases hys with rfl | rfl | rfl | rfl | rfl
          · have hO : Mem.Own w ([rowT ps aoX j cX, rowT qs aoY j cY] ++ Z) W := hO
            change wpAny _ _ _ _ 10 _ _ _
            refine wpAny_ready (rs := [7, 14]) (by kernel_rfl) (by simp) ?_
            refine ready_call (i := 7) rfl (by kernel_rfl) (by kernel_rfl) ((copy_c (hs1.kept hO.kept) hM).mono ?_) ?_
            · rintro e W2 ⟨bo, d, rfl, hnew, hk2⟩
              refine ⟨_, rfl, ?_⟩
              have h2 : Mem.Own w ([listA (⟨bo, M, d⟩ : Sl) lx, rowT ps aoX j cX, rowT qs aoY j cY] ++ Z) W2 := hO.list (s := ⟨bo, M, d⟩) hk2 hnew
              exact IH 9 (by decide) _ _ _ ⟨2, 0, by decide, by decide, by decide, ⟨bo, M, d⟩, py, bx, by1, ox, cx, oy, cy, rfl, by kernel_rfl, by kernel_rfl, own_pickt (M := [rowT ps aoX j cX, rowT qs aoY j cY, listA (⟨bo, M, d⟩ : Sl) lx]) h2 [1, 2, 0] (by decide) rfl⟩
            refine ready_run (i := 14) rfl (by kernel_rfl) (run_ldv rfl rfl (by kernel_rfl) ((hO.kept.cell (p := ⟨g, _, none⟩) hg).trans hc)) ?_ ?_
            · refine wpAny_take (i := 16) (v := .slice s1 M c) rfl (by kernel_rfl) (by kernel_rfl) (by kernel_rfl) (fun _ _ _ h => h) (Or.inl ⟨by kernel_rfl, fun W2 => slice_yields (bo := bo) (n := m) (c := c) (m := M) rfl (by kernel_rfl) (by kernel_rfl) (e1 W2)⟩) ?_
              exact IH 8 (by decide) _ _ _ ⟨1, 1, by decide, by decide, by decide, px, py, bx, by1, ox, cx, oy, cy, rfl, by kernel_rfl, by kernel_rfl, hO⟩
            exact AllReady.nil
          · have hO : Mem.Own w ([rowT ps aoX j cX, rowT qs aoY j cY] ++ Z) W := hO
            change wpAny _ _ _ _ 8 _ _ _
            refine wpAny_ready (rs := [7]) (by kernel_rfl) (by simp) ?_
            refine ready_call (i := 7) rfl (by kernel_rfl) (by kernel_rfl) ((copy_c (hs1.kept hO.kept) hM).mono ?_) ?_
            · rintro e W2 ⟨bo, d, rfl, hnew, hk2⟩
              refine ⟨_, rfl, ?_⟩
              have h2 : Mem.Own w ([listA (⟨bo, M, d⟩ : Sl) lx, rowT ps aoX j cX, rowT qs aoY j cY] ++ Z) W2 := hO.list (s := ⟨bo, M, d⟩) hk2 hnew
              exact IH 7 (by decide) _ _ _ ⟨2, 1, by decide, by decide, by decide, ⟨bo, M, d⟩, py, bx, by1, ox, cx, oy, cy, rfl, by kernel_rfl, by kernel_rfl, own_pickt (M := [rowT ps aoX j cX, rowT qs aoY j cY, listA (⟨bo, M, d⟩ : Sl) lx]) h2 [1, 2, 0] (by decide) rfl⟩
            exact AllReady.nil
          · exact absurd hxy (by decide)
          · exact absurd hxy (by decide)
          · exact absurd hxy (by decide)
        · rcases hys with rfl | rfl | rfl | rfl | rfl
          · have hO : Mem.Own w ([rowT ps aoX j cX, rowT qs aoY j cY, listA px lx] ++ Z) W := hO
            change wpAny _ _ _ _ 9 _ _ _
            refine wpAny_ready (rs := [8, 14]) (by kernel_rfl) (by simp) ?_
            refine ready_run (i := 8) (v := .slice (some ⟨W.heap.size, 0, none⟩) 1 1) (w' := W.alloc (.cells #[px.v] 22)) rfl (by kernel_rfl) (by kernel_rfl) ?_ ?_
            · have h2 : Mem.Own w ([boxA W.heap.size #[px.v] 22, rowT ps aoX j cX, rowT qs aoY j cY, listA px lx] ++ Z) (W.alloc (.cells #[px.v] 22)) := hO.box #[px.v] 22
              exact IH 8 (by decide) _ _ _ ⟨3, 0, by decide, by decide, by decide, px, py, W.heap.size, by1, ox, cx, oy, cy, rfl, by kernel_rfl, by kernel_rfl, own_pickt (M := [rowT ps aoX j cX, rowT qs aoY j cY, boxA W.heap.size #[px.v] 22, listA px lx]) h2 [1, 2, 0, 3] (by decide) rfl⟩
            refine ready_run (i := 14) rfl (by kernel_rfl) (run_ldv rfl rfl (by kernel_rfl) ((hO.kept.cell (p := ⟨g, _, none⟩) hg).trans hc)) ?_ ?_
            · refine wpAny_take (i := 16) (v := .slice s1 M c) rfl (by kernel_rfl) (by kernel_rfl) (by kernel_rfl) (fun _ _ _ h => h) (Or.inl ⟨by kernel_rfl, fun W2 => slice_yields (bo := bo) (n := m) (c := c) (m := M) rfl (by kernel_rfl) (by kernel_rfl) (e1 W2)⟩) ?_
              exact IH 7 (by decide) _ _ _ ⟨2, 1, by decide, by decide, by decide, px, py, bx, by1, ox, cx, oy, cy, rfl, by kernel_rfl, by kernel_rfl, hO⟩
            exact AllReady.nil
          · have hO : Mem.Own w ([rowT ps aoX j cX, rowT qs aoY j cY, listA px lx] ++ Z) W := hO
            change wpAny _ _ _ _ 7 _ _ _
            refine wpAny_ready (rs := [8]) (by kernel_rfl) (by simp) ?_
            refine ready_run (i := 8) (v := .slice (some ⟨W.heap.size, 0, none⟩) 1 1) (w' := W.alloc (.cells #[px.v] 22)) rfl (by kernel_rfl) (by kernel_rfl) ?_ ?_
            · have h2 : Mem.Own w ([boxA W.heap.size #[px.v] 22, rowT ps aoX j cX, rowT qs aoY j cY, listA px lx] ++ Z) (W.alloc (.cells #[px.v] 22)) := hO.box #[px.v] 22
              exact IH 6 (by decide) _ _ _ ⟨3, 1, by decide, by decide, by decide, px, py, W.heap.size, by1, ox, cx, oy, cy, rfl, by kernel_rfl, by kernel_rfl, own_pickt (M := [rowT ps aoX j cX, rowT qs aoY j cY, boxA W.heap.size #[px.v] 22, listA px lx]) h2 [1, 2, 0, 3] (by decide) rfl⟩
            exact AllReady.nil
          · exact absurd hxy (by decide)
          · exact absurd hxy (by decide)
          · exact absurd hxy (by decide)
        · rcases hys with rfl | rfl | rfl | rfl | rfl
          · have hO : Mem.Own w ([rowT ps aoX j cX, rowT qs aoY j cY, boxA bx #[px.v] 22, listA px lx] ++ Z) W := hO
            change wpAny _ _ _ _ 8 _ _ _
            refine wpAny_ready (rs := [9, 14]) (by kernel_rfl) (by simp) ?_
            refine ready_wp (i := 9) rfl (by kernel_rfl) (fun K hK => wp_pushT (i := 0) (j := 2) (p := (px, lx)) hO rfl rfl hj1 _ _ rfl (by kernel_rfl) (by kernel_rfl) fun o2 c2 W2 h2' => hK _ _ ?_) ?_
            · have h2 : Mem.Own w ([rowT (ps ++ [(px, lx)]) o2 (j + 1) c2, rowT qs aoY j cY, boxA bx #[px.v] 22, listA px lx] ++ Z) W2 := h2'
              exact IH 7 (by decide) _ _ _ ⟨4, 0, by decide, by decide, by decide, px, py, bx, by1, o2, c2, oy, cy, rfl, by kernel_rfl, by kernel_rfl, own_pickt (M := [rowT (ps ++ [(px, lx)]) o2 (j + 1) c2, rowT qs aoY j cY, listA px lx]) h2 [0, 1, 3] (by decide) rfl⟩
            refine ready_run (i := 14) rfl (by kernel_rfl) (run_ldv rfl rfl (by kernel_rfl) ((hO.kept.cell (p := ⟨g, _, none⟩) hg).trans hc)) ?_ ?_
            · refine wpAny_take (i := 16) (v := .slice s1 M c) rfl (by kernel_rfl) (by kernel_rfl) (by kernel_rfl) (fun _ _ _ h => h) (Or.inl ⟨by kernel_rfl, fun W2 => slice_yields (bo := bo) (n := m) (c := c) (m := M) rfl (by kernel_rfl) (by kernel_rfl) (e1 W2)⟩) ?_
              exact IH 6 (by decide) _ _ _ ⟨3, 1, by decide, by decide, by decide, px, py, bx, by1, ox, cx, oy, cy, rfl, by kernel_rfl, by kernel_rfl, hO⟩
            exact AllReady.nil
          · have hO : Mem.Own w ([rowT ps aoX j cX, rowT qs aoY j cY, boxA bx #[px.v] 22, listA px lx] ++ Z) W := hO
            change wpAny _ _ _ _ 6 _ _ _
            refine wpAny_ready (rs := [9]) (by kernel_rfl) (by simp) ?_
            refine ready_wp (i := 9) rfl (by kernel_rfl) (fun K hK => wp_pushT (i := 0) (j := 2) (p := (px, lx)) hO rfl rfl hj1 _ _ rfl (by kernel_rfl) (by kernel_rfl) fun o2 c2 W2 h2' => hK _ _ ?_) ?_
            · have h2 : Mem.Own w ([rowT (ps ++ [(px, lx)]) o2 (j + 1) c2, rowT qs aoY j cY, boxA bx #[px.v] 22, listA px lx] ++ Z) W2 := h2'
              exact IH 5 (by decide) _ _ _ ⟨4, 1, by decide, by decide, by decide, px, py, bx, by1, o2, c2, oy, cy, rfl, by kernel_rfl, by kernel_rfl, own_pickt (M := [rowT (ps ++ [(px, lx)]) o2 (j + 1) c2, rowT qs aoY j cY, listA px lx]) h2 [0, 1, 3] (by decide) rfl⟩
            exact AllReady.nil
          · exact absurd hxy (by decide)
          · exact absurd hxy (by decide)
          · exact absurd hxy (by decide)
        · rcases hys with rfl | rfl | rfl | rfl | rfl
          · have hO : Mem.Own w ([rowT (ps ++ [(px, lx)]) ox (j + 1) cx, rowT qs aoY j cY, listA px lx] ++ Z) W := hO
            change wpAny _ _ _ _ 7 _ _ _
            refine wpAny_ready (rs := [14]) (by kernel_rfl) (by simp) ?_
            refine ready_run (i := 14) rfl (by kernel_rfl) (run_ldv rfl rfl (by kernel_rfl) ((hO.kept.cell (p := ⟨g, _, none⟩) hg).trans hc)) ?_ ?_
            · refine wpAny_take (i := 16) (v := .slice s1 M c) rfl (by kernel_rfl) (by kernel_rfl) (by kernel_rfl) (fun _ _ _ h => h) (Or.inl ⟨by kernel_rfl, fun W2 => slice_yields (bo := bo) (n := m) (c := c) (m := M) rfl (by kernel_rfl) (by kernel_rfl) (e1 W2)⟩) ?_
              exact IH 5 (by decide) _ _ _ ⟨4, 1, by decide, by decide, by decide, px, py, bx, by1, ox, cx, oy, cy, rfl, by kernel_rfl, by kernel_rfl, hO⟩
            exact AllReady.nil
          · have hO : Mem.Own w ([rowT (ps ++ [(px, lx)]) ox (j + 1) cx, rowT qs aoY j cY, listA px lx] ++ Z) W := hO
            change wpAny _ _ _ _ 5 _ _ _
            refine wpAny_ready (rs := [17]) (by kernel_rfl) (by simp) ?_
            refine ready_call (i := 17) rfl (by kernel_rfl) (by kernel_rfl) ((copy_c (hs1.kept hO.kept) hM).mono ?_) ?_
            · rintro e W2 ⟨bo, d, rfl, hnew, hk2⟩
              refine ⟨_, rfl, ?_⟩
              have h2 : Mem.Own w ([listA (⟨bo, M, d⟩ : Sl) lx, rowT (ps ++ [(px, lx)]) ox (j + 1) cx, rowT qs aoY j cY, listA px lx] ++ Z) W2 := hO.list (s := ⟨bo, M, d⟩) hk2 hnew
              exact IH 4 (by decide) _ _ _ ⟨4, 2, by decide, by decide, by decide, px, ⟨bo, M, d⟩, bx, by1, ox, cx, oy, cy, rfl, by kernel_rfl, by kernel_rfl, own_pickt (M := [rowT (ps ++ [(px, lx)]) ox (j + 1) cx, rowT qs aoY j cY, listA px lx, listA (⟨bo, M, d⟩ : Sl) lx]) h2 [1, 2, 3, 0] (by decide) rfl⟩
            exact AllReady.nil
          · have hO : Mem.Own w ([rowT (ps ++ [(px, lx)]) ox (j + 1) cx, rowT qs aoY j cY, listA px lx, listA py lx] ++ Z) W := hO
            change wpAny _ _ _ _ 4 _ _ _
            refine wpAny_ready (rs := [18]) (by kernel_rfl) (by simp) ?_
            refine ready_run (i := 18) (v := .slice (some ⟨W.heap.size, 0, none⟩) 1 1) (w' := W.alloc (.cells #[py.v] 22)) rfl (by kernel_rfl) (by kernel_rfl) ?_ ?_
            · have h2 : Mem.Own w ([boxA W.heap.size #[py.v] 22, rowT (ps ++ [(px, lx)]) ox (j + 1) cx, rowT qs aoY j cY, listA px lx, listA py lx] ++ Z) (W.alloc (.cells #[py.v] 22)) := hO.box #[py.v] 22
              exact IH 3 (by decide) _ _ _ ⟨4, 3, by decide, by decide, by decide, px, py, bx, W.heap.size, ox, cx, oy, cy, rfl, by kernel_rfl, by kernel_rfl, own_pickt (M := [rowT (ps ++ [(px, lx)]) ox (j + 1) cx, rowT qs aoY j cY, listA px lx, boxA W.heap.size #[py.v] 22, listA py lx]) h2 [1, 2, 3, 0, 4] (by decide) rfl⟩
            exact AllReady.nil
          · have hO : Mem.Own w ([rowT (ps ++ [(px, lx)]) ox (j + 1) cx, rowT qs aoY j cY, listA px lx, boxA by1 #[py.v] 22, listA py lx] ++ Z) W := hO
            change wpAny _ _ _ _ 3 _ _ _
            refine wpAny_ready (rs := [19]) (by kernel_rfl) (by simp) ?_
            refine ready_wp (i := 19) rfl (by kernel_rfl) (fun K hK => wp_pushT (i := 1) (j := 3) (p := (py, lx)) hO rfl rfl hj1 _ _ rfl (by kernel_rfl) (by kernel_rfl) fun o2 c2 W2 h2' => hK _ _ ?_) ?_
            · have h2 : Mem.Own w ([rowT (ps ++ [(px, lx)]) ox (j + 1) cx, rowT (qs ++ [(py, lx)]) o2 (j + 1) c2, listA px lx, boxA by1 #[py.v] 22, listA py lx] ++ Z) W2 := h2'
              exact IH 2 (by decide) _ _ _ ⟨4, 4, by decide, by decide, by decide, px, py, bx, by1, ox, cx, o2, c2, rfl, by kernel_rfl, by kernel_rfl, own_pickt (M := [rowT (ps ++ [(px, lx)]) ox (j + 1) cx, rowT (qs ++ [(py, lx)]) o2 (j + 1) c2, listA px lx, listA py lx]) h2 [0, 1, 2, 4] (by decide) rfl⟩
            exact AllReady.nil
          · have hO : Mem.Own w ([rowT (ps ++ [(px, lx)]) ox (j + 1) cx, rowT (qs ++ [(py, lx)]) oy (j + 1) cy, listA px lx, listA py lx] ++ Z) W := hO
            change wpAny _ _ _ _ 2 _ _ _
            refine wpAny_take (i := 20) (v := .slice ox (j + 1) cx) rfl (by kernel_rfl) (by kernel_rfl) (by kernel_rfl) (fun _ _ _ h => h) (Or.inl ⟨by kernel_rfl, fun _ => by kernel_rfl⟩) ?_
            refine wpAny_take (i := 21) (v := .slice oy (j + 1) cy) rfl (by kernel_rfl) (by kernel_rfl) (by kernel_rfl) (fun _ _ _ h => h) (Or.inl ⟨by kernel_rfl, fun _ => by kernel_rfl⟩) ?_
            refine wpAny_done (by kernel_rfl) ?_ _
            simp only [puts, vX, List.foldl_cons, List.foldl_nil, List.cons_append, List.nil_append, Nat.reduceAdd]
            go_wp2_with fail
            go_roundw
            case rel => exact ⟨j + 1, ps ++ [(px, lx)], qs ++ [(py, lx)], ox, oy, cx, cy, [listA px lx, listA py lx] ++ Z, by omega, by omega, by go_num, rfl, rfl, HC.out.1.step HC.out.2.2.1 HC.out.2.2.2 px [listA px lx, listA py lx] (by simp), HC.out.2.1.step HC.out.2.2.1 HC.out.2.2.2 py [listA px lx, listA py lx] (by simp), hO⟩
            case measure => simp [RowKit.intOf]; omega
      · exact ⟨0, 0, by decide, by decide, by decide, ⟨none, 0, 0⟩, ⟨none, 0, 0⟩, 0, 0, none, 0, none, 0, rfl, rfl, rfl, hO⟩
    · have AX := ats_of hO 0 rfl (fun p hp => by
        obtain ⟨k, hk⟩ := List.getElem?_of_mem (hps.2 p hp)
        exact ⟨k + 2, hk⟩)
      have AY := ats_of hO 1 rfl (fun p hp => by
        obtain ⟨k, hk⟩ := List.getElem?_of_mem (hqs.2 p hp)
        exact ⟨k + 2, hk⟩)
      rw [hps.1] at AX
      rw [hqs.1] at AY
      have hlen := cop_len ls j hj12
      generalize (ls.take j).map (List.take 12) = L at AX AY hlen
      have HX := Lib.hid (And.intro AX (And.intro AY (And.intro hO.kept hlen)))
      have hor : ¬ j < n ∨ (j < n ∧ j = 12) := by
        by_cases h1 : j < n
        · exact .inr ⟨h1, by omega⟩
        · exact .inl h1
      clear AX AY hps hqs hO hlen hlt
      rcases hor with n1 | ⟨n1, n3⟩
      · clear hj
        go_wp2_with fail
        obtain ⟨ww, hww⟩ : ∃ ww : World, ww = wr := ⟨_, rfl⟩
        rw [← hww] at HX ⊢
        clear hww
        clear n1
        go_loopw [7] (fun i wr => ∃ k : Nat, k ≤ 2 ∧ i = .int .i64 k ∧ Kept ww wr) (fun i _ => 2 - (RowKit.intOf i).toNat)
        case atStart => exact ⟨0, by omega, rfl, Kept.refl _⟩
        case round =>
          obtain ⟨k, hk2, rfl, hk⟩ := hrel
          have HK := Lib.hid hk
          clear hk
          by_cases hlt : k < 2
          · have n1 : decide ((k : Int) < 2) = true := decide_eq_true (by omega)
            go_wp2_with (first
              | (go_at_call 18; (with_reducible refine (union_c (HX.out.1.kept HK.out) HX.out.2.2.2).mono ?_); rintro e w3 ⟨ro, s, dd, rfl, hr, k3⟩)
              | (go_at_call 19; (with_reducible refine (runion_c (HX.out.2.1.kept (HK.out.trans k3)) HX.out.2.2.2).mono ?_); rintro e w4 ⟨ro4, s4, d4, rfl, hr4, k4⟩)
              | (go_at_call 11; (with_reducible refine (eq_c (hr.at.kept k4) hr4 rfl).mono ?_); rintro e w5 ⟨rfl, k5⟩))
            have hfree := Lib.hid ((hr.free.kept k4).kept k5)
            have hkk := Lib.hid ((k3.trans k4).trans k5)
            have hs62 := hr.at.n62
            unfold maxLen at hs62
            clear hr hr4 k3 k4 k5
            go_loopw [9] (fun i wq => ∃ q : Nat, q ≤ s ∧ i = .int .i64 q ∧ Kept wr wq ∧ Free wr.heap.size wq ro s) (fun i _ => s - (RowKit.intOf i).toNat)
            case atStart => exact ⟨0, Nat.zero_le _, rfl, hkk.out, hfree.out⟩
            case round =>
              clear hkk hfree
              obtain ⟨q, hq, rfl, hkq, hfr⟩ := hrel
              by_cases hlt2 : q < s
              · obtain ⟨g, v, rfl, hc, hz, hst⟩ := hfr.get hlt2
                have HS := Lib.hid (hst _ (Nat.le_refl _) hkq)
                clear hst hkq hfr
                go_wp2
                go_roundw
                case rel => exact ⟨q + 1, by omega, by go_num, (HS.out _).1, (HS.out _).2⟩
                case measure => simp [RowKit.intOf]; omega
              · obtain rfl : q = s := by omega
                have HS := Lib.hid hkq
                clear hkq hfr
                go_wp2
                go_roundw
                case rel => exact ⟨k + 1, by omega, by go_num, HK.out.trans HS.out⟩
                case measure => simp [RowKit.intOf]; omega
          · obtain rfl : k = 2 := by omega
            rw [show ((2 : Nat) : Int) = 2 from rfl]
            go_wp2_with fail
            have HK2 := Lib.hid HK.out
            clear HK
            go_loopw [10] (fun i wq => ∃ q : Nat, q ≤ j ∧ i = .int .i64 q ∧ Kept ww wq) (fun i _ => j - (RowKit.intOf i).toNat)
            case atStart => exact ⟨0, Nat.zero_le _, rfl, HK2.out⟩
            case round =>
              clear HK2
              obtain ⟨q, hq, rfl, hkq⟩ := hrel
              by_cases hlt2 : q < j
              · obtain ⟨l, g, o, bo, m, c, hl, rfl, hg, hc, hl2⟩ := (HX.out.1.kept hkq).get hlt2
                obtain ⟨l', g', o', bo', m', c', hl', rfl, hg', hc', hl2'⟩ := (HX.out.2.1.kept hkq).get hlt2
                obtain rfl : l = l' := by rw [hl] at hl'; exact Option.some.inj hl'
                have HL := Lib.hid (And.intro hl2 (And.intro hl2' hkq))
                clear hl hl' hl2 hl2' hkq
                go_wp2_with fail
                go_region_with (go_at_call 11; (with_reducible refine (eq_c HL.out.1.drew HL.out.2.1.drew rfl).mono ?_); rintro e w5 ⟨rfl, k5⟩)
                all_goals
                  go_wp2_with fail
                  go_roundw
                  case rel => exact ⟨q + 1, by omega, by go_num, HL.out.2.2.drew.trans k5⟩
                  case measure => simp [RowKit.intOf]; omega
              · obtain rfl : q = j := by omega
                have HS := Lib.hid hkq
                clear hkq
                go_wp2_with (go_at_call 17; (with_reducible refine (awake_c _).mono ?_); rintro e v7 ⟨rfl, k7⟩)
                go_ret
                exact ⟨rfl, (HX.out.2.2.1.trans HS.out).trans k7⟩
      · subst n3
        clear hj hj12
        go_wp2_with fail
        obtain ⟨ww, hww⟩ : ∃ ww : World, ww = wr := ⟨_, rfl⟩
        rw [← hww] at HX ⊢
        clear hww
        clear n1
        go_loopw [7] (fun i wr => ∃ k : Nat, k ≤ 2 ∧ i = .int .i64 k ∧ Kept ww wr) (fun i _ => 2 - (RowKit.intOf i).toNat)
        case atStart => exact ⟨0, by omega, rfl, Kept.refl _⟩
        case round =>
          obtain ⟨k, hk2, rfl, hk⟩ := hrel
          have HK := Lib.hid hk
          clear hk
          by_cases hlt : k < 2
          · have n1 : decide ((k : Int) < 2) = true := decide_eq_true (by omega)
            go_wp2_with (first
              | (go_at_call 18; (with_reducible refine (union_c (HX.out.1.kept HK.out) HX.out.2.2.2).mono ?_); rintro e w3 ⟨ro, s, dd, rfl, hr, k3⟩)
              | (go_at_call 19; (with_reducible refine (runion_c (HX.out.2.1.kept (HK.out.trans k3)) HX.out.2.2.2).mono ?_); rintro e w4 ⟨ro4, s4, d4, rfl, hr4, k4⟩)
              | (go_at_call 11; (with_reducible refine (eq_c (hr.at.kept k4) hr4 rfl).mono ?_); rintro e w5 ⟨rfl, k5⟩))
            have hfree := Lib.hid ((hr.free.kept k4).kept k5)
            have hkk := Lib.hid ((k3.trans k4).trans k5)
            have hs62 := hr.at.n62
            unfold maxLen at hs62
            clear hr hr4 k3 k4 k5
            go_loopw [9] (fun i wq => ∃ q : Nat, q ≤ s ∧ i = .int .i64 q ∧ Kept wr wq ∧ Free wr.heap.size wq ro s) (fun i _ => s - (RowKit.intOf i).toNat)
            case atStart => exact ⟨0, Nat.zero_le _, rfl, hkk.out, hfree.out⟩
            case round =>
              clear hkk hfree
              obtain ⟨q, hq, rfl, hkq, hfr⟩ := hrel
              by_cases hlt2 : q < s
              · obtain ⟨g, v, rfl, hc, hz, hst⟩ := hfr.get hlt2
                have HS := Lib.hid (hst _ (Nat.le_refl _) hkq)
                clear hst hkq hfr
                go_wp2
                go_roundw
                case rel => exact ⟨q + 1, by omega, by go_num, (HS.out _).1, (HS.out _).2⟩
                case measure => simp [RowKit.intOf]; omega
              · obtain rfl : q = s := by omega
                have HS := Lib.hid hkq
                clear hkq hfr
                go_wp2
                go_roundw
                case rel => exact ⟨k + 1, by omega, by go_num, HK.out.trans HS.out⟩
                case measure => simp [RowKit.intOf]; omega
          · obtain rfl : k = 2 := by omega
            rw [show ((2 : Nat) : Int) = 2 from rfl]
            go_wp2_with fail
            have HK2 := Lib.hid HK.out
            clear HK
            go_loopw [10] (fun i wq => ∃ q : Nat, q ≤ 12 ∧ i = .int .i64 q ∧ Kept ww wq) (fun i _ => 12 - (RowKit.intOf i).toNat)
            case atStart => exact ⟨0, Nat.zero_le _, rfl, HK2.out⟩
            case round =>
              clear HK2
              obtain ⟨q, hq, rfl, hkq⟩ := hrel
              by_cases hlt2 : q < 12
              · obtain ⟨l, g, o, bo, m, c, hl, rfl, hg, hc, hl2⟩ := (HX.out.1.kept hkq).get hlt2
                obtain ⟨l', g', o', bo', m', c', hl', rfl, hg', hc', hl2'⟩ := (HX.out.2.1.kept hkq).get hlt2
                obtain rfl : l = l' := by rw [hl] at hl'; exact Option.some.inj hl'
                have HL := Lib.hid (And.intro hl2 (And.intro hl2' hkq))
                clear hl hl' hl2 hl2' hkq
                go_wp2_with fail
                go_region_with (go_at_call 11; (with_reducible refine (eq_c HL.out.1.drew HL.out.2.1.drew rfl).mono ?_); rintro e w5 ⟨rfl, k5⟩)
                all_goals
                  go_wp2_with fail
                  go_roundw
                  case rel => exact ⟨q + 1, by omega, by go_num, HL.out.2.2.drew.trans k5⟩
                  case measure => simp [RowKit.intOf]; omega
              · obtain rfl : q = 12 := by omega
                have HS := Lib.hid hkq
                clear hkq
                go_wp2_with (go_at_call 17; (with_reducible refine (awake_c _).mono ?_); rintro e v7 ⟨rfl, k7⟩)
                go_ret
                exact ⟨rfl, (HX.out.2.2.1.trans HS.out).trans k7⟩
end Go.Proofs.Ytemfnobfdmlfaaa.In
