/-
  A specification's numbers in their order (the specification's 'numbers' of layer 13).
-/
import Derived.Test.YtngojgocplmedaaRZf
import Derived.Deep.RegionHeld3
import Derived.BigQuiet
namespace Go.Proofs.YtngojgocplmedaaR.Ls
open Go.RowKit Go.Proofs.YtngojgocplmedaaR.Mem Go.Proofs.YtngojgocplmedaaR.Bx Go.Proofs.YtngojgocplmedaaR.In Go.Proofs.YtngojgocplmedaaR.Sp Go.ChangeShapes Go.WideShapes Go.ChangeAt
set_option linter.unusedVariables false

def rowI (t : Tsk) : List Int := [if t.always then 1 else 0, t.lim, t.win, t.bas, t.most, t.prb]
/-- The numbers of a specification and of its first j tasks. -/
def numsI (s : Sp) (j : Nat) : List Int := [s.id, s.c, s.m, s.d, (s.ports.length : Int)] ++ s.ports ++ [(s.tasks.length : Int)] ++ (s.tasks.take j).flatMap rowI
theorem numsI_zero (s : Sp) : numsI s 0 = [s.id, s.c, s.m, s.d, (s.ports.length : Int)] ++ s.ports ++ [(s.tasks.length : Int)] := by simp [numsI]
theorem numsI_succ {s : Sp} {j : Nat} {t : Tsk} (h : s.tasks[j]? = some t) : numsI s (j + 1) = numsI s j ++ rowI t := by
  unfold numsI
  rw [List.take_add_one, h]
  simp [List.flatMap_append, List.append_assoc]
theorem numsI_length (s : Sp) {j : Nat} (hj : j ≤ s.tasks.length) : (numsI s j).length = 6 + s.ports.length + 6 * j := by
  induction j with
  | zero => rw [numsI_zero]; simp; omega
  | succ j ih =>
    obtain ⟨t, ht⟩ : ∃ t, s.tasks[j]? = some t := ⟨_, List.getElem?_eq_getElem (by omega)⟩
    rw [numsI_succ ht, List.length_append, ih (by omega)]
    simp [rowI]; omega
theorem rowI_fit {t : Tsk} (g : t.good) : Fit (rowI t) := fun x hx => by
  have h1 := g.lim
  have h2 := g.win
  have h3 := g.bas
  have h4 := g.most
  have h5 := g.prb
  unfold isI
  simp only [rowI, List.mem_cons, List.not_mem_nil, or_false] at hx
  rcases hx with rfl | rfl | rfl | rfl | rfl | rfl
  · split <;> omega
  all_goals omega
theorem headI_fit {s : Sp} (g : s.good) : Fit [s.id, s.c, s.m, s.d, (s.ports.length : Int)] := fun x hx => by
  have h1 := g.id
  have h2 := g.c
  have h3 := g.m
  have h4 := g.d
  have h5 := g.few
  unfold isI
  simp only [List.mem_cons, List.not_mem_nil, or_false] at hx
  rcases hx with rfl | rfl | rfl | rfl | rfl <;> omega
theorem one_fit {n : Nat} (h : n ≤ 4) : Fit [(n : Int)] := fun x hx => by
  obtain rfl := List.mem_singleton.1 hx
  unfold isI; omega
set_option maxHeartbeats 4000000 in
set_option maxRecDepth 100000 in
theorem nums_c {w : World} {s : Sp} {p : Pl} (h : SpAt w s p) (g : s.good) : Calls Try.prog 30 #[.agg (spC s p)] w fun e w' => ∃ ao n cap, e = .returned (.slice ao n cap) ∧ New w.heap.size w' ao n cap (numsI s s.tasks.length) ∧ Kept w w' := by
  obtain ⟨po, pn, pc, to, tn, tc⟩ := p
  have hpn : s.ports.length = pn := h.ports.len
  have htn : s.tasks.length = tn := h.tasks.len
  have h8 : pn ≤ 8 := by have := g.few; omega
  have h4 : tn ≤ 4 := by have := g.most; omega
  have H := Lib.hid (And.intro h (And.intro g (And.intro hpn htn)))
  clear h g hpn htn
  obtain ⟨u0, hu0⟩ : ∃ u0, u0 = w.alloc (.cells (spC s ⟨po, pn, pc, to, tn, tc⟩) 27) := ⟨_, rfl⟩
  have h0 : Mem.Own w [boxA w.heap.size (spC s ⟨po, pn, pc, to, tn, tc⟩) 27] u0 := by rw [hu0]; exact (Own.nil w).box _ _
  have HS := Lib.hid (show ∀ W, Kept u0 W → (W.cell? ⟨w.heap.size, 4, none⟩ = some (.slice po pn pc) ∧ W.cell? ⟨w.heap.size, 5, none⟩ = some (.slice to tn tc)) from fun W k => by
    obtain ⟨⟨_, _, _, _, b4, b5⟩, _⟩ := box6 ((h0.later k).boxed 0 rfl)
    exact ⟨b4, b5⟩)
  have hl0 := New.lit (B := u0.heap.size) u0 (Nat.le_refl _) _ (headI_fit H.out.2.1) (by simp [maxLen])
  rw [H.out.2.2.1] at hl0
  have es : u0.heap.size = w.heap.size + 1 := by rw [hu0]; simp
  unfold spC at hu0 h0 ⊢
  subst hu0
  have hl1 : New (w.heap.size + 1) ((w.alloc (.cells #[.int .i64 s.id, .int .i64 s.c, .int .i64 s.m, .int .i64 s.d, .slice po pn pc, .slice to tn tc] 27)).alloc (.cells #[.int .i64 s.id, .int .i64 s.c, .int .i64 s.m, .int .i64 s.d, .int .i64 (pn : Int)] 3)) (some ⟨w.heap.size + 1, 0, none⟩) 5 5 [s.id, s.c, s.m, s.d, (pn : Int)] := by
    rw [es] at hl0; exact hl0
  clear hl0
  have HN := Lib.hid hl1
  clear hl1
  have K0 := Lib.hid (((Kept.refl (w.alloc (.cells #[.int .i64 s.id, .int .i64 s.c, .int .i64 s.m, .int .i64 s.d, .slice po pn pc, .slice to tn tc] 27))).alloc (.cells #[.int .i64 s.id, .int .i64 s.c, .int .i64 s.m, .int .i64 s.d, .int .i64 (pn : Int)] 3)))
  have S1 := HS.out _ K0.out
  have S1' := HS.out _ K0.out.drew
  have HD := Lib.hid (HN.out.kept (Kept.refl _).drew)
  have KD := Lib.hid ((h0.later K0.out.drew).kept)
  have hszD := K0.out.drew.size
  rw [es] at hszD
  have HG := Lib.hid (HN.out.kept ((Kept.refl _).drew.alloc (.cells #[.int .i64 (tn : Int)] 3)))
  have KF := Lib.hid (K0.out.drew.alloc (.cells #[.int .i64 (tn : Int)] 3))
  have KG := Lib.hid ((h0.later KF.out).kept)
  have hszG := KF.out.size
  rw [es] at hszG
  have HF := Lib.hid (one_fit h4)
  have e2 : (((w.alloc (.cells #[.int .i64 s.id, .int .i64 s.c, .int .i64 s.m, .int .i64 s.d, .slice po pn pc, .slice to tn tc] 27)).alloc (.cells #[.int .i64 s.id, .int .i64 s.c, .int .i64 s.m, .int .i64 s.d, .int .i64 (pn : Int)] 3)).drew).heap.size = w.heap.size + 1 + 1 := by simp [World.drew]
  have T2 := Lib.hid (show At ((((w.alloc (.cells #[.int .i64 s.id, .int .i64 s.c, .int .i64 s.m, .int .i64 s.d, .slice po pn pc, .slice to tn tc] 27)).alloc (.cells #[.int .i64 s.id, .int .i64 s.c, .int .i64 s.m, .int .i64 s.d, .int .i64 (pn : Int)] 3)).drew).alloc (.cells #[.int .i64 (tn : Int)] 3)) (some ⟨w.heap.size + 1 + 1, 0, none⟩) 1 1 [(tn : Int)] from by
    have h := (New.lit (B := 0) (((w.alloc (.cells #[.int .i64 s.id, .int .i64 s.c, .int .i64 s.m, .int .i64 s.d, .slice po pn pc, .slice to tn tc] 27)).alloc (.cells #[.int .i64 s.id, .int .i64 s.c, .int .i64 s.m, .int .i64 s.d, .int .i64 (pn : Int)] 3)).drew) (Nat.zero_le _) [(tn : Int)] HF.out (by simp [maxLen])).at
    rw [e2] at h; exact h)
  obtain ⟨N0, hN0⟩ : ∃ N0, 5 + pn = N0 := ⟨_, rfl⟩
  obtain ⟨N1, hN1⟩ : ∃ N1, N0 + 1 = N1 := ⟨_, rfl⟩
  have hb0 : N0 ≤ 1000000 := by omega
  have hb1 : N1 ≤ 1000000 := by omega
  have HE := Lib.hid es
  go_enter Try.func30, Try.ntmps30
  go_wp2_with fail
  go_region_held3 (fun W => W.cell? ⟨w.heap.size, 4, none⟩ = some (.slice po pn pc) ∧ W.cell? ⟨w.heap.size, 5, none⟩ = some (.slice to tn tc))
    (first | with_reducible assumption | exact HS.out _ KF.out | exact HS.out _ KA.out)
    (first
      | (refine step_app HD.out (H.out.1.ports.kept KD.out) hszD hN0 hb0 rfl _ _ rfl rfl rfl ?_; intro ao1 c1 w2 m1 g1 f1; have HK := Lib.hid (f1 _ (Nat.le_of_eq HE.out) K0.out.drew); have A2 := Lib.hid (m1.kept ((Kept.refl w2).alloc (.cells #[.int .i64 (tn : Int)] 3))); have B2 := Lib.hid (show At (w2.alloc (.cells #[.int .i64 (tn : Int)] 3)) (some ⟨w2.heap.size, 0, none⟩) 1 1 [(tn : Int)] from (New.lit w2 (Nat.zero_le _) [(tn : Int)] HF.out (by simp [maxLen])).at); have KA := Lib.hid (HK.out.alloc (.cells #[.int .i64 (tn : Int)] 3)); have hsz3 := KA.out.size; rw [HE.out] at hsz3; have S2 := HS.out _ HK.out; clear m1 f1 g1)
      | (refine step_app HG.out (H.out.1.ports.kept KG.out) hszG hN0 hb0 rfl _ _ rfl rfl rfl ?_; intro ao1 c1 w2 m1 g1 f1; have KA := Lib.hid (f1 _ (Nat.le_of_eq HE.out) KF.out); have A2 := Lib.hid m1; have B2 := Lib.hid (T2.out.grown g1 (fun g o e => by cases e; simp [Value.ownBlock])); have hsz3 := KA.out.size; rw [HE.out] at hsz3; have S2 := HS.out _ KA.out; clear m1 f1 g1)
      | (refine step_app A2.out B2.out hsz3 hN1 hb1 rfl _ _ rfl rfl rfl ?_; intro ao2 c2 w3 m2 g2 f2; have K2 := Lib.hid (f2 _ (Nat.le_of_eq HE.out) KA.out); have M2 := Lib.hid m2; have S3 := HS.out _ K2.out; clear m2 f2 g2))
  all_goals
    clear S1 S1' S2 S3
    have M3 := Lib.hid (show New (w.heap.size + 1) w3 ao2 N1 c2 (numsI s 0) from by rw [numsI_zero, H.out.2.2.1, H.out.2.2.2]; exact M2.out)
    clear M2 A2 B2 KA hsz3
    go_wp2_with fail
    go_loopw [3, 4] (fun out i wr => ∃ (j m c : Nat) (ao : Option Addr), j ≤ tn ∧ i = .int .i64 j ∧ out = .slice ao m c ∧ m = 6 + pn + 6 * j ∧ New (w.heap.size + 1) wr ao m c (numsI s j) ∧ Kept (w.alloc (.cells #[.int .i64 s.id, .int .i64 s.c, .int .i64 s.m, .int .i64 s.d, .slice po pn pc, .slice to tn tc] 27)) wr) (fun _ i _ => tn - (RowKit.intOf i).toNat)
    case atStart => exact ⟨0, _, _, _, Nat.zero_le _, rfl, rfl, by omega, M3.out, K2.out⟩
    case round =>
      obtain ⟨j, m, c, ao, hj, rfl, rfl, hm, hN, hK⟩ := hrel
      have HM := Lib.hid hN
      have Hm := Lib.hid hm
      clear hm
      have HK' := Lib.hid hK
      obtain ⟨c4, c5⟩ := HS.out _ hK
      clear hN hK
      by_cases hlt : j < tn
      · obtain ⟨t, g, o, ht, e9, hg, hc⟩ := H.out.1.tasks.get hlt
        have e9 : to = some ⟨g, o, none⟩ := e9
        subst e9
        have HT5 := Lib.hid (show ∀ W, Kept (w.alloc (.cells #[.int .i64 s.id, .int .i64 s.c, .int .i64 s.m, .int .i64 s.d, .slice po pn pc, .slice (some ⟨g, o, none⟩) tn tc] 27)) W → W.cell? ⟨g, o + j * 6 + 5, none⟩ = some (.int .i64 t.prb) from fun W k => ((h0.kept.trans k).cell (p := ⟨g, _, none⟩) hg).trans (task_cells hc).2.2.2.2.2)
        have hcw := fun i u h => ((h0.kept.trans HK'.out).cell (p := ⟨g, o + j * elT.k + i, none⟩) hg).trans (hc i u h)
        obtain ⟨t0, t1, t2, t3, t4, t5⟩ := task_cells hcw
        have HG2 := Lib.hid (H.out.2.1.task t (List.mem_of_getElem? ht))
        have HT := Lib.hid ht
        clear hc ht hcw
        have n4 : (j : Int) < (tn : Int) := by omega
        have n5 : (0 : Int) ≤ (j : Int) := by omega
        have HO := Lib.hid (show some wr.heap.size ≠ Value.ownBlock (.slice ao m c) from by
          obtain ⟨b, ob, eo, hb, _⟩ := HM.out.at.cell 0 s.id (by simp [numsI])
          subst eo
          intro e
          have e' : some wr.heap.size = some b := e
          cases e'; omega)
        rcases ha : t.always with _ | _
        · rw [ha] at t0
          have hrow : rowI t = [0, t.lim, t.win, t.bas, t.most, t.prb] := by simp [rowI, ha]
          have hfit : Fit [0, t.lim, t.win, t.bas, t.most, t.prb] := hrow ▸ rowI_fit HG2.out
          have HR := Lib.hid hrow
          clear hrow ha
          have KX := Lib.hid (HK'.out.alloc (.cells #[.bool false, .int .i64 t.lim, .int .i64 t.win, .int .i64 t.bas, .int .i64 t.most] 35))
          have KY := Lib.hid (KX.out.drew.alloc (.cells #[.int .i64 0, .int .i64 t.lim, .int .i64 t.win, .int .i64 t.bas, .int .i64 t.most, .int .i64 t.prb] 3))
          have eX : (wr.alloc (.cells #[.bool false, .int .i64 t.lim, .int .i64 t.win, .int .i64 t.bas, .int .i64 t.most] 35)).drew.heap.size = wr.heap.size + 1 := by simp [World.drew]
          have A3 := Lib.hid (HM.out.kept (((Kept.refl wr).alloc (.cells #[.bool false, .int .i64 t.lim, .int .i64 t.win, .int .i64 t.bas, .int .i64 t.most] 35)).drew.alloc (.cells #[.int .i64 0, .int .i64 t.lim, .int .i64 t.win, .int .i64 t.bas, .int .i64 t.most, .int .i64 t.prb] 3)))
          have B3 := Lib.hid (show At ((wr.alloc (.cells #[.bool false, .int .i64 t.lim, .int .i64 t.win, .int .i64 t.bas, .int .i64 t.most] 35)).drew.alloc (.cells #[.int .i64 0, .int .i64 t.lim, .int .i64 t.win, .int .i64 t.bas, .int .i64 t.most, .int .i64 t.prb] 3)) (some ⟨wr.heap.size + 1, 0, none⟩) 6 6 [0, t.lim, t.win, t.bas, t.most, t.prb] from by
            have h := (New.lit (B := 0) (wr.alloc (.cells #[.bool false, .int .i64 t.lim, .int .i64 t.win, .int .i64 t.bas, .int .i64 t.most] 35)).drew (Nat.zero_le _) [0, t.lim, t.win, t.bas, t.most, t.prb] hfit (by simp [maxLen])).at
            rw [eX] at h; exact h)
          have hszY := KY.out.size
          rw [HE.out] at hszY
          have HY := Lib.hid (show ∀ i u, (wr.alloc (.cells #[.bool false, .int .i64 t.lim, .int .i64 t.win, .int .i64 t.bas, .int .i64 t.most] 35)).cell? ⟨wr.heap.size, i, none⟩ = some u → ((wr.alloc (.cells #[.bool false, .int .i64 t.lim, .int .i64 t.win, .int .i64 t.bas, .int .i64 t.most] 35)).drew.alloc (.cells #[.int .i64 0, .int .i64 t.lim, .int .i64 t.win, .int .i64 t.bas, .int .i64 t.most, .int .i64 t.prb] 3)).cell? ⟨wr.heap.size, i, none⟩ = some u from fun i u h => (((Kept.refl (wr.alloc (.cells #[.bool false, .int .i64 t.lim, .int .i64 t.win, .int .i64 t.bas, .int .i64 t.most] 35))).drew.alloc _).cell (p := ⟨wr.heap.size, i, none⟩) (by simp)).trans h)
          have hP : (wr.alloc (.cells #[.bool false, .int .i64 t.lim, .int .i64 t.win, .int .i64 t.bas, .int .i64 t.most] 35)).heap[wr.heap.size]? = some (.cells #[.bool false, .int .i64 t.lim, .int .i64 t.win, .int .i64 t.bas, .int .i64 t.most] 35 (0, 0)) := heap_alloc_new _ _
          have HW := Lib.hid (show ∀ W, Kept (w.alloc (.cells #[.int .i64 s.id, .int .i64 s.c, .int .i64 s.m, .int .i64 s.d, .slice po pn pc, .slice (some ⟨g, o, none⟩) tn tc] 27)) W → (∀ i u, (wr.alloc (.cells #[.bool false, .int .i64 t.lim, .int .i64 t.win, .int .i64 t.bas, .int .i64 t.most] 35)).cell? ⟨wr.heap.size, i, none⟩ = some u → W.cell? ⟨wr.heap.size, i, none⟩ = some u) → (W.cell? ⟨wr.heap.size, 1, none⟩ = some (.int .i64 t.lim) ∧ W.cell? ⟨wr.heap.size, 2, none⟩ = some (.int .i64 t.win) ∧ W.cell? ⟨wr.heap.size, 3, none⟩ = some (.int .i64 t.bas) ∧ W.cell? ⟨wr.heap.size, 4, none⟩ = some (.int .i64 t.most) ∧ W.cell? ⟨w.heap.size, 5, none⟩ = some (.slice (some ⟨g, o, none⟩) tn tc) ∧ W.cell? ⟨g, o + j * 6 + 5, none⟩ = some (.int .i64 t.prb)) from fun W k kc =>
            ⟨kc _ _ (cell_of_row _ _ _ _ _ _ hP), kc _ _ (cell_of_row _ _ _ _ _ _ hP), kc _ _ (cell_of_row _ _ _ _ _ _ hP), kc _ _ (cell_of_row _ _ _ _ _ _ hP), (HS.out W k).2, HT5.out W k⟩)
          have S5 := HW.out _ KX.out (fun i u h => h)
          have S5' := HW.out _ KX.out.drew (fun i u h => h)
          have hb3 : m + 6 ≤ 1000000 := by have := Hm.out; omega
          clear hP hfit eX
          go_wp2_with fail
          go_region_held3 (fun W => W.cell? ⟨wr.heap.size, 1, none⟩ = some (.int .i64 t.lim) ∧ W.cell? ⟨wr.heap.size, 2, none⟩ = some (.int .i64 t.win) ∧ W.cell? ⟨wr.heap.size, 3, none⟩ = some (.int .i64 t.bas) ∧ W.cell? ⟨wr.heap.size, 4, none⟩ = some (.int .i64 t.most) ∧ W.cell? ⟨w.heap.size, 5, none⟩ = some (.slice (some ⟨g, o, none⟩) tn tc) ∧ W.cell? ⟨g, o + j * 6 + 5, none⟩ = some (.int .i64 t.prb))
            (first | with_reducible assumption | exact HW.out _ KY.out HY.out)
            (first
              | (refine step_app A3.out B3.out hszY rfl hb3 rfl _ _ rfl rfl rfl ?_; intro ao4 c4' w4 m4 g4 f4; have K4 := Lib.hid (f4 _ (Nat.le_of_eq HE.out) KY.out); have M4 := Lib.hid m4; have S6 := HW.out _ K4.out (fun i u h => World.grownBy.cell g4 (HY.out i u h) HO.out); clear m4 g4 f4))
          go_wp2_with fail
          go_roundw
          case rel => exact ⟨j + 1, _, _, _, by omega, by go_num, rfl, by have := Hm.out; omega, by rw [numsI_succ HT.out, HR.out]; exact M4.out, K4.out⟩
          case measure => simp [RowKit.intOf]; omega
        · rw [ha] at t0
          have hrow : rowI t = [1, t.lim, t.win, t.bas, t.most, t.prb] := by simp [rowI, ha]
          have hfit : Fit [1, t.lim, t.win, t.bas, t.most, t.prb] := hrow ▸ rowI_fit HG2.out
          have HR := Lib.hid hrow
          clear hrow ha
          have KX := Lib.hid (HK'.out.alloc (.cells #[.bool true, .int .i64 t.lim, .int .i64 t.win, .int .i64 t.bas, .int .i64 t.most] 35))
          have KY := Lib.hid (KX.out.drew.alloc (.cells #[.int .i64 1, .int .i64 t.lim, .int .i64 t.win, .int .i64 t.bas, .int .i64 t.most, .int .i64 t.prb] 3))
          have eX : (wr.alloc (.cells #[.bool true, .int .i64 t.lim, .int .i64 t.win, .int .i64 t.bas, .int .i64 t.most] 35)).drew.heap.size = wr.heap.size + 1 := by simp [World.drew]
          have A3 := Lib.hid (HM.out.kept (((Kept.refl wr).alloc (.cells #[.bool true, .int .i64 t.lim, .int .i64 t.win, .int .i64 t.bas, .int .i64 t.most] 35)).drew.alloc (.cells #[.int .i64 1, .int .i64 t.lim, .int .i64 t.win, .int .i64 t.bas, .int .i64 t.most, .int .i64 t.prb] 3)))
          have B3 := Lib.hid (show At ((wr.alloc (.cells #[.bool true, .int .i64 t.lim, .int .i64 t.win, .int .i64 t.bas, .int .i64 t.most] 35)).drew.alloc (.cells #[.int .i64 1, .int .i64 t.lim, .int .i64 t.win, .int .i64 t.bas, .int .i64 t.most, .int .i64 t.prb] 3)) (some ⟨wr.heap.size + 1, 0, none⟩) 6 6 [1, t.lim, t.win, t.bas, t.most, t.prb] from by
            have h := (New.lit (B := 0) (wr.alloc (.cells #[.bool true, .int .i64 t.lim, .int .i64 t.win, .int .i64 t.bas, .int .i64 t.most] 35)).drew (Nat.zero_le _) [1, t.lim, t.win, t.bas, t.most, t.prb] hfit (by simp [maxLen])).at
            rw [eX] at h; exact h)
          have hszY := KY.out.size
          rw [HE.out] at hszY
          have HY := Lib.hid (show ∀ i u, (wr.alloc (.cells #[.bool true, .int .i64 t.lim, .int .i64 t.win, .int .i64 t.bas, .int .i64 t.most] 35)).cell? ⟨wr.heap.size, i, none⟩ = some u → ((wr.alloc (.cells #[.bool true, .int .i64 t.lim, .int .i64 t.win, .int .i64 t.bas, .int .i64 t.most] 35)).drew.alloc (.cells #[.int .i64 1, .int .i64 t.lim, .int .i64 t.win, .int .i64 t.bas, .int .i64 t.most, .int .i64 t.prb] 3)).cell? ⟨wr.heap.size, i, none⟩ = some u from fun i u h => (((Kept.refl (wr.alloc (.cells #[.bool true, .int .i64 t.lim, .int .i64 t.win, .int .i64 t.bas, .int .i64 t.most] 35))).drew.alloc _).cell (p := ⟨wr.heap.size, i, none⟩) (by simp)).trans h)
          have hP : (wr.alloc (.cells #[.bool true, .int .i64 t.lim, .int .i64 t.win, .int .i64 t.bas, .int .i64 t.most] 35)).heap[wr.heap.size]? = some (.cells #[.bool true, .int .i64 t.lim, .int .i64 t.win, .int .i64 t.bas, .int .i64 t.most] 35 (0, 0)) := heap_alloc_new _ _
          have HW := Lib.hid (show ∀ W, Kept (w.alloc (.cells #[.int .i64 s.id, .int .i64 s.c, .int .i64 s.m, .int .i64 s.d, .slice po pn pc, .slice (some ⟨g, o, none⟩) tn tc] 27)) W → (∀ i u, (wr.alloc (.cells #[.bool true, .int .i64 t.lim, .int .i64 t.win, .int .i64 t.bas, .int .i64 t.most] 35)).cell? ⟨wr.heap.size, i, none⟩ = some u → W.cell? ⟨wr.heap.size, i, none⟩ = some u) → (W.cell? ⟨wr.heap.size, 1, none⟩ = some (.int .i64 t.lim) ∧ W.cell? ⟨wr.heap.size, 2, none⟩ = some (.int .i64 t.win) ∧ W.cell? ⟨wr.heap.size, 3, none⟩ = some (.int .i64 t.bas) ∧ W.cell? ⟨wr.heap.size, 4, none⟩ = some (.int .i64 t.most) ∧ W.cell? ⟨w.heap.size, 5, none⟩ = some (.slice (some ⟨g, o, none⟩) tn tc) ∧ W.cell? ⟨g, o + j * 6 + 5, none⟩ = some (.int .i64 t.prb)) from fun W k kc =>
            ⟨kc _ _ (cell_of_row _ _ _ _ _ _ hP), kc _ _ (cell_of_row _ _ _ _ _ _ hP), kc _ _ (cell_of_row _ _ _ _ _ _ hP), kc _ _ (cell_of_row _ _ _ _ _ _ hP), (HS.out W k).2, HT5.out W k⟩)
          have S5 := HW.out _ KX.out (fun i u h => h)
          have S5' := HW.out _ KX.out.drew (fun i u h => h)
          have hb3 : m + 6 ≤ 1000000 := by have := Hm.out; omega
          clear hP hfit eX
          go_wp2_with fail
          go_region_held3 (fun W => W.cell? ⟨wr.heap.size, 1, none⟩ = some (.int .i64 t.lim) ∧ W.cell? ⟨wr.heap.size, 2, none⟩ = some (.int .i64 t.win) ∧ W.cell? ⟨wr.heap.size, 3, none⟩ = some (.int .i64 t.bas) ∧ W.cell? ⟨wr.heap.size, 4, none⟩ = some (.int .i64 t.most) ∧ W.cell? ⟨w.heap.size, 5, none⟩ = some (.slice (some ⟨g, o, none⟩) tn tc) ∧ W.cell? ⟨g, o + j * 6 + 5, none⟩ = some (.int .i64 t.prb))
            (first | with_reducible assumption | exact HW.out _ KY.out HY.out)
            (first
              | (refine step_app A3.out B3.out hszY rfl hb3 rfl _ _ rfl rfl rfl ?_; intro ao4 c4' w4 m4 g4 f4; have K4 := Lib.hid (f4 _ (Nat.le_of_eq HE.out) KY.out); have M4 := Lib.hid m4; have S6 := HW.out _ K4.out (fun i u h => World.grownBy.cell g4 (HY.out i u h) HO.out); clear m4 g4 f4))
          go_wp2_with fail
          go_roundw
          case rel => exact ⟨j + 1, _, _, _, by omega, by go_num, rfl, by have := Hm.out; omega, by rw [numsI_succ HT.out, HR.out]; exact M4.out, K4.out⟩
          case measure => simp [RowKit.intOf]; omega
      · obtain rfl : j = tn := by omega
        go_wp2
        go_ret
        exact ⟨_, _, _, rfl, by rw [H.out.2.2.2]; exact HM.out.base (by omega), h0.kept.trans HK'.out⟩
end Go.Proofs.YtngojgocplmedaaR.Ls
