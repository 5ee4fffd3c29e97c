/-
  ResExamples.
-/
import Derived.Test.YtdendciedodffaaVi
import Derived.Test.YtdendciedodffaaVm
import Derived.WalkMore
import Derived.Deep.CutRange
namespace Go.Proofs.Ytdendciedodffaa.Re
open Go.RowKit Go.Proofs.Ytdendciedodffaa.Mem Go.Proofs.Ytdendciedodffaa.Bx Go.ChangeShapes Go.WideShapes Go.ChangeAt
theorem sums_two {w : World} {B : Nat} (x y : Am) (h : w.heap[B]? = some (.cells #[.int .i64 x.c, .int .i64 x.m, .int .i64 x.d, .int .i64 y.c, .int .i64 y.m, .int .i64 y.d] 23 (0, 0))) :
    Calls Try.prog 4 #[.slice (some ⟨B, 0, none⟩) 2 2] w fun e w' => e = .returned (.bool true) ∧ Kept w w' := by
  refine sums_core w (some ⟨B, 0, none⟩) 2 2 (fun i => if i = 0 then x else y) (fun j hj => ⟨B, 0, rfl, lt_of_block h, ?_⟩) (by omega) (by decide) (fun h => by cases h)
  match j, hj with
  | 0, _ => exact ⟨cell_of_row _ _ _ _ _ _ h, cell_of_row _ _ _ _ _ _ h, cell_of_row _ _ _ _ _ _ h⟩
  | 1, _ => exact ⟨cell_of_row _ _ _ _ _ _ h, cell_of_row _ _ _ _ _ _ h, cell_of_row _ _ _ _ _ _ h⟩
theorem sums_four {w : World} {B : Nat} (x y : Am) (h : w.heap[B]? = some (.cells #[.int .i64 x.c, .int .i64 x.m, .int .i64 x.d, .int .i64 0, .int .i64 0, .int .i64 0, .int .i64 y.c, .int .i64 y.m, .int .i64 y.d, .int .i64 x.c, .int .i64 x.m, .int .i64 x.d] 23 (0, 0))) :
    Calls Try.prog 4 #[.slice (some ⟨B, 0, none⟩) 4 4] w fun e w' => e = .returned (.bool true) ∧ Kept w w' := by
  refine sums_core w (some ⟨B, 0, none⟩) 4 4 (fun i => if i = 1 then none3 else if i = 2 then y else x) (fun j hj => ⟨B, 0, rfl, lt_of_block h, ?_⟩) (by omega) (by decide) (fun h => by cases h)
  match j, hj with
  | 0, _ => exact ⟨cell_of_row _ _ _ _ _ _ h, cell_of_row _ _ _ _ _ _ h, cell_of_row _ _ _ _ _ _ h⟩
  | 1, _ => exact ⟨cell_of_row _ _ _ _ _ _ h, cell_of_row _ _ _ _ _ _ h, cell_of_row _ _ _ _ _ _ h⟩
  | 2, _ => exact ⟨cell_of_row _ _ _ _ _ _ h, cell_of_row _ _ _ _ _ _ h, cell_of_row _ _ _ _ _ _ h⟩
  | 3, _ => exact ⟨cell_of_row _ _ _ _ _ _ h, cell_of_row _ _ _ _ _ _ h, cell_of_row _ _ _ _ _ _ h⟩
/-- The ten numbers. -/
def ends (i : Nat) : Int := if i = 0 then -9223372036854775808 else if i = 1 then -1 else if i = 2 then 0 else if i = 3 then 1 else if i = 4 then 549755813888 else if i = 5 then 549755813889 else if i = 6 then 1099511627775 else if i = 7 then 1099511627776 else if i = 8 then 1099511627777 else 9223372036854775807
def endsC : Array Value := #[.int .i64 (-9223372036854775808), .int .i64 (-1), .int .i64 0, .int .i64 1, .int .i64 549755813888, .int .i64 549755813889, .int .i64 1099511627775, .int .i64 1099511627776, .int .i64 1099511627777, .int .i64 9223372036854775807]
theorem ends_at {w : World} {B : Nat} {T : TypeId} (h : w.heap[B]? = some (.cells endsC T (0, 0))) (i : Nat) (hi : i < 10) : w.cell? ⟨B, i, none⟩ = some (.int .i64 (ends i)) := by
  rw [cell_of_row _ _ _ _ _ _ h]
  match i, hi with
  | 0, _ => rfl
  | 1, _ => rfl
  | 2, _ => rfl
  | 3, _ => rfl
  | 4, _ => rfl
  | 5, _ => rfl
  | 6, _ => rfl
  | 7, _ => rfl
  | 8, _ => rfl
  | 9, _ => rfl
/-- One amount of (1, 1, 1) set. -/
def one3 (n : Nat) (v : Int) : Am := ⟨if n = 0 then v else 1, if n = 1 then v else 1, if n = 2 then v else 1⟩
theorem two_old (w : World) (c d : Array Value) (T : TypeId) : (((w.alloc (.cells c T)).alloc (.cells d T)).drew).heap[w.heap.size]? = some (.cells c T (0, 0)) := by
  have h := heap_alloc_new w (.cells c T)
  exact ((Kept.refl (w.alloc (.cells c T))).alloc (.cells d T)).drew.block h
theorem two_new (w : World) (c d : Array Value) (T : TypeId) : (((w.alloc (.cells c T)).alloc (.cells d T)).drew).heap[w.heap.size + 1]? = some (.cells d T (0, 0)) := nine w c d T
theorem four_old (w : World) (a b c d : Array Value) (T U : TypeId) : (((((w.alloc (.cells a T)).alloc (.cells b T)).alloc (.cells c U)).alloc (.cells d U)).drew.drew).heap[w.heap.size + 1 + 1]? = some (.cells c U (0, 0)) := by
  have h := two_old ((w.alloc (.cells a T)).alloc (.cells b T)) c d U
  have e : ((w.alloc (.cells a T)).alloc (.cells b T)).heap.size = w.heap.size + 1 + 1 := by simp
  rw [e] at h
  exact h
theorem four_new (w : World) (a b c d : Array Value) (T U : TypeId) : (((((w.alloc (.cells a T)).alloc (.cells b T)).alloc (.cells c U)).alloc (.cells d U)).drew.drew).heap[w.heap.size + 1 + 1 + 1]? = some (.cells d U (0, 0)) := by
  have h := two_new ((w.alloc (.cells a T)).alloc (.cells b T)) c d U
  have e : ((w.alloc (.cells a T)).alloc (.cells b T)).heap.size = w.heap.size + 1 + 1 := by simp
  rw [e] at h
  exact h
theorem kept_set {a b : World} (h : Kept a b) (B i : Nat) (v : Value) (hB : a.heap.size ≤ B) : Kept a (b.setCell ⟨B, i, none⟩ v) := h.setCell hB v
def Ends (w wr : World) : Prop := Kept w wr ∧ wr.heap[w.heap.size]? = some (.cells endsC 3 (0, 0))
theorem Ends.later {w a b : World} (h : Ends w a) (k : Kept a b) : Ends w b := ⟨h.1.trans k, k.block h.2⟩
set_option maxHeartbeats 8000000 in
set_option maxRecDepth 100000 in
theorem examples_core (w : World) : Calls Try.prog 5 #[] w fun e w' => e = .returned (.bool true) ∧ Kept w w' := by
  have h0 : Ends w (w.alloc (.cells endsC 3)) := ⟨(Kept.refl w).alloc _, heap_alloc_new _ _⟩
  have hnil := sums_nil
  go_enter Try.func5, Try.ntmps5
  go_wp2
  go_loopw [2] (fun i wr => ∃ j : Nat, j ≤ 10 ∧ i = .int .i64 j ∧ Ends w wr) (fun i _ => 10 - (intOf i).toNat)
  case atStart => exact ⟨0, by omega, rfl, h0⟩
  case round =>
    clear h0
    obtain ⟨i, hi, rfl, h1⟩ := hrel
    by_cases hlt : i < 10
    · have t1 : decide ((i : Int) < 10) = true := by simp; omega
      go_wp2
      go_loopw [3] (fun k wr => ∃ j : Nat, j ≤ 10 ∧ k = .int .i64 j ∧ Ends w wr) (fun k _ => 10 - (intOf k).toNat)
      case atStart => exact ⟨0, by omega, rfl, h1⟩
      case round =>
        clear h1
        obtain ⟨k, hk, rfl, h2⟩ := hrel
        by_cases hlt2 : k < 10
        · have t2 : decide ((k : Int) < 10) = true := by simp; omega
          go_wp2
          go_loopw [4] (fun n wr => ∃ j : Nat, j ≤ 3 ∧ n = .int .i64 j ∧ Ends w wr) (fun n _ => 3 - (intOf n).toNat)
          case atStart => exact ⟨0, by omega, rfl, h2⟩
          case round =>
            clear h2 hnil
            obtain ⟨n, hn, rfl, h3⟩ := hrel
            by_cases hlt3 : n < 3
            · have t3 : decide ((n : Int) < 3) = true := by simp; omega
              have hb := lt_of_block h3.2
              obtain ⟨X, x0⟩ : ∃ X, wr.cell? ⟨w.heap.size, i, none⟩ = some (.int .i64 X) := ⟨_, ends_at h3.2 i hlt⟩
              obtain ⟨Y, y0⟩ : ∃ Y, wr.cell? ⟨w.heap.size, k, none⟩ = some (.int .i64 Y) := ⟨_, ends_at h3.2 k hlt2⟩
              have x1 : ∀ o1 o2 : Obj, ((wr.alloc o1).alloc o2).cell? ⟨w.heap.size, i, none⟩ = some (.int .i64 X) := fun o1 o2 => (Kept.cell (((Kept.refl wr).alloc o1).alloc o2) (p := ⟨w.heap.size, i, none⟩) hb).trans x0
              have y1 : ∀ o1 o2 : Obj, ((wr.alloc o1).alloc o2).cell? ⟨w.heap.size, k, none⟩ = some (.int .i64 Y) := fun o1 o2 => (Kept.cell (((Kept.refl wr).alloc o1).alloc o2) (p := ⟨w.heap.size, k, none⟩) hb).trans y0
              have ne1 : ¬ w.heap.size = wr.heap.size := by omega
              have ne2 : ¬ wr.heap.size = w.heap.size := by omega
              have ne3 : ¬ w.heap.size = wr.heap.size + 1 := by omega
              have ne4 : ¬ wr.heap.size + 1 = w.heap.size := by omega
              clear hb x0 y0
              go_upto_region 12 with fail
              go_cut [28] from 28 to 39 (fun v28 wx => ∃ p q : Am, wx = ((wr.alloc (.cells #[.int .i64 p.c, .int .i64 p.m, .int .i64 p.d] 35)).alloc (.cells #[.int .i64 q.c, .int .i64 q.m, .int .i64 q.d] 35)).drew)
              case first =>
                rcases (show n = 0 ∨ n = 1 ∨ n = 2 by omega) with rfl | rfl | rfl
                · go_region
                  go_wp2_with fail
                  go_meet
                  exact ⟨⟨X, 1, 1⟩, ⟨Y, 1, 1⟩, rfl⟩
                · go_region
                  go_wp2_with fail
                  go_meet
                  exact ⟨⟨1, X, 1⟩, ⟨1, Y, 1⟩, rfl⟩
                · go_region
                  go_wp2_with fail
                  go_meet
                  exact ⟨⟨1, 1, X⟩, ⟨1, 1, Y⟩, rfl⟩
              case rest =>
                obtain ⟨p, q, rfl⟩ := hcut
                clear x1 y1 ne1 ne2 ne3 ne4
                have P := Lib.hid h3
                clear h3
                go_upto_region 13 with fail
                go_cut [7, 8] from 40 to 53 (fun v7 v8 wx => ∃ B7 B8 : Nat, v7 = .pointer (some ⟨B7, 0, none⟩) ∧ v8 = .pointer (some ⟨B8, 0, none⟩) ∧ Ends w wx ∧ wx.heap[B7]? = some (.cells #[.int .i64 p.c, .int .i64 p.m, .int .i64 p.d] 23 (0, 0)) ∧ wx.heap[B8]? = some (.cells #[.int .i64 q.c, .int .i64 q.m, .int .i64 q.d] 23 (0, 0)))
                case first =>
                  have hb5 := two_old wr #[.int .i64 p.c, .int .i64 p.m, .int .i64 p.d] #[.int .i64 q.c, .int .i64 q.m, .int .i64 q.d] 35
                  have hb6 := two_new wr #[.int .i64 p.c, .int .i64 p.m, .int .i64 p.d] #[.int .i64 q.c, .int .i64 q.m, .int .i64 q.d] 35
                  have P2 := P.out.later (((Kept.refl wr).alloc (.cells #[.int .i64 p.c, .int .i64 p.m, .int .i64 p.d] 35)).alloc (.cells #[.int .i64 q.c, .int .i64 q.m, .int .i64 q.d] 35)).drew
                  generalize ((wr.alloc (.cells #[.int .i64 p.c, .int .i64 p.m, .int .i64 p.d] 35)).alloc (.cells #[.int .i64 q.c, .int .i64 q.m, .int .i64 q.d] 35)).drew = wc at hb5 hb6 P2 ⊢
                  have hS : ∀ W, Kept wc W → W.cell? ⟨wr.heap.size, 0, none⟩ = some (.int .i64 p.c) ∧ W.cell? ⟨wr.heap.size, 1, none⟩ = some (.int .i64 p.m) ∧ W.cell? ⟨wr.heap.size, 2, none⟩ = some (.int .i64 p.d) ∧ W.cell? ⟨wr.heap.size + 1, 0, none⟩ = some (.int .i64 q.c) ∧ W.cell? ⟨wr.heap.size + 1, 1, none⟩ = some (.int .i64 q.m) ∧ W.cell? ⟨wr.heap.size + 1, 2, none⟩ = some (.int .i64 q.d) := fun W k => by
                    obtain ⟨⟨a0, a1, a2⟩, _⟩ := box3 (k.block hb5)
                    obtain ⟨⟨b0, b1, b2⟩, _⟩ := box3 (k.block hb6)
                    exact ⟨a0, a1, a2, b0, b1, b2⟩
                  have S1 := hS _ (Kept.refl wc)
                  have S2 := hS _ (Kept.refl wc).drew
                  have HS := Lib.hid hS
                  have PE := Lib.hid P2
                  clear hb5 hb6 hS P2
                  go_region_held3 (fun W => W.cell? ⟨wr.heap.size, 0, none⟩ = some (.int .i64 p.c) ∧ W.cell? ⟨wr.heap.size, 1, none⟩ = some (.int .i64 p.m) ∧ W.cell? ⟨wr.heap.size, 2, none⟩ = some (.int .i64 p.d) ∧ W.cell? ⟨wr.heap.size + 1, 0, none⟩ = some (.int .i64 q.c) ∧ W.cell? ⟨wr.heap.size + 1, 1, none⟩ = some (.int .i64 q.m) ∧ W.cell? ⟨wr.heap.size + 1, 2, none⟩ = some (.int .i64 q.d))
                    (first | assumption | exact HS.out _ (by repeat (first | exact Kept.refl _ | refine Kept.drew ?_ | refine Kept.alloc ?_ _ | refine kept_set ?_ _ _ _ (by simp))))
                    (first | fail)
                  all_goals
                    go_wp2_with fail
                    go_meet
                    first
                      | exact ⟨_, _, rfl, rfl, PE.out.later (((Kept.refl wc).alloc _).alloc _).drew, two_old _ _ _ _, two_new _ _ _ _⟩
                      | exact ⟨_, _, rfl, rfl, PE.out.later (((Kept.refl wc).alloc _).alloc _).drew, two_new _ _ _ _, two_old _ _ _ _⟩
                case rest =>
                  obtain ⟨B7, B8, rfl, rfl, h5, h7, h8⟩ := hcut
                  obtain ⟨⟨a0, a1, a2⟩, _⟩ := box3 h7
                  obtain ⟨⟨b0, b1, b2⟩, _⟩ := box3 h8
                  go_wp2_with (first
                    | (go_at_call 3; (with_reducible refine (pairs_core _ p q).mono ?_); rintro e u1 ⟨rfl, k1⟩; have g7 := k1.block h7; have g8 := k1.block h8; obtain ⟨⟨c0, c1, c2⟩, _⟩ := box3 g7; obtain ⟨⟨d0, d1, d2⟩, _⟩ := box3 g8)
                    | (go_at_call 4; first
                      | ((with_reducible refine (sums_two p q (heap_alloc_new _ _)).mono ?_); rintro e u2 ⟨rfl, k2⟩; have k2' := ((Kept.refl u1).alloc _).trans k2; have g9 := k2'.block g7; have g10 := k2'.block g8; obtain ⟨⟨e0, e1, e2⟩, _⟩ := box3 g9; obtain ⟨⟨f0, f1, f2⟩, _⟩ := box3 g10)
                      | ((with_reducible refine (sums_four p q (heap_alloc_new _ _)).mono ?_); rintro e u3 ⟨rfl, k3⟩)))
                  go_roundw
                  case rel => exact ⟨n + 1, by omega, by go_num, ((h5.later k1).later k2').later (((Kept.refl u2).alloc _).trans k3)⟩
                  case measure => simp [intOf]; omega
            · go_wp2
              go_roundw
              case rel => exact ⟨k + 1, by omega, by go_num, h3⟩
              case measure => simp [intOf]; omega
        · go_wp2
          go_roundw
          case rel => exact ⟨i + 1, by omega, by go_num, h2⟩
          case measure => simp [intOf]; omega
    · go_wp2_with (first
        | (go_at_call 4; (with_reducible refine (hnil _).mono ?_); rintro e u6 ⟨rfl, k6⟩)
        | (go_at_call 17; (with_reducible refine (awake_c _).mono ?_); rintro e u7 ⟨rfl, k7⟩))
      go_ret
      exact ⟨rfl, ((h1.later k6).later k7).1⟩
end Go.Proofs.Ytdendciedodffaa.Re
