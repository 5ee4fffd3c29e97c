/-
  The pair's act: case 0.
-/
import Derived.Test.YtoclgneokfbobaaRu
namespace Go.Proofs.Ytoclgneokfbobaa.Dz
open Go.RowKit Go.ChangeShapes Go.WideShapes Go.ChangeAt Go.Proofs.Ytoclgneokfbobaa.Mem Go.Proofs.Ytoclgneokfbobaa.Fz
set_option linter.unusedVariables false
set_option maxHeartbeats 3000000 in
set_option maxRecDepth 100000 in
theorem act0_c {w0 w : World} {X F D G R : Nat} {s : Ds} {L : List As} (h : Own w0 (pair X F D G R s L) w) (hroom : s.pend.length < 4294967295) (d : Nat) (hd : d % 8 = 0) (hd2 : d ≤ 255) (i : Int) (hi : i < 9223372036854775808) (b : Nat) (hb : b ≤ 255) (c : Ch) (hc : c.ok) :
    Calls Try.prog 11 #[.pointer (some ⟨X, 0, none⟩), .agg (actCells d i b c)] w fun e w' => Acted w0 X G R s.pend.length e w' := by
  have hok : s.ok := by
    obtain ⟨_, ⟨M1, M2, pv, hd, _⟩, _⟩ := h.see 2 rfl
    exact hd.ok
  have hP := h
  unfold pair at h
  have hX := h.box (actCells d i b c) 31
  have hA : ∀ {C A B : As} {W : World}, Own w0 (C :: A :: B :: dk F D s :: L) W → Calls Try.prog 19 #[.pointer (some ⟨D, 0, none⟩), .int .i64 i] W fun e w' => e = .returned (.tuple #[.string (s.reads i).1, .int .i64 (s.reads i).2]) ∧ Own w0 (C :: A :: B :: dk F D s :: L) w' := fun h => o_read h 3 rfl i
  have hB : ∀ {C A : As} {B : List As} {W : World}, Own w0 (C :: A :: rk G R s :: B) W → Calls Try.prog 32 #[.pointer (some ⟨R, 0, none⟩), .int .i64 i] W fun e w' => e = .returned (.tuple #[.string (s.reads i).1, .int .i64 (s.reads i).2]) ∧ Own w0 (C :: A :: rk G R s :: B) w' := fun h => o_rread h 2 rfl i
  have hC : ∀ {C A B : As} {W : World}, Own w0 (C :: A :: B :: dk F D s :: L) W → Calls Try.prog 18 #[.pointer (some ⟨D, 0, none⟩), .int .i64 i] W fun e w' => e = .returned (.string (s.durs i)) ∧ Own w0 (C :: A :: B :: dk F D s :: L) w' := fun h => o_durable h 3 rfl i
  have hD : ∀ {C A : As} {B : List As} {W : World}, Own w0 (C :: A :: rk G R s :: B) W → Calls Try.prog 33 #[.pointer (some ⟨R, 0, none⟩), .int .i64 i] W fun e w' => e = .returned (.string (s.durs i)) ∧ Own w0 (C :: A :: rk G R s :: B) w' := fun h => o_rdurable h 2 rfl i
  obtain ⟨x, hx⟩ : ∃ x, x = w.alloc (.cells (actCells d i b c) 31) := ⟨_, rfl⟩
  rw [← hx] at hX
  have hPx := hP.later (show Kept w x by rw [hx]; exact (Kept.refl w).alloc _)
  obtain ⟨q, hq⟩ : ∃ q, q = (s.reads i).1 := ⟨_, rfl⟩
  obtain ⟨t, ht⟩ : ∃ t, t = (s.reads i).2 := ⟨_, rfl⟩
  obtain ⟨v, hv⟩ : ∃ v, v = s.durs i := ⟨_, rfl⟩
  rw [← hq, ← ht] at hA hB
  rw [← hv] at hC hD
  clear hq ht hv
  have hd8 : ((d : Int) % 8) = 0 := by omega
  unfold actCells at hx ⊢
  clear h hP hd hroom hok hi hc
  go_enter Try.func11, Try.ntmps11
  go_wp2
  rw [← hx]
  clear hx hPx
  have S1 := act_cells hX
  have hXd := hX.later (Kept.refl x).drew
  have S1' := act_cells hXd
  go_region_held3 (fun W => (W.cell? ⟨X, 1, none⟩ = some (.pointer (some ⟨D, 0, none⟩)) ∧ W.cell? ⟨X, 3, none⟩ = some (.pointer (some ⟨R, 0, none⟩))) ∧ (W.cell? ⟨w.heap.size, 0, none⟩ = some (.int .u8 (d : Int)) ∧ W.cell? ⟨w.heap.size, 1, none⟩ = some (.int .i64 i) ∧ W.cell? ⟨w.heap.size, 2, none⟩ = some (.int .u8 (b : Int))))
    (first | assumption | exact act_cells k1)
    (first
      | (go_at_call 19; (with_reducible refine (hA hXd).mono ?_); rintro e u1 ⟨rfl, k1⟩))
  clear S1 S1' hXd hX
  have S1 := act_cells k1
  have hXd := k1.later (Kept.refl u1).drew
  have S1' := act_cells hXd
  go_wp2
  go_region_held3 (fun W => (W.cell? ⟨X, 1, none⟩ = some (.pointer (some ⟨D, 0, none⟩)) ∧ W.cell? ⟨X, 3, none⟩ = some (.pointer (some ⟨R, 0, none⟩))) ∧ (W.cell? ⟨w.heap.size, 0, none⟩ = some (.int .u8 (d : Int)) ∧ W.cell? ⟨w.heap.size, 1, none⟩ = some (.int .i64 i) ∧ W.cell? ⟨w.heap.size, 2, none⟩ = some (.int .u8 (b : Int))))
    (first | assumption | exact act_cells k2)
    (first
      | (go_at_call 32; (with_reducible refine (hB hXd).mono ?_); rintro e u2 ⟨rfl, k2⟩))
  clear S1 S1' hXd k1
  have S1 := act_cells k2
  have hXd := k2.later (Kept.refl u2).drew
  have S1' := act_cells hXd
  go_wp2
  go_region_held3 (fun W => (W.cell? ⟨X, 1, none⟩ = some (.pointer (some ⟨D, 0, none⟩)) ∧ W.cell? ⟨X, 3, none⟩ = some (.pointer (some ⟨R, 0, none⟩))) ∧ (W.cell? ⟨w.heap.size, 0, none⟩ = some (.int .u8 (d : Int)) ∧ W.cell? ⟨w.heap.size, 1, none⟩ = some (.int .i64 i) ∧ W.cell? ⟨w.heap.size, 2, none⟩ = some (.int .u8 (b : Int))))
    (first | assumption | exact act_cells k3 | exact act_cells k4)
    (first
      | (go_at_call 18; (with_reducible refine (hC hXd).mono ?_); rintro e u3 ⟨rfl, k3⟩)
      | (go_at_call 33; (with_reducible refine (hD k3).mono ?_); rintro e u4 ⟨rfl, k4⟩))
  go_wp2
  go_ret
  exact ⟨by simp, F, D, s, L, k4.tail, by omega⟩
end Go.Proofs.Ytoclgneokfbobaa.Dz
