/-
  The pair's act: case 2.
-/
import Derived.Test.YtoclgneokfbobaaRu
namespace Go.Proofs.Ytoclgneokfbobaa.Dz
open Go.RowKit Go.ChangeShapes Go.WideShapes Go.ChangeAt Go.Proofs.Ytoclgneokfbobaa.Mem Go.Proofs.Ytoclgneokfbobaa.Fz
set_option linter.unusedVariables false
set_option maxHeartbeats 3000000 in
set_option maxRecDepth 100000 in
theorem act2_c {w0 w : World} {X F D G R : Nat} {s : Ds} {L : List As} (h : Own w0 (pair X F D G R s L) w) (hroom : s.pend.length < 4294967295) (d : Nat) (hd : d % 8 = 2) (hd2 : d ≤ 255) (i : Int) (hi : i < 9223372036854775808) (b : Nat) (hb : b ≤ 255) (c : Ch) (hc : c.ok) :
    Calls Try.prog 11 #[.pointer (some ⟨X, 0, none⟩), .agg (actCells d i b c)] w fun e w' => Acted w0 X G R s.pend.length e w' := by
  have hok : s.ok := by
    obtain ⟨_, ⟨M1, M2, pv, hd, _⟩, _⟩ := h.see 2 rfl
    exact hd.ok
  have hP := h
  unfold pair at h
  have hX := h.box (actCells d i b c) 31
  have hA : ∀ {C A B : As} {W : World}, Own w0 (C :: A :: B :: dk F D s :: L) W → Calls Try.prog 23 #[.pointer (some ⟨D, 0, none⟩)] W fun e w' => e = .returned (.int .i64 s.syncs.1) ∧ Own w0 (C :: A :: B :: dk F D s.syncs.2 :: L) w' := fun h => o_sync h 3 rfl
  have hB : ∀ {C A : As} {B : List As} {W : World}, Own w0 (C :: A :: rk G R s :: B) W → Calls Try.prog 35 #[.pointer (some ⟨R, 0, none⟩)] W fun e w' => e = .returned (.int .i64 s.syncs.1) ∧ Own w0 (C :: A :: rk G R s.syncs.2 :: B) w' := fun h => o_rsync h 2 rfl
  obtain ⟨x, hx⟩ : ∃ x, x = w.alloc (.cells (actCells d i b c) 31) := ⟨_, rfl⟩
  rw [← hx] at hX
  have hPx := hP.later (show Kept w x by rw [hx]; exact (Kept.refl w).alloc _)
  obtain ⟨q, hq⟩ : ∃ q, q = s.syncs.1 := ⟨_, rfl⟩
  obtain ⟨t, ht⟩ : ∃ t, t = s.syncs.2 := ⟨_, rfl⟩
  have hpt : t.pend.length ≤ s.pend.length + 1 := by rw [ht]; exact pend_syncs s
  rw [← hq, ← ht] at hA hB
  have HP := Lib.hid hpt
  clear hq ht hpt
  have hd8 : ((d : Int) % 8) = 2 := by omega
  unfold actCells at hx ⊢
  clear h hP hd hroom hok hi hc
  go_enter Try.func11, Try.ntmps11
  go_wp2
  rw [← hx]
  clear hx hPx
  have S1 := act_cells hX
  have hXd := hX.later (Kept.refl x).drew
  have S1' := act_cells hXd
  go_region_held3 (fun W => (W.cell? ⟨X, 1, none⟩ = some (.pointer (some ⟨D, 0, none⟩)) ∧ W.cell? ⟨X, 3, none⟩ = some (.pointer (some ⟨R, 0, none⟩))) ∧ (W.cell? ⟨w.heap.size, 0, none⟩ = some (.int .u8 (d : Int)) ∧ W.cell? ⟨w.heap.size, 1, none⟩ = some (.int .i64 i) ∧ W.cell? ⟨w.heap.size, 2, none⟩ = some (.int .u8 (b : Int))))
    (first | assumption | exact act_cells k1 | exact act_cells k2)
    (first
      | (go_at_call 23; (with_reducible refine (hA hXd).mono ?_); rintro e u1 ⟨rfl, k1⟩)
      | (go_at_call 35; (with_reducible refine (hB k1).mono ?_); rintro e u2 ⟨rfl, k2⟩))
  go_wp2
  go_ret
  exact ⟨by simp, F, D, t, L, k2.tail, HP.out⟩
end Go.Proofs.Ytoclgneokfbobaa.Dz
