/-
  The pair's act: case 4.
-/
import Derived.Test.YtoclgneokfbobaaRu
namespace Go.Proofs.Ytoclgneokfbobaa.Dz
open Go.RowKit Go.ChangeShapes Go.WideShapes Go.ChangeAt Go.Proofs.Ytoclgneokfbobaa.Mem Go.Proofs.Ytoclgneokfbobaa.Fz
set_option linter.unusedVariables false
set_option maxHeartbeats 3000000 in
set_option maxRecDepth 100000 in
theorem act4_c {w0 w : World} {X F D G R : Nat} {s : Ds} {L : List As} (h : Own w0 (pair X F D G R s L) w) (hroom : s.pend.length < 4294967295) (d : Nat) (hd : d % 8 = 4) (hd2 : d ≤ 255) (i : Int) (hi : i < 9223372036854775808) (b : Nat) (hb : b ≤ 255) (c : Ch) (hc : c.ok) :
    Calls Try.prog 11 #[.pointer (some ⟨X, 0, none⟩), .agg (actCells d i b c)] w fun e w' => Acted w0 X G R s.pend.length e w' := by
  have hok : s.ok := by
    obtain ⟨_, ⟨M1, M2, pv, hd, _⟩, _⟩ := h.see 2 rfl
    exact hd.ok
  have hP := h
  unfold pair at h
  have hX := h.box (actCells d i b c) 31
  obtain ⟨x, hx⟩ : ∃ x, x = w.alloc (.cells (actCells d i b c) 31) := ⟨_, rfl⟩
  rw [← hx] at hX
  have hPx := hP.later (show Kept w x by rw [hx]; exact (Kept.refl w).alloc _)
  have har : Calls Try.prog 37 #[.pointer (some ⟨X, 0, none⟩), .int .i64 i] x fun e w' => e = .returned (.bool true) ∧ Own w0 (pair X F D G R { s with fu := s.fu.arm i } L) w' := barm_c hPx hok.fu i hi
  have hd8 : ((d : Int) % 8) = 4 := by omega
  unfold actCells at hx ⊢
  clear h hP hd hroom hok hi hc
  go_enter Try.func11, Try.ntmps11
  go_wp2_with (go_at_call 37; (try rw [← hx]); (with_reducible refine har.mono ?_); rintro e u1 ⟨rfl, k1⟩)
  go_ret
  exact ⟨rfl, F, D, _, L, k1, by simp⟩
end Go.Proofs.Ytoclgneokfbobaa.Dz
