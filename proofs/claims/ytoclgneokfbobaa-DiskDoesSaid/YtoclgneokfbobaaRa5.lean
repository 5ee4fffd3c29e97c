/-
  The pair's act: case 5.
-/
import Derived.Test.YtoclgneokfbobaaRu
namespace Go.Proofs.Ytoclgneokfbobaa.Dz
open Go.RowKit Go.ChangeShapes Go.WideShapes Go.ChangeAt Go.Proofs.Ytoclgneokfbobaa.Mem Go.Proofs.Ytoclgneokfbobaa.Fz
set_option linter.unusedVariables false
set_option maxHeartbeats 3000000 in
set_option maxRecDepth 100000 in
theorem act5_c {w0 w : World} {X F D G R : Nat} {s : Ds} {L : List As} (h : Own w0 (pair X F D G R s L) w) (hroom : s.pend.length < 4294967295) (d : Nat) (hd : d % 8 = 5) (hd2 : d ≤ 255) (i : Int) (hi : i < 9223372036854775808) (b : Nat) (hb : b ≤ 255) (c : Ch) (hc : c.ok) :
    Calls Try.prog 11 #[.pointer (some ⟨X, 0, none⟩), .agg (actCells d i b c)] w fun e w' => Acted w0 X G R s.pend.length e w' := by
  have hok : s.ok := by
    obtain ⟨_, ⟨M1, M2, pv, hd, _⟩, _⟩ := h.see 2 rfl
    exact hd.ok
  have hP := h
  unfold pair at h
  have hX := h.box (actCells d i b c) 31
  have hA : ∀ {C A B : As} {W : World} (q : Bool), Own w0 (C :: A :: B :: dk F D s :: L) W → Calls Try.prog 26 #[.pointer (some ⟨D, 0, none⟩), .bool q] W fun e w' => e = .returned (.tuple #[]) ∧ Own w0 (C :: A :: B :: dk F D { s with full := q } :: L) w' := fun q h => o_setfull h 3 rfl q
  obtain ⟨x, hx⟩ : ∃ x, x = w.alloc (.cells (actCells d i b c) 31) := ⟨_, rfl⟩
  rw [← hx] at hX
  have hPx := hP.later (show Kept w x by rw [hx]; exact (Kept.refl w).alloc _)
  obtain ⟨m, hm⟩ : ∃ m : Nat, m = b % 2 := ⟨_, rfl⟩
  have hm1 : ((b : Int) % 2) = (m : Int) := by omega
  have hm2 : ((b : Int).tmod 2) = (m : Int) := by rw [Int.tmod_eq_emod_of_nonneg (by omega)]; omega
  have hmm : m < 2 := by omega
  obtain ⟨q, hq⟩ : ∃ q : Bool, q = ((m : Int) == 1) := ⟨_, rfl⟩
  have hq' : ((m : Int) == 1) = q := hq.symm
  clear hm hq
  have hd8 : ((d : Int) % 8) = 5 := by omega
  unfold actCells at hx ⊢
  clear h hP hd hroom hok hi hc
  go_enter Try.func11, Try.ntmps11
  go_wp2
  rw [← hx]
  clear hx hPx
  have S1 := act_cells hX
  have hXd := hX.later (Kept.refl x).drew
  have S1' := act_cells hXd
  go_region_held3 (fun W => (W.cell? ⟨X, 1, none⟩ = some (.pointer (some ⟨D, 0, none⟩)) ∧ W.cell? ⟨X, 3, none⟩ = some (.pointer (some ⟨R, 0, none⟩))) ∧ (W.cell? ⟨w.heap.size, 0, none⟩ = some (.int .u8 (d : Int)) ∧ W.cell? ⟨w.heap.size, 1, none⟩ = some (.int .i64 i) ∧ W.cell? ⟨w.heap.size, 2, none⟩ = some (.int .u8 (b : Int))))
    (first | assumption | exact act_cells k1)
    (first
      | (go_at_call 26; (with_reducible refine (hA _ hXd).mono ?_); rintro e u1 ⟨rfl, k1⟩))
  clear S1 S1' hXd hX
  obtain ⟨⟨c1, c3⟩, b0, b1, b2⟩ := act_cells k1
  obtain ⟨r3, f3⟩ := o_rcells k1 2 rfl
  have Hk := Lib.hid k1
  clear k1
  go_wp2
  go_region
  go_wp2
  go_ret
  have q3 := ((o_rfull Hk.out 2 rfl q).tail).later (Kept.refl _).drew
  exact ⟨by simp, F, D, { s with full := q }, L, by simpa [pair] using q3, by simp⟩
end Go.Proofs.Ytoclgneokfbobaa.Dz
