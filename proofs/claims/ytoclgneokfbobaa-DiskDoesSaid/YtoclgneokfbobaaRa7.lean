/-
  The pair's act: case 7.
-/
import Derived.Test.YtoclgneokfbobaaRu
namespace Go.Proofs.Ytoclgneokfbobaa.Dz
open Go.RowKit Go.ChangeShapes Go.WideShapes Go.ChangeAt Go.Proofs.Ytoclgneokfbobaa.Mem Go.Proofs.Ytoclgneokfbobaa.Fz
set_option linter.unusedVariables false
set_option maxHeartbeats 3000000 in
set_option maxRecDepth 100000 in
theorem act7_c {w0 w : World} {X F D G R : Nat} {s : Ds} {L : List As} (h : Own w0 (pair X F D G R s L) w) (hroom : s.pend.length < 4294967295) (d : Nat) (hd : d % 8 = 7) (hd2 : d ≤ 255) (i : Int) (hi : i < 9223372036854775808) (b : Nat) (hb : b ≤ 255) (c : Ch) (hc : c.ok) :
    Calls Try.prog 11 #[.pointer (some ⟨X, 0, none⟩), .agg (actCells d i b c)] w fun e w' => Acted w0 X G R s.pend.length e w' := by
  have hok : s.ok := by
    obtain ⟨_, ⟨M1, M2, pv, hd, _⟩, _⟩ := h.see 2 rfl
    exact hd.ok
  have hP := h
  unfold pair at h
  have hX := h.box (actCells d i b c) 31
  have hF : ∀ {W : World}, Own w0 (boxA w.heap.size (actCells d i b c) 31 :: pair X F D G R s L) W → Calls Try.prog 38 #[.pointer (some ⟨F, 0, none⟩)] W fun e w' => ∃ F2, e = .returned (.pointer (some ⟨F2, 0, none⟩)) ∧ Own w0 (fzA F2 s.fu :: boxA w.heap.size (actCells d i b c) 31 :: pair X F D G R s L) w' := fun {W} h => by
    obtain ⟨_, ⟨M1, M2, pv, hd, _⟩, _⟩ := h.see 3 rfl
    exact (Fz.copy_c F s.fu _ hd.fz).mono fun e w' ⟨he, hk, hf⟩ => ⟨_, he, (h.push (b := fzA W.heap.size s.fu) hk ⟨hf, hok.fu, .inr ⟨Nat.le_refl _, hf.lt⟩⟩).front⟩
  unfold pair at hF
  have hC : ∀ {A B C : As} {F2 : Nat} {W : World}, Own w0 (fzA F2 s.fu :: A :: B :: C :: dk F D s :: L) W → Calls Try.prog 20 #[.pointer (some ⟨D, 0, none⟩), .pointer (some ⟨F2, 0, none⟩)] W fun e w' => ∃ E, e = .returned (.pointer (some ⟨E, 0, none⟩)) ∧ Own w0 (dk F2 E s :: A :: B :: C :: dk F D s :: L) w' := fun h => o_copy h 4 0 rfl rfl (by omega)
  have hA : ∀ {A B C E : As} {W : World}, Own w0 (A :: B :: C :: E :: dk F D s :: L) W → Calls Try.prog 15 #[.pointer (some ⟨D, 0, none⟩), .int .i64 0, .string (sec b)] W fun e w' => e = .returned (.int .i64 (s.writes 0 (sec b)).1) ∧ Own w0 (A :: B :: C :: E :: dk F D (s.writes 0 (sec b)).2 :: L) w' := fun h => o_write h 4 rfl (by omega) 0 _
  have hSy : ∀ {A B C E : As} {t : Ds} {W : World}, Own w0 (A :: B :: C :: E :: dk F D t :: L) W → Calls Try.prog 23 #[.pointer (some ⟨D, 0, none⟩)] W fun e w' => e = .returned (.int .i64 t.syncs.1) ∧ Own w0 (A :: B :: C :: E :: dk F D t.syncs.2 :: L) w' := fun h => o_sync h 4 rfl
  have hse : ∀ W, Calls Try.prog 30 #[.int .u8 (b : Int)] W fun e w' => e = .returned (.string (sec b)) ∧ Kept W w' := sector_c b hb
  obtain ⟨x, hx⟩ : ∃ x, x = w.alloc (.cells (actCells d i b c) 31) := ⟨_, rfl⟩
  rw [← hx] at hX
  have hPx := hP.later (show Kept w x by rw [hx]; exact (Kept.refl w).alloc _)
  have y0 : (w.alloc (.cells (actCells d i b c) 31)).cell? ⟨X, 0, none⟩ = some (.pointer (some ⟨F, 0, none⟩)) := by
    rw [← hx]; exact (box4 (Own.boxed hX 1 rfl)).1
  unfold actCells at y0
  obtain ⟨v, hv⟩ : ∃ v, v = sec b := ⟨_, rfl⟩
  rw [← hv] at hA hse
  obtain ⟨q, hq⟩ : ∃ q, q = (s.writes 0 v).1 := ⟨_, rfl⟩
  obtain ⟨t, ht⟩ : ∃ t, t = (s.writes 0 v).2 := ⟨_, rfl⟩
  rw [← hq, ← ht] at hA
  clear hq ht hv hPx
  have hd8 : ((d : Int) % 8) = 7 := by omega
  unfold actCells at hx ⊢
  clear h hP hd hroom hok hi hc
  go_enter Try.func11, Try.ntmps11
  go_wp2_with (first
    | (go_at_call 38; (try rw [← hx]); (with_reducible refine (hF hX).mono ?_); rintro e u1 ⟨F2, rfl, k1⟩; clear hX y0 hx; have c1 := (act_cells k1.tail).1.1)
    | (go_at_call 20; (with_reducible refine (hC k1).mono ?_); rintro e u2 ⟨E, rfl, k2⟩))
  have S1 := act_cells k2.tail
  have hXd := k2.later (Kept.refl u2).drew
  have S1' := act_cells hXd.tail
  go_region_held3 (fun W => (W.cell? ⟨X, 1, none⟩ = some (.pointer (some ⟨D, 0, none⟩)) ∧ W.cell? ⟨X, 3, none⟩ = some (.pointer (some ⟨R, 0, none⟩))) ∧ (W.cell? ⟨w.heap.size, 0, none⟩ = some (.int .u8 (d : Int)) ∧ W.cell? ⟨w.heap.size, 1, none⟩ = some (.int .i64 i) ∧ W.cell? ⟨w.heap.size, 2, none⟩ = some (.int .u8 (b : Int))))
    (first | assumption | exact act_cells k3.tail | exact act_cells k4.tail)
    (first
      | (go_at_call 30; (with_reducible refine (hse _).mono ?_); rintro e u3 ⟨rfl, q1⟩; have k3 := hXd.later q1; clear q1)
      | (go_at_call 15; (with_reducible refine (hA k3).mono ?_); rintro e u4 ⟨rfl, k4⟩))
  have c1 := (act_cells k4.tail).1.1
  go_wp2_with (first
    | (go_at_call 23; (with_reducible refine (hSy k4).mono ?_); rintro e u5 ⟨rfl, k5⟩; obtain ⟨z0, z1, z2, z3, zf⟩ := box4 (Own.boxed k5 2 rfl); have zf0 := zf 0; have zf1 := zf 1))
  go_ret
  have q3 := (k5.boxset 2 rfl 0 (.pointer (some ⟨F2, 0, none⟩))).boxset 2 rfl 1 (.pointer (some ⟨E, 0, none⟩))
  simp at q3
  refine ⟨rfl, F2, E, s, [], q3.pick (fun i => if i = 0 then 2 else if i = 1 then 3 else 0) (fun i j hi hj e => ?_) (fun i a hi => ?_), by omega⟩
  · simp [pair] at hi hj
    have hi' : i = 0 ∨ i = 1 ∨ i = 2 := by omega
    have hj' : j = 0 ∨ j = 1 ∨ j = 2 := by omega
    rcases hi' with rfl | rfl | rfl <;> rcases hj' with rfl | rfl | rfl <;> first | rfl | (exfalso; simp at e)
  · match i, hi with
    | 0, hi => simpa [pair] using hi
    | 1, hi => simpa [pair] using hi
    | 2, hi => simpa [pair] using hi
end Go.Proofs.Ytoclgneokfbobaa.Dz
