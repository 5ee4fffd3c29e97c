/-
  DelayMatches, for any policy and number.
-/
import Derived.Test.YthhmfebnnkcmmaaUc
import Derived.Deep.RegionHeld3
namespace Go.Proofs.Ythhmfebnnkcmmaa.De
open Go.RowKit Go.Proofs.Ythhmfebnnkcmmaa.Mem Go.Proofs.Ythhmfebnnkcmmaa.Bx Go.ChangeShapes Go.WideShapes Go.ChangeAt
set_option linter.unusedVariables false

theorem pol_cells {w W : World} {B : Nat} {al : Bool} {lim win bas most : Int} (h : Mem.Own w [boxA B #[.bool al, .int .i64 lim, .int .i64 win, .int .i64 bas, .int .i64 most] 23] W) :
    W.cell? ⟨B, 0, none⟩ = some (.bool al) ∧ W.cell? ⟨B, 1, none⟩ = some (.int .i64 lim) ∧ W.cell? ⟨B, 2, none⟩ = some (.int .i64 win) ∧ W.cell? ⟨B, 3, none⟩ = some (.int .i64 bas) ∧ W.cell? ⟨B, 4, none⟩ = some (.int .i64 most) :=
  (box5 (h.boxed 0 rfl)).1
set_option maxHeartbeats 8000000 in
set_option maxRecDepth 100000 in
theorem matches_core (w : World) (p : Pol) (n : Int) (hn : n ≤ 9223372036854775807) : Calls Try.prog 3 #[.agg #[.bool p.al, .int .i64 p.lim, .int .i64 p.win, .int .i64 p.bas, .int .i64 p.most], .int .i64 n] w fun e w' => e = .returned (.bool true) ∧ Kept w w' := by
  have haf := after_c p n hn
  have hraf := rafter_c p n hn
  have hch := check_c p
  have hrch := rcheck_c p
  have haw := awake_c
  obtain ⟨D, hD⟩ : ∃ D, D = p.delay n := ⟨_, rfl⟩
  obtain ⟨E, hE⟩ : ∃ E, E = p.err n := ⟨_, rfl⟩
  obtain ⟨C, hC⟩ : ∃ C, C = p.says := ⟨_, rfl⟩
  rw [← hD, ← hE] at haf hraf
  rw [← hC] at hch hrch
  clear hD hE hC hn
  obtain ⟨al, lim, win, bas, most⟩ := p
  simp only [] at haf hraf hch hrch ⊢
  have n0 : (D == D) = true := by simp
  have n1 : (E == E) = true := by simp
  have n2 : (C == C) = true := by simp
  have h0 := (Mem.Own.nil w).box #[.bool al, .int .i64 lim, .int .i64 win, .int .i64 bas, .int .i64 most] 23
  go_enter Try.func3, Try.ntmps3
  go_wp2_with (first
    | (go_at_call 8; (with_reducible refine (haf _).mono ?_); rintro e w1 ⟨rfl, k1⟩; have h1 := h0.later k1; obtain ⟨a0, a1, a2, a3, a4⟩ := pol_cells h1)
    | (go_at_call 9; (with_reducible refine (hraf _).mono ?_); rintro e w2 ⟨rfl, k2⟩; have h2 := h1.later k2))
  clear h0 h1 k1 k2 haf hraf a0 a1 a2 a3 a4
  generalize w.heap.size = B at h2 ⊢
  have S1 := pol_cells h2
  have S1' := pol_cells h2.drew
  have P := Lib.hid h2
  clear h2
  go_region_held3 (fun W => W.cell? ⟨B, 0, none⟩ = some (.bool al) ∧ W.cell? ⟨B, 1, none⟩ = some (.int .i64 lim) ∧ W.cell? ⟨B, 2, none⟩ = some (.int .i64 win) ∧ W.cell? ⟨B, 3, none⟩ = some (.int .i64 bas) ∧ W.cell? ⟨B, 4, none⟩ = some (.int .i64 most))
    (first | assumption)
    (first
      | (go_at_call 10; (with_reducible refine (hch _).mono ?_); rintro e u1 ⟨rfl, k1⟩; have P1 := Lib.hid (P.out.drew.later k1); have S2 := pol_cells P1.out; clear k1)
      | (go_at_call 11; (with_reducible refine (hrch _).mono ?_); rintro e u2 ⟨rfl, k2⟩; have P2 := Lib.hid (P1.out.later k2); have S3 := pol_cells P2.out; clear k2)
      | (go_at_call 12; (with_reducible refine (haw _).mono ?_); rintro e u3 ⟨rfl, k3⟩; have P3 := Lib.hid (P2.out.later k3); have S4 := pol_cells P3.out; clear k3))
  go_wp2
  go_ret
  exact ⟨rfl, P3.out.kept⟩
end Go.Proofs.Ythhmfebnnkcmmaa.De
