/-
  ResPairs, for any two amounts.
-/
import Derived.Test.YtdendciedodffaaVh
namespace Go.Proofs.Ytdendciedodffaa.Re
open Go.RowKit Go.Proofs.Ytdendciedodffaa.Mem Go.Proofs.Ytdendciedodffaa.Bx Go.ChangeShapes Go.WideShapes Go.ChangeAt
theorem four_cells {w W : World} {B7 B5 B3 B2 : Nat} {r b a : Am} (h : Own w [boxA B7 #[.int .i64 r.c, .int .i64 r.m, .int .i64 r.d] 23, boxA B5 #[.int .i64 r.c, .int .i64 r.m, .int .i64 r.d] 23, boxA B3 #[.int .i64 b.c, .int .i64 b.m, .int .i64 b.d] 23, boxA B2 #[.int .i64 a.c, .int .i64 a.m, .int .i64 a.d] 23] W) : W.cell? ⟨B7, 0, none⟩ = some (.int .i64 r.c) ∧ W.cell? ⟨B7, 1, none⟩ = some (.int .i64 r.m) ∧ W.cell? ⟨B7, 2, none⟩ = some (.int .i64 r.d) ∧ W.cell? ⟨B5, 0, none⟩ = some (.int .i64 r.c) ∧ W.cell? ⟨B5, 1, none⟩ = some (.int .i64 r.m) ∧ W.cell? ⟨B5, 2, none⟩ = some (.int .i64 r.d) ∧ W.cell? ⟨B3, 0, none⟩ = some (.int .i64 b.c) ∧ W.cell? ⟨B3, 1, none⟩ = some (.int .i64 b.m) ∧ W.cell? ⟨B3, 2, none⟩ = some (.int .i64 b.d) ∧ W.cell? ⟨B2, 0, none⟩ = some (.int .i64 a.c) ∧ W.cell? ⟨B2, 1, none⟩ = some (.int .i64 a.m) ∧ W.cell? ⟨B2, 2, none⟩ = some (.int .i64 a.d) := by
  obtain ⟨⟨a0, a1, a2⟩, _⟩ := box3 (h.boxed 0 rfl)
  obtain ⟨⟨b0, b1, b2⟩, _⟩ := box3 (h.boxed 1 rfl)
  obtain ⟨⟨c0, c1, c2⟩, _⟩ := box3 (h.boxed 2 rfl)
  obtain ⟨⟨d0, d1, d2⟩, _⟩ := box3 (h.boxed 3 rfl)
  exact ⟨a0, a1, a2, b0, b1, b2, c0, c1, c2, d0, d1, d2⟩
set_option maxHeartbeats 8000000 in
set_option maxRecDepth 100000 in
theorem pairs_core (w : World) (a b : Am) : Calls Try.prog 3 #[.agg #[.int .i64 a.c, .int .i64 a.m, .int .i64 a.d], .agg #[.int .i64 b.c, .int .i64 b.m, .int .i64 b.d]] w fun e w' => e = .returned (.bool true) ∧ Kept w w' := by
  have hadd := add_c a b
  have hradd := radd_c a b
  have hsub := sub_c a b
  have hrsub := rsub_c a b
  have hchk := check_c a
  have hrchk := rcheck_c a
  have hfit := fits_c a b
  have hrfit := rfits_c a b
  obtain ⟨R, hR⟩ : ∃ R, R = adds a b := ⟨_, rfl⟩
  rw [← hR] at hadd hradd
  obtain ⟨Q, hQ⟩ : ∃ Q, Q = subs a b := ⟨_, rfl⟩
  rw [← hQ] at hsub hrsub
  obtain ⟨E, hE⟩ : ∃ E, E = a.says := ⟨_, rfl⟩
  rw [← hE] at hchk hrchk
  obtain ⟨G, hG⟩ : ∃ G, G = a.fits b := ⟨_, rfl⟩
  rw [← hG] at hfit hrfit
  clear hR hQ hE hG
  obtain ⟨r, q⟩ := R
  obtain ⟨s, p⟩ := Q
  have n0 := neq_same r.c r.m r.d
  have n1 := eql_same s.c s.m s.d
  have n2 : (E != E) = false := by simp
  have n3 : (q != q) = false := by cases q <;> rfl
  have n4 : (G != G) = false := by cases G <;> rfl
  have n5 : (p == p) = true := by cases p <;> rfl
  go_enter Try.func3, Try.ntmps3
  have h0 := own2 w #[.int .i64 a.c, .int .i64 a.m, .int .i64 a.d] #[.int .i64 b.c, .int .i64 b.m, .int .i64 b.d] 23
  obtain ⟨B2, hB2⟩ : ∃ B2, B2 = w.heap.size := ⟨_, rfl⟩
  go_wp2_with (first
    | (go_at_call 9; (with_reducible refine (hadd _).mono ?_); rintro e w1 ⟨rfl, k1⟩; have h1 := (h0.later k1).box #[.int .i64 r.c, .int .i64 r.m, .int .i64 r.d] 23; obtain ⟨⟨a0, a1, a2⟩, _⟩ := box3 (h1.boxed 1 rfl); obtain ⟨⟨b0, b1, b2⟩, _⟩ := box3 (h1.boxed 2 rfl))
    | (go_at_call 10; (with_reducible refine (hradd _).mono ?_); rintro e w2 ⟨rfl, k2⟩; have h2 := (h1.later k2).box #[.int .i64 r.c, .int .i64 r.m, .int .i64 r.d] 23))
  clear h0 h1 k1 k2 hadd hradd a0 a1 a2 b0 b1 b2
  clear hB2 B2
  generalize (w2.alloc (.cells #[.int .i64 r.c, .int .i64 r.m, .int .i64 r.d] 23)) = W3 at h2 ⊢
  generalize w2.heap.size = B7 at h2 ⊢
  generalize w1.heap.size = B5 at h2 ⊢
  generalize w.heap.size + 1 = B3 at h2 ⊢
  generalize w.heap.size = B2 at h2 ⊢
  have S1 := four_cells h2
  have S1' := four_cells h2.drew
  have P := Lib.hid h2
  clear h2
  go_region_held3 (fun W => W.cell? ⟨B7, 0, none⟩ = some (.int .i64 r.c) ∧ W.cell? ⟨B7, 1, none⟩ = some (.int .i64 r.m) ∧ W.cell? ⟨B7, 2, none⟩ = some (.int .i64 r.d) ∧ W.cell? ⟨B5, 0, none⟩ = some (.int .i64 r.c) ∧ W.cell? ⟨B5, 1, none⟩ = some (.int .i64 r.m) ∧ W.cell? ⟨B5, 2, none⟩ = some (.int .i64 r.d) ∧ W.cell? ⟨B3, 0, none⟩ = some (.int .i64 b.c) ∧ W.cell? ⟨B3, 1, none⟩ = some (.int .i64 b.m) ∧ W.cell? ⟨B3, 2, none⟩ = some (.int .i64 b.d) ∧ W.cell? ⟨B2, 0, none⟩ = some (.int .i64 a.c) ∧ W.cell? ⟨B2, 1, none⟩ = some (.int .i64 a.m) ∧ W.cell? ⟨B2, 2, none⟩ = some (.int .i64 a.d))
    (first | assumption)
    (first
      | (go_at_call 11; (with_reducible refine (hchk _).mono ?_); rintro e u1 ⟨rfl, k1⟩; have P1 := Lib.hid (P.out.drew.later k1); have S2 := four_cells P1.out; clear k1)
      | (go_at_call 12; (with_reducible refine (hrchk _).mono ?_); rintro e u2 ⟨rfl, k2⟩; have P2 := Lib.hid (P1.out.later k2); have S3 := four_cells P2.out; clear k2)
      | (go_at_call 13; (with_reducible refine (hfit _).mono ?_); rintro e u3 ⟨rfl, k3⟩; have P3 := Lib.hid (P2.out.later k3); have S4 := four_cells P3.out; clear k3)
      | (go_at_call 14; (with_reducible refine (hrfit _).mono ?_); rintro e u4 ⟨rfl, k4⟩; have P4 := Lib.hid (P3.out.later k4); have S5 := four_cells P4.out; clear k4))
  clear S1 S1' S2 S3 S4 S5 P P1 P2 P3 hchk hrchk hfit hrfit
  obtain ⟨_, _, _, _, _, _, c0, c1, c2, d0, d1, d2⟩ := four_cells P4.out
  go_wp2_with (first
    | (go_at_call 15; (with_reducible refine (hsub _).mono ?_); rintro e u5 ⟨rfl, k5⟩; have P5 := Lib.hid (P4.out.later k5); obtain ⟨⟨e0, e1, e2⟩, fz⟩ := box3 (P5.out.boxed 1 rfl); have fz0 := fz 0; have fz1 := fz 1; have fz2 := fz 2; clear fz; obtain ⟨⟨g0, g1, g2⟩, _⟩ := box3 (P5.out.boxed 2 rfl); obtain ⟨⟨i0, i1, i2⟩, _⟩ := box3 (P5.out.boxed 3 rfl); have P6 := Lib.hid (((P5.out.boxset 1 rfl 0 (.int .i64 s.c)).boxset 1 rfl 1 (.int .i64 s.m)).boxset 1 rfl 2 (.int .i64 s.d)); obtain ⟨⟨j0, j1, j2⟩, _⟩ := box3 (P6.out.boxed 2 rfl); obtain ⟨⟨l0, l1, l2⟩, _⟩ := box3 (P6.out.boxed 3 rfl))
    | (go_at_call 16; (with_reducible refine (hrsub _).mono ?_); rintro e u6 ⟨rfl, k6⟩; have P7 := Lib.hid (P6.out.later k6); obtain ⟨⟨m0, m1, m2⟩, fz⟩ := box3 (P7.out.boxed 0 rfl); have fy0 := fz 0; have fy1 := fz 1; have fy2 := fz 2; clear fz; have P8 := Lib.hid (((P7.out.boxset 0 rfl 0 (.int .i64 s.c)).boxset 0 rfl 1 (.int .i64 s.m)).boxset 0 rfl 2 (.int .i64 s.d)); obtain ⟨⟨o0, o1, o2⟩, _⟩ := box3 (P8.out.boxed 0 rfl); obtain ⟨⟨r0, r1, r2⟩, _⟩ := box3 (P8.out.boxed 1 rfl))
    | (go_at_call 17; (with_reducible refine (awake_c _).mono ?_); rintro e u7 ⟨rfl, k7⟩))
  go_ret
  exact ⟨rfl, (P8.out.later k7).kept⟩
end Go.Proofs.Ytdendciedodffaa.Re
