/-
  ResOrder, for any three amounts.
-/
import Derived.Test.YtdendciedodffaaVj
namespace Go.Proofs.Ytdendciedodffaa.Re
open Go.RowKit Go.Proofs.Ytdendciedodffaa.Mem Go.Proofs.Ytdendciedodffaa.Bx Go.ChangeShapes Go.WideShapes Go.ChangeAt
theorem fits_refl (a : Am) : a.fits a = true := fits_iff.2 ⟨Int.le_refl _, Int.le_refl _, Int.le_refl _⟩
theorem fits_anti {a b : Am} (h : a.fits b = true) (k : b.fits a = true) : a = b := by
  have h := fits_iff.1 h
  have k := fits_iff.1 k
  cases a; cases b
  simp only [Am.mk.injEq]
  simp only at h k
  omega
theorem fits_trans {a b c : Am} (h : a.fits b = true) (k : b.fits c = true) : a.fits c = true := by
  have h := fits_iff.1 h
  have k := fits_iff.1 k
  exact fits_iff.2 (by omega)
theorem fits_add {a b c : Am} (h : (adds a c).2 = true) (k : (adds b c).2 = true) : (adds a c).1.fits (adds b c).1 = a.fits b := by
  rw [(adds_ok h).1, (adds_ok k).1]
  unfold Am.fits Am.plus
  congr 1
  · simp only [decide_eq_decide]; omega
  · congr 1 <;> (simp only [decide_eq_decide]; omega)
theorem add_fits {a b c : Am} (hb : (adds b c).2 = true) (h : a.fits b = true) (ha : a.good = true) : (adds a c).2 = true := by
  obtain ⟨_, b1, c1, p1⟩ := adds_ok hb
  have p1 := good_iff.1 p1
  have a1 := good_iff.1 ha
  have c2 := good_iff.1 c1
  have h := fits_iff.1 h
  simp only [Am.plus] at p1
  have : (Am.plus a c).good = true := good_iff.2 (by simp only [Am.plus]; omega)
  rw [show adds a c = (Am.plus a c, true) from joins_ok ha c1 this]
theorem five_cells {w W : World} {B9 B7 B5 B4 B3 : Nat} {y x c b a : Am} (h : Own w [boxA B9 #[.int .i64 y.c, .int .i64 y.m, .int .i64 y.d] 23, boxA B7 #[.int .i64 x.c, .int .i64 x.m, .int .i64 x.d] 23, boxA B5 #[.int .i64 c.c, .int .i64 c.m, .int .i64 c.d] 23, boxA B4 #[.int .i64 b.c, .int .i64 b.m, .int .i64 b.d] 23, boxA B3 #[.int .i64 a.c, .int .i64 a.m, .int .i64 a.d] 23] W) : W.cell? ⟨B9, 0, none⟩ = some (.int .i64 y.c) ∧ W.cell? ⟨B9, 1, none⟩ = some (.int .i64 y.m) ∧ W.cell? ⟨B9, 2, none⟩ = some (.int .i64 y.d) ∧ W.cell? ⟨B7, 0, none⟩ = some (.int .i64 x.c) ∧ W.cell? ⟨B7, 1, none⟩ = some (.int .i64 x.m) ∧ W.cell? ⟨B7, 2, none⟩ = some (.int .i64 x.d) ∧ W.cell? ⟨B5, 0, none⟩ = some (.int .i64 c.c) ∧ W.cell? ⟨B5, 1, none⟩ = some (.int .i64 c.m) ∧ W.cell? ⟨B5, 2, none⟩ = some (.int .i64 c.d) ∧ W.cell? ⟨B4, 0, none⟩ = some (.int .i64 b.c) ∧ W.cell? ⟨B4, 1, none⟩ = some (.int .i64 b.m) ∧ W.cell? ⟨B4, 2, none⟩ = some (.int .i64 b.d) ∧ W.cell? ⟨B3, 0, none⟩ = some (.int .i64 a.c) ∧ W.cell? ⟨B3, 1, none⟩ = some (.int .i64 a.m) ∧ W.cell? ⟨B3, 2, none⟩ = some (.int .i64 a.d) := by
  obtain ⟨⟨a0, a1, a2⟩, _⟩ := box3 (h.boxed 0 rfl)
  obtain ⟨⟨b0, b1, b2⟩, _⟩ := box3 (h.boxed 1 rfl)
  obtain ⟨⟨c0, c1, c2⟩, _⟩ := box3 (h.boxed 2 rfl)
  obtain ⟨⟨d0, d1, d2⟩, _⟩ := box3 (h.boxed 3 rfl)
  obtain ⟨⟨e0, e1, e2⟩, _⟩ := box3 (h.boxed 4 rfl)
  exact ⟨a0, a1, a2, b0, b1, b2, c0, c1, c2, d0, d1, d2, e0, e1, e2⟩
set_option maxHeartbeats 8000000 in
set_option maxRecDepth 100000 in
theorem order_false_false (w : World) (a b c x y : Am) (ab ba bc : Bool)
    (haa : ∀ w, Calls Try.prog 13 #[.agg #[.int .i64 a.c, .int .i64 a.m, .int .i64 a.d], .agg #[.int .i64 a.c, .int .i64 a.m, .int .i64 a.d]] w fun e w' => e = .returned (.bool true) ∧ Kept w w')
    (hab : ∀ w, Calls Try.prog 13 #[.agg #[.int .i64 a.c, .int .i64 a.m, .int .i64 a.d], .agg #[.int .i64 b.c, .int .i64 b.m, .int .i64 b.d]] w fun e w' => e = .returned (.bool ab) ∧ Kept w w')
    (hba : ∀ w, Calls Try.prog 13 #[.agg #[.int .i64 b.c, .int .i64 b.m, .int .i64 b.d], .agg #[.int .i64 a.c, .int .i64 a.m, .int .i64 a.d]] w fun e w' => e = .returned (.bool ba) ∧ Kept w w')
    (hbc : ∀ w, Calls Try.prog 13 #[.agg #[.int .i64 b.c, .int .i64 b.m, .int .i64 b.d], .agg #[.int .i64 c.c, .int .i64 c.m, .int .i64 c.d]] w fun e w' => e = .returned (.bool bc) ∧ Kept w w')
    (hac : ab = true → bc = true → ∀ w, Calls Try.prog 13 #[.agg #[.int .i64 a.c, .int .i64 a.m, .int .i64 a.d], .agg #[.int .i64 c.c, .int .i64 c.m, .int .i64 c.d]] w fun e w' => e = .returned (.bool true) ∧ Kept w w')
    (neq : ab = true → ba = true → ∀ w, (binOp .neq 23 (.agg #[.int .i64 a.c, .int .i64 a.m, .int .i64 a.d]) (.agg #[.int .i64 b.c, .int .i64 b.m, .int .i64 b.d])).run Try.prog w = .ok (.bool false) w)
    (h1 : ∀ w, Calls Try.prog 9 #[.agg #[.int .i64 a.c, .int .i64 a.m, .int .i64 a.d], .agg #[.int .i64 c.c, .int .i64 c.m, .int .i64 c.d]] w fun e w' => e = .returned (.tuple #[.agg #[.int .i64 x.c, .int .i64 x.m, .int .i64 x.d], .bool false]) ∧ Kept w w')
    (h2 : ∀ w, Calls Try.prog 9 #[.agg #[.int .i64 b.c, .int .i64 b.m, .int .i64 b.d], .agg #[.int .i64 c.c, .int .i64 c.m, .int .i64 c.d]] w fun e w' => e = .returned (.tuple #[.agg #[.int .i64 y.c, .int .i64 y.m, .int .i64 y.d], .bool false]) ∧ Kept w w')
 :
    Calls Try.prog 8 #[.agg #[.int .i64 a.c, .int .i64 a.m, .int .i64 a.d], .agg #[.int .i64 b.c, .int .i64 b.m, .int .i64 b.d], .agg #[.int .i64 c.c, .int .i64 c.m, .int .i64 c.d]] w fun e w' => e = .returned (.bool true) ∧ Kept w w' := by
  have hcur := own3 w #[.int .i64 a.c, .int .i64 a.m, .int .i64 a.d] #[.int .i64 b.c, .int .i64 b.m, .int .i64 b.d] #[.int .i64 c.c, .int .i64 c.m, .int .i64 c.d] 23
  rcases Bool.eq_false_or_eq_true ab with rfl | rfl
  · rcases Bool.eq_false_or_eq_true ba with rfl | rfl <;> rcases Bool.eq_false_or_eq_true bc with rfl | rfl <;> (
    go_enter Try.func8, Try.ntmps8
    go_wp2_with (first
      | (go_at_call 13; first
        | ((with_reducible refine (haa _).mono ?_); rintro e w1 ⟨rfl, k1⟩; replace hcur := hcur.later k1; first | (obtain ⟨⟨x1_0, x1_1, x1_2⟩, _⟩ := box3 (hcur.boxed 4 rfl); obtain ⟨⟨x2_0, x2_1, x2_2⟩, _⟩ := box3 (hcur.boxed 3 rfl); obtain ⟨⟨x3_0, x3_1, x3_2⟩, _⟩ := box3 (hcur.boxed 2 rfl); obtain ⟨⟨x4_0, x4_1, x4_2⟩, _⟩ := box3 (hcur.boxed 1 rfl); obtain ⟨⟨x5_0, x5_1, x5_2⟩, _⟩ := box3 (hcur.boxed 0 rfl)) | (obtain ⟨⟨x6_0, x6_1, x6_2⟩, _⟩ := box3 (hcur.boxed 2 rfl); obtain ⟨⟨x7_0, x7_1, x7_2⟩, _⟩ := box3 (hcur.boxed 1 rfl); obtain ⟨⟨x8_0, x8_1, x8_2⟩, _⟩ := box3 (hcur.boxed 0 rfl)))
        | ((with_reducible refine (hab _).mono ?_); rintro e w2 ⟨rfl, k2⟩; replace hcur := hcur.later k2; first | (obtain ⟨⟨x9_0, x9_1, x9_2⟩, _⟩ := box3 (hcur.boxed 4 rfl); obtain ⟨⟨x10_0, x10_1, x10_2⟩, _⟩ := box3 (hcur.boxed 3 rfl); obtain ⟨⟨x11_0, x11_1, x11_2⟩, _⟩ := box3 (hcur.boxed 2 rfl); obtain ⟨⟨x12_0, x12_1, x12_2⟩, _⟩ := box3 (hcur.boxed 1 rfl); obtain ⟨⟨x13_0, x13_1, x13_2⟩, _⟩ := box3 (hcur.boxed 0 rfl)) | (obtain ⟨⟨x14_0, x14_1, x14_2⟩, _⟩ := box3 (hcur.boxed 2 rfl); obtain ⟨⟨x15_0, x15_1, x15_2⟩, _⟩ := box3 (hcur.boxed 1 rfl); obtain ⟨⟨x16_0, x16_1, x16_2⟩, _⟩ := box3 (hcur.boxed 0 rfl)))
        | ((with_reducible refine (hba _).mono ?_); rintro e w3 ⟨rfl, k3⟩; replace hcur := hcur.later k3; first | (obtain ⟨⟨x17_0, x17_1, x17_2⟩, _⟩ := box3 (hcur.boxed 4 rfl); obtain ⟨⟨x18_0, x18_1, x18_2⟩, _⟩ := box3 (hcur.boxed 3 rfl); obtain ⟨⟨x19_0, x19_1, x19_2⟩, _⟩ := box3 (hcur.boxed 2 rfl); obtain ⟨⟨x20_0, x20_1, x20_2⟩, _⟩ := box3 (hcur.boxed 1 rfl); obtain ⟨⟨x21_0, x21_1, x21_2⟩, _⟩ := box3 (hcur.boxed 0 rfl)) | (obtain ⟨⟨x22_0, x22_1, x22_2⟩, _⟩ := box3 (hcur.boxed 2 rfl); obtain ⟨⟨x23_0, x23_1, x23_2⟩, _⟩ := box3 (hcur.boxed 1 rfl); obtain ⟨⟨x24_0, x24_1, x24_2⟩, _⟩ := box3 (hcur.boxed 0 rfl)))
        | ((with_reducible refine (hbc _).mono ?_); rintro e w4 ⟨rfl, k4⟩; replace hcur := hcur.later k4; first | (obtain ⟨⟨x25_0, x25_1, x25_2⟩, _⟩ := box3 (hcur.boxed 4 rfl); obtain ⟨⟨x26_0, x26_1, x26_2⟩, _⟩ := box3 (hcur.boxed 3 rfl); obtain ⟨⟨x27_0, x27_1, x27_2⟩, _⟩ := box3 (hcur.boxed 2 rfl); obtain ⟨⟨x28_0, x28_1, x28_2⟩, _⟩ := box3 (hcur.boxed 1 rfl); obtain ⟨⟨x29_0, x29_1, x29_2⟩, _⟩ := box3 (hcur.boxed 0 rfl)) | (obtain ⟨⟨x30_0, x30_1, x30_2⟩, _⟩ := box3 (hcur.boxed 2 rfl); obtain ⟨⟨x31_0, x31_1, x31_2⟩, _⟩ := box3 (hcur.boxed 1 rfl); obtain ⟨⟨x32_0, x32_1, x32_2⟩, _⟩ := box3 (hcur.boxed 0 rfl)))
        | ((with_reducible refine (hac (by trivial) (by trivial) _).mono ?_); rintro e w5 ⟨rfl, k5⟩; replace hcur := hcur.later k5; first | (obtain ⟨⟨x33_0, x33_1, x33_2⟩, _⟩ := box3 (hcur.boxed 4 rfl); obtain ⟨⟨x34_0, x34_1, x34_2⟩, _⟩ := box3 (hcur.boxed 3 rfl); obtain ⟨⟨x35_0, x35_1, x35_2⟩, _⟩ := box3 (hcur.boxed 2 rfl); obtain ⟨⟨x36_0, x36_1, x36_2⟩, _⟩ := box3 (hcur.boxed 1 rfl); obtain ⟨⟨x37_0, x37_1, x37_2⟩, _⟩ := box3 (hcur.boxed 0 rfl)) | (obtain ⟨⟨x38_0, x38_1, x38_2⟩, _⟩ := box3 (hcur.boxed 2 rfl); obtain ⟨⟨x39_0, x39_1, x39_2⟩, _⟩ := box3 (hcur.boxed 1 rfl); obtain ⟨⟨x40_0, x40_1, x40_2⟩, _⟩ := box3 (hcur.boxed 0 rfl))))
      | (go_at_call 9; first
        | ((with_reducible refine (h1 _).mono ?_); rintro e w6 ⟨rfl, k6⟩; replace hcur := (hcur.later k6).box #[.int .i64 x.c, .int .i64 x.m, .int .i64 x.d] 23; obtain ⟨⟨x41_0, x41_1, x41_2⟩, _⟩ := box3 (hcur.boxed 3 rfl); obtain ⟨⟨x42_0, x42_1, x42_2⟩, _⟩ := box3 (hcur.boxed 2 rfl); obtain ⟨⟨x43_0, x43_1, x43_2⟩, _⟩ := box3 (hcur.boxed 1 rfl); obtain ⟨⟨x44_0, x44_1, x44_2⟩, _⟩ := box3 (hcur.boxed 0 rfl))
        | ((with_reducible refine (h2 _).mono ?_); rintro e w7 ⟨rfl, k7⟩; replace hcur := (hcur.later k7).box #[.int .i64 y.c, .int .i64 y.m, .int .i64 y.d] 23; obtain ⟨⟨x45_0, x45_1, x45_2⟩, _⟩ := box3 (hcur.boxed 4 rfl); obtain ⟨⟨x46_0, x46_1, x46_2⟩, _⟩ := box3 (hcur.boxed 3 rfl); obtain ⟨⟨x47_0, x47_1, x47_2⟩, _⟩ := box3 (hcur.boxed 2 rfl); obtain ⟨⟨x48_0, x48_1, x48_2⟩, _⟩ := box3 (hcur.boxed 1 rfl); obtain ⟨⟨x49_0, x49_1, x49_2⟩, _⟩ := box3 (hcur.boxed 0 rfl))))
    go_quiet (fail)
    replace hcur := hcur.drewN nq
    obtain ⟨⟨x50_0, x50_1, x50_2⟩, _⟩ := box3 (hcur.boxed 4 rfl)
    obtain ⟨⟨x51_0, x51_1, x51_2⟩, _⟩ := box3 (hcur.boxed 3 rfl)
    obtain ⟨⟨x52_0, x52_1, x52_2⟩, _⟩ := box3 (hcur.boxed 2 rfl)
    obtain ⟨⟨x53_0, x53_1, x53_2⟩, _⟩ := box3 (hcur.boxed 1 rfl)
    obtain ⟨⟨x54_0, x54_1, x54_2⟩, _⟩ := box3 (hcur.boxed 0 rfl)
    go_wp2_with (first
      | (go_at_call 13; ((with_reducible refine (hab _).mono ?_); rintro e w8 ⟨rfl, k8⟩; replace hcur := hcur.later k8; first | (obtain ⟨⟨x55_0, x55_1, x55_2⟩, _⟩ := box3 (hcur.boxed 4 rfl); obtain ⟨⟨x56_0, x56_1, x56_2⟩, _⟩ := box3 (hcur.boxed 3 rfl); obtain ⟨⟨x57_0, x57_1, x57_2⟩, _⟩ := box3 (hcur.boxed 2 rfl); obtain ⟨⟨x58_0, x58_1, x58_2⟩, _⟩ := box3 (hcur.boxed 1 rfl); obtain ⟨⟨x59_0, x59_1, x59_2⟩, _⟩ := box3 (hcur.boxed 0 rfl)) | (obtain ⟨⟨x60_0, x60_1, x60_2⟩, _⟩ := box3 (hcur.boxed 2 rfl); obtain ⟨⟨x61_0, x61_1, x61_2⟩, _⟩ := box3 (hcur.boxed 1 rfl); obtain ⟨⟨x62_0, x62_1, x62_2⟩, _⟩ := box3 (hcur.boxed 0 rfl))))

      | (go_at_call 17; (with_reducible refine (awake_c _).mono ?_); rintro e w10 ⟨rfl, k10⟩))
    go_ret
    exact ⟨rfl, (hcur.later k10).kept⟩)
  · clear hac neq
    go_enter Try.func8, Try.ntmps8
    go_wp2_with (first
      | (go_at_call 13; first
        | ((with_reducible refine (haa _).mono ?_); rintro e w1 ⟨rfl, k1⟩; replace hcur := hcur.later k1; first | (obtain ⟨⟨x1_0, x1_1, x1_2⟩, _⟩ := box3 (hcur.boxed 4 rfl); obtain ⟨⟨x2_0, x2_1, x2_2⟩, _⟩ := box3 (hcur.boxed 3 rfl); obtain ⟨⟨x3_0, x3_1, x3_2⟩, _⟩ := box3 (hcur.boxed 2 rfl); obtain ⟨⟨x4_0, x4_1, x4_2⟩, _⟩ := box3 (hcur.boxed 1 rfl); obtain ⟨⟨x5_0, x5_1, x5_2⟩, _⟩ := box3 (hcur.boxed 0 rfl)) | (obtain ⟨⟨x6_0, x6_1, x6_2⟩, _⟩ := box3 (hcur.boxed 2 rfl); obtain ⟨⟨x7_0, x7_1, x7_2⟩, _⟩ := box3 (hcur.boxed 1 rfl); obtain ⟨⟨x8_0, x8_1, x8_2⟩, _⟩ := box3 (hcur.boxed 0 rfl)))
        | ((with_reducible refine (hab _).mono ?_); rintro e w2 ⟨rfl, k2⟩; replace hcur := hcur.later k2; first | (obtain ⟨⟨x9_0, x9_1, x9_2⟩, _⟩ := box3 (hcur.boxed 4 rfl); obtain ⟨⟨x10_0, x10_1, x10_2⟩, _⟩ := box3 (hcur.boxed 3 rfl); obtain ⟨⟨x11_0, x11_1, x11_2⟩, _⟩ := box3 (hcur.boxed 2 rfl); obtain ⟨⟨x12_0, x12_1, x12_2⟩, _⟩ := box3 (hcur.boxed 1 rfl); obtain ⟨⟨x13_0, x13_1, x13_2⟩, _⟩ := box3 (hcur.boxed 0 rfl)) | (obtain ⟨⟨x14_0, x14_1, x14_2⟩, _⟩ := box3 (hcur.boxed 2 rfl); obtain ⟨⟨x15_0, x15_1, x15_2⟩, _⟩ := box3 (hcur.boxed 1 rfl); obtain ⟨⟨x16_0, x16_1, x16_2⟩, _⟩ := box3 (hcur.boxed 0 rfl)))
        | ((with_reducible refine (hba _).mono ?_); rintro e w3 ⟨rfl, k3⟩; replace hcur := hcur.later k3; first | (obtain ⟨⟨x17_0, x17_1, x17_2⟩, _⟩ := box3 (hcur.boxed 4 rfl); obtain ⟨⟨x18_0, x18_1, x18_2⟩, _⟩ := box3 (hcur.boxed 3 rfl); obtain ⟨⟨x19_0, x19_1, x19_2⟩, _⟩ := box3 (hcur.boxed 2 rfl); obtain ⟨⟨x20_0, x20_1, x20_2⟩, _⟩ := box3 (hcur.boxed 1 rfl); obtain ⟨⟨x21_0, x21_1, x21_2⟩, _⟩ := box3 (hcur.boxed 0 rfl)) | (obtain ⟨⟨x22_0, x22_1, x22_2⟩, _⟩ := box3 (hcur.boxed 2 rfl); obtain ⟨⟨x23_0, x23_1, x23_2⟩, _⟩ := box3 (hcur.boxed 1 rfl); obtain ⟨⟨x24_0, x24_1, x24_2⟩, _⟩ := box3 (hcur.boxed 0 rfl)))
        | ((with_reducible refine (hbc _).mono ?_); rintro e w4 ⟨rfl, k4⟩; replace hcur := hcur.later k4; first | (obtain ⟨⟨x25_0, x25_1, x25_2⟩, _⟩ := box3 (hcur.boxed 4 rfl); obtain ⟨⟨x26_0, x26_1, x26_2⟩, _⟩ := box3 (hcur.boxed 3 rfl); obtain ⟨⟨x27_0, x27_1, x27_2⟩, _⟩ := box3 (hcur.boxed 2 rfl); obtain ⟨⟨x28_0, x28_1, x28_2⟩, _⟩ := box3 (hcur.boxed 1 rfl); obtain ⟨⟨x29_0, x29_1, x29_2⟩, _⟩ := box3 (hcur.boxed 0 rfl)) | (obtain ⟨⟨x30_0, x30_1, x30_2⟩, _⟩ := box3 (hcur.boxed 2 rfl); obtain ⟨⟨x31_0, x31_1, x31_2⟩, _⟩ := box3 (hcur.boxed 1 rfl); obtain ⟨⟨x32_0, x32_1, x32_2⟩, _⟩ := box3 (hcur.boxed 0 rfl)))
        | ((with_reducible refine (hac (by trivial) (by trivial) _).mono ?_); rintro e w5 ⟨rfl, k5⟩; replace hcur := hcur.later k5; first | (obtain ⟨⟨x33_0, x33_1, x33_2⟩, _⟩ := box3 (hcur.boxed 4 rfl); obtain ⟨⟨x34_0, x34_1, x34_2⟩, _⟩ := box3 (hcur.boxed 3 rfl); obtain ⟨⟨x35_0, x35_1, x35_2⟩, _⟩ := box3 (hcur.boxed 2 rfl); obtain ⟨⟨x36_0, x36_1, x36_2⟩, _⟩ := box3 (hcur.boxed 1 rfl); obtain ⟨⟨x37_0, x37_1, x37_2⟩, _⟩ := box3 (hcur.boxed 0 rfl)) | (obtain ⟨⟨x38_0, x38_1, x38_2⟩, _⟩ := box3 (hcur.boxed 2 rfl); obtain ⟨⟨x39_0, x39_1, x39_2⟩, _⟩ := box3 (hcur.boxed 1 rfl); obtain ⟨⟨x40_0, x40_1, x40_2⟩, _⟩ := box3 (hcur.boxed 0 rfl))))
      | (go_at_call 9; first
        | ((with_reducible refine (h1 _).mono ?_); rintro e w6 ⟨rfl, k6⟩; replace hcur := (hcur.later k6).box #[.int .i64 x.c, .int .i64 x.m, .int .i64 x.d] 23; obtain ⟨⟨x41_0, x41_1, x41_2⟩, _⟩ := box3 (hcur.boxed 3 rfl); obtain ⟨⟨x42_0, x42_1, x42_2⟩, _⟩ := box3 (hcur.boxed 2 rfl); obtain ⟨⟨x43_0, x43_1, x43_2⟩, _⟩ := box3 (hcur.boxed 1 rfl); obtain ⟨⟨x44_0, x44_1, x44_2⟩, _⟩ := box3 (hcur.boxed 0 rfl))
        | ((with_reducible refine (h2 _).mono ?_); rintro e w7 ⟨rfl, k7⟩; replace hcur := (hcur.later k7).box #[.int .i64 y.c, .int .i64 y.m, .int .i64 y.d] 23; obtain ⟨⟨x45_0, x45_1, x45_2⟩, _⟩ := box3 (hcur.boxed 4 rfl); obtain ⟨⟨x46_0, x46_1, x46_2⟩, _⟩ := box3 (hcur.boxed 3 rfl); obtain ⟨⟨x47_0, x47_1, x47_2⟩, _⟩ := box3 (hcur.boxed 2 rfl); obtain ⟨⟨x48_0, x48_1, x48_2⟩, _⟩ := box3 (hcur.boxed 1 rfl); obtain ⟨⟨x49_0, x49_1, x49_2⟩, _⟩ := box3 (hcur.boxed 0 rfl))))
    go_quiet (fail)
    replace hcur := hcur.drewN nq
    obtain ⟨⟨x50_0, x50_1, x50_2⟩, _⟩ := box3 (hcur.boxed 4 rfl)
    obtain ⟨⟨x51_0, x51_1, x51_2⟩, _⟩ := box3 (hcur.boxed 3 rfl)
    obtain ⟨⟨x52_0, x52_1, x52_2⟩, _⟩ := box3 (hcur.boxed 2 rfl)
    obtain ⟨⟨x53_0, x53_1, x53_2⟩, _⟩ := box3 (hcur.boxed 1 rfl)
    obtain ⟨⟨x54_0, x54_1, x54_2⟩, _⟩ := box3 (hcur.boxed 0 rfl)
    go_wp2_with (first
      | (go_at_call 13; ((with_reducible refine (hab _).mono ?_); rintro e w8 ⟨rfl, k8⟩; replace hcur := hcur.later k8; first | (obtain ⟨⟨x55_0, x55_1, x55_2⟩, _⟩ := box3 (hcur.boxed 4 rfl); obtain ⟨⟨x56_0, x56_1, x56_2⟩, _⟩ := box3 (hcur.boxed 3 rfl); obtain ⟨⟨x57_0, x57_1, x57_2⟩, _⟩ := box3 (hcur.boxed 2 rfl); obtain ⟨⟨x58_0, x58_1, x58_2⟩, _⟩ := box3 (hcur.boxed 1 rfl); obtain ⟨⟨x59_0, x59_1, x59_2⟩, _⟩ := box3 (hcur.boxed 0 rfl)) | (obtain ⟨⟨x60_0, x60_1, x60_2⟩, _⟩ := box3 (hcur.boxed 2 rfl); obtain ⟨⟨x61_0, x61_1, x61_2⟩, _⟩ := box3 (hcur.boxed 1 rfl); obtain ⟨⟨x62_0, x62_1, x62_2⟩, _⟩ := box3 (hcur.boxed 0 rfl))))

      | (go_at_call 17; (with_reducible refine (awake_c _).mono ?_); rintro e w10 ⟨rfl, k10⟩))
    go_ret
    exact ⟨rfl, (hcur.later k10).kept⟩
set_option maxHeartbeats 8000000 in
set_option maxRecDepth 100000 in
theorem order_true_false (w : World) (a b c x y : Am) (ab ba bc : Bool)
    (haa : ∀ w, Calls Try.prog 13 #[.agg #[.int .i64 a.c, .int .i64 a.m, .int .i64 a.d], .agg #[.int .i64 a.c, .int .i64 a.m, .int .i64 a.d]] w fun e w' => e = .returned (.bool true) ∧ Kept w w')
    (hab : ∀ w, Calls Try.prog 13 #[.agg #[.int .i64 a.c, .int .i64 a.m, .int .i64 a.d], .agg #[.int .i64 b.c, .int .i64 b.m, .int .i64 b.d]] w fun e w' => e = .returned (.bool ab) ∧ Kept w w')
    (hba : ∀ w, Calls Try.prog 13 #[.agg #[.int .i64 b.c, .int .i64 b.m, .int .i64 b.d], .agg #[.int .i64 a.c, .int .i64 a.m, .int .i64 a.d]] w fun e w' => e = .returned (.bool ba) ∧ Kept w w')
    (hbc : ∀ w, Calls Try.prog 13 #[.agg #[.int .i64 b.c, .int .i64 b.m, .int .i64 b.d], .agg #[.int .i64 c.c, .int .i64 c.m, .int .i64 c.d]] w fun e w' => e = .returned (.bool bc) ∧ Kept w w')
    (hac : ab = true → bc = true → ∀ w, Calls Try.prog 13 #[.agg #[.int .i64 a.c, .int .i64 a.m, .int .i64 a.d], .agg #[.int .i64 c.c, .int .i64 c.m, .int .i64 c.d]] w fun e w' => e = .returned (.bool true) ∧ Kept w w')
    (neq : ab = true → ba = true → ∀ w, (binOp .neq 23 (.agg #[.int .i64 a.c, .int .i64 a.m, .int .i64 a.d]) (.agg #[.int .i64 b.c, .int .i64 b.m, .int .i64 b.d])).run Try.prog w = .ok (.bool false) w)
    (h1 : ∀ w, Calls Try.prog 9 #[.agg #[.int .i64 a.c, .int .i64 a.m, .int .i64 a.d], .agg #[.int .i64 c.c, .int .i64 c.m, .int .i64 c.d]] w fun e w' => e = .returned (.tuple #[.agg #[.int .i64 x.c, .int .i64 x.m, .int .i64 x.d], .bool true]) ∧ Kept w w')
    (h2 : ∀ w, Calls Try.prog 9 #[.agg #[.int .i64 b.c, .int .i64 b.m, .int .i64 b.d], .agg #[.int .i64 c.c, .int .i64 c.m, .int .i64 c.d]] w fun e w' => e = .returned (.tuple #[.agg #[.int .i64 y.c, .int .i64 y.m, .int .i64 y.d], .bool false]) ∧ Kept w w')
 :
    Calls Try.prog 8 #[.agg #[.int .i64 a.c, .int .i64 a.m, .int .i64 a.d], .agg #[.int .i64 b.c, .int .i64 b.m, .int .i64 b.d], .agg #[.int .i64 c.c, .int .i64 c.m, .int .i64 c.d]] w fun e w' => e = .returned (.bool true) ∧ Kept w w' := by
  have hcur := own3 w #[.int .i64 a.c, .int .i64 a.m, .int .i64 a.d] #[.int .i64 b.c, .int .i64 b.m, .int .i64 b.d] #[.int .i64 c.c, .int .i64 c.m, .int .i64 c.d] 23
  rcases Bool.eq_false_or_eq_true ab with rfl | rfl
  · rcases Bool.eq_false_or_eq_true ba with rfl | rfl <;> rcases Bool.eq_false_or_eq_true bc with rfl | rfl <;> (
    go_enter Try.func8, Try.ntmps8
    go_wp2_with (first
      | (go_at_call 13; first
        | ((with_reducible refine (haa _).mono ?_); rintro e w1 ⟨rfl, k1⟩; replace hcur := hcur.later k1; first | (obtain ⟨⟨x63_0, x63_1, x63_2⟩, _⟩ := box3 (hcur.boxed 4 rfl); obtain ⟨⟨x64_0, x64_1, x64_2⟩, _⟩ := box3 (hcur.boxed 3 rfl); obtain ⟨⟨x65_0, x65_1, x65_2⟩, _⟩ := box3 (hcur.boxed 2 rfl); obtain ⟨⟨x66_0, x66_1, x66_2⟩, _⟩ := box3 (hcur.boxed 1 rfl); obtain ⟨⟨x67_0, x67_1, x67_2⟩, _⟩ := box3 (hcur.boxed 0 rfl)) | (obtain ⟨⟨x68_0, x68_1, x68_2⟩, _⟩ := box3 (hcur.boxed 2 rfl); obtain ⟨⟨x69_0, x69_1, x69_2⟩, _⟩ := box3 (hcur.boxed 1 rfl); obtain ⟨⟨x70_0, x70_1, x70_2⟩, _⟩ := box3 (hcur.boxed 0 rfl)))
        | ((with_reducible refine (hab _).mono ?_); rintro e w2 ⟨rfl, k2⟩; replace hcur := hcur.later k2; first | (obtain ⟨⟨x71_0, x71_1, x71_2⟩, _⟩ := box3 (hcur.boxed 4 rfl); obtain ⟨⟨x72_0, x72_1, x72_2⟩, _⟩ := box3 (hcur.boxed 3 rfl); obtain ⟨⟨x73_0, x73_1, x73_2⟩, _⟩ := box3 (hcur.boxed 2 rfl); obtain ⟨⟨x74_0, x74_1, x74_2⟩, _⟩ := box3 (hcur.boxed 1 rfl); obtain ⟨⟨x75_0, x75_1, x75_2⟩, _⟩ := box3 (hcur.boxed 0 rfl)) | (obtain ⟨⟨x76_0, x76_1, x76_2⟩, _⟩ := box3 (hcur.boxed 2 rfl); obtain ⟨⟨x77_0, x77_1, x77_2⟩, _⟩ := box3 (hcur.boxed 1 rfl); obtain ⟨⟨x78_0, x78_1, x78_2⟩, _⟩ := box3 (hcur.boxed 0 rfl)))
        | ((with_reducible refine (hba _).mono ?_); rintro e w3 ⟨rfl, k3⟩; replace hcur := hcur.later k3; first | (obtain ⟨⟨x79_0, x79_1, x79_2⟩, _⟩ := box3 (hcur.boxed 4 rfl); obtain ⟨⟨x80_0, x80_1, x80_2⟩, _⟩ := box3 (hcur.boxed 3 rfl); obtain ⟨⟨x81_0, x81_1, x81_2⟩, _⟩ := box3 (hcur.boxed 2 rfl); obtain ⟨⟨x82_0, x82_1, x82_2⟩, _⟩ := box3 (hcur.boxed 1 rfl); obtain ⟨⟨x83_0, x83_1, x83_2⟩, _⟩ := box3 (hcur.boxed 0 rfl)) | (obtain ⟨⟨x84_0, x84_1, x84_2⟩, _⟩ := box3 (hcur.boxed 2 rfl); obtain ⟨⟨x85_0, x85_1, x85_2⟩, _⟩ := box3 (hcur.boxed 1 rfl); obtain ⟨⟨x86_0, x86_1, x86_2⟩, _⟩ := box3 (hcur.boxed 0 rfl)))
        | ((with_reducible refine (hbc _).mono ?_); rintro e w4 ⟨rfl, k4⟩; replace hcur := hcur.later k4; first | (obtain ⟨⟨x87_0, x87_1, x87_2⟩, _⟩ := box3 (hcur.boxed 4 rfl); obtain ⟨⟨x88_0, x88_1, x88_2⟩, _⟩ := box3 (hcur.boxed 3 rfl); obtain ⟨⟨x89_0, x89_1, x89_2⟩, _⟩ := box3 (hcur.boxed 2 rfl); obtain ⟨⟨x90_0, x90_1, x90_2⟩, _⟩ := box3 (hcur.boxed 1 rfl); obtain ⟨⟨x91_0, x91_1, x91_2⟩, _⟩ := box3 (hcur.boxed 0 rfl)) | (obtain ⟨⟨x92_0, x92_1, x92_2⟩, _⟩ := box3 (hcur.boxed 2 rfl); obtain ⟨⟨x93_0, x93_1, x93_2⟩, _⟩ := box3 (hcur.boxed 1 rfl); obtain ⟨⟨x94_0, x94_1, x94_2⟩, _⟩ := box3 (hcur.boxed 0 rfl)))
        | ((with_reducible refine (hac (by trivial) (by trivial) _).mono ?_); rintro e w5 ⟨rfl, k5⟩; replace hcur := hcur.later k5; first | (obtain ⟨⟨x95_0, x95_1, x95_2⟩, _⟩ := box3 (hcur.boxed 4 rfl); obtain ⟨⟨x96_0, x96_1, x96_2⟩, _⟩ := box3 (hcur.boxed 3 rfl); obtain ⟨⟨x97_0, x97_1, x97_2⟩, _⟩ := box3 (hcur.boxed 2 rfl); obtain ⟨⟨x98_0, x98_1, x98_2⟩, _⟩ := box3 (hcur.boxed 1 rfl); obtain ⟨⟨x99_0, x99_1, x99_2⟩, _⟩ := box3 (hcur.boxed 0 rfl)) | (obtain ⟨⟨x100_0, x100_1, x100_2⟩, _⟩ := box3 (hcur.boxed 2 rfl); obtain ⟨⟨x101_0, x101_1, x101_2⟩, _⟩ := box3 (hcur.boxed 1 rfl); obtain ⟨⟨x102_0, x102_1, x102_2⟩, _⟩ := box3 (hcur.boxed 0 rfl))))
      | (go_at_call 9; first
        | ((with_reducible refine (h1 _).mono ?_); rintro e w6 ⟨rfl, k6⟩; replace hcur := (hcur.later k6).box #[.int .i64 x.c, .int .i64 x.m, .int .i64 x.d] 23; obtain ⟨⟨x103_0, x103_1, x103_2⟩, _⟩ := box3 (hcur.boxed 3 rfl); obtain ⟨⟨x104_0, x104_1, x104_2⟩, _⟩ := box3 (hcur.boxed 2 rfl); obtain ⟨⟨x105_0, x105_1, x105_2⟩, _⟩ := box3 (hcur.boxed 1 rfl); obtain ⟨⟨x106_0, x106_1, x106_2⟩, _⟩ := box3 (hcur.boxed 0 rfl))
        | ((with_reducible refine (h2 _).mono ?_); rintro e w7 ⟨rfl, k7⟩; replace hcur := (hcur.later k7).box #[.int .i64 y.c, .int .i64 y.m, .int .i64 y.d] 23; obtain ⟨⟨x107_0, x107_1, x107_2⟩, _⟩ := box3 (hcur.boxed 4 rfl); obtain ⟨⟨x108_0, x108_1, x108_2⟩, _⟩ := box3 (hcur.boxed 3 rfl); obtain ⟨⟨x109_0, x109_1, x109_2⟩, _⟩ := box3 (hcur.boxed 2 rfl); obtain ⟨⟨x110_0, x110_1, x110_2⟩, _⟩ := box3 (hcur.boxed 1 rfl); obtain ⟨⟨x111_0, x111_1, x111_2⟩, _⟩ := box3 (hcur.boxed 0 rfl))))
    go_quiet (fail)
    replace hcur := hcur.drewN nq
    obtain ⟨⟨x112_0, x112_1, x112_2⟩, _⟩ := box3 (hcur.boxed 4 rfl)
    obtain ⟨⟨x113_0, x113_1, x113_2⟩, _⟩ := box3 (hcur.boxed 3 rfl)
    obtain ⟨⟨x114_0, x114_1, x114_2⟩, _⟩ := box3 (hcur.boxed 2 rfl)
    obtain ⟨⟨x115_0, x115_1, x115_2⟩, _⟩ := box3 (hcur.boxed 1 rfl)
    obtain ⟨⟨x116_0, x116_1, x116_2⟩, _⟩ := box3 (hcur.boxed 0 rfl)
    go_wp2_with (first
      | (go_at_call 13; ((with_reducible refine (hab _).mono ?_); rintro e w8 ⟨rfl, k8⟩; replace hcur := hcur.later k8; first | (obtain ⟨⟨x117_0, x117_1, x117_2⟩, _⟩ := box3 (hcur.boxed 4 rfl); obtain ⟨⟨x118_0, x118_1, x118_2⟩, _⟩ := box3 (hcur.boxed 3 rfl); obtain ⟨⟨x119_0, x119_1, x119_2⟩, _⟩ := box3 (hcur.boxed 2 rfl); obtain ⟨⟨x120_0, x120_1, x120_2⟩, _⟩ := box3 (hcur.boxed 1 rfl); obtain ⟨⟨x121_0, x121_1, x121_2⟩, _⟩ := box3 (hcur.boxed 0 rfl)) | (obtain ⟨⟨x122_0, x122_1, x122_2⟩, _⟩ := box3 (hcur.boxed 2 rfl); obtain ⟨⟨x123_0, x123_1, x123_2⟩, _⟩ := box3 (hcur.boxed 1 rfl); obtain ⟨⟨x124_0, x124_1, x124_2⟩, _⟩ := box3 (hcur.boxed 0 rfl))))

      | (go_at_call 17; (with_reducible refine (awake_c _).mono ?_); rintro e w10 ⟨rfl, k10⟩))
    go_ret
    exact ⟨rfl, (hcur.later k10).kept⟩)
  · clear hac neq
    go_enter Try.func8, Try.ntmps8
    go_wp2_with (first
      | (go_at_call 13; first
        | ((with_reducible refine (haa _).mono ?_); rintro e w1 ⟨rfl, k1⟩; replace hcur := hcur.later k1; first | (obtain ⟨⟨x63_0, x63_1, x63_2⟩, _⟩ := box3 (hcur.boxed 4 rfl); obtain ⟨⟨x64_0, x64_1, x64_2⟩, _⟩ := box3 (hcur.boxed 3 rfl); obtain ⟨⟨x65_0, x65_1, x65_2⟩, _⟩ := box3 (hcur.boxed 2 rfl); obtain ⟨⟨x66_0, x66_1, x66_2⟩, _⟩ := box3 (hcur.boxed 1 rfl); obtain ⟨⟨x67_0, x67_1, x67_2⟩, _⟩ := box3 (hcur.boxed 0 rfl)) | (obtain ⟨⟨x68_0, x68_1, x68_2⟩, _⟩ := box3 (hcur.boxed 2 rfl); obtain ⟨⟨x69_0, x69_1, x69_2⟩, _⟩ := box3 (hcur.boxed 1 rfl); obtain ⟨⟨x70_0, x70_1, x70_2⟩, _⟩ := box3 (hcur.boxed 0 rfl)))
        | ((with_reducible refine (hab _).mono ?_); rintro e w2 ⟨rfl, k2⟩; replace hcur := hcur.later k2; first | (obtain ⟨⟨x71_0, x71_1, x71_2⟩, _⟩ := box3 (hcur.boxed 4 rfl); obtain ⟨⟨x72_0, x72_1, x72_2⟩, _⟩ := box3 (hcur.boxed 3 rfl); obtain ⟨⟨x73_0, x73_1, x73_2⟩, _⟩ := box3 (hcur.boxed 2 rfl); obtain ⟨⟨x74_0, x74_1, x74_2⟩, _⟩ := box3 (hcur.boxed 1 rfl); obtain ⟨⟨x75_0, x75_1, x75_2⟩, _⟩ := box3 (hcur.boxed 0 rfl)) | (obtain ⟨⟨x76_0, x76_1, x76_2⟩, _⟩ := box3 (hcur.boxed 2 rfl); obtain ⟨⟨x77_0, x77_1, x77_2⟩, _⟩ := box3 (hcur.boxed 1 rfl); obtain ⟨⟨x78_0, x78_1, x78_2⟩, _⟩ := box3 (hcur.boxed 0 rfl)))
        | ((with_reducible refine (hba _).mono ?_); rintro e w3 ⟨rfl, k3⟩; replace hcur := hcur.later k3; first | (obtain ⟨⟨x79_0, x79_1, x79_2⟩, _⟩ := box3 (hcur.boxed 4 rfl); obtain ⟨⟨x80_0, x80_1, x80_2⟩, _⟩ := box3 (hcur.boxed 3 rfl); obtain ⟨⟨x81_0, x81_1, x81_2⟩, _⟩ := box3 (hcur.boxed 2 rfl); obtain ⟨⟨x82_0, x82_1, x82_2⟩, _⟩ := box3 (hcur.boxed 1 rfl); obtain ⟨⟨x83_0, x83_1, x83_2⟩, _⟩ := box3 (hcur.boxed 0 rfl)) | (obtain ⟨⟨x84_0, x84_1, x84_2⟩, _⟩ := box3 (hcur.boxed 2 rfl); obtain ⟨⟨x85_0, x85_1, x85_2⟩, _⟩ := box3 (hcur.boxed 1 rfl); obtain ⟨⟨x86_0, x86_1, x86_2⟩, _⟩ := box3 (hcur.boxed 0 rfl)))
        | ((with_reducible refine (hbc _).mono ?_); rintro e w4 ⟨rfl, k4⟩; replace hcur := hcur.later k4; first | (obtain ⟨⟨x87_0, x87_1, x87_2⟩, _⟩ := box3 (hcur.boxed 4 rfl); obtain ⟨⟨x88_0, x88_1, x88_2⟩, _⟩ := box3 (hcur.boxed 3 rfl); obtain ⟨⟨x89_0, x89_1, x89_2⟩, _⟩ := box3 (hcur.boxed 2 rfl); obtain ⟨⟨x90_0, x90_1, x90_2⟩, _⟩ := box3 (hcur.boxed 1 rfl); obtain ⟨⟨x91_0, x91_1, x91_2⟩, _⟩ := box3 (hcur.boxed 0 rfl)) | (obtain ⟨⟨x92_0, x92_1, x92_2⟩, _⟩ := box3 (hcur.boxed 2 rfl); obtain ⟨⟨x93_0, x93_1, x93_2⟩, _⟩ := box3 (hcur.boxed 1 rfl); obtain ⟨⟨x94_0, x94_1, x94_2⟩, _⟩ := box3 (hcur.boxed 0 rfl)))
        | ((with_reducible refine (hac (by trivial) (by trivial) _).mono ?_); rintro e w5 ⟨rfl, k5⟩; replace hcur := hcur.later k5; first | (obtain ⟨⟨x95_0, x95_1, x95_2⟩, _⟩ := box3 (hcur.boxed 4 rfl); obtain ⟨⟨x96_0, x96_1, x96_2⟩, _⟩ := box3 (hcur.boxed 3 rfl); obtain ⟨⟨x97_0, x97_1, x97_2⟩, _⟩ := box3 (hcur.boxed 2 rfl); obtain ⟨⟨x98_0, x98_1, x98_2⟩, _⟩ := box3 (hcur.boxed 1 rfl); obtain ⟨⟨x99_0, x99_1, x99_2⟩, _⟩ := box3 (hcur.boxed 0 rfl)) | (obtain ⟨⟨x100_0, x100_1, x100_2⟩, _⟩ := box3 (hcur.boxed 2 rfl); obtain ⟨⟨x101_0, x101_1, x101_2⟩, _⟩ := box3 (hcur.boxed 1 rfl); obtain ⟨⟨x102_0, x102_1, x102_2⟩, _⟩ := box3 (hcur.boxed 0 rfl))))
      | (go_at_call 9; first
        | ((with_reducible refine (h1 _).mono ?_); rintro e w6 ⟨rfl, k6⟩; replace hcur := (hcur.later k6).box #[.int .i64 x.c, .int .i64 x.m, .int .i64 x.d] 23; obtain ⟨⟨x103_0, x103_1, x103_2⟩, _⟩ := box3 (hcur.boxed 3 rfl); obtain ⟨⟨x104_0, x104_1, x104_2⟩, _⟩ := box3 (hcur.boxed 2 rfl); obtain ⟨⟨x105_0, x105_1, x105_2⟩, _⟩ := box3 (hcur.boxed 1 rfl); obtain ⟨⟨x106_0, x106_1, x106_2⟩, _⟩ := box3 (hcur.boxed 0 rfl))
        | ((with_reducible refine (h2 _).mono ?_); rintro e w7 ⟨rfl, k7⟩; replace hcur := (hcur.later k7).box #[.int .i64 y.c, .int .i64 y.m, .int .i64 y.d] 23; obtain ⟨⟨x107_0, x107_1, x107_2⟩, _⟩ := box3 (hcur.boxed 4 rfl); obtain ⟨⟨x108_0, x108_1, x108_2⟩, _⟩ := box3 (hcur.boxed 3 rfl); obtain ⟨⟨x109_0, x109_1, x109_2⟩, _⟩ := box3 (hcur.boxed 2 rfl); obtain ⟨⟨x110_0, x110_1, x110_2⟩, _⟩ := box3 (hcur.boxed 1 rfl); obtain ⟨⟨x111_0, x111_1, x111_2⟩, _⟩ := box3 (hcur.boxed 0 rfl))))
    go_quiet (fail)
    replace hcur := hcur.drewN nq
    obtain ⟨⟨x112_0, x112_1, x112_2⟩, _⟩ := box3 (hcur.boxed 4 rfl)
    obtain ⟨⟨x113_0, x113_1, x113_2⟩, _⟩ := box3 (hcur.boxed 3 rfl)
    obtain ⟨⟨x114_0, x114_1, x114_2⟩, _⟩ := box3 (hcur.boxed 2 rfl)
    obtain ⟨⟨x115_0, x115_1, x115_2⟩, _⟩ := box3 (hcur.boxed 1 rfl)
    obtain ⟨⟨x116_0, x116_1, x116_2⟩, _⟩ := box3 (hcur.boxed 0 rfl)
    go_wp2_with (first
      | (go_at_call 13; ((with_reducible refine (hab _).mono ?_); rintro e w8 ⟨rfl, k8⟩; replace hcur := hcur.later k8; first | (obtain ⟨⟨x117_0, x117_1, x117_2⟩, _⟩ := box3 (hcur.boxed 4 rfl); obtain ⟨⟨x118_0, x118_1, x118_2⟩, _⟩ := box3 (hcur.boxed 3 rfl); obtain ⟨⟨x119_0, x119_1, x119_2⟩, _⟩ := box3 (hcur.boxed 2 rfl); obtain ⟨⟨x120_0, x120_1, x120_2⟩, _⟩ := box3 (hcur.boxed 1 rfl); obtain ⟨⟨x121_0, x121_1, x121_2⟩, _⟩ := box3 (hcur.boxed 0 rfl)) | (obtain ⟨⟨x122_0, x122_1, x122_2⟩, _⟩ := box3 (hcur.boxed 2 rfl); obtain ⟨⟨x123_0, x123_1, x123_2⟩, _⟩ := box3 (hcur.boxed 1 rfl); obtain ⟨⟨x124_0, x124_1, x124_2⟩, _⟩ := box3 (hcur.boxed 0 rfl))))

      | (go_at_call 17; (with_reducible refine (awake_c _).mono ?_); rintro e w10 ⟨rfl, k10⟩))
    go_ret
    exact ⟨rfl, (hcur.later k10).kept⟩
set_option maxHeartbeats 8000000 in
set_option maxRecDepth 100000 in
theorem order_false_true (w : World) (a b c x y : Am) (ab ba bc : Bool)
    (haa : ∀ w, Calls Try.prog 13 #[.agg #[.int .i64 a.c, .int .i64 a.m, .int .i64 a.d], .agg #[.int .i64 a.c, .int .i64 a.m, .int .i64 a.d]] w fun e w' => e = .returned (.bool true) ∧ Kept w w')
    (hab : ∀ w, Calls Try.prog 13 #[.agg #[.int .i64 a.c, .int .i64 a.m, .int .i64 a.d], .agg #[.int .i64 b.c, .int .i64 b.m, .int .i64 b.d]] w fun e w' => e = .returned (.bool ab) ∧ Kept w w')
    (hba : ∀ w, Calls Try.prog 13 #[.agg #[.int .i64 b.c, .int .i64 b.m, .int .i64 b.d], .agg #[.int .i64 a.c, .int .i64 a.m, .int .i64 a.d]] w fun e w' => e = .returned (.bool ba) ∧ Kept w w')
    (hbc : ∀ w, Calls Try.prog 13 #[.agg #[.int .i64 b.c, .int .i64 b.m, .int .i64 b.d], .agg #[.int .i64 c.c, .int .i64 c.m, .int .i64 c.d]] w fun e w' => e = .returned (.bool bc) ∧ Kept w w')
    (hac : ab = true → bc = true → ∀ w, Calls Try.prog 13 #[.agg #[.int .i64 a.c, .int .i64 a.m, .int .i64 a.d], .agg #[.int .i64 c.c, .int .i64 c.m, .int .i64 c.d]] w fun e w' => e = .returned (.bool true) ∧ Kept w w')
    (neq : ab = true → ba = true → ∀ w, (binOp .neq 23 (.agg #[.int .i64 a.c, .int .i64 a.m, .int .i64 a.d]) (.agg #[.int .i64 b.c, .int .i64 b.m, .int .i64 b.d])).run Try.prog w = .ok (.bool false) w)
    (h1 : ∀ w, Calls Try.prog 9 #[.agg #[.int .i64 a.c, .int .i64 a.m, .int .i64 a.d], .agg #[.int .i64 c.c, .int .i64 c.m, .int .i64 c.d]] w fun e w' => e = .returned (.tuple #[.agg #[.int .i64 x.c, .int .i64 x.m, .int .i64 x.d], .bool false]) ∧ Kept w w')
    (h2 : ∀ w, Calls Try.prog 9 #[.agg #[.int .i64 b.c, .int .i64 b.m, .int .i64 b.d], .agg #[.int .i64 c.c, .int .i64 c.m, .int .i64 c.d]] w fun e w' => e = .returned (.tuple #[.agg #[.int .i64 y.c, .int .i64 y.m, .int .i64 y.d], .bool true]) ∧ Kept w w')
    (hca : ab = true → ∀ w, Calls Try.prog 11 #[.agg #[.int .i64 a.c, .int .i64 a.m, .int .i64 a.d]] w fun e w' => e = .returned (.int .i64 3) ∧ Kept w w') :
    Calls Try.prog 8 #[.agg #[.int .i64 a.c, .int .i64 a.m, .int .i64 a.d], .agg #[.int .i64 b.c, .int .i64 b.m, .int .i64 b.d], .agg #[.int .i64 c.c, .int .i64 c.m, .int .i64 c.d]] w fun e w' => e = .returned (.bool true) ∧ Kept w w' := by
  have hcur := own3 w #[.int .i64 a.c, .int .i64 a.m, .int .i64 a.d] #[.int .i64 b.c, .int .i64 b.m, .int .i64 b.d] #[.int .i64 c.c, .int .i64 c.m, .int .i64 c.d] 23
  rcases Bool.eq_false_or_eq_true ab with rfl | rfl
  · rcases Bool.eq_false_or_eq_true ba with rfl | rfl <;> rcases Bool.eq_false_or_eq_true bc with rfl | rfl <;> (
    go_enter Try.func8, Try.ntmps8
    go_wp2_with (first
      | (go_at_call 13; first
        | ((with_reducible refine (haa _).mono ?_); rintro e w1 ⟨rfl, k1⟩; replace hcur := hcur.later k1; first | (obtain ⟨⟨x125_0, x125_1, x125_2⟩, _⟩ := box3 (hcur.boxed 4 rfl); obtain ⟨⟨x126_0, x126_1, x126_2⟩, _⟩ := box3 (hcur.boxed 3 rfl); obtain ⟨⟨x127_0, x127_1, x127_2⟩, _⟩ := box3 (hcur.boxed 2 rfl); obtain ⟨⟨x128_0, x128_1, x128_2⟩, _⟩ := box3 (hcur.boxed 1 rfl); obtain ⟨⟨x129_0, x129_1, x129_2⟩, _⟩ := box3 (hcur.boxed 0 rfl)) | (obtain ⟨⟨x130_0, x130_1, x130_2⟩, _⟩ := box3 (hcur.boxed 2 rfl); obtain ⟨⟨x131_0, x131_1, x131_2⟩, _⟩ := box3 (hcur.boxed 1 rfl); obtain ⟨⟨x132_0, x132_1, x132_2⟩, _⟩ := box3 (hcur.boxed 0 rfl)))
        | ((with_reducible refine (hab _).mono ?_); rintro e w2 ⟨rfl, k2⟩; replace hcur := hcur.later k2; first | (obtain ⟨⟨x133_0, x133_1, x133_2⟩, _⟩ := box3 (hcur.boxed 4 rfl); obtain ⟨⟨x134_0, x134_1, x134_2⟩, _⟩ := box3 (hcur.boxed 3 rfl); obtain ⟨⟨x135_0, x135_1, x135_2⟩, _⟩ := box3 (hcur.boxed 2 rfl); obtain ⟨⟨x136_0, x136_1, x136_2⟩, _⟩ := box3 (hcur.boxed 1 rfl); obtain ⟨⟨x137_0, x137_1, x137_2⟩, _⟩ := box3 (hcur.boxed 0 rfl)) | (obtain ⟨⟨x138_0, x138_1, x138_2⟩, _⟩ := box3 (hcur.boxed 2 rfl); obtain ⟨⟨x139_0, x139_1, x139_2⟩, _⟩ := box3 (hcur.boxed 1 rfl); obtain ⟨⟨x140_0, x140_1, x140_2⟩, _⟩ := box3 (hcur.boxed 0 rfl)))
        | ((with_reducible refine (hba _).mono ?_); rintro e w3 ⟨rfl, k3⟩; replace hcur := hcur.later k3; first | (obtain ⟨⟨x141_0, x141_1, x141_2⟩, _⟩ := box3 (hcur.boxed 4 rfl); obtain ⟨⟨x142_0, x142_1, x142_2⟩, _⟩ := box3 (hcur.boxed 3 rfl); obtain ⟨⟨x143_0, x143_1, x143_2⟩, _⟩ := box3 (hcur.boxed 2 rfl); obtain ⟨⟨x144_0, x144_1, x144_2⟩, _⟩ := box3 (hcur.boxed 1 rfl); obtain ⟨⟨x145_0, x145_1, x145_2⟩, _⟩ := box3 (hcur.boxed 0 rfl)) | (obtain ⟨⟨x146_0, x146_1, x146_2⟩, _⟩ := box3 (hcur.boxed 2 rfl); obtain ⟨⟨x147_0, x147_1, x147_2⟩, _⟩ := box3 (hcur.boxed 1 rfl); obtain ⟨⟨x148_0, x148_1, x148_2⟩, _⟩ := box3 (hcur.boxed 0 rfl)))
        | ((with_reducible refine (hbc _).mono ?_); rintro e w4 ⟨rfl, k4⟩; replace hcur := hcur.later k4; first | (obtain ⟨⟨x149_0, x149_1, x149_2⟩, _⟩ := box3 (hcur.boxed 4 rfl); obtain ⟨⟨x150_0, x150_1, x150_2⟩, _⟩ := box3 (hcur.boxed 3 rfl); obtain ⟨⟨x151_0, x151_1, x151_2⟩, _⟩ := box3 (hcur.boxed 2 rfl); obtain ⟨⟨x152_0, x152_1, x152_2⟩, _⟩ := box3 (hcur.boxed 1 rfl); obtain ⟨⟨x153_0, x153_1, x153_2⟩, _⟩ := box3 (hcur.boxed 0 rfl)) | (obtain ⟨⟨x154_0, x154_1, x154_2⟩, _⟩ := box3 (hcur.boxed 2 rfl); obtain ⟨⟨x155_0, x155_1, x155_2⟩, _⟩ := box3 (hcur.boxed 1 rfl); obtain ⟨⟨x156_0, x156_1, x156_2⟩, _⟩ := box3 (hcur.boxed 0 rfl)))
        | ((with_reducible refine (hac (by trivial) (by trivial) _).mono ?_); rintro e w5 ⟨rfl, k5⟩; replace hcur := hcur.later k5; first | (obtain ⟨⟨x157_0, x157_1, x157_2⟩, _⟩ := box3 (hcur.boxed 4 rfl); obtain ⟨⟨x158_0, x158_1, x158_2⟩, _⟩ := box3 (hcur.boxed 3 rfl); obtain ⟨⟨x159_0, x159_1, x159_2⟩, _⟩ := box3 (hcur.boxed 2 rfl); obtain ⟨⟨x160_0, x160_1, x160_2⟩, _⟩ := box3 (hcur.boxed 1 rfl); obtain ⟨⟨x161_0, x161_1, x161_2⟩, _⟩ := box3 (hcur.boxed 0 rfl)) | (obtain ⟨⟨x162_0, x162_1, x162_2⟩, _⟩ := box3 (hcur.boxed 2 rfl); obtain ⟨⟨x163_0, x163_1, x163_2⟩, _⟩ := box3 (hcur.boxed 1 rfl); obtain ⟨⟨x164_0, x164_1, x164_2⟩, _⟩ := box3 (hcur.boxed 0 rfl))))
      | (go_at_call 9; first
        | ((with_reducible refine (h1 _).mono ?_); rintro e w6 ⟨rfl, k6⟩; replace hcur := (hcur.later k6).box #[.int .i64 x.c, .int .i64 x.m, .int .i64 x.d] 23; obtain ⟨⟨x165_0, x165_1, x165_2⟩, _⟩ := box3 (hcur.boxed 3 rfl); obtain ⟨⟨x166_0, x166_1, x166_2⟩, _⟩ := box3 (hcur.boxed 2 rfl); obtain ⟨⟨x167_0, x167_1, x167_2⟩, _⟩ := box3 (hcur.boxed 1 rfl); obtain ⟨⟨x168_0, x168_1, x168_2⟩, _⟩ := box3 (hcur.boxed 0 rfl))
        | ((with_reducible refine (h2 _).mono ?_); rintro e w7 ⟨rfl, k7⟩; replace hcur := (hcur.later k7).box #[.int .i64 y.c, .int .i64 y.m, .int .i64 y.d] 23; obtain ⟨⟨x169_0, x169_1, x169_2⟩, _⟩ := box3 (hcur.boxed 4 rfl); obtain ⟨⟨x170_0, x170_1, x170_2⟩, _⟩ := box3 (hcur.boxed 3 rfl); obtain ⟨⟨x171_0, x171_1, x171_2⟩, _⟩ := box3 (hcur.boxed 2 rfl); obtain ⟨⟨x172_0, x172_1, x172_2⟩, _⟩ := box3 (hcur.boxed 1 rfl); obtain ⟨⟨x173_0, x173_1, x173_2⟩, _⟩ := box3 (hcur.boxed 0 rfl))))
    go_quiet (fail)
    replace hcur := hcur.drewN nq
    obtain ⟨⟨x174_0, x174_1, x174_2⟩, _⟩ := box3 (hcur.boxed 4 rfl)
    obtain ⟨⟨x175_0, x175_1, x175_2⟩, _⟩ := box3 (hcur.boxed 3 rfl)
    obtain ⟨⟨x176_0, x176_1, x176_2⟩, _⟩ := box3 (hcur.boxed 2 rfl)
    obtain ⟨⟨x177_0, x177_1, x177_2⟩, _⟩ := box3 (hcur.boxed 1 rfl)
    obtain ⟨⟨x178_0, x178_1, x178_2⟩, _⟩ := box3 (hcur.boxed 0 rfl)
    go_wp2_with (first
      | (go_at_call 13; ((with_reducible refine (hab _).mono ?_); rintro e w8 ⟨rfl, k8⟩; replace hcur := hcur.later k8; first | (obtain ⟨⟨x179_0, x179_1, x179_2⟩, _⟩ := box3 (hcur.boxed 4 rfl); obtain ⟨⟨x180_0, x180_1, x180_2⟩, _⟩ := box3 (hcur.boxed 3 rfl); obtain ⟨⟨x181_0, x181_1, x181_2⟩, _⟩ := box3 (hcur.boxed 2 rfl); obtain ⟨⟨x182_0, x182_1, x182_2⟩, _⟩ := box3 (hcur.boxed 1 rfl); obtain ⟨⟨x183_0, x183_1, x183_2⟩, _⟩ := box3 (hcur.boxed 0 rfl)) | (obtain ⟨⟨x184_0, x184_1, x184_2⟩, _⟩ := box3 (hcur.boxed 2 rfl); obtain ⟨⟨x185_0, x185_1, x185_2⟩, _⟩ := box3 (hcur.boxed 1 rfl); obtain ⟨⟨x186_0, x186_1, x186_2⟩, _⟩ := box3 (hcur.boxed 0 rfl))))
      | (go_at_call 11; ((with_reducible refine (hca (by trivial) _).mono ?_); rintro e w9 ⟨rfl, k9⟩; replace hcur := hcur.later k9; first | (obtain ⟨⟨x187_0, x187_1, x187_2⟩, _⟩ := box3 (hcur.boxed 4 rfl); obtain ⟨⟨x188_0, x188_1, x188_2⟩, _⟩ := box3 (hcur.boxed 3 rfl); obtain ⟨⟨x189_0, x189_1, x189_2⟩, _⟩ := box3 (hcur.boxed 2 rfl); obtain ⟨⟨x190_0, x190_1, x190_2⟩, _⟩ := box3 (hcur.boxed 1 rfl); obtain ⟨⟨x191_0, x191_1, x191_2⟩, _⟩ := box3 (hcur.boxed 0 rfl)) | (obtain ⟨⟨x192_0, x192_1, x192_2⟩, _⟩ := box3 (hcur.boxed 2 rfl); obtain ⟨⟨x193_0, x193_1, x193_2⟩, _⟩ := box3 (hcur.boxed 1 rfl); obtain ⟨⟨x194_0, x194_1, x194_2⟩, _⟩ := box3 (hcur.boxed 0 rfl))))
      | (go_at_call 17; (with_reducible refine (awake_c _).mono ?_); rintro e w10 ⟨rfl, k10⟩))
    go_ret
    exact ⟨rfl, (hcur.later k10).kept⟩)
  · clear hac neq hca
    go_enter Try.func8, Try.ntmps8
    go_wp2_with (first
      | (go_at_call 13; first
        | ((with_reducible refine (haa _).mono ?_); rintro e w1 ⟨rfl, k1⟩; replace hcur := hcur.later k1; first | (obtain ⟨⟨x125_0, x125_1, x125_2⟩, _⟩ := box3 (hcur.boxed 4 rfl); obtain ⟨⟨x126_0, x126_1, x126_2⟩, _⟩ := box3 (hcur.boxed 3 rfl); obtain ⟨⟨x127_0, x127_1, x127_2⟩, _⟩ := box3 (hcur.boxed 2 rfl); obtain ⟨⟨x128_0, x128_1, x128_2⟩, _⟩ := box3 (hcur.boxed 1 rfl); obtain ⟨⟨x129_0, x129_1, x129_2⟩, _⟩ := box3 (hcur.boxed 0 rfl)) | (obtain ⟨⟨x130_0, x130_1, x130_2⟩, _⟩ := box3 (hcur.boxed 2 rfl); obtain ⟨⟨x131_0, x131_1, x131_2⟩, _⟩ := box3 (hcur.boxed 1 rfl); obtain ⟨⟨x132_0, x132_1, x132_2⟩, _⟩ := box3 (hcur.boxed 0 rfl)))
        | ((with_reducible refine (hab _).mono ?_); rintro e w2 ⟨rfl, k2⟩; replace hcur := hcur.later k2; first | (obtain ⟨⟨x133_0, x133_1, x133_2⟩, _⟩ := box3 (hcur.boxed 4 rfl); obtain ⟨⟨x134_0, x134_1, x134_2⟩, _⟩ := box3 (hcur.boxed 3 rfl); obtain ⟨⟨x135_0, x135_1, x135_2⟩, _⟩ := box3 (hcur.boxed 2 rfl); obtain ⟨⟨x136_0, x136_1, x136_2⟩, _⟩ := box3 (hcur.boxed 1 rfl); obtain ⟨⟨x137_0, x137_1, x137_2⟩, _⟩ := box3 (hcur.boxed 0 rfl)) | (obtain ⟨⟨x138_0, x138_1, x138_2⟩, _⟩ := box3 (hcur.boxed 2 rfl); obtain ⟨⟨x139_0, x139_1, x139_2⟩, _⟩ := box3 (hcur.boxed 1 rfl); obtain ⟨⟨x140_0, x140_1, x140_2⟩, _⟩ := box3 (hcur.boxed 0 rfl)))
        | ((with_reducible refine (hba _).mono ?_); rintro e w3 ⟨rfl, k3⟩; replace hcur := hcur.later k3; first | (obtain ⟨⟨x141_0, x141_1, x141_2⟩, _⟩ := box3 (hcur.boxed 4 rfl); obtain ⟨⟨x142_0, x142_1, x142_2⟩, _⟩ := box3 (hcur.boxed 3 rfl); obtain ⟨⟨x143_0, x143_1, x143_2⟩, _⟩ := box3 (hcur.boxed 2 rfl); obtain ⟨⟨x144_0, x144_1, x144_2⟩, _⟩ := box3 (hcur.boxed 1 rfl); obtain ⟨⟨x145_0, x145_1, x145_2⟩, _⟩ := box3 (hcur.boxed 0 rfl)) | (obtain ⟨⟨x146_0, x146_1, x146_2⟩, _⟩ := box3 (hcur.boxed 2 rfl); obtain ⟨⟨x147_0, x147_1, x147_2⟩, _⟩ := box3 (hcur.boxed 1 rfl); obtain ⟨⟨x148_0, x148_1, x148_2⟩, _⟩ := box3 (hcur.boxed 0 rfl)))
        | ((with_reducible refine (hbc _).mono ?_); rintro e w4 ⟨rfl, k4⟩; replace hcur := hcur.later k4; first | (obtain ⟨⟨x149_0, x149_1, x149_2⟩, _⟩ := box3 (hcur.boxed 4 rfl); obtain ⟨⟨x150_0, x150_1, x150_2⟩, _⟩ := box3 (hcur.boxed 3 rfl); obtain ⟨⟨x151_0, x151_1, x151_2⟩, _⟩ := box3 (hcur.boxed 2 rfl); obtain ⟨⟨x152_0, x152_1, x152_2⟩, _⟩ := box3 (hcur.boxed 1 rfl); obtain ⟨⟨x153_0, x153_1, x153_2⟩, _⟩ := box3 (hcur.boxed 0 rfl)) | (obtain ⟨⟨x154_0, x154_1, x154_2⟩, _⟩ := box3 (hcur.boxed 2 rfl); obtain ⟨⟨x155_0, x155_1, x155_2⟩, _⟩ := box3 (hcur.boxed 1 rfl); obtain ⟨⟨x156_0, x156_1, x156_2⟩, _⟩ := box3 (hcur.boxed 0 rfl)))
        | ((with_reducible refine (hac (by trivial) (by trivial) _).mono ?_); rintro e w5 ⟨rfl, k5⟩; replace hcur := hcur.later k5; first | (obtain ⟨⟨x157_0, x157_1, x157_2⟩, _⟩ := box3 (hcur.boxed 4 rfl); obtain ⟨⟨x158_0, x158_1, x158_2⟩, _⟩ := box3 (hcur.boxed 3 rfl); obtain ⟨⟨x159_0, x159_1, x159_2⟩, _⟩ := box3 (hcur.boxed 2 rfl); obtain ⟨⟨x160_0, x160_1, x160_2⟩, _⟩ := box3 (hcur.boxed 1 rfl); obtain ⟨⟨x161_0, x161_1, x161_2⟩, _⟩ := box3 (hcur.boxed 0 rfl)) | (obtain ⟨⟨x162_0, x162_1, x162_2⟩, _⟩ := box3 (hcur.boxed 2 rfl); obtain ⟨⟨x163_0, x163_1, x163_2⟩, _⟩ := box3 (hcur.boxed 1 rfl); obtain ⟨⟨x164_0, x164_1, x164_2⟩, _⟩ := box3 (hcur.boxed 0 rfl))))
      | (go_at_call 9; first
        | ((with_reducible refine (h1 _).mono ?_); rintro e w6 ⟨rfl, k6⟩; replace hcur := (hcur.later k6).box #[.int .i64 x.c, .int .i64 x.m, .int .i64 x.d] 23; obtain ⟨⟨x165_0, x165_1, x165_2⟩, _⟩ := box3 (hcur.boxed 3 rfl); obtain ⟨⟨x166_0, x166_1, x166_2⟩, _⟩ := box3 (hcur.boxed 2 rfl); obtain ⟨⟨x167_0, x167_1, x167_2⟩, _⟩ := box3 (hcur.boxed 1 rfl); obtain ⟨⟨x168_0, x168_1, x168_2⟩, _⟩ := box3 (hcur.boxed 0 rfl))
        | ((with_reducible refine (h2 _).mono ?_); rintro e w7 ⟨rfl, k7⟩; replace hcur := (hcur.later k7).box #[.int .i64 y.c, .int .i64 y.m, .int .i64 y.d] 23; obtain ⟨⟨x169_0, x169_1, x169_2⟩, _⟩ := box3 (hcur.boxed 4 rfl); obtain ⟨⟨x170_0, x170_1, x170_2⟩, _⟩ := box3 (hcur.boxed 3 rfl); obtain ⟨⟨x171_0, x171_1, x171_2⟩, _⟩ := box3 (hcur.boxed 2 rfl); obtain ⟨⟨x172_0, x172_1, x172_2⟩, _⟩ := box3 (hcur.boxed 1 rfl); obtain ⟨⟨x173_0, x173_1, x173_2⟩, _⟩ := box3 (hcur.boxed 0 rfl))))
    go_quiet (fail)
    replace hcur := hcur.drewN nq
    obtain ⟨⟨x174_0, x174_1, x174_2⟩, _⟩ := box3 (hcur.boxed 4 rfl)
    obtain ⟨⟨x175_0, x175_1, x175_2⟩, _⟩ := box3 (hcur.boxed 3 rfl)
    obtain ⟨⟨x176_0, x176_1, x176_2⟩, _⟩ := box3 (hcur.boxed 2 rfl)
    obtain ⟨⟨x177_0, x177_1, x177_2⟩, _⟩ := box3 (hcur.boxed 1 rfl)
    obtain ⟨⟨x178_0, x178_1, x178_2⟩, _⟩ := box3 (hcur.boxed 0 rfl)
    go_wp2_with (first
      | (go_at_call 13; ((with_reducible refine (hab _).mono ?_); rintro e w8 ⟨rfl, k8⟩; replace hcur := hcur.later k8; first | (obtain ⟨⟨x179_0, x179_1, x179_2⟩, _⟩ := box3 (hcur.boxed 4 rfl); obtain ⟨⟨x180_0, x180_1, x180_2⟩, _⟩ := box3 (hcur.boxed 3 rfl); obtain ⟨⟨x181_0, x181_1, x181_2⟩, _⟩ := box3 (hcur.boxed 2 rfl); obtain ⟨⟨x182_0, x182_1, x182_2⟩, _⟩ := box3 (hcur.boxed 1 rfl); obtain ⟨⟨x183_0, x183_1, x183_2⟩, _⟩ := box3 (hcur.boxed 0 rfl)) | (obtain ⟨⟨x184_0, x184_1, x184_2⟩, _⟩ := box3 (hcur.boxed 2 rfl); obtain ⟨⟨x185_0, x185_1, x185_2⟩, _⟩ := box3 (hcur.boxed 1 rfl); obtain ⟨⟨x186_0, x186_1, x186_2⟩, _⟩ := box3 (hcur.boxed 0 rfl))))
      | (go_at_call 11; ((with_reducible refine (hca (by trivial) _).mono ?_); rintro e w9 ⟨rfl, k9⟩; replace hcur := hcur.later k9; first | (obtain ⟨⟨x187_0, x187_1, x187_2⟩, _⟩ := box3 (hcur.boxed 4 rfl); obtain ⟨⟨x188_0, x188_1, x188_2⟩, _⟩ := box3 (hcur.boxed 3 rfl); obtain ⟨⟨x189_0, x189_1, x189_2⟩, _⟩ := box3 (hcur.boxed 2 rfl); obtain ⟨⟨x190_0, x190_1, x190_2⟩, _⟩ := box3 (hcur.boxed 1 rfl); obtain ⟨⟨x191_0, x191_1, x191_2⟩, _⟩ := box3 (hcur.boxed 0 rfl)) | (obtain ⟨⟨x192_0, x192_1, x192_2⟩, _⟩ := box3 (hcur.boxed 2 rfl); obtain ⟨⟨x193_0, x193_1, x193_2⟩, _⟩ := box3 (hcur.boxed 1 rfl); obtain ⟨⟨x194_0, x194_1, x194_2⟩, _⟩ := box3 (hcur.boxed 0 rfl))))
      | (go_at_call 17; (with_reducible refine (awake_c _).mono ?_); rintro e w10 ⟨rfl, k10⟩))
    go_ret
    exact ⟨rfl, (hcur.later k10).kept⟩
set_option maxHeartbeats 8000000 in
set_option maxRecDepth 100000 in
theorem order_true_true (w : World) (a b c x y : Am) (ab ba bc : Bool)
    (haa : ∀ w, Calls Try.prog 13 #[.agg #[.int .i64 a.c, .int .i64 a.m, .int .i64 a.d], .agg #[.int .i64 a.c, .int .i64 a.m, .int .i64 a.d]] w fun e w' => e = .returned (.bool true) ∧ Kept w w')
    (hab : ∀ w, Calls Try.prog 13 #[.agg #[.int .i64 a.c, .int .i64 a.m, .int .i64 a.d], .agg #[.int .i64 b.c, .int .i64 b.m, .int .i64 b.d]] w fun e w' => e = .returned (.bool ab) ∧ Kept w w')
    (hba : ∀ w, Calls Try.prog 13 #[.agg #[.int .i64 b.c, .int .i64 b.m, .int .i64 b.d], .agg #[.int .i64 a.c, .int .i64 a.m, .int .i64 a.d]] w fun e w' => e = .returned (.bool ba) ∧ Kept w w')
    (hbc : ∀ w, Calls Try.prog 13 #[.agg #[.int .i64 b.c, .int .i64 b.m, .int .i64 b.d], .agg #[.int .i64 c.c, .int .i64 c.m, .int .i64 c.d]] w fun e w' => e = .returned (.bool bc) ∧ Kept w w')
    (hac : ab = true → bc = true → ∀ w, Calls Try.prog 13 #[.agg #[.int .i64 a.c, .int .i64 a.m, .int .i64 a.d], .agg #[.int .i64 c.c, .int .i64 c.m, .int .i64 c.d]] w fun e w' => e = .returned (.bool true) ∧ Kept w w')
    (neq : ab = true → ba = true → ∀ w, (binOp .neq 23 (.agg #[.int .i64 a.c, .int .i64 a.m, .int .i64 a.d]) (.agg #[.int .i64 b.c, .int .i64 b.m, .int .i64 b.d])).run Try.prog w = .ok (.bool false) w)
    (h1 : ∀ w, Calls Try.prog 9 #[.agg #[.int .i64 a.c, .int .i64 a.m, .int .i64 a.d], .agg #[.int .i64 c.c, .int .i64 c.m, .int .i64 c.d]] w fun e w' => e = .returned (.tuple #[.agg #[.int .i64 x.c, .int .i64 x.m, .int .i64 x.d], .bool true]) ∧ Kept w w')
    (h2 : ∀ w, Calls Try.prog 9 #[.agg #[.int .i64 b.c, .int .i64 b.m, .int .i64 b.d], .agg #[.int .i64 c.c, .int .i64 c.m, .int .i64 c.d]] w fun e w' => e = .returned (.tuple #[.agg #[.int .i64 y.c, .int .i64 y.m, .int .i64 y.d], .bool true]) ∧ Kept w w')
    (hxy : ∀ w, Calls Try.prog 13 #[.agg #[.int .i64 x.c, .int .i64 x.m, .int .i64 x.d], .agg #[.int .i64 y.c, .int .i64 y.m, .int .i64 y.d]] w fun e w' => e = .returned (.bool ab) ∧ Kept w w')
    (hca : ab = true → ∀ w, Calls Try.prog 11 #[.agg #[.int .i64 a.c, .int .i64 a.m, .int .i64 a.d]] w fun e w' => e = .returned (.int .i64 0) ∧ Kept w w') :
    Calls Try.prog 8 #[.agg #[.int .i64 a.c, .int .i64 a.m, .int .i64 a.d], .agg #[.int .i64 b.c, .int .i64 b.m, .int .i64 b.d], .agg #[.int .i64 c.c, .int .i64 c.m, .int .i64 c.d]] w fun e w' => e = .returned (.bool true) ∧ Kept w w' := by
  have hcur := own3 w #[.int .i64 a.c, .int .i64 a.m, .int .i64 a.d] #[.int .i64 b.c, .int .i64 b.m, .int .i64 b.d] #[.int .i64 c.c, .int .i64 c.m, .int .i64 c.d] 23
  rcases Bool.eq_false_or_eq_true ab with rfl | rfl
  · rcases Bool.eq_false_or_eq_true ba with rfl | rfl <;> rcases Bool.eq_false_or_eq_true bc with rfl | rfl <;> (
    go_enter Try.func8, Try.ntmps8
    go_wp2_with (first
      | (go_at_call 13; first
        | ((with_reducible refine (haa _).mono ?_); rintro e w1 ⟨rfl, k1⟩; replace hcur := hcur.later k1; first | (obtain ⟨⟨x195_0, x195_1, x195_2⟩, _⟩ := box3 (hcur.boxed 4 rfl); obtain ⟨⟨x196_0, x196_1, x196_2⟩, _⟩ := box3 (hcur.boxed 3 rfl); obtain ⟨⟨x197_0, x197_1, x197_2⟩, _⟩ := box3 (hcur.boxed 2 rfl); obtain ⟨⟨x198_0, x198_1, x198_2⟩, _⟩ := box3 (hcur.boxed 1 rfl); obtain ⟨⟨x199_0, x199_1, x199_2⟩, _⟩ := box3 (hcur.boxed 0 rfl)) | (obtain ⟨⟨x200_0, x200_1, x200_2⟩, _⟩ := box3 (hcur.boxed 2 rfl); obtain ⟨⟨x201_0, x201_1, x201_2⟩, _⟩ := box3 (hcur.boxed 1 rfl); obtain ⟨⟨x202_0, x202_1, x202_2⟩, _⟩ := box3 (hcur.boxed 0 rfl)))
        | ((with_reducible refine (hab _).mono ?_); rintro e w2 ⟨rfl, k2⟩; replace hcur := hcur.later k2; first | (obtain ⟨⟨x203_0, x203_1, x203_2⟩, _⟩ := box3 (hcur.boxed 4 rfl); obtain ⟨⟨x204_0, x204_1, x204_2⟩, _⟩ := box3 (hcur.boxed 3 rfl); obtain ⟨⟨x205_0, x205_1, x205_2⟩, _⟩ := box3 (hcur.boxed 2 rfl); obtain ⟨⟨x206_0, x206_1, x206_2⟩, _⟩ := box3 (hcur.boxed 1 rfl); obtain ⟨⟨x207_0, x207_1, x207_2⟩, _⟩ := box3 (hcur.boxed 0 rfl)) | (obtain ⟨⟨x208_0, x208_1, x208_2⟩, _⟩ := box3 (hcur.boxed 2 rfl); obtain ⟨⟨x209_0, x209_1, x209_2⟩, _⟩ := box3 (hcur.boxed 1 rfl); obtain ⟨⟨x210_0, x210_1, x210_2⟩, _⟩ := box3 (hcur.boxed 0 rfl)))
        | ((with_reducible refine (hba _).mono ?_); rintro e w3 ⟨rfl, k3⟩; replace hcur := hcur.later k3; first | (obtain ⟨⟨x211_0, x211_1, x211_2⟩, _⟩ := box3 (hcur.boxed 4 rfl); obtain ⟨⟨x212_0, x212_1, x212_2⟩, _⟩ := box3 (hcur.boxed 3 rfl); obtain ⟨⟨x213_0, x213_1, x213_2⟩, _⟩ := box3 (hcur.boxed 2 rfl); obtain ⟨⟨x214_0, x214_1, x214_2⟩, _⟩ := box3 (hcur.boxed 1 rfl); obtain ⟨⟨x215_0, x215_1, x215_2⟩, _⟩ := box3 (hcur.boxed 0 rfl)) | (obtain ⟨⟨x216_0, x216_1, x216_2⟩, _⟩ := box3 (hcur.boxed 2 rfl); obtain ⟨⟨x217_0, x217_1, x217_2⟩, _⟩ := box3 (hcur.boxed 1 rfl); obtain ⟨⟨x218_0, x218_1, x218_2⟩, _⟩ := box3 (hcur.boxed 0 rfl)))
        | ((with_reducible refine (hbc _).mono ?_); rintro e w4 ⟨rfl, k4⟩; replace hcur := hcur.later k4; first | (obtain ⟨⟨x219_0, x219_1, x219_2⟩, _⟩ := box3 (hcur.boxed 4 rfl); obtain ⟨⟨x220_0, x220_1, x220_2⟩, _⟩ := box3 (hcur.boxed 3 rfl); obtain ⟨⟨x221_0, x221_1, x221_2⟩, _⟩ := box3 (hcur.boxed 2 rfl); obtain ⟨⟨x222_0, x222_1, x222_2⟩, _⟩ := box3 (hcur.boxed 1 rfl); obtain ⟨⟨x223_0, x223_1, x223_2⟩, _⟩ := box3 (hcur.boxed 0 rfl)) | (obtain ⟨⟨x224_0, x224_1, x224_2⟩, _⟩ := box3 (hcur.boxed 2 rfl); obtain ⟨⟨x225_0, x225_1, x225_2⟩, _⟩ := box3 (hcur.boxed 1 rfl); obtain ⟨⟨x226_0, x226_1, x226_2⟩, _⟩ := box3 (hcur.boxed 0 rfl)))
        | ((with_reducible refine (hac (by trivial) (by trivial) _).mono ?_); rintro e w5 ⟨rfl, k5⟩; replace hcur := hcur.later k5; first | (obtain ⟨⟨x227_0, x227_1, x227_2⟩, _⟩ := box3 (hcur.boxed 4 rfl); obtain ⟨⟨x228_0, x228_1, x228_2⟩, _⟩ := box3 (hcur.boxed 3 rfl); obtain ⟨⟨x229_0, x229_1, x229_2⟩, _⟩ := box3 (hcur.boxed 2 rfl); obtain ⟨⟨x230_0, x230_1, x230_2⟩, _⟩ := box3 (hcur.boxed 1 rfl); obtain ⟨⟨x231_0, x231_1, x231_2⟩, _⟩ := box3 (hcur.boxed 0 rfl)) | (obtain ⟨⟨x232_0, x232_1, x232_2⟩, _⟩ := box3 (hcur.boxed 2 rfl); obtain ⟨⟨x233_0, x233_1, x233_2⟩, _⟩ := box3 (hcur.boxed 1 rfl); obtain ⟨⟨x234_0, x234_1, x234_2⟩, _⟩ := box3 (hcur.boxed 0 rfl))))
      | (go_at_call 9; first
        | ((with_reducible refine (h1 _).mono ?_); rintro e w6 ⟨rfl, k6⟩; replace hcur := (hcur.later k6).box #[.int .i64 x.c, .int .i64 x.m, .int .i64 x.d] 23; obtain ⟨⟨x235_0, x235_1, x235_2⟩, _⟩ := box3 (hcur.boxed 3 rfl); obtain ⟨⟨x236_0, x236_1, x236_2⟩, _⟩ := box3 (hcur.boxed 2 rfl); obtain ⟨⟨x237_0, x237_1, x237_2⟩, _⟩ := box3 (hcur.boxed 1 rfl); obtain ⟨⟨x238_0, x238_1, x238_2⟩, _⟩ := box3 (hcur.boxed 0 rfl))
        | ((with_reducible refine (h2 _).mono ?_); rintro e w7 ⟨rfl, k7⟩; replace hcur := (hcur.later k7).box #[.int .i64 y.c, .int .i64 y.m, .int .i64 y.d] 23; obtain ⟨⟨x239_0, x239_1, x239_2⟩, _⟩ := box3 (hcur.boxed 4 rfl); obtain ⟨⟨x240_0, x240_1, x240_2⟩, _⟩ := box3 (hcur.boxed 3 rfl); obtain ⟨⟨x241_0, x241_1, x241_2⟩, _⟩ := box3 (hcur.boxed 2 rfl); obtain ⟨⟨x242_0, x242_1, x242_2⟩, _⟩ := box3 (hcur.boxed 1 rfl); obtain ⟨⟨x243_0, x243_1, x243_2⟩, _⟩ := box3 (hcur.boxed 0 rfl))))
    generalize (w7.alloc (.cells #[.int .i64 y.c, .int .i64 y.m, .int .i64 y.d] 23)) = W9 at hcur ⊢
    generalize w7.heap.size = B9 at hcur ⊢
    generalize w6.heap.size = B7 at hcur ⊢
    generalize w.heap.size + 1 + 1 = B5 at hcur ⊢
    generalize w.heap.size + 1 = B4 at hcur ⊢
    generalize w.heap.size = B3 at hcur ⊢
    have S1 := five_cells hcur
    have S1' := five_cells hcur.drew
    go_region_held3 (fun W => W.cell? ⟨B9, 0, none⟩ = some (.int .i64 y.c) ∧ W.cell? ⟨B9, 1, none⟩ = some (.int .i64 y.m) ∧ W.cell? ⟨B9, 2, none⟩ = some (.int .i64 y.d) ∧ W.cell? ⟨B7, 0, none⟩ = some (.int .i64 x.c) ∧ W.cell? ⟨B7, 1, none⟩ = some (.int .i64 x.m) ∧ W.cell? ⟨B7, 2, none⟩ = some (.int .i64 x.d) ∧ W.cell? ⟨B5, 0, none⟩ = some (.int .i64 c.c) ∧ W.cell? ⟨B5, 1, none⟩ = some (.int .i64 c.m) ∧ W.cell? ⟨B5, 2, none⟩ = some (.int .i64 c.d) ∧ W.cell? ⟨B4, 0, none⟩ = some (.int .i64 b.c) ∧ W.cell? ⟨B4, 1, none⟩ = some (.int .i64 b.m) ∧ W.cell? ⟨B4, 2, none⟩ = some (.int .i64 b.d) ∧ W.cell? ⟨B3, 0, none⟩ = some (.int .i64 a.c) ∧ W.cell? ⟨B3, 1, none⟩ = some (.int .i64 a.m) ∧ W.cell? ⟨B3, 2, none⟩ = some (.int .i64 a.d))
      (first | assumption)
      (first
        | (go_at_call 13; first
          | ((with_reducible refine (hxy _).mono ?_); rintro e u1 ⟨rfl, k1⟩; have hc1 := hcur.drew.later k1; have S2 := five_cells hc1; clear k1)
          | ((with_reducible refine (hab _).mono ?_); rintro e u2 ⟨rfl, k2⟩; have hc2 := hc1.later k2; have S3 := five_cells hc2; clear k2)))
    clear S1 S1' S2 S3 hcur hc1
    have hcur := hc2
    clear hc2
    obtain ⟨⟨x244_0, x244_1, x244_2⟩, _⟩ := box3 (hcur.boxed 4 rfl)
    obtain ⟨⟨x245_0, x245_1, x245_2⟩, _⟩ := box3 (hcur.boxed 3 rfl)
    obtain ⟨⟨x246_0, x246_1, x246_2⟩, _⟩ := box3 (hcur.boxed 2 rfl)
    obtain ⟨⟨x247_0, x247_1, x247_2⟩, _⟩ := box3 (hcur.boxed 1 rfl)
    obtain ⟨⟨x248_0, x248_1, x248_2⟩, _⟩ := box3 (hcur.boxed 0 rfl)
    go_wp2_with (first
      | (go_at_call 13; ((with_reducible refine (hab _).mono ?_); rintro e w8 ⟨rfl, k8⟩; replace hcur := hcur.later k8; first | (obtain ⟨⟨x249_0, x249_1, x249_2⟩, _⟩ := box3 (hcur.boxed 4 rfl); obtain ⟨⟨x250_0, x250_1, x250_2⟩, _⟩ := box3 (hcur.boxed 3 rfl); obtain ⟨⟨x251_0, x251_1, x251_2⟩, _⟩ := box3 (hcur.boxed 2 rfl); obtain ⟨⟨x252_0, x252_1, x252_2⟩, _⟩ := box3 (hcur.boxed 1 rfl); obtain ⟨⟨x253_0, x253_1, x253_2⟩, _⟩ := box3 (hcur.boxed 0 rfl)) | (obtain ⟨⟨x254_0, x254_1, x254_2⟩, _⟩ := box3 (hcur.boxed 2 rfl); obtain ⟨⟨x255_0, x255_1, x255_2⟩, _⟩ := box3 (hcur.boxed 1 rfl); obtain ⟨⟨x256_0, x256_1, x256_2⟩, _⟩ := box3 (hcur.boxed 0 rfl))))
      | (go_at_call 11; ((with_reducible refine (hca (by trivial) _).mono ?_); rintro e w9 ⟨rfl, k9⟩; replace hcur := hcur.later k9; first | (obtain ⟨⟨x257_0, x257_1, x257_2⟩, _⟩ := box3 (hcur.boxed 4 rfl); obtain ⟨⟨x258_0, x258_1, x258_2⟩, _⟩ := box3 (hcur.boxed 3 rfl); obtain ⟨⟨x259_0, x259_1, x259_2⟩, _⟩ := box3 (hcur.boxed 2 rfl); obtain ⟨⟨x260_0, x260_1, x260_2⟩, _⟩ := box3 (hcur.boxed 1 rfl); obtain ⟨⟨x261_0, x261_1, x261_2⟩, _⟩ := box3 (hcur.boxed 0 rfl)) | (obtain ⟨⟨x262_0, x262_1, x262_2⟩, _⟩ := box3 (hcur.boxed 2 rfl); obtain ⟨⟨x263_0, x263_1, x263_2⟩, _⟩ := box3 (hcur.boxed 1 rfl); obtain ⟨⟨x264_0, x264_1, x264_2⟩, _⟩ := box3 (hcur.boxed 0 rfl))))
      | (go_at_call 17; (with_reducible refine (awake_c _).mono ?_); rintro e w10 ⟨rfl, k10⟩))
    go_ret
    exact ⟨rfl, (hcur.later k10).kept⟩)
  · clear hac neq hca
    go_enter Try.func8, Try.ntmps8
    go_wp2_with (first
      | (go_at_call 13; first
        | ((with_reducible refine (haa _).mono ?_); rintro e w1 ⟨rfl, k1⟩; replace hcur := hcur.later k1; first | (obtain ⟨⟨x195_0, x195_1, x195_2⟩, _⟩ := box3 (hcur.boxed 4 rfl); obtain ⟨⟨x196_0, x196_1, x196_2⟩, _⟩ := box3 (hcur.boxed 3 rfl); obtain ⟨⟨x197_0, x197_1, x197_2⟩, _⟩ := box3 (hcur.boxed 2 rfl); obtain ⟨⟨x198_0, x198_1, x198_2⟩, _⟩ := box3 (hcur.boxed 1 rfl); obtain ⟨⟨x199_0, x199_1, x199_2⟩, _⟩ := box3 (hcur.boxed 0 rfl)) | (obtain ⟨⟨x200_0, x200_1, x200_2⟩, _⟩ := box3 (hcur.boxed 2 rfl); obtain ⟨⟨x201_0, x201_1, x201_2⟩, _⟩ := box3 (hcur.boxed 1 rfl); obtain ⟨⟨x202_0, x202_1, x202_2⟩, _⟩ := box3 (hcur.boxed 0 rfl)))
        | ((with_reducible refine (hab _).mono ?_); rintro e w2 ⟨rfl, k2⟩; replace hcur := hcur.later k2; first | (obtain ⟨⟨x203_0, x203_1, x203_2⟩, _⟩ := box3 (hcur.boxed 4 rfl); obtain ⟨⟨x204_0, x204_1, x204_2⟩, _⟩ := box3 (hcur.boxed 3 rfl); obtain ⟨⟨x205_0, x205_1, x205_2⟩, _⟩ := box3 (hcur.boxed 2 rfl); obtain ⟨⟨x206_0, x206_1, x206_2⟩, _⟩ := box3 (hcur.boxed 1 rfl); obtain ⟨⟨x207_0, x207_1, x207_2⟩, _⟩ := box3 (hcur.boxed 0 rfl)) | (obtain ⟨⟨x208_0, x208_1, x208_2⟩, _⟩ := box3 (hcur.boxed 2 rfl); obtain ⟨⟨x209_0, x209_1, x209_2⟩, _⟩ := box3 (hcur.boxed 1 rfl); obtain ⟨⟨x210_0, x210_1, x210_2⟩, _⟩ := box3 (hcur.boxed 0 rfl)))
        | ((with_reducible refine (hba _).mono ?_); rintro e w3 ⟨rfl, k3⟩; replace hcur := hcur.later k3; first | (obtain ⟨⟨x211_0, x211_1, x211_2⟩, _⟩ := box3 (hcur.boxed 4 rfl); obtain ⟨⟨x212_0, x212_1, x212_2⟩, _⟩ := box3 (hcur.boxed 3 rfl); obtain ⟨⟨x213_0, x213_1, x213_2⟩, _⟩ := box3 (hcur.boxed 2 rfl); obtain ⟨⟨x214_0, x214_1, x214_2⟩, _⟩ := box3 (hcur.boxed 1 rfl); obtain ⟨⟨x215_0, x215_1, x215_2⟩, _⟩ := box3 (hcur.boxed 0 rfl)) | (obtain ⟨⟨x216_0, x216_1, x216_2⟩, _⟩ := box3 (hcur.boxed 2 rfl); obtain ⟨⟨x217_0, x217_1, x217_2⟩, _⟩ := box3 (hcur.boxed 1 rfl); obtain ⟨⟨x218_0, x218_1, x218_2⟩, _⟩ := box3 (hcur.boxed 0 rfl)))
        | ((with_reducible refine (hbc _).mono ?_); rintro e w4 ⟨rfl, k4⟩; replace hcur := hcur.later k4; first | (obtain ⟨⟨x219_0, x219_1, x219_2⟩, _⟩ := box3 (hcur.boxed 4 rfl); obtain ⟨⟨x220_0, x220_1, x220_2⟩, _⟩ := box3 (hcur.boxed 3 rfl); obtain ⟨⟨x221_0, x221_1, x221_2⟩, _⟩ := box3 (hcur.boxed 2 rfl); obtain ⟨⟨x222_0, x222_1, x222_2⟩, _⟩ := box3 (hcur.boxed 1 rfl); obtain ⟨⟨x223_0, x223_1, x223_2⟩, _⟩ := box3 (hcur.boxed 0 rfl)) | (obtain ⟨⟨x224_0, x224_1, x224_2⟩, _⟩ := box3 (hcur.boxed 2 rfl); obtain ⟨⟨x225_0, x225_1, x225_2⟩, _⟩ := box3 (hcur.boxed 1 rfl); obtain ⟨⟨x226_0, x226_1, x226_2⟩, _⟩ := box3 (hcur.boxed 0 rfl)))
        | ((with_reducible refine (hac (by trivial) (by trivial) _).mono ?_); rintro e w5 ⟨rfl, k5⟩; replace hcur := hcur.later k5; first | (obtain ⟨⟨x227_0, x227_1, x227_2⟩, _⟩ := box3 (hcur.boxed 4 rfl); obtain ⟨⟨x228_0, x228_1, x228_2⟩, _⟩ := box3 (hcur.boxed 3 rfl); obtain ⟨⟨x229_0, x229_1, x229_2⟩, _⟩ := box3 (hcur.boxed 2 rfl); obtain ⟨⟨x230_0, x230_1, x230_2⟩, _⟩ := box3 (hcur.boxed 1 rfl); obtain ⟨⟨x231_0, x231_1, x231_2⟩, _⟩ := box3 (hcur.boxed 0 rfl)) | (obtain ⟨⟨x232_0, x232_1, x232_2⟩, _⟩ := box3 (hcur.boxed 2 rfl); obtain ⟨⟨x233_0, x233_1, x233_2⟩, _⟩ := box3 (hcur.boxed 1 rfl); obtain ⟨⟨x234_0, x234_1, x234_2⟩, _⟩ := box3 (hcur.boxed 0 rfl))))
      | (go_at_call 9; first
        | ((with_reducible refine (h1 _).mono ?_); rintro e w6 ⟨rfl, k6⟩; replace hcur := (hcur.later k6).box #[.int .i64 x.c, .int .i64 x.m, .int .i64 x.d] 23; obtain ⟨⟨x235_0, x235_1, x235_2⟩, _⟩ := box3 (hcur.boxed 3 rfl); obtain ⟨⟨x236_0, x236_1, x236_2⟩, _⟩ := box3 (hcur.boxed 2 rfl); obtain ⟨⟨x237_0, x237_1, x237_2⟩, _⟩ := box3 (hcur.boxed 1 rfl); obtain ⟨⟨x238_0, x238_1, x238_2⟩, _⟩ := box3 (hcur.boxed 0 rfl))
        | ((with_reducible refine (h2 _).mono ?_); rintro e w7 ⟨rfl, k7⟩; replace hcur := (hcur.later k7).box #[.int .i64 y.c, .int .i64 y.m, .int .i64 y.d] 23; obtain ⟨⟨x239_0, x239_1, x239_2⟩, _⟩ := box3 (hcur.boxed 4 rfl); obtain ⟨⟨x240_0, x240_1, x240_2⟩, _⟩ := box3 (hcur.boxed 3 rfl); obtain ⟨⟨x241_0, x241_1, x241_2⟩, _⟩ := box3 (hcur.boxed 2 rfl); obtain ⟨⟨x242_0, x242_1, x242_2⟩, _⟩ := box3 (hcur.boxed 1 rfl); obtain ⟨⟨x243_0, x243_1, x243_2⟩, _⟩ := box3 (hcur.boxed 0 rfl))))
    generalize (w7.alloc (.cells #[.int .i64 y.c, .int .i64 y.m, .int .i64 y.d] 23)) = W9 at hcur ⊢
    generalize w7.heap.size = B9 at hcur ⊢
    generalize w6.heap.size = B7 at hcur ⊢
    generalize w.heap.size + 1 + 1 = B5 at hcur ⊢
    generalize w.heap.size + 1 = B4 at hcur ⊢
    generalize w.heap.size = B3 at hcur ⊢
    have S1 := five_cells hcur
    have S1' := five_cells hcur.drew
    go_region_held3 (fun W => W.cell? ⟨B9, 0, none⟩ = some (.int .i64 y.c) ∧ W.cell? ⟨B9, 1, none⟩ = some (.int .i64 y.m) ∧ W.cell? ⟨B9, 2, none⟩ = some (.int .i64 y.d) ∧ W.cell? ⟨B7, 0, none⟩ = some (.int .i64 x.c) ∧ W.cell? ⟨B7, 1, none⟩ = some (.int .i64 x.m) ∧ W.cell? ⟨B7, 2, none⟩ = some (.int .i64 x.d) ∧ W.cell? ⟨B5, 0, none⟩ = some (.int .i64 c.c) ∧ W.cell? ⟨B5, 1, none⟩ = some (.int .i64 c.m) ∧ W.cell? ⟨B5, 2, none⟩ = some (.int .i64 c.d) ∧ W.cell? ⟨B4, 0, none⟩ = some (.int .i64 b.c) ∧ W.cell? ⟨B4, 1, none⟩ = some (.int .i64 b.m) ∧ W.cell? ⟨B4, 2, none⟩ = some (.int .i64 b.d) ∧ W.cell? ⟨B3, 0, none⟩ = some (.int .i64 a.c) ∧ W.cell? ⟨B3, 1, none⟩ = some (.int .i64 a.m) ∧ W.cell? ⟨B3, 2, none⟩ = some (.int .i64 a.d))
      (first | assumption)
      (first
        | (go_at_call 13; first
          | ((with_reducible refine (hxy _).mono ?_); rintro e u1 ⟨rfl, k1⟩; have hc1 := hcur.drew.later k1; have S2 := five_cells hc1; clear k1)
          | ((with_reducible refine (hab _).mono ?_); rintro e u2 ⟨rfl, k2⟩; have hc2 := hc1.later k2; have S3 := five_cells hc2; clear k2)))
    clear S1 S1' S2 S3 hcur hc1
    have hcur := hc2
    clear hc2
    obtain ⟨⟨x244_0, x244_1, x244_2⟩, _⟩ := box3 (hcur.boxed 4 rfl)
    obtain ⟨⟨x245_0, x245_1, x245_2⟩, _⟩ := box3 (hcur.boxed 3 rfl)
    obtain ⟨⟨x246_0, x246_1, x246_2⟩, _⟩ := box3 (hcur.boxed 2 rfl)
    obtain ⟨⟨x247_0, x247_1, x247_2⟩, _⟩ := box3 (hcur.boxed 1 rfl)
    obtain ⟨⟨x248_0, x248_1, x248_2⟩, _⟩ := box3 (hcur.boxed 0 rfl)
    go_wp2_with (first
      | (go_at_call 13; ((with_reducible refine (hab _).mono ?_); rintro e w8 ⟨rfl, k8⟩; replace hcur := hcur.later k8; first | (obtain ⟨⟨x249_0, x249_1, x249_2⟩, _⟩ := box3 (hcur.boxed 4 rfl); obtain ⟨⟨x250_0, x250_1, x250_2⟩, _⟩ := box3 (hcur.boxed 3 rfl); obtain ⟨⟨x251_0, x251_1, x251_2⟩, _⟩ := box3 (hcur.boxed 2 rfl); obtain ⟨⟨x252_0, x252_1, x252_2⟩, _⟩ := box3 (hcur.boxed 1 rfl); obtain ⟨⟨x253_0, x253_1, x253_2⟩, _⟩ := box3 (hcur.boxed 0 rfl)) | (obtain ⟨⟨x254_0, x254_1, x254_2⟩, _⟩ := box3 (hcur.boxed 2 rfl); obtain ⟨⟨x255_0, x255_1, x255_2⟩, _⟩ := box3 (hcur.boxed 1 rfl); obtain ⟨⟨x256_0, x256_1, x256_2⟩, _⟩ := box3 (hcur.boxed 0 rfl))))
      | (go_at_call 11; ((with_reducible refine (hca (by trivial) _).mono ?_); rintro e w9 ⟨rfl, k9⟩; replace hcur := hcur.later k9; first | (obtain ⟨⟨x257_0, x257_1, x257_2⟩, _⟩ := box3 (hcur.boxed 4 rfl); obtain ⟨⟨x258_0, x258_1, x258_2⟩, _⟩ := box3 (hcur.boxed 3 rfl); obtain ⟨⟨x259_0, x259_1, x259_2⟩, _⟩ := box3 (hcur.boxed 2 rfl); obtain ⟨⟨x260_0, x260_1, x260_2⟩, _⟩ := box3 (hcur.boxed 1 rfl); obtain ⟨⟨x261_0, x261_1, x261_2⟩, _⟩ := box3 (hcur.boxed 0 rfl)) | (obtain ⟨⟨x262_0, x262_1, x262_2⟩, _⟩ := box3 (hcur.boxed 2 rfl); obtain ⟨⟨x263_0, x263_1, x263_2⟩, _⟩ := box3 (hcur.boxed 1 rfl); obtain ⟨⟨x264_0, x264_1, x264_2⟩, _⟩ := box3 (hcur.boxed 0 rfl))))
      | (go_at_call 17; (with_reducible refine (awake_c _).mono ?_); rintro e w10 ⟨rfl, k10⟩))
    go_ret
    exact ⟨rfl, (hcur.later k10).kept⟩
theorem order_core (w : World) (a b c : Am) : Calls Try.prog 8 #[.agg #[.int .i64 a.c, .int .i64 a.m, .int .i64 a.d], .agg #[.int .i64 b.c, .int .i64 b.m, .int .i64 b.d], .agg #[.int .i64 c.c, .int .i64 c.m, .int .i64 c.d]] w fun e w' => e = .returned (.bool true) ∧ Kept w w' := by
  have haa := fits_c a a
  rw [fits_refl] at haa
  have h1 := add_c a c
  have h2 := add_c b c
  have hxy := fits_c (adds a c).1 (adds b c).1
  have hac : a.fits b = true → b.fits c = true → ∀ w, Calls Try.prog 13 #[.agg #[.int .i64 a.c, .int .i64 a.m, .int .i64 a.d], .agg #[.int .i64 c.c, .int .i64 c.m, .int .i64 c.d]] w fun e w' => e = .returned (.bool true) ∧ Kept w w' := fun h k w => by
    have := fits_c a c w
    rw [fits_trans h k] at this
    exact this
  have neq : a.fits b = true → b.fits a = true → ∀ w, (binOp .neq 23 (.agg #[.int .i64 a.c, .int .i64 a.m, .int .i64 a.d]) (.agg #[.int .i64 b.c, .int .i64 b.m, .int .i64 b.d])).run Try.prog w = .ok (.bool false) w := fun h k w => by
    rw [← fits_anti h k]; exact neq_same _ _ _ w
  have hbad : a.fits b = true → a.good = false → ∀ w, Calls Try.prog 11 #[.agg #[.int .i64 a.c, .int .i64 a.m, .int .i64 a.d]] w fun e w' => e = .returned (.int .i64 3) ∧ Kept w w' := fun _ h w => by
    have := check_c a w
    rw [says_bad h] at this
    exact this
  have hgood : a.fits b = true → a.good = true → ∀ w, Calls Try.prog 11 #[.agg #[.int .i64 a.c, .int .i64 a.m, .int .i64 a.d]] w fun e w' => e = .returned (.int .i64 0) ∧ Kept w w' := fun _ h w => by
    have := check_c a w
    rw [says_good h] at this
    exact this
  generalize hX : adds a c = R at h1 hxy
  generalize hY : adds b c = Q at h2 hxy
  obtain ⟨x, p⟩ := R
  obtain ⟨y, q⟩ := Q
  have hw : (adds a c).2 = p := by rw [hX]
  have hv : (adds b c).2 = q := by rw [hY]
  have hf : p = true → q = true → x.fits y = a.fits b := fun hp hq => by
    have := fits_add (a := a) (b := b) (c := c) (by rw [hw, hp]) (by rw [hv, hq])
    rw [hX, hY] at this
    exact this
  cases q with
  | false =>
    cases p with
    | false => exact order_false_false w a b c x y _ _ _ haa (fits_c a b) (fits_c b a) (fits_c b c) hac neq h1 h2
    | true => exact order_true_false w a b c x y _ _ _ haa (fits_c a b) (fits_c b a) (fits_c b c) hac neq h1 h2
  | true =>
    cases p with
    | false => exact order_false_true w a b c x y _ _ _ haa (fits_c a b) (fits_c b a) (fits_c b c) hac neq h1 h2 (fun h => hbad h (by
        cases hg : a.good with
        | false => rfl
        | true => have := add_fits hv h hg; rw [hw] at this; cases this))
    | true =>
      have e := hf rfl rfl
      rw [e] at hxy
      exact order_true_true w a b c x y _ _ _ haa (fits_c a b) (fits_c b a) (fits_c b c) hac neq h1 h2 hxy (fun h => hgood h (adds_ok (a := a) (b := c) hw).2.1)
end Go.Proofs.Ytdendciedodffaa.Re
