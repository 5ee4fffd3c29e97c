/-
  ResBack, for any two amounts.
-/
import Derived.Test.YtdendciedodffaaVh
namespace Go.Proofs.Ytdendciedodffaa.Re
open Go.RowKit Go.Proofs.Ytdendciedodffaa.Mem Go.Proofs.Ytdendciedodffaa.Bx Go.ChangeShapes Go.WideShapes Go.ChangeAt
theorem adds_comm (a b : Am) : adds a b = adds b a := by
  have e : Am.plus a b = Am.plus b a := by simp only [Am.plus]; congr 1 <;> omega
  unfold adds joins
  rw [e]
  by_cases h : a.good = true ∧ b.good = true ∧ (Am.plus b a).good = true
  · rw [if_pos h, if_pos ⟨h.2.1, h.1, h.2.2⟩]
  · rw [if_neg h, if_neg (fun k => h ⟨k.2.1, k.1, k.2.2⟩)]
theorem subs_two {a b : Am} (ha : a.good = true) (hb : b.good = true) : (subs a b).2 = b.fits a := by
  cases h : (Am.less a b).good with
  | true => rw [show subs a b = (Am.less a b, true) from joins_ok ha hb h, fits_less h]
  | false => rw [show subs a b = (none3, false) from joins_p h, less_fits ha hb h]
theorem back_sub {a b : Am} (h : (adds a b).2 = true) : subs (adds a b).1 b = (a, true) := by
  obtain ⟨e, ha, hb, hp⟩ := adds_ok h
  have e2 : Am.less (Am.plus a b) b = a := by cases a; cases b; simp only [Am.plus, Am.less, Am.mk.injEq]; omega
  rw [e]
  have := joins_ok (f := Am.less) hp hb (by rw [e2]; exact ha)
  rw [e2] at this
  exact this
theorem back_add {a b : Am} (h : (subs a b).2 = true) : adds (subs a b).1 b = (a, true) := by
  by_cases c : a.good = true ∧ b.good = true ∧ (Am.less a b).good = true
  · have e : subs a b = (Am.less a b, true) := joins_ok c.1 c.2.1 c.2.2
    rw [e]
    have e2 : Am.plus (Am.less a b) b = a := by cases a; cases b; simp only [Am.plus, Am.less, Am.mk.injEq]; omega
    have := joins_ok (f := Am.plus) c.2.2 c.2.1 (by rw [e2]; exact c.1)
    rw [e2] at this
    exact this
  · have e : subs a b = (none3, false) := by unfold subs joins; rw [if_neg c]
    rw [e] at h; cases h
theorem back_fits {a b : Am} (h : (adds a b).2 = true) : a.fits (adds a b).1 = true := by
  obtain ⟨e, ha, hb, hp⟩ := adds_ok h
  rw [e]
  obtain ⟨⟨b0, _⟩, ⟨b2, _⟩, b4, _⟩ := good_iff.1 hb
  exact fits_iff.2 (by simp only [Am.plus]; omega)
set_option maxHeartbeats 8000000 in
set_option maxRecDepth 100000 in
/-- Both are valid. -/
theorem back_good (w : World) (a b : Am) (ha : a.good = true) (hb : b.good = true) : Calls Try.prog 6 #[.agg #[.int .i64 a.c, .int .i64 a.m, .int .i64 a.d], .agg #[.int .i64 b.c, .int .i64 b.m, .int .i64 b.d]] w fun e w' => e = .returned (.bool true) ∧ Kept w w' := by
  have hadd := add_c a b
  have hadd2 := add_c b a
  have hsub := sub_c a b
  have hca := check_c a
  have hcb := check_c b
  rw [says_good ha] at hca
  rw [says_good hb] at hcb
  have hf := fits_c b a
  rw [← subs_two ha hb] at hf
  have hs2 := sub_c (adds a b).1 b
  have hf2 := fits_c a (adds a b).1
  have hc2 := check_c (adds a b).1
  have ha3 := add_c (subs a b).1 b
  have b1 := @back_sub a b
  have b2 := @back_fits a b
  have b3 := @back_add a b
  have b4 : (adds a b).2 = true → (adds a b).1.good = true := fun h => by
    obtain ⟨e, _, _, hp⟩ := adds_ok h
    rw [e]; exact hp
  rw [← adds_comm a b] at hadd2
  obtain ⟨R, hR⟩ : ∃ R, R = adds a b := ⟨_, rfl⟩
  rw [← hR] at hadd hadd2 hs2 hf2 hc2 b1 b2 b4
  obtain ⟨Q, hQ⟩ : ∃ Q, Q = subs a b := ⟨_, rfl⟩
  rw [← hQ] at hsub hf ha3 b3
  clear hR hQ
  obtain ⟨r, q⟩ := R
  obtain ⟨z, p⟩ := Q
  have n0 := neq_same r.c r.m r.d
  have n1 := neq_same a.c a.m a.d
  have h0 := own2 w #[.int .i64 a.c, .int .i64 a.m, .int .i64 a.d] #[.int .i64 b.c, .int .i64 b.m, .int .i64 b.d] 23
  have E0 : q = true → (∀ w, Calls Try.prog 15 #[.agg #[.int .i64 r.c, .int .i64 r.m, .int .i64 r.d], .agg #[.int .i64 b.c, .int .i64 b.m, .int .i64 b.d]] w fun e w' => e = .returned (.tuple #[.agg #[.int .i64 a.c, .int .i64 a.m, .int .i64 a.d], .bool true]) ∧ Kept w w') := fun h w => by
    have := hs2 w
    rw [b1 h] at this
    exact this
  have E1 : q = true → (∀ w, Calls Try.prog 13 #[.agg #[.int .i64 a.c, .int .i64 a.m, .int .i64 a.d], .agg #[.int .i64 r.c, .int .i64 r.m, .int .i64 r.d]] w fun e w' => e = .returned (.bool true) ∧ Kept w w') := fun h w => by
    have := hf2 w
    rw [b2 h] at this
    exact this
  have E2 : q = true → (∀ w, Calls Try.prog 11 #[.agg #[.int .i64 r.c, .int .i64 r.m, .int .i64 r.d]] w fun e w' => e = .returned (.int .i64 0) ∧ Kept w w') := fun h w => by
    have := hc2 w
    rw [says_good (b4 h)] at this
    exact this
  have E3 : p = true → (∀ w, Calls Try.prog 9 #[.agg #[.int .i64 z.c, .int .i64 z.m, .int .i64 z.d], .agg #[.int .i64 b.c, .int .i64 b.m, .int .i64 b.d]] w fun e w' => e = .returned (.tuple #[.agg #[.int .i64 a.c, .int .i64 a.m, .int .i64 a.d], .bool true]) ∧ Kept w w') := fun h w => by
    have := ha3 w
    rw [b3 h] at this
    exact this
  clear hs2 hf2 hc2 ha3 b1 b2 b3 b4
  have hadd' : ∀ w, Calls Try.prog 9 #[.agg #[.int .i64 a.c, .int .i64 a.m, .int .i64 a.d], .agg #[.int .i64 b.c, .int .i64 b.m, .int .i64 b.d]] w fun e w' => e = .returned (.tuple #[.agg #[.int .i64 r.c, .int .i64 r.m, .int .i64 r.d], .bool q]) ∧ Kept w w' := hadd
  have hadd2' : ∀ w, Calls Try.prog 9 #[.agg #[.int .i64 b.c, .int .i64 b.m, .int .i64 b.d], .agg #[.int .i64 a.c, .int .i64 a.m, .int .i64 a.d]] w fun e w' => e = .returned (.tuple #[.agg #[.int .i64 r.c, .int .i64 r.m, .int .i64 r.d], .bool q]) ∧ Kept w w' := hadd2
  have hsub' : ∀ w, Calls Try.prog 15 #[.agg #[.int .i64 a.c, .int .i64 a.m, .int .i64 a.d], .agg #[.int .i64 b.c, .int .i64 b.m, .int .i64 b.d]] w fun e w' => e = .returned (.tuple #[.agg #[.int .i64 z.c, .int .i64 z.m, .int .i64 z.d], .bool p]) ∧ Kept w w' := hsub
  have hf' : ∀ w, Calls Try.prog 13 #[.agg #[.int .i64 b.c, .int .i64 b.m, .int .i64 b.d], .agg #[.int .i64 a.c, .int .i64 a.m, .int .i64 a.d]] w fun e w' => e = .returned (.bool p) ∧ Kept w w' := hf
  clear hadd hadd2 hsub hf
  cases q <;> cases p <;> (
    go_enter Try.func6, Try.ntmps6
    go_wp2_with (first
      | (go_at_call 9; first
        | ((with_reducible refine (hadd' _).mono ?_); rintro e w1 ⟨rfl, k1⟩; have h1 := (h0.later k1).box #[.int .i64 r.c, .int .i64 r.m, .int .i64 r.d] 23; obtain ⟨⟨x11_0, x11_1, x11_2⟩, _⟩ := box3 (h1.boxed 0 rfl); obtain ⟨⟨x12_0, x12_1, x12_2⟩, _⟩ := box3 (h1.boxed 1 rfl); obtain ⟨⟨x13_0, x13_1, x13_2⟩, _⟩ := box3 (h1.boxed 2 rfl))
        | ((with_reducible refine (hadd2' _).mono ?_); rintro e w2 ⟨rfl, k2⟩; have h2 := (h1.later k2).box #[.int .i64 r.c, .int .i64 r.m, .int .i64 r.d] 23; obtain ⟨⟨x20_0, x20_1, x20_2⟩, _⟩ := box3 (h2.boxed 0 rfl); obtain ⟨⟨x21_0, x21_1, x21_2⟩, _⟩ := box3 (h2.boxed 1 rfl); obtain ⟨⟨x22_0, x22_1, x22_2⟩, _⟩ := box3 (h2.boxed 2 rfl); obtain ⟨⟨x23_0, x23_1, x23_2⟩, _⟩ := box3 (h2.boxed 3 rfl))
        | ((with_reducible refine (E3 trivial _).mono ?_); rintro e w9 ⟨rfl, k9⟩; first
          | (have h9 := (h8.later k9).box #[.int .i64 a.c, .int .i64 a.m, .int .i64 a.d] 23; obtain ⟨⟨y0, y1, y2⟩, _⟩ := box3 (h9.boxed 6 rfl))
          | (have h9 := (h5.later k9).box #[.int .i64 a.c, .int .i64 a.m, .int .i64 a.d] 23; obtain ⟨⟨y0, y1, y2⟩, _⟩ := box3 (h9.boxed 5 rfl))))
      | (go_at_call 15; first
        | ((with_reducible refine (hsub' _).mono ?_); rintro e w3 ⟨rfl, k3⟩; have h3 := (h2.later k3).box #[.int .i64 z.c, .int .i64 z.m, .int .i64 z.d] 23; obtain ⟨⟨x32_0, x32_1, x32_2⟩, _⟩ := box3 (h3.boxed 0 rfl); obtain ⟨⟨x33_0, x33_1, x33_2⟩, _⟩ := box3 (h3.boxed 1 rfl); obtain ⟨⟨x34_0, x34_1, x34_2⟩, _⟩ := box3 (h3.boxed 2 rfl); obtain ⟨⟨x35_0, x35_1, x35_2⟩, _⟩ := box3 (h3.boxed 3 rfl); obtain ⟨⟨x36_0, x36_1, x36_2⟩, _⟩ := box3 (h3.boxed 4 rfl))
        | ((with_reducible refine (E0 trivial _).mono ?_); rintro e w6 ⟨rfl, k6⟩; have h6 := (h5.later k6).box #[.int .i64 a.c, .int .i64 a.m, .int .i64 a.d] 23; obtain ⟨⟨x47_0, x47_1, x47_2⟩, _⟩ := box3 (h6.boxed 0 rfl); obtain ⟨⟨x48_0, x48_1, x48_2⟩, _⟩ := box3 (h6.boxed 1 rfl); obtain ⟨⟨x49_0, x49_1, x49_2⟩, _⟩ := box3 (h6.boxed 2 rfl); obtain ⟨⟨x50_0, x50_1, x50_2⟩, _⟩ := box3 (h6.boxed 3 rfl); obtain ⟨⟨x51_0, x51_1, x51_2⟩, _⟩ := box3 (h6.boxed 4 rfl); obtain ⟨⟨x52_0, x52_1, x52_2⟩, _⟩ := box3 (h6.boxed 5 rfl)))
      | (go_at_call 11; first
        | ((with_reducible refine (hca _).mono ?_); rintro e w4 ⟨rfl, k4⟩; have h4 := h3.later k4; obtain ⟨⟨x53_0, x53_1, x53_2⟩, _⟩ := box3 (h4.boxed 0 rfl); obtain ⟨⟨x54_0, x54_1, x54_2⟩, _⟩ := box3 (h4.boxed 1 rfl); obtain ⟨⟨x55_0, x55_1, x55_2⟩, _⟩ := box3 (h4.boxed 2 rfl); obtain ⟨⟨x56_0, x56_1, x56_2⟩, _⟩ := box3 (h4.boxed 3 rfl); obtain ⟨⟨x57_0, x57_1, x57_2⟩, _⟩ := box3 (h4.boxed 4 rfl))
        | ((with_reducible refine (hcb _).mono ?_); rintro e w4 ⟨rfl, k4⟩; have h4b := h4.later k4; obtain ⟨⟨x1_0, x1_1, x1_2⟩, _⟩ := box3 (h4b.boxed 0 rfl); obtain ⟨⟨x2_0, x2_1, x2_2⟩, _⟩ := box3 (h4b.boxed 1 rfl); obtain ⟨⟨x3_0, x3_1, x3_2⟩, _⟩ := box3 (h4b.boxed 2 rfl); obtain ⟨⟨x4_0, x4_1, x4_2⟩, _⟩ := box3 (h4b.boxed 3 rfl); obtain ⟨⟨x5_0, x5_1, x5_2⟩, _⟩ := box3 (h4b.boxed 4 rfl))
        | ((with_reducible refine (E2 trivial _).mono ?_); rintro e w8 ⟨rfl, k8⟩; have h8 := h7.later k8; obtain ⟨⟨x68_0, x68_1, x68_2⟩, _⟩ := box3 (h8.boxed 0 rfl); obtain ⟨⟨x69_0, x69_1, x69_2⟩, _⟩ := box3 (h8.boxed 1 rfl); obtain ⟨⟨x70_0, x70_1, x70_2⟩, _⟩ := box3 (h8.boxed 2 rfl); obtain ⟨⟨x71_0, x71_1, x71_2⟩, _⟩ := box3 (h8.boxed 3 rfl); obtain ⟨⟨x72_0, x72_1, x72_2⟩, _⟩ := box3 (h8.boxed 4 rfl); obtain ⟨⟨x73_0, x73_1, x73_2⟩, _⟩ := box3 (h8.boxed 5 rfl)))
      | (go_at_call 13; first
        | ((with_reducible refine (hf' _).mono ?_); rintro e w5 ⟨rfl, k5⟩; have h5 := h4b.later k5; obtain ⟨⟨x74_0, x74_1, x74_2⟩, _⟩ := box3 (h5.boxed 0 rfl); obtain ⟨⟨x75_0, x75_1, x75_2⟩, _⟩ := box3 (h5.boxed 1 rfl); obtain ⟨⟨x76_0, x76_1, x76_2⟩, _⟩ := box3 (h5.boxed 2 rfl); obtain ⟨⟨x77_0, x77_1, x77_2⟩, _⟩ := box3 (h5.boxed 3 rfl); obtain ⟨⟨x78_0, x78_1, x78_2⟩, _⟩ := box3 (h5.boxed 4 rfl))
        | ((with_reducible refine (E1 trivial _).mono ?_); rintro e w7 ⟨rfl, k7⟩; have h7 := h6.later k7; obtain ⟨⟨x79_0, x79_1, x79_2⟩, _⟩ := box3 (h7.boxed 0 rfl); obtain ⟨⟨x80_0, x80_1, x80_2⟩, _⟩ := box3 (h7.boxed 1 rfl); obtain ⟨⟨x81_0, x81_1, x81_2⟩, _⟩ := box3 (h7.boxed 2 rfl); obtain ⟨⟨x82_0, x82_1, x82_2⟩, _⟩ := box3 (h7.boxed 3 rfl); obtain ⟨⟨x83_0, x83_1, x83_2⟩, _⟩ := box3 (h7.boxed 4 rfl); obtain ⟨⟨x84_0, x84_1, x84_2⟩, _⟩ := box3 (h7.boxed 5 rfl)))
      | (go_at_call 17; (with_reducible refine (awake_c _).mono ?_); rintro e w10 ⟨rfl, k10⟩))
    go_ret
    exact ⟨rfl, by first | exact (h9.later k10).kept | exact (h8.later k10).kept | exact (h5.later k10).kept⟩)
set_option maxHeartbeats 8000000 in
set_option maxRecDepth 100000 in
/-- One is not valid. -/
theorem back_bad (w : World) (a b : Am) (h : a.good = false ∨ b.good = false) : Calls Try.prog 6 #[.agg #[.int .i64 a.c, .int .i64 a.m, .int .i64 a.d], .agg #[.int .i64 b.c, .int .i64 b.m, .int .i64 b.d]] w fun e w' => e = .returned (.bool true) ∧ Kept w w' := by
  have e1 : adds a b = (none3, false) := h.elim joins_a joins_b
  have e2 : subs a b = (none3, false) := h.elim joins_a joins_b
  have hadd : ∀ w, Calls Try.prog 9 #[.agg #[.int .i64 a.c, .int .i64 a.m, .int .i64 a.d], .agg #[.int .i64 b.c, .int .i64 b.m, .int .i64 b.d]] w fun e w' => e = .returned (.tuple #[.agg #[.int .i64 0, .int .i64 0, .int .i64 0], .bool false]) ∧ Kept w w' := fun w => by
    have h := add_c a b w
    rw [e1] at h
    exact h
  have hadd2 : ∀ w, Calls Try.prog 9 #[.agg #[.int .i64 b.c, .int .i64 b.m, .int .i64 b.d], .agg #[.int .i64 a.c, .int .i64 a.m, .int .i64 a.d]] w fun e w' => e = .returned (.tuple #[.agg #[.int .i64 0, .int .i64 0, .int .i64 0], .bool false]) ∧ Kept w w' := fun w => by
    have h := add_c b a w
    rw [← adds_comm, e1] at h
    exact h
  have hsub : ∀ w, Calls Try.prog 15 #[.agg #[.int .i64 a.c, .int .i64 a.m, .int .i64 a.d], .agg #[.int .i64 b.c, .int .i64 b.m, .int .i64 b.d]] w fun e w' => e = .returned (.tuple #[.agg #[.int .i64 0, .int .i64 0, .int .i64 0], .bool false]) ∧ Kept w w' := fun w => by
    have h := sub_c a b w
    rw [e2] at h
    exact h
  have hca := check_c a
  have hcb := check_c b
  have n0 := neq_same 0 0 0
  have h0 := own2 w #[.int .i64 a.c, .int .i64 a.m, .int .i64 a.d] #[.int .i64 b.c, .int .i64 b.m, .int .i64 b.d] 23
  clear e1 e2
  cases ga : a.good with
  | false =>
    rw [says_bad ga] at hca
    clear hcb h
    go_enter Try.func6, Try.ntmps6
    go_wp2_with (first
      | (go_at_call 9; first
        | ((with_reducible refine (hadd _).mono ?_); rintro e w1 ⟨rfl, k1⟩; have h1 := (h0.later k1).box #[.int .i64 0, .int .i64 0, .int .i64 0] 23; obtain ⟨⟨x14_0, x14_1, x14_2⟩, _⟩ := box3 (h1.boxed 0 rfl); obtain ⟨⟨x15_0, x15_1, x15_2⟩, _⟩ := box3 (h1.boxed 1 rfl); obtain ⟨⟨x16_0, x16_1, x16_2⟩, _⟩ := box3 (h1.boxed 2 rfl))
        | ((with_reducible refine (hadd2 _).mono ?_); rintro e w2 ⟨rfl, k2⟩; have h2 := (h1.later k2).box #[.int .i64 0, .int .i64 0, .int .i64 0] 23; obtain ⟨⟨x24_0, x24_1, x24_2⟩, _⟩ := box3 (h2.boxed 0 rfl); obtain ⟨⟨x25_0, x25_1, x25_2⟩, _⟩ := box3 (h2.boxed 1 rfl); obtain ⟨⟨x26_0, x26_1, x26_2⟩, _⟩ := box3 (h2.boxed 2 rfl); obtain ⟨⟨x27_0, x27_1, x27_2⟩, _⟩ := box3 (h2.boxed 3 rfl)))
      | (go_at_call 15; (with_reducible refine (hsub _).mono ?_); rintro e w3 ⟨rfl, k3⟩; have h3 := (h2.later k3).box #[.int .i64 0, .int .i64 0, .int .i64 0] 23; obtain ⟨⟨x37_0, x37_1, x37_2⟩, _⟩ := box3 (h3.boxed 0 rfl); obtain ⟨⟨x38_0, x38_1, x38_2⟩, _⟩ := box3 (h3.boxed 1 rfl); obtain ⟨⟨x39_0, x39_1, x39_2⟩, _⟩ := box3 (h3.boxed 2 rfl); obtain ⟨⟨x40_0, x40_1, x40_2⟩, _⟩ := box3 (h3.boxed 3 rfl); obtain ⟨⟨x41_0, x41_1, x41_2⟩, _⟩ := box3 (h3.boxed 4 rfl))
      | (go_at_call 11; (with_reducible refine (hca _).mono ?_); rintro e w4 ⟨rfl, k4⟩; have h4 := h3.later k4; obtain ⟨⟨x58_0, x58_1, x58_2⟩, _⟩ := box3 (h4.boxed 0 rfl); obtain ⟨⟨x59_0, x59_1, x59_2⟩, _⟩ := box3 (h4.boxed 1 rfl); obtain ⟨⟨x60_0, x60_1, x60_2⟩, _⟩ := box3 (h4.boxed 2 rfl); obtain ⟨⟨x61_0, x61_1, x61_2⟩, _⟩ := box3 (h4.boxed 3 rfl); obtain ⟨⟨x62_0, x62_1, x62_2⟩, _⟩ := box3 (h4.boxed 4 rfl))
      | (go_at_call 17; (with_reducible refine (awake_c _).mono ?_); rintro e w10 ⟨rfl, k10⟩))
    go_ret
    exact ⟨rfl, (h4.later k10).kept⟩
  | true =>
    have gb : b.good = false := by rcases h with h | h; rw [ga] at h; cases h; exact h
    rw [says_good ga] at hca
    rw [says_bad gb] at hcb
    clear h
    go_enter Try.func6, Try.ntmps6
    go_wp2_with (first
      | (go_at_call 9; first
        | ((with_reducible refine (hadd _).mono ?_); rintro e w1 ⟨rfl, k1⟩; have h1 := (h0.later k1).box #[.int .i64 0, .int .i64 0, .int .i64 0] 23; obtain ⟨⟨x17_0, x17_1, x17_2⟩, _⟩ := box3 (h1.boxed 0 rfl); obtain ⟨⟨x18_0, x18_1, x18_2⟩, _⟩ := box3 (h1.boxed 1 rfl); obtain ⟨⟨x19_0, x19_1, x19_2⟩, _⟩ := box3 (h1.boxed 2 rfl))
        | ((with_reducible refine (hadd2 _).mono ?_); rintro e w2 ⟨rfl, k2⟩; have h2 := (h1.later k2).box #[.int .i64 0, .int .i64 0, .int .i64 0] 23; obtain ⟨⟨x28_0, x28_1, x28_2⟩, _⟩ := box3 (h2.boxed 0 rfl); obtain ⟨⟨x29_0, x29_1, x29_2⟩, _⟩ := box3 (h2.boxed 1 rfl); obtain ⟨⟨x30_0, x30_1, x30_2⟩, _⟩ := box3 (h2.boxed 2 rfl); obtain ⟨⟨x31_0, x31_1, x31_2⟩, _⟩ := box3 (h2.boxed 3 rfl)))
      | (go_at_call 15; (with_reducible refine (hsub _).mono ?_); rintro e w3 ⟨rfl, k3⟩; have h3 := (h2.later k3).box #[.int .i64 0, .int .i64 0, .int .i64 0] 23; obtain ⟨⟨x42_0, x42_1, x42_2⟩, _⟩ := box3 (h3.boxed 0 rfl); obtain ⟨⟨x43_0, x43_1, x43_2⟩, _⟩ := box3 (h3.boxed 1 rfl); obtain ⟨⟨x44_0, x44_1, x44_2⟩, _⟩ := box3 (h3.boxed 2 rfl); obtain ⟨⟨x45_0, x45_1, x45_2⟩, _⟩ := box3 (h3.boxed 3 rfl); obtain ⟨⟨x46_0, x46_1, x46_2⟩, _⟩ := box3 (h3.boxed 4 rfl))
      | (go_at_call 11; first
        | ((with_reducible refine (hca _).mono ?_); rintro e w4 ⟨rfl, k4⟩; have h4 := h3.later k4; obtain ⟨⟨x63_0, x63_1, x63_2⟩, _⟩ := box3 (h4.boxed 0 rfl); obtain ⟨⟨x64_0, x64_1, x64_2⟩, _⟩ := box3 (h4.boxed 1 rfl); obtain ⟨⟨x65_0, x65_1, x65_2⟩, _⟩ := box3 (h4.boxed 2 rfl); obtain ⟨⟨x66_0, x66_1, x66_2⟩, _⟩ := box3 (h4.boxed 3 rfl); obtain ⟨⟨x67_0, x67_1, x67_2⟩, _⟩ := box3 (h4.boxed 4 rfl))
        | ((with_reducible refine (hcb _).mono ?_); rintro e w4 ⟨rfl, k4⟩; have h4b := h4.later k4; obtain ⟨⟨x6_0, x6_1, x6_2⟩, _⟩ := box3 (h4b.boxed 0 rfl); obtain ⟨⟨x7_0, x7_1, x7_2⟩, _⟩ := box3 (h4b.boxed 1 rfl); obtain ⟨⟨x8_0, x8_1, x8_2⟩, _⟩ := box3 (h4b.boxed 2 rfl); obtain ⟨⟨x9_0, x9_1, x9_2⟩, _⟩ := box3 (h4b.boxed 3 rfl); obtain ⟨⟨x10_0, x10_1, x10_2⟩, _⟩ := box3 (h4b.boxed 4 rfl)))
      | (go_at_call 17; (with_reducible refine (awake_c _).mono ?_); rintro e w10 ⟨rfl, k10⟩))
    go_ret
    exact ⟨rfl, (h4b.later k10).kept⟩
theorem back_core (w : World) (a b : Am) : Calls Try.prog 6 #[.agg #[.int .i64 a.c, .int .i64 a.m, .int .i64 a.d], .agg #[.int .i64 b.c, .int .i64 b.m, .int .i64 b.d]] w fun e w' => e = .returned (.bool true) ∧ Kept w w' := by
  cases ga : a.good with
  | false => exact back_bad w a b (.inl ga)
  | true =>
    cases gb : b.good with
    | false => exact back_bad w a b (.inr gb)
    | true => exact back_good w a b ga gb
end Go.Proofs.Ytdendciedodffaa.Re
