/-
  The specification's functions of layer 9.
-/
import Derived.Test.YtdendciedodffaaVc
namespace Go.Proofs.Ytdendciedodffaa.Re
open Go.RowKit Go.Proofs.Ytdendciedodffaa.Mem Go.Proofs.Ytdendciedodffaa.Bx Go.ChangeShapes Go.WideShapes Go.ChangeAt

set_option maxRecDepth 100000 in
theorem ramounts_c (x : Am) (w : World) : Calls Try.prog 23 #[.agg #[.int .i64 x.c, .int .i64 x.m, .int .i64 x.d]] w fun e w' => e = .returned (.slice (some ⟨w.heap.size + 1, 0, none⟩) 3 3) ∧ Own w [boxA (w.heap.size + 1) #[.int .i64 x.c, .int .i64 x.m, .int .i64 x.d] 3] w' := by
  go_enter Try.func23, Try.ntmps23
  have h0 := ((Own.start ((Kept.refl w).alloc (.cells #[.int .i64 x.c, .int .i64 x.m, .int .i64 x.d] 23))).box #[.int .i64 x.c, .int .i64 x.m, .int .i64 x.d] 3)
  have e : (w.alloc (.cells #[.int .i64 x.c, .int .i64 x.m, .int .i64 x.d] 23)).heap.size = w.heap.size + 1 := by simp
  rw [e] at h0
  go_wp2
  go_ret
  exact ⟨rfl, h0⟩
set_option maxRecDepth 100000 in
theorem rcheck_c (x : Am) (w : World) : Calls Try.prog 12 #[.agg #[.int .i64 x.c, .int .i64 x.m, .int .i64 x.d]] w fun e w' => e = .returned (.int .i64 x.says) ∧ Kept w w' := by
  go_enter Try.func12, Try.ntmps12
  have hk0 := (Kept.refl w).alloc (.cells #[.int .i64 x.c, .int .i64 x.m, .int .i64 x.d] 23)
  have e : (w.alloc (.cells #[.int .i64 x.c, .int .i64 x.m, .int .i64 x.d] 23)).heap.size + 1 = w.heap.size + 1 + 1 := by simp
  have hc := ramounts_c x (w.alloc (.cells #[.int .i64 x.c, .int .i64 x.m, .int .i64 x.d] 23))
  rw [e] at hc
  go_wp2_with (go_at_call 23; refine hc.mono ?_; rintro e w1 ⟨rfl, h1⟩)
  have HB := Lib.hid (box_at x (h1.boxed 0 rfl))
  have hk := hk0.trans h1.kept
  clear h1 hc
  go_loopw [4] (fun i wr => ∃ j : Nat, j ≤ 3 ∧ i = .int .i64 j ∧ wr = w1 ∧ ∀ l, l < j → fine (x.at l) = true) (fun i _ => 3 - (intOf i).toNat)
  case atStart => exact ⟨0, by omega, rfl, rfl, fun l h => absurd h (by omega)⟩
  case round =>
    obtain ⟨j, hj, rfl, hw, hg⟩ := hrel
    obtain rfl : w1 = wr := hw.symm
    by_cases hlt : j < 3
    · have hx := HB.out j hlt
      obtain ⟨v, hv⟩ : ∃ v, v = x.at j := ⟨_, rfl⟩
      rw [← hv] at hx
      have HV := Lib.hid hv
      clear hv
      by_cases h0 : v < 0
      · go_wp2
        go_ret
        exact ⟨by unfold Am.says; rw [bad_at j hlt (by rw [← HV.out]; exact fine_not.2 (by omega))]; rfl, hk⟩
      · by_cases h1 : v > 1099511627776
        · go_wp2
          go_ret
          exact ⟨by unfold Am.says; rw [bad_at j hlt (by rw [← HV.out]; exact fine_not.2 (by omega))]; rfl, hk⟩
        · go_wp2
          go_roundw
          case rel => exact ⟨j + 1, by omega, by go_num, trivial, fun l hl => by
            by_cases e : l = j
            · subst e; rw [← HV.out]; exact fine_iff.2 (by omega)
            · exact hg l (by omega)⟩
          case measure => simp [intOf]; omega
    · go_wp2
      go_ret
      exact ⟨by unfold Am.says; rw [good_at (fun l hl => hg l (by omega))]; rfl, hk⟩
set_option maxRecDepth 100000 in
theorem rfits_c (x y : Am) (w : World) : Calls Try.prog 14 #[.agg #[.int .i64 x.c, .int .i64 x.m, .int .i64 x.d], .agg #[.int .i64 y.c, .int .i64 y.m, .int .i64 y.d]] w fun e w' => e = .returned (.bool (x.fits y)) ∧ Kept w w' := by
  have hk := (own2 w #[.int .i64 x.c, .int .i64 x.m, .int .i64 x.d] #[.int .i64 y.c, .int .i64 y.m, .int .i64 y.d] 23).kept
  by_cases h0 : x.c ≤ y.c <;> by_cases h1 : x.m ≤ y.m <;> by_cases h2 : x.d ≤ y.d <;>
    (go_enter Try.func14, Try.ntmps14
     go_wp2
     go_ret
     exact ⟨by unfold Am.fits; simp [h0, h1, h2]; try rfl, hk⟩)
set_option maxRecDepth 100000 in
theorem radd_c (a b : Am) (w : World) : Calls Try.prog 10 #[.agg #[.int .i64 a.c, .int .i64 a.m, .int .i64 a.d], .agg #[.int .i64 b.c, .int .i64 b.m, .int .i64 b.d]] w fun e w' => e = .returned (.tuple #[.agg #[.int .i64 (adds a b).1.c, .int .i64 (adds a b).1.m, .int .i64 (adds a b).1.d], .bool (adds a b).2]) ∧ Kept w w' := by
  show Calls _ _ _ _ fun e w' => e = .returned (.tuple #[.agg #[.int .i64 (joins Am.plus a b).1.c, .int .i64 (joins Am.plus a b).1.m, .int .i64 (joins Am.plus a b).1.d], .bool (joins Am.plus a b).2]) ∧ Kept w w'
  go_enter Try.func10, Try.ntmps10
  have h0 := own3 w #[.int .i64 a.c, .int .i64 a.m, .int .i64 a.d] #[.int .i64 b.c, .int .i64 b.m, .int .i64 b.d] #[.int .i64 0, .int .i64 0, .int .i64 0] 23
  cases ga : a.good with
  | false =>
    have hc := rcheck_c a
    rw [says_bad ga] at hc
    go_wp2_with (go_at_call 12; (with_reducible refine (hc _).mono ?_); rintro e w1 ⟨rfl, k1⟩; have h1 := h0.later k1; obtain ⟨⟨z0, z1, z2⟩, fz⟩ := box3 (h1.boxed 0 rfl); have fz0 := fz 0; have fz1 := fz 1; have fz2 := fz 2; clear fz)
    exact bodyPost_ret (v := .tuple #[.agg #[.int .i64 0, .int .i64 0, .int .i64 0], .bool false]) (by simp [results, Try.results10, go_sem, z0, z1, z2]) rfl ⟨by rw [joins_a ga]; rfl, (((h1.boxset 0 rfl 0 (.int .i64 0)).boxset 0 rfl 1 (.int .i64 0)).boxset 0 rfl 2 (.int .i64 0)).kept⟩
  | true =>
    have hc := rcheck_c a
    rw [says_good ga] at hc
    cases gb : b.good with
    | false =>
      have hd := rcheck_c b
      rw [says_bad gb] at hd
      obtain ⟨⟨y0, y1, y2⟩, _⟩ := box3 (h0.boxed 1 rfl)
      go_wp2_with (go_at_call 12; first
        | ((with_reducible refine (hc _).mono ?_); rintro e w1 ⟨rfl, k1⟩; have h1 := h0.later k1; obtain ⟨⟨v0, v1, v2⟩, _⟩ := box3 (h1.boxed 1 rfl))
        | ((with_reducible refine (hd _).mono ?_); rintro e w2 ⟨rfl, k2⟩; have h2 := h1.later k2; obtain ⟨⟨z0, z1, z2⟩, fz⟩ := box3 (h2.boxed 0 rfl); have fz0 := fz 0; have fz1 := fz 1; have fz2 := fz 2; clear fz))
      exact bodyPost_ret (v := .tuple #[.agg #[.int .i64 0, .int .i64 0, .int .i64 0], .bool false]) (by simp [results, Try.results10, go_sem, z0, z1, z2]) rfl ⟨by rw [joins_b gb]; rfl, (((h2.boxset 0 rfl 0 (.int .i64 0)).boxset 0 rfl 1 (.int .i64 0)).boxset 0 rfl 2 (.int .i64 0)).kept⟩
    | true =>
      have hd := rcheck_c b
      rw [says_good gb] at hd
      obtain ⟨⟨a0, a1⟩, ⟨a2, a3⟩, a4, a5⟩ := good_iff.1 ga
      obtain ⟨⟨b0, b1⟩, ⟨b2, b3⟩, b4, b5⟩ := good_iff.1 gb
      obtain ⟨P, hP⟩ : ∃ P, P = Am.plus a b := ⟨_, rfl⟩
      have e0 : IntKind.i64.wrap (a.c + b.c) = P.c := by rw [hP, IntKind.wrap_i64]; show _ = a.c + b.c; omega
      have e1 : IntKind.i64.wrap (a.m + b.m) = P.m := by rw [hP, IntKind.wrap_i64]; show _ = a.m + b.m; omega
      have e2 : IntKind.i64.wrap (a.d + b.d) = P.d := by rw [hP, IntKind.wrap_i64]; show _ = a.d + b.d; omega
      have HP := Lib.hid hP
      clear hP a0 a1 a2 a3 a4 a5 b0 b1 b2 b3 b4 b5
      obtain ⟨⟨y0, y1, y2⟩, _⟩ := box3 (h0.boxed 1 rfl)
      cases gp : P.good with
      | false =>
        have hp := rcheck_c P
        rw [says_bad gp] at hp
        go_wp2_with (go_at_call 12; first
          | ((with_reducible refine (hc _).mono ?_); rintro e w1 ⟨rfl, k1⟩; have h1 := h0.later k1; obtain ⟨⟨v0, v1, v2⟩, _⟩ := box3 (h1.boxed 1 rfl))
          | ((with_reducible refine (hd _).mono ?_); rintro e w2 ⟨rfl, k2⟩; have h2 := h1.later k2; obtain ⟨⟨s0, s1, s2⟩, _⟩ := box3 (h2.boxed 1 rfl); obtain ⟨⟨t0, t1, t2⟩, _⟩ := box3 (h2.boxed 2 rfl))
          | ((with_reducible refine (hp _).mono ?_); rintro e w3 ⟨rfl, k3⟩; have h3 := (h2.box #[.int .i64 P.c, .int .i64 P.m, .int .i64 P.d] 23).later k3; obtain ⟨⟨z0, z1, z2⟩, fz⟩ := box3 (h3.boxed 1 rfl); have fz0 := fz 0; have fz1 := fz 1; have fz2 := fz 2; clear fz))
        exact bodyPost_ret (v := .tuple #[.agg #[.int .i64 0, .int .i64 0, .int .i64 0], .bool false]) (by simp [results, Try.results10, go_sem, z0, z1, z2]) rfl ⟨by rw [joins_p (HP.out ▸ gp)]; rfl, (((h3.boxset 1 rfl 0 (.int .i64 0)).boxset 1 rfl 1 (.int .i64 0)).boxset 1 rfl 2 (.int .i64 0)).kept⟩
      | true =>
        have hp := rcheck_c P
        rw [says_good gp] at hp
        go_wp2_with (go_at_call 12; first
          | ((with_reducible refine (hc _).mono ?_); rintro e w1 ⟨rfl, k1⟩; have h1 := h0.later k1; obtain ⟨⟨v0, v1, v2⟩, _⟩ := box3 (h1.boxed 1 rfl))
          | ((with_reducible refine (hd _).mono ?_); rintro e w2 ⟨rfl, k2⟩; have h2 := h1.later k2; obtain ⟨⟨s0, s1, s2⟩, _⟩ := box3 (h2.boxed 1 rfl); obtain ⟨⟨t0, t1, t2⟩, _⟩ := box3 (h2.boxed 2 rfl))
          | ((with_reducible refine (hp _).mono ?_); rintro e w3 ⟨rfl, k3⟩; have h3 := (h2.box #[.int .i64 P.c, .int .i64 P.m, .int .i64 P.d] 23).later k3; obtain ⟨⟨z0, z1, z2⟩, fz⟩ := box3 (h3.boxed 1 rfl); have fz0 := fz 0; have fz1 := fz 1; have fz2 := fz 2; clear fz; obtain ⟨⟨p0, p1, p2⟩, _⟩ := box3 (h3.boxed 0 rfl)))
        exact bodyPost_ret (v := .tuple #[.agg #[.int .i64 P.c, .int .i64 P.m, .int .i64 P.d], .bool true]) (by simp [results, Try.results10, go_sem, z0, z1, z2]) rfl ⟨by rw [joins_ok ga gb (HP.out ▸ gp), ← HP.out], (((h3.boxset 1 rfl 0 (.int .i64 P.c)).boxset 1 rfl 1 (.int .i64 P.m)).boxset 1 rfl 2 (.int .i64 P.d)).kept⟩
theorem fits_less {a b : Am} (h : (Am.less a b).good = true) : b.fits a = true := by
  obtain ⟨⟨h0, _⟩, ⟨h1, _⟩, h2, _⟩ := good_iff.1 h
  simp only [Am.less] at h0 h1 h2
  exact fits_iff.2 ⟨by omega, by omega, by omega⟩
theorem less_fits {a b : Am} (ha : a.good = true) (hb : b.good = true) (h : (Am.less a b).good = false) : b.fits a = false := by
  by_cases e : b.fits a = true
  · obtain ⟨⟨a0, a1⟩, ⟨a2, a3⟩, a4, a5⟩ := good_iff.1 ha
    obtain ⟨⟨b0, b1⟩, ⟨b2, b3⟩, b4, b5⟩ := good_iff.1 hb
    obtain ⟨f0, f1, f2⟩ := fits_iff.1 e
    have : (Am.less a b).good = true := good_iff.2 (by simp only [Am.less]; omega)
    rw [this] at h; cases h
  · simpa using e
set_option maxRecDepth 100000 in
theorem rsub_c (a b : Am) (w : World) : Calls Try.prog 16 #[.agg #[.int .i64 a.c, .int .i64 a.m, .int .i64 a.d], .agg #[.int .i64 b.c, .int .i64 b.m, .int .i64 b.d]] w fun e w' => e = .returned (.tuple #[.agg #[.int .i64 (subs a b).1.c, .int .i64 (subs a b).1.m, .int .i64 (subs a b).1.d], .bool (subs a b).2]) ∧ Kept w w' := by
  show Calls _ _ _ _ fun e w' => e = .returned (.tuple #[.agg #[.int .i64 (joins Am.less a b).1.c, .int .i64 (joins Am.less a b).1.m, .int .i64 (joins Am.less a b).1.d], .bool (joins Am.less a b).2]) ∧ Kept w w'
  go_enter Try.func16, Try.ntmps16
  have h0 := own3 w #[.int .i64 a.c, .int .i64 a.m, .int .i64 a.d] #[.int .i64 b.c, .int .i64 b.m, .int .i64 b.d] #[.int .i64 0, .int .i64 0, .int .i64 0] 23
  cases ga : a.good with
  | false =>
    have hc := rcheck_c a
    rw [says_bad ga] at hc
    go_wp2_with (go_at_call 12; (with_reducible refine (hc _).mono ?_); rintro e w1 ⟨rfl, k1⟩; have h1 := h0.later k1; obtain ⟨⟨z0, z1, z2⟩, fz⟩ := box3 (h1.boxed 0 rfl); have fz0 := fz 0; have fz1 := fz 1; have fz2 := fz 2; clear fz)
    exact bodyPost_ret (v := .tuple #[.agg #[.int .i64 0, .int .i64 0, .int .i64 0], .bool false]) (by simp [results, Try.results16, go_sem, z0, z1, z2]) rfl ⟨by rw [joins_a ga]; rfl, (((h1.boxset 0 rfl 0 (.int .i64 0)).boxset 0 rfl 1 (.int .i64 0)).boxset 0 rfl 2 (.int .i64 0)).kept⟩
  | true =>
    have hc := rcheck_c a
    rw [says_good ga] at hc
    cases gb : b.good with
    | false =>
      have hd := rcheck_c b
      rw [says_bad gb] at hd
      obtain ⟨⟨y0, y1, y2⟩, _⟩ := box3 (h0.boxed 1 rfl)
      go_wp2_with (go_at_call 12; first
        | ((with_reducible refine (hc _).mono ?_); rintro e w1 ⟨rfl, k1⟩; have h1 := h0.later k1; obtain ⟨⟨v0, v1, v2⟩, _⟩ := box3 (h1.boxed 1 rfl))
        | ((with_reducible refine (hd _).mono ?_); rintro e w2 ⟨rfl, k2⟩; have h2 := h1.later k2; obtain ⟨⟨z0, z1, z2⟩, fz⟩ := box3 (h2.boxed 0 rfl); have fz0 := fz 0; have fz1 := fz 1; have fz2 := fz 2; clear fz))
      exact bodyPost_ret (v := .tuple #[.agg #[.int .i64 0, .int .i64 0, .int .i64 0], .bool false]) (by simp [results, Try.results16, go_sem, z0, z1, z2]) rfl ⟨by rw [joins_b gb]; rfl, (((h2.boxset 0 rfl 0 (.int .i64 0)).boxset 0 rfl 1 (.int .i64 0)).boxset 0 rfl 2 (.int .i64 0)).kept⟩
    | true =>
      have hd := rcheck_c b
      rw [says_good gb] at hd
      obtain ⟨⟨a0, a1⟩, ⟨a2, a3⟩, a4, a5⟩ := good_iff.1 ga
      obtain ⟨⟨b0, b1⟩, ⟨b2, b3⟩, b4, b5⟩ := good_iff.1 gb
      obtain ⟨P, hP⟩ : ∃ P, P = Am.less a b := ⟨_, rfl⟩
      have e0 : IntKind.i64.wrap (a.c - b.c) = P.c := by rw [hP, IntKind.wrap_i64]; show _ = a.c - b.c; omega
      have e1 : IntKind.i64.wrap (a.m - b.m) = P.m := by rw [hP, IntKind.wrap_i64]; show _ = a.m - b.m; omega
      have e2 : IntKind.i64.wrap (a.d - b.d) = P.d := by rw [hP, IntKind.wrap_i64]; show _ = a.d - b.d; omega
      have HP := Lib.hid hP
      clear hP a0 a1 a2 a3 a4 a5 b0 b1 b2 b3 b4 b5
      obtain ⟨⟨y0, y1, y2⟩, _⟩ := box3 (h0.boxed 1 rfl)
      have hf := rfits_c b a
      cases gp : P.good with
      | false =>
        have gf : b.fits a = false := less_fits ga gb (HP.out ▸ gp)
        rw [gf] at hf
        go_wp2_with (first
          | (go_at_call 12; first
            | ((with_reducible refine (hc _).mono ?_); rintro e w1 ⟨rfl, k1⟩; have h1 := h0.later k1; obtain ⟨⟨v0, v1, v2⟩, _⟩ := box3 (h1.boxed 1 rfl))
            | ((with_reducible refine (hd _).mono ?_); rintro e w2 ⟨rfl, k2⟩; have h2 := h1.later k2; obtain ⟨⟨s0, s1, s2⟩, _⟩ := box3 (h2.boxed 1 rfl); obtain ⟨⟨t0, t1, t2⟩, _⟩ := box3 (h2.boxed 2 rfl)))
          | (go_at_call 14; (with_reducible refine (hf _).mono ?_); rintro e w3 ⟨rfl, k3⟩; have h3 := h2.later k3; obtain ⟨⟨z0, z1, z2⟩, fz⟩ := box3 (h3.boxed 0 rfl); have fz0 := fz 0; have fz1 := fz 1; have fz2 := fz 2; clear fz))
        exact bodyPost_ret (v := .tuple #[.agg #[.int .i64 0, .int .i64 0, .int .i64 0], .bool false]) (by simp [results, Try.results16, go_sem, z0, z1, z2]) rfl ⟨by rw [joins_p (HP.out ▸ gp)]; rfl, (((h3.boxset 0 rfl 0 (.int .i64 0)).boxset 0 rfl 1 (.int .i64 0)).boxset 0 rfl 2 (.int .i64 0)).kept⟩
      | true =>
        have gf : b.fits a = true := fits_less (HP.out ▸ gp)
        rw [gf] at hf
        go_wp2_with (first
          | (go_at_call 12; first
            | ((with_reducible refine (hc _).mono ?_); rintro e w1 ⟨rfl, k1⟩; have h1 := h0.later k1; obtain ⟨⟨v0, v1, v2⟩, _⟩ := box3 (h1.boxed 1 rfl))
            | ((with_reducible refine (hd _).mono ?_); rintro e w2 ⟨rfl, k2⟩; have h2 := h1.later k2; obtain ⟨⟨s0, s1, s2⟩, _⟩ := box3 (h2.boxed 1 rfl); obtain ⟨⟨t0, t1, t2⟩, _⟩ := box3 (h2.boxed 2 rfl)))
          | (go_at_call 14; (with_reducible refine (hf _).mono ?_); rintro e w3 ⟨rfl, k3⟩; have h3 := h2.later k3; obtain ⟨⟨z0, z1, z2⟩, fz⟩ := box3 (h3.boxed 0 rfl); have fz0 := fz 0; have fz1 := fz 1; have fz2 := fz 2; clear fz; obtain ⟨⟨p0, p1, p2⟩, _⟩ := box3 (h3.boxed 1 rfl); obtain ⟨⟨o0, o1, o2⟩, _⟩ := box3 (h3.boxed 2 rfl)))
        exact bodyPost_ret (v := .tuple #[.agg #[.int .i64 P.c, .int .i64 P.m, .int .i64 P.d], .bool true]) (by simp [results, Try.results16, go_sem, z0, z1, z2]) rfl ⟨by rw [joins_ok ga gb (HP.out ▸ gp), ← HP.out], (((h3.boxset 0 rfl 0 (.int .i64 P.c)).boxset 0 rfl 1 (.int .i64 P.m)).boxset 0 rfl 2 (.int .i64 P.d)).kept⟩
end Go.Proofs.Ytdendciedodffaa.Re
