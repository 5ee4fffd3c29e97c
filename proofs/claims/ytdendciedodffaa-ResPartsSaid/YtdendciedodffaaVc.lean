/-
  Add and Sub, as the program does them (combine with the function of one amount), and the specification's functions.
-/
import Derived.Test.YtdendciedodffaaVa
namespace Go.Proofs.Ytdendciedodffaa.Re
open Go.RowKit Go.Proofs.Ytdendciedodffaa.Mem Go.Proofs.Ytdendciedodffaa.Bx Go.ChangeShapes Go.WideShapes Go.ChangeAt

theorem fine_bound {n : Int} (h : fine n = true) : 0 ≤ n ∧ n ≤ 1099511627776 := fine_iff.1 h
theorem says_good {x : Am} (h : x.good = true) : x.says = 0 := by unfold Am.says; rw [if_pos h]
theorem says_bad {x : Am} (h : x.good = false) : x.says = 3 := by unfold Am.says; rw [if_neg (by rw [h]; decide)]
theorem own3 (w : World) (a b c : Array Value) (T : TypeId) : Own w [boxA (w.heap.size + 1 + 1) c T, boxA (w.heap.size + 1) b T, boxA w.heap.size a T] (((w.alloc (.cells a T)).alloc (.cells b T)).alloc (.cells c T)) := by
  have h := (own2 w a b T).box c T
  have e : ((w.alloc (.cells a T)).alloc (.cells b T)).heap.size = w.heap.size + 1 + 1 := by simp
  rw [e] at h
  exact h
theorem joins_a {f : Am → Am → Am} {a b : Am} (h : a.good = false) : joins f a b = (none3, false) := by unfold joins; rw [if_neg (by rw [h]; simp)]
theorem joins_b {f : Am → Am → Am} {a b : Am} (h : b.good = false) : joins f a b = (none3, false) := by unfold joins; rw [if_neg (by rw [h]; simp)]
theorem joins_p {f : Am → Am → Am} {a b : Am} (h : (f a b).good = false) : joins f a b = (none3, false) := by unfold joins; rw [if_neg (by rw [h]; simp)]
theorem joins_ok {f : Am → Am → Am} {a b : Am} (ha : a.good = true) (hb : b.good = true) (h : (f a b).good = true) : joins f a b = (f a b, true) := by unfold joins; rw [if_pos ⟨ha, hb, h⟩]

set_option maxRecDepth 100000 in
theorem add1_c (a b v : Int) (hv : v = a + b) (ha : 0 ≤ a ∧ a ≤ 1099511627776) (hb : 0 ≤ b ∧ b ≤ 1099511627776) (w : World) : Calls Try.prog 21 #[.int .i64 a, .int .i64 b] w fun e w' => e = .returned (.int .i64 v) ∧ w = w' := by
  have hw : IntKind.i64.wrap (a + b) = a + b := by rw [IntKind.wrap_i64]; omega
  go_enter Try.func21, Try.ntmps21
  go_wp2
  go_ret
  exact ⟨by rw [hv]; first | rfl | (rw [hw]; rfl), rfl⟩

set_option maxRecDepth 100000 in
theorem combine_add (a b : Am) (w : World) : Calls Try.prog 20 #[.agg #[.int .i64 a.c, .int .i64 a.m, .int .i64 a.d], .agg #[.int .i64 b.c, .int .i64 b.m, .int .i64 b.d], .func (.func 21) #[] #[]] w fun e w' => e = .returned (.tuple #[.agg #[.int .i64 (joins Am.plus a b).1.c, .int .i64 (joins Am.plus a b).1.m, .int .i64 (joins Am.plus a b).1.d], .bool (joins Am.plus a b).2]) ∧ Kept w w' := by
  go_enter Try.func20, Try.ntmps20
  have h0 := own3 w #[.int .i64 a.c, .int .i64 a.m, .int .i64 a.d] #[.int .i64 b.c, .int .i64 b.m, .int .i64 b.d] #[.int .i64 0, .int .i64 0, .int .i64 0] 23
  cases ga : a.good with
  | false =>
    have hc := check_c a
    rw [says_bad ga] at hc
    go_wp2_with (go_at_call 11; (with_reducible refine (hc _).mono ?_); rintro e w1 ⟨rfl, k1⟩; have h1 := h0.later k1; obtain ⟨⟨z0, z1, z2⟩, fz⟩ := box3 (h1.boxed 0 rfl); have fz0 := fz 0; have fz1 := fz 1; have fz2 := fz 2; clear fz)
    exact bodyPost_ret (v := .tuple #[.agg #[.int .i64 0, .int .i64 0, .int .i64 0], .bool false]) (by simp [results, Try.results20, go_sem, z0, z1, z2]) rfl ⟨by rw [joins_a ga]; rfl, (((h1.boxset 0 rfl 0 (.int .i64 0)).boxset 0 rfl 1 (.int .i64 0)).boxset 0 rfl 2 (.int .i64 0)).kept⟩
  | true =>
    have hc := check_c a
    rw [says_good ga] at hc
    cases gb : b.good with
    | false =>
      have hd := check_c b
      rw [says_bad gb] at hd
      obtain ⟨⟨y0, y1, y2⟩, _⟩ := box3 (h0.boxed 1 rfl)
      go_wp2_with (go_at_call 11; first
        | ((with_reducible refine (hc _).mono ?_); rintro e w1 ⟨rfl, k1⟩; have h1 := h0.later k1; obtain ⟨⟨v0, v1, v2⟩, _⟩ := box3 (h1.boxed 1 rfl))
        | ((with_reducible refine (hd _).mono ?_); rintro e w2 ⟨rfl, k2⟩; have h2 := h1.later k2; obtain ⟨⟨z0, z1, z2⟩, fz⟩ := box3 (h2.boxed 0 rfl); have fz0 := fz 0; have fz1 := fz 1; have fz2 := fz 2; clear fz))
      exact bodyPost_ret (v := .tuple #[.agg #[.int .i64 0, .int .i64 0, .int .i64 0], .bool false]) (by simp [results, Try.results20, go_sem, z0, z1, z2]) rfl ⟨by rw [joins_b gb]; rfl, (((h2.boxset 0 rfl 0 (.int .i64 0)).boxset 0 rfl 1 (.int .i64 0)).boxset 0 rfl 2 (.int .i64 0)).kept⟩
    | true =>
      have hd := check_c b
      rw [says_good gb] at hd
      obtain ⟨⟨a0, a1⟩, ⟨a2, a3⟩, a4, a5⟩ := good_iff.1 ga
      obtain ⟨⟨b0, b1⟩, ⟨b2, b3⟩, b4, b5⟩ := good_iff.1 gb
      obtain ⟨P, hP⟩ : ∃ P, P = Am.plus a b := ⟨_, rfl⟩
      have q0 := add1_c a.c b.c P.c (by rw [hP]; rfl) ⟨a0, a1⟩ ⟨b0, b1⟩
      have q1 := add1_c a.m b.m P.m (by rw [hP]; rfl) ⟨a2, a3⟩ ⟨b2, b3⟩
      have q2 := add1_c a.d b.d P.d (by rw [hP]; rfl) ⟨a4, a5⟩ ⟨b4, b5⟩
      have HP := Lib.hid hP
      clear hP
      clear a0 a1 a2 a3 a4 a5 b0 b1 b2 b3 b4 b5
      go_wp2_with (first
        | (go_at_call 11; first
          | ((with_reducible refine (hc _).mono ?_); rintro e w1 ⟨rfl, k1⟩; have h1 := h0.later k1; obtain ⟨⟨v0, v1, v2⟩, _⟩ := box3 (h1.boxed 1 rfl))
          | ((with_reducible refine (hd _).mono ?_); rintro e w2 ⟨rfl, k2⟩; have h2 := h1.later k2; obtain ⟨⟨z0, z1, z2⟩, _⟩ := box3 (h2.boxed 2 rfl)))
        | (go_at_call 22; first
          | ((with_reducible refine (amounts_c a _).mono ?_); rintro e w3 ⟨rfl, k3⟩; have h3 := (h2.later k3).box #[.int .i64 a.c, .int .i64 a.m, .int .i64 a.d] 35; obtain ⟨⟨t0, t1, t2⟩, _⟩ := box3 (h3.boxed 2 rfl))
          | ((with_reducible refine (amounts_c b _).mono ?_); rintro e w4 ⟨rfl, k4⟩; have h4 := h3.later k4)))
      clear h0 h1 h2 h3 k1 k2 k3 k4 v0 v1 v2 z0 z1 z2 t0 t1 t2 hc hd
      go_loopw [25] (fun i wr => ∃ x0 x1 x2 : Int, ((i = .int .i64 0 ∧ x0 = a.c ∧ x1 = a.m ∧ x2 = a.d) ∨ (i = .int .i64 1 ∧ x0 = P.c ∧ x1 = a.m ∧ x2 = a.d) ∨ (i = .int .i64 2 ∧ x0 = P.c ∧ x1 = P.m ∧ x2 = a.d) ∨ (i = .int .i64 3 ∧ x0 = P.c ∧ x1 = P.m ∧ x2 = P.d)) ∧ Own w [boxA w3.heap.size #[.int .i64 x0, .int .i64 x1, .int .i64 x2] 35, boxA (w.heap.size + 1 + 1) #[.int .i64 0, .int .i64 0, .int .i64 0] 23, boxA (w.heap.size + 1) #[.int .i64 b.c, .int .i64 b.m, .int .i64 b.d] 23, boxA w.heap.size #[.int .i64 a.c, .int .i64 a.m, .int .i64 a.d] 23] wr) (fun i _ => 3 - (intOf i).toNat)
      case atStart => exact ⟨_, _, _, .inl ⟨rfl, rfl, rfl, rfl⟩, h4⟩
      case round =>
        clear h4
        obtain ⟨x0, x1, x2, hx, h5⟩ := hrel
        obtain ⟨⟨z0, z1, z2⟩, fz⟩ := box3 (h5.boxed 0 rfl)
        have fz0 := fz 0
        have fz1 := fz 1
        have fz2 := fz 2
        clear fz
        rcases hx with ⟨rfl, rfl, rfl, rfl⟩ | ⟨rfl, rfl, rfl, rfl⟩ | ⟨rfl, rfl, rfl, rfl⟩ | ⟨rfl, rfl, rfl, rfl⟩
        · have i0 : ∀ W, (Instr.index 35 (.agg #[.int .i64 b.c, .int .i64 b.m, .int .i64 b.d]) (.int .i64 0)).run Try.prog W = .ok (.int .i64 b.c) W := fun _ => rfl
          go_wp2_with (go_at_call 21; (with_reducible refine (q0 _).mono ?_); rintro e w5 ⟨rfl, rfl⟩)
          go_roundw
          case rel => exact ⟨_, _, _, .inr (.inl ⟨rfl, rfl, rfl, rfl⟩), h5.boxset 0 rfl 0 (.int .i64 P.c)⟩
          case measure => decide
        · have i0 : ∀ W, (Instr.index 35 (.agg #[.int .i64 b.c, .int .i64 b.m, .int .i64 b.d]) (.int .i64 1)).run Try.prog W = .ok (.int .i64 b.m) W := fun _ => rfl
          go_wp2_with (go_at_call 21; (with_reducible refine (q1 _).mono ?_); rintro e w5 ⟨rfl, rfl⟩)
          go_roundw
          case rel => exact ⟨_, _, _, .inr (.inr (.inl ⟨rfl, rfl, rfl, rfl⟩)), h5.boxset 0 rfl 1 (.int .i64 P.m)⟩
          case measure => decide
        · have i0 : ∀ W, (Instr.index 35 (.agg #[.int .i64 b.c, .int .i64 b.m, .int .i64 b.d]) (.int .i64 2)).run Try.prog W = .ok (.int .i64 b.d) W := fun _ => rfl
          go_wp2_with (go_at_call 21; (with_reducible refine (q2 _).mono ?_); rintro e w5 ⟨rfl, rfl⟩)
          go_roundw
          case rel => exact ⟨_, _, _, .inr (.inr (.inr ⟨rfl, rfl, rfl, rfl⟩)), h5.boxset 0 rfl 2 (.int .i64 P.d)⟩
          case measure => decide
        · clear q0 q1 q2
          cases gp : P.good with
          | false =>
            have hc := check_c P
            rw [says_bad gp] at hc
            go_wp2_with (first
              | (go_at_call 25; (with_reducible refine (resources_c P _).mono ?_); rintro e w6 ⟨rfl, k6⟩; have h6 := (h5.later k6).box #[.int .i64 P.c, .int .i64 P.m, .int .i64 P.d] 23)
              | (go_at_call 11; (with_reducible refine (hc _).mono ?_); rintro e w7 ⟨rfl, k7⟩; have h7 := h6.later k7; obtain ⟨⟨y0, y1, y2⟩, fy⟩ := box3 (h7.boxed 2 rfl); have fy0 := fy 0; have fy1 := fy 1; have fy2 := fy 2; clear fy))
            exact bodyPost_ret (v := .tuple #[.agg #[.int .i64 0, .int .i64 0, .int .i64 0], .bool false]) (by simp [results, Try.results20, go_sem, y0, y1, y2]) rfl ⟨by rw [joins_p (HP.out ▸ gp)]; rfl, (((h7.boxset 2 rfl 0 (.int .i64 0)).boxset 2 rfl 1 (.int .i64 0)).boxset 2 rfl 2 (.int .i64 0)).kept⟩
          | true =>
            have hc := check_c P
            rw [says_good gp] at hc
            go_wp2_with (first
              | (go_at_call 25; (with_reducible refine (resources_c P _).mono ?_); rintro e w6 ⟨rfl, k6⟩; have h6 := (h5.later k6).box #[.int .i64 P.c, .int .i64 P.m, .int .i64 P.d] 23)
              | (go_at_call 11; (with_reducible refine (hc _).mono ?_); rintro e w7 ⟨rfl, k7⟩; have h7 := h6.later k7; obtain ⟨⟨y0, y1, y2⟩, fy⟩ := box3 (h7.boxed 2 rfl); have fy0 := fy 0; have fy1 := fy 1; have fy2 := fy 2; clear fy; obtain ⟨⟨p0, p1, p2⟩, _⟩ := box3 (h7.boxed 0 rfl)))
            exact bodyPost_ret (v := .tuple #[.agg #[.int .i64 P.c, .int .i64 P.m, .int .i64 P.d], .bool true]) (by simp [results, Try.results20, go_sem, y0, y1, y2]) rfl ⟨by rw [joins_ok ga gb (HP.out ▸ gp), ← HP.out], (((h7.boxset 2 rfl 0 (.int .i64 P.c)).boxset 2 rfl 1 (.int .i64 P.m)).boxset 2 rfl 2 (.int .i64 P.d)).kept⟩
set_option maxRecDepth 100000 in
theorem add_c (a b : Am) (w : World) : Calls Try.prog 9 #[.agg #[.int .i64 a.c, .int .i64 a.m, .int .i64 a.d], .agg #[.int .i64 b.c, .int .i64 b.m, .int .i64 b.d]] w fun e w' => e = .returned (.tuple #[.agg #[.int .i64 (adds a b).1.c, .int .i64 (adds a b).1.m, .int .i64 (adds a b).1.d], .bool (adds a b).2]) ∧ Kept w w' := by
  have hc := combine_add a b
  have e : joins Am.plus a b = adds a b := rfl
  rw [e] at hc
  generalize adds a b = R at hc ⊢
  obtain ⟨⟨r0, r1, r2⟩, q⟩ := R
  go_enter Try.func9, Try.ntmps9
  have h0 := own3 w #[.int .i64 a.c, .int .i64 a.m, .int .i64 a.d] #[.int .i64 b.c, .int .i64 b.m, .int .i64 b.d] #[.int .i64 0, .int .i64 0, .int .i64 0] 23
  go_wp2_with (go_at_call 20; (with_reducible refine (hc _).mono ?_); rintro e w1 ⟨rfl, k1⟩; have h1 := h0.later k1; obtain ⟨⟨y0, y1, y2⟩, fy⟩ := box3 (h1.boxed 0 rfl); have fy0 := fy 0; have fy1 := fy 1; have fy2 := fy 2; clear fy)
  exact bodyPost_ret (v := .tuple #[.agg #[.int .i64 r0, .int .i64 r1, .int .i64 r2], .bool q]) (by simp [results, Try.results9, go_sem, y0, y1, y2]) rfl ⟨rfl, (((h1.boxset 0 rfl 0 (.int .i64 r0)).boxset 0 rfl 1 (.int .i64 r1)).boxset 0 rfl 2 (.int .i64 r2)).kept⟩

set_option maxRecDepth 100000 in
theorem sub1_c (a b v : Int) (hv : v = a - b) (ha : 0 ≤ a ∧ a ≤ 1099511627776) (hb : 0 ≤ b ∧ b ≤ 1099511627776) (w : World) : Calls Try.prog 24 #[.int .i64 a, .int .i64 b] w fun e w' => e = .returned (.int .i64 v) ∧ w = w' := by
  have hw : IntKind.i64.wrap (a - b) = a - b := by rw [IntKind.wrap_i64]; omega
  go_enter Try.func24, Try.ntmps24
  go_wp2
  go_ret
  exact ⟨by rw [hv]; first | rfl | (rw [hw]; rfl), rfl⟩

set_option maxRecDepth 100000 in
theorem combine_sub (a b : Am) (w : World) : Calls Try.prog 20 #[.agg #[.int .i64 a.c, .int .i64 a.m, .int .i64 a.d], .agg #[.int .i64 b.c, .int .i64 b.m, .int .i64 b.d], .func (.func 24) #[] #[]] w fun e w' => e = .returned (.tuple #[.agg #[.int .i64 (joins Am.less a b).1.c, .int .i64 (joins Am.less a b).1.m, .int .i64 (joins Am.less a b).1.d], .bool (joins Am.less a b).2]) ∧ Kept w w' := by
  go_enter Try.func20, Try.ntmps20
  have h0 := own3 w #[.int .i64 a.c, .int .i64 a.m, .int .i64 a.d] #[.int .i64 b.c, .int .i64 b.m, .int .i64 b.d] #[.int .i64 0, .int .i64 0, .int .i64 0] 23
  cases ga : a.good with
  | false =>
    have hc := check_c a
    rw [says_bad ga] at hc
    go_wp2_with (go_at_call 11; (with_reducible refine (hc _).mono ?_); rintro e w1 ⟨rfl, k1⟩; have h1 := h0.later k1; obtain ⟨⟨z0, z1, z2⟩, fz⟩ := box3 (h1.boxed 0 rfl); have fz0 := fz 0; have fz1 := fz 1; have fz2 := fz 2; clear fz)
    exact bodyPost_ret (v := .tuple #[.agg #[.int .i64 0, .int .i64 0, .int .i64 0], .bool false]) (by simp [results, Try.results20, go_sem, z0, z1, z2]) rfl ⟨by rw [joins_a ga]; rfl, (((h1.boxset 0 rfl 0 (.int .i64 0)).boxset 0 rfl 1 (.int .i64 0)).boxset 0 rfl 2 (.int .i64 0)).kept⟩
  | true =>
    have hc := check_c a
    rw [says_good ga] at hc
    cases gb : b.good with
    | false =>
      have hd := check_c b
      rw [says_bad gb] at hd
      obtain ⟨⟨y0, y1, y2⟩, _⟩ := box3 (h0.boxed 1 rfl)
      go_wp2_with (go_at_call 11; first
        | ((with_reducible refine (hc _).mono ?_); rintro e w1 ⟨rfl, k1⟩; have h1 := h0.later k1; obtain ⟨⟨v0, v1, v2⟩, _⟩ := box3 (h1.boxed 1 rfl))
        | ((with_reducible refine (hd _).mono ?_); rintro e w2 ⟨rfl, k2⟩; have h2 := h1.later k2; obtain ⟨⟨z0, z1, z2⟩, fz⟩ := box3 (h2.boxed 0 rfl); have fz0 := fz 0; have fz1 := fz 1; have fz2 := fz 2; clear fz))
      exact bodyPost_ret (v := .tuple #[.agg #[.int .i64 0, .int .i64 0, .int .i64 0], .bool false]) (by simp [results, Try.results20, go_sem, z0, z1, z2]) rfl ⟨by rw [joins_b gb]; rfl, (((h2.boxset 0 rfl 0 (.int .i64 0)).boxset 0 rfl 1 (.int .i64 0)).boxset 0 rfl 2 (.int .i64 0)).kept⟩
    | true =>
      have hd := check_c b
      rw [says_good gb] at hd
      obtain ⟨⟨a0, a1⟩, ⟨a2, a3⟩, a4, a5⟩ := good_iff.1 ga
      obtain ⟨⟨b0, b1⟩, ⟨b2, b3⟩, b4, b5⟩ := good_iff.1 gb
      obtain ⟨P, hP⟩ : ∃ P, P = Am.less a b := ⟨_, rfl⟩
      have q0 := sub1_c a.c b.c P.c (by rw [hP]; rfl) ⟨a0, a1⟩ ⟨b0, b1⟩
      have q1 := sub1_c a.m b.m P.m (by rw [hP]; rfl) ⟨a2, a3⟩ ⟨b2, b3⟩
      have q2 := sub1_c a.d b.d P.d (by rw [hP]; rfl) ⟨a4, a5⟩ ⟨b4, b5⟩
      have HP := Lib.hid hP
      clear hP
      clear a0 a1 a2 a3 a4 a5 b0 b1 b2 b3 b4 b5
      go_wp2_with (first
        | (go_at_call 11; first
          | ((with_reducible refine (hc _).mono ?_); rintro e w1 ⟨rfl, k1⟩; have h1 := h0.later k1; obtain ⟨⟨v0, v1, v2⟩, _⟩ := box3 (h1.boxed 1 rfl))
          | ((with_reducible refine (hd _).mono ?_); rintro e w2 ⟨rfl, k2⟩; have h2 := h1.later k2; obtain ⟨⟨z0, z1, z2⟩, _⟩ := box3 (h2.boxed 2 rfl)))
        | (go_at_call 22; first
          | ((with_reducible refine (amounts_c a _).mono ?_); rintro e w3 ⟨rfl, k3⟩; have h3 := (h2.later k3).box #[.int .i64 a.c, .int .i64 a.m, .int .i64 a.d] 35; obtain ⟨⟨t0, t1, t2⟩, _⟩ := box3 (h3.boxed 2 rfl))
          | ((with_reducible refine (amounts_c b _).mono ?_); rintro e w4 ⟨rfl, k4⟩; have h4 := h3.later k4)))
      clear h0 h1 h2 h3 k1 k2 k3 k4 v0 v1 v2 z0 z1 z2 t0 t1 t2 hc hd
      go_loopw [25] (fun i wr => ∃ x0 x1 x2 : Int, ((i = .int .i64 0 ∧ x0 = a.c ∧ x1 = a.m ∧ x2 = a.d) ∨ (i = .int .i64 1 ∧ x0 = P.c ∧ x1 = a.m ∧ x2 = a.d) ∨ (i = .int .i64 2 ∧ x0 = P.c ∧ x1 = P.m ∧ x2 = a.d) ∨ (i = .int .i64 3 ∧ x0 = P.c ∧ x1 = P.m ∧ x2 = P.d)) ∧ Own w [boxA w3.heap.size #[.int .i64 x0, .int .i64 x1, .int .i64 x2] 35, boxA (w.heap.size + 1 + 1) #[.int .i64 0, .int .i64 0, .int .i64 0] 23, boxA (w.heap.size + 1) #[.int .i64 b.c, .int .i64 b.m, .int .i64 b.d] 23, boxA w.heap.size #[.int .i64 a.c, .int .i64 a.m, .int .i64 a.d] 23] wr) (fun i _ => 3 - (intOf i).toNat)
      case atStart => exact ⟨_, _, _, .inl ⟨rfl, rfl, rfl, rfl⟩, h4⟩
      case round =>
        clear h4
        obtain ⟨x0, x1, x2, hx, h5⟩ := hrel
        obtain ⟨⟨z0, z1, z2⟩, fz⟩ := box3 (h5.boxed 0 rfl)
        have fz0 := fz 0
        have fz1 := fz 1
        have fz2 := fz 2
        clear fz
        rcases hx with ⟨rfl, rfl, rfl, rfl⟩ | ⟨rfl, rfl, rfl, rfl⟩ | ⟨rfl, rfl, rfl, rfl⟩ | ⟨rfl, rfl, rfl, rfl⟩
        · have i0 : ∀ W, (Instr.index 35 (.agg #[.int .i64 b.c, .int .i64 b.m, .int .i64 b.d]) (.int .i64 0)).run Try.prog W = .ok (.int .i64 b.c) W := fun _ => rfl
          go_wp2_with (go_at_call 24; (with_reducible refine (q0 _).mono ?_); rintro e w5 ⟨rfl, rfl⟩)
          go_roundw
          case rel => exact ⟨_, _, _, .inr (.inl ⟨rfl, rfl, rfl, rfl⟩), h5.boxset 0 rfl 0 (.int .i64 P.c)⟩
          case measure => decide
        · have i0 : ∀ W, (Instr.index 35 (.agg #[.int .i64 b.c, .int .i64 b.m, .int .i64 b.d]) (.int .i64 1)).run Try.prog W = .ok (.int .i64 b.m) W := fun _ => rfl
          go_wp2_with (go_at_call 24; (with_reducible refine (q1 _).mono ?_); rintro e w5 ⟨rfl, rfl⟩)
          go_roundw
          case rel => exact ⟨_, _, _, .inr (.inr (.inl ⟨rfl, rfl, rfl, rfl⟩)), h5.boxset 0 rfl 1 (.int .i64 P.m)⟩
          case measure => decide
        · have i0 : ∀ W, (Instr.index 35 (.agg #[.int .i64 b.c, .int .i64 b.m, .int .i64 b.d]) (.int .i64 2)).run Try.prog W = .ok (.int .i64 b.d) W := fun _ => rfl
          go_wp2_with (go_at_call 24; (with_reducible refine (q2 _).mono ?_); rintro e w5 ⟨rfl, rfl⟩)
          go_roundw
          case rel => exact ⟨_, _, _, .inr (.inr (.inr ⟨rfl, rfl, rfl, rfl⟩)), h5.boxset 0 rfl 2 (.int .i64 P.d)⟩
          case measure => decide
        · clear q0 q1 q2
          cases gp : P.good with
          | false =>
            have hc := check_c P
            rw [says_bad gp] at hc
            go_wp2_with (first
              | (go_at_call 25; (with_reducible refine (resources_c P _).mono ?_); rintro e w6 ⟨rfl, k6⟩; have h6 := (h5.later k6).box #[.int .i64 P.c, .int .i64 P.m, .int .i64 P.d] 23)
              | (go_at_call 11; (with_reducible refine (hc _).mono ?_); rintro e w7 ⟨rfl, k7⟩; have h7 := h6.later k7; obtain ⟨⟨y0, y1, y2⟩, fy⟩ := box3 (h7.boxed 2 rfl); have fy0 := fy 0; have fy1 := fy 1; have fy2 := fy 2; clear fy))
            exact bodyPost_ret (v := .tuple #[.agg #[.int .i64 0, .int .i64 0, .int .i64 0], .bool false]) (by simp [results, Try.results20, go_sem, y0, y1, y2]) rfl ⟨by rw [joins_p (HP.out ▸ gp)]; rfl, (((h7.boxset 2 rfl 0 (.int .i64 0)).boxset 2 rfl 1 (.int .i64 0)).boxset 2 rfl 2 (.int .i64 0)).kept⟩
          | true =>
            have hc := check_c P
            rw [says_good gp] at hc
            go_wp2_with (first
              | (go_at_call 25; (with_reducible refine (resources_c P _).mono ?_); rintro e w6 ⟨rfl, k6⟩; have h6 := (h5.later k6).box #[.int .i64 P.c, .int .i64 P.m, .int .i64 P.d] 23)
              | (go_at_call 11; (with_reducible refine (hc _).mono ?_); rintro e w7 ⟨rfl, k7⟩; have h7 := h6.later k7; obtain ⟨⟨y0, y1, y2⟩, fy⟩ := box3 (h7.boxed 2 rfl); have fy0 := fy 0; have fy1 := fy 1; have fy2 := fy 2; clear fy; obtain ⟨⟨p0, p1, p2⟩, _⟩ := box3 (h7.boxed 0 rfl)))
            exact bodyPost_ret (v := .tuple #[.agg #[.int .i64 P.c, .int .i64 P.m, .int .i64 P.d], .bool true]) (by simp [results, Try.results20, go_sem, y0, y1, y2]) rfl ⟨by rw [joins_ok ga gb (HP.out ▸ gp), ← HP.out], (((h7.boxset 2 rfl 0 (.int .i64 P.c)).boxset 2 rfl 1 (.int .i64 P.m)).boxset 2 rfl 2 (.int .i64 P.d)).kept⟩
set_option maxRecDepth 100000 in
theorem sub_c (a b : Am) (w : World) : Calls Try.prog 15 #[.agg #[.int .i64 a.c, .int .i64 a.m, .int .i64 a.d], .agg #[.int .i64 b.c, .int .i64 b.m, .int .i64 b.d]] w fun e w' => e = .returned (.tuple #[.agg #[.int .i64 (subs a b).1.c, .int .i64 (subs a b).1.m, .int .i64 (subs a b).1.d], .bool (subs a b).2]) ∧ Kept w w' := by
  have hc := combine_sub a b
  have e : joins Am.less a b = subs a b := rfl
  rw [e] at hc
  generalize subs a b = R at hc ⊢
  obtain ⟨⟨r0, r1, r2⟩, q⟩ := R
  go_enter Try.func15, Try.ntmps15
  have h0 := own3 w #[.int .i64 a.c, .int .i64 a.m, .int .i64 a.d] #[.int .i64 b.c, .int .i64 b.m, .int .i64 b.d] #[.int .i64 0, .int .i64 0, .int .i64 0] 23
  go_wp2_with (go_at_call 20; (with_reducible refine (hc _).mono ?_); rintro e w1 ⟨rfl, k1⟩; have h1 := h0.later k1; obtain ⟨⟨y0, y1, y2⟩, fy⟩ := box3 (h1.boxed 0 rfl); have fy0 := fy 0; have fy1 := fy 1; have fy2 := fy 2; clear fy)
  exact bodyPost_ret (v := .tuple #[.agg #[.int .i64 r0, .int .i64 r1, .int .i64 r2], .bool q]) (by simp [results, Try.results15, go_sem, y0, y1, y2]) rfl ⟨rfl, (((h1.boxset 0 rfl 0 (.int .i64 r0)).boxset 0 rfl 1 (.int .i64 r1)).boxset 0 rfl 2 (.int .i64 r2)).kept⟩
end Go.Proofs.Ytdendciedodffaa.Re
