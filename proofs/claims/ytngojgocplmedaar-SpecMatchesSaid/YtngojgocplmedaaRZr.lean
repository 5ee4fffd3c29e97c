/-
  SpecMatches (layer 13): its walk. (Written by program.)
-/
import Derived.Test.YtngojgocplmedaaRZz
namespace Go.Proofs.YtngojgocplmedaaR.Ls
open Go.RowKit Go.Proofs.YtngojgocplmedaaR.Mem Go.Proofs.YtngojgocplmedaaR.Bx Go.Proofs.YtngojgocplmedaaR.In Go.Proofs.YtngojgocplmedaaR.Sp Go.Proofs.YtngojgocplmedaaR.Nr Go.ChangeShapes Go.WideShapes Go.ChangeAt
set_option linter.unusedVariables false
theorem few_few (s : Sp) : few (few s) = few s := by
  unfold few
  simp [List.take_take]
theorem few_len (x : Sp) : (few x).ports.length ≤ 20 ∧ (few x).tasks.length ≤ 10 := by
  unfold few
  simp only [List.length_take]
  omega
theorem sp_small {w : World} {X : Sp} {q : Pl} (h : SpAt w X q) (hl : X.ports.length ≤ 20 ∧ X.tasks.length ≤ 10) : q.pn ≤ 1000000 ∧ q.tn ≤ 1000000 := by
  have h1 := h.ports.len
  have h2 := h.tasks.len
  omega
/-- A row of m cells of type U that may be written: it lies in a block from B on, below N. -/
def FreeB (B N : Nat) (U : TypeId) (w : World) (ao : Option Addr) (m : Nat) : Prop := m = 0 ∨ ∃ g cs, ao = some ⟨g, 0, none⟩ ∧ B ≤ g ∧ g < N ∧ w.heap[g]? = some (.cells cs U (0, 0)) ∧ m ≤ cs.size
theorem free_row {B N : Nat} {U : TypeId} {k n c : Nat} {w : World} {ao : Option Addr} {xs : List Value} (h : w.ownsRow B U k (.slice ao n c) n xs) (hN : w.heap.size ≤ N) : FreeB B N U w ao (n * k) := by
  rcases h.2 with ⟨_, e0⟩ | ⟨g, c', cur, e, hb, hh, hc, _, hs, _⟩
  · exact .inl (by rw [e0, Nat.zero_mul])
  · cases e
    exact .inr ⟨g, cur, rfl, hb, Nat.lt_of_lt_of_le (lt_of_block hh) hN, hh, by rw [hs]; exact Nat.mul_le_mul_right _ hc⟩
theorem FreeB.kept {B N : Nat} {U : TypeId} {w w' : World} {ao : Option Addr} {m : Nat} (h : FreeB B N U w ao m) (k : Kept w w') : FreeB B N U w' ao m := by
  rcases h with h | ⟨g, cs, e, hb, hn, hh, hm⟩
  · exact .inl h
  · exact .inr ⟨g, cs, e, hb, hn, k.block hh, hm⟩
theorem FreeB.get {B N : Nat} {U : TypeId} {w : World} {ao : Option Addr} {m : Nat} (h : FreeB B N U w ao m) {k : Nat} (hk : k < m) : ∃ g v, ao = some ⟨g, 0, none⟩ ∧ w.cell? ⟨g, k, none⟩ = some v ∧ w.frozen? ⟨g, k, none⟩ = false ∧ ∀ x, FreeB B N U (w.setCell ⟨g, k, none⟩ x) ao m ∧ (∀ u : World, u.heap.size ≤ B → Kept u w → Kept u (w.setCell ⟨g, k, none⟩ x)) ∧ (∀ i ob, N ≤ i → w.heap[i]? = some ob → (w.setCell ⟨g, k, none⟩ x).heap[i]? = some ob) ∧ (∀ V bo l, U ≠ V → FreeB B N V w bo l → FreeB B N V (w.setCell ⟨g, k, none⟩ x) bo l) := by
  rcases h with h | ⟨g, cs, e, hb, hn, hh, hm⟩
  · omega
  · have hks : k < cs.size := by omega
    refine ⟨g, cs[k], e, ?_, frozen_of_row w g k cs _ hh, fun x => ⟨.inr ⟨g, _, e, hb, hn, heap_setCell_same w g k cs _ x hh, by simpa using hm⟩, fun u hu hK => Below.setCell hK (Nat.le_trans hu hb) x, fun i ob hi ho => ?_, fun V bo l hV h2 => ?_⟩⟩
    · rw [cell_of_row w g k cs _ _ hh]; simp [hks]
    · rw [heap_setCell_other _ _ _ _ (show i ≠ g by omega)]; exact ho
    · rcases h2 with h2 | ⟨g2, cs2, e2, hb2, hn2, hh2, hm2⟩
      · exact .inl h2
      · refine .inr ⟨g2, cs2, e2, hb2, hn2, ?_, hm2⟩
        rw [heap_setCell_other _ _ _ _ (show g2 ≠ g from fun e => hV (by subst e; rw [hh] at hh2; injection hh2 with h3; injection h3))]
        exact hh2
set_option maxHeartbeats 16000000 in
set_option maxRecDepth 100000 in
theorem matches_core (P : SpecP) (x y : Sp) (p1 : Option Addr) (p2 p3 : Nat) (p4 : Option Addr) (p5 p6 : Nat) (o1 : Option Addr) (o2 o3 : Nat) (o4 : Option Addr) (o5 o6 : Nat) (w : World) (hx : SpAt w x ⟨p1, p2, p3, p4, p5, p6⟩) (hy : SpAt w y ⟨o1, o2, o3, o4, o5, o6⟩) : Calls Try.prog 3 #[.agg #[.int .i64 x.id, .int .i64 x.c, .int .i64 x.m, .int .i64 x.d, .slice p1 p2 p3, .slice p4 p5 p6], .agg #[.int .i64 y.id, .int .i64 y.c, .int .i64 y.m, .int .i64 y.d, .slice o1 o2 o3, .slice o4 o5 o6]] w fun e w' => e = .returned (.bool true) ∧ Kept w w' := by
  have O0 := Lib.hid (boxes2 w #[.int .i64 x.id, .int .i64 x.c, .int .i64 x.m, .int .i64 x.d, .slice p1 p2 p3, .slice p4 p5 p6] #[.int .i64 y.id, .int .i64 y.c, .int .i64 y.m, .int .i64 y.d, .slice o1 o2 o3, .slice o4 o5 o6] 27)
  have HX := Lib.hid hx
  have HY := Lib.hid hy
  clear hx hy
  have hF := few6 x p1 p2 p3 p4 p5 p6
  have hG := few6 y o1 o2 o3 o4 o5 o6
  have hT : ∀ (q1 : Option Addr) (q2 q3 : Nat) (q4 : Option Addr) (q5 q6 : Nat), Fews (few x) (few x) q1 q2 q3 q4 q5 q6 := fun q1 q2 q3 q4 q5 q6 => by have := few6 (few x) q1 q2 q3 q4 q5 q6; rwa [few_few] at this
  have hL := few_len x
  generalize few x = X at hF hT hL
  have HL := Lib.hid hL
  clear hL
  generalize few y = Y at hG
  have HF := Lib.hid hF
  have HG := Lib.hid hG
  clear hF hG
  obtain ⟨⟨u0, u1, u2, u3, u4, u5⟩, _⟩ := box6 (O0.out.drew.boxed 1 rfl)
  obtain ⟨⟨v0, v1, v2, v3, v4, v5⟩, _⟩ := box6 (O0.out.drew.boxed 0 rfl)
  obtain ⟨A, hA⟩ : ∃ A, A = encV X := ⟨_, rfl⟩
  obtain ⟨E, hE⟩ : ∃ E, E = spSays X := ⟨_, rfl⟩
  obtain ⟨Q, hQ⟩ : ∃ Q, Q = decide (X = Y) := ⟨_, rfl⟩
  have c1 : Encs X A E := fun u q1 q2 q3 q4 q5 q6 h => by have := P.enc h; rwa [← hA, ← hE] at this
  have c2 : ∀ (u : World) (q1 : Option Addr) (q2 q3 : Nat) (q4 : Option Addr) (q5 q6 : Nat), SpAt u X ⟨q1, q2, q3, q4, q5, q6⟩ → Calls Try.prog 11 #[.agg #[.int .i64 X.id, .int .i64 X.c, .int .i64 X.m, .int .i64 X.d, .slice q1 q2 q3, .slice q4 q5 q6]] u fun e w' => e = .returned (.tuple #[.string A, .int .i64 E]) ∧ Kept u w' := fun u q1 q2 q3 q4 q5 q6 h => by have := renc_c h; rwa [← hA, ← hE] at this
  have c3 : Chks X E := fun u q1 q2 q3 q4 q5 q6 h => by have := P.check h; rwa [← hE] at this
  have c4 : ∀ (u : World) (q1 : Option Addr) (q2 q3 : Nat) (q4 : Option Addr) (q5 q6 : Nat), SpAt u X ⟨q1, q2, q3, q4, q5, q6⟩ → Calls Try.prog 15 #[.agg #[.int .i64 X.id, .int .i64 X.c, .int .i64 X.m, .int .i64 X.d, .slice q1 q2 q3, .slice q4 q5 q6]] u fun e w' => e = .returned (.int .i64 E) ∧ Kept u w' := fun u q1 q2 q3 q4 q5 q6 h => by have := rspec_c h; rwa [← hE] at this
  have c5 : ∀ (u : World) (q1 : Option Addr) (q2 q3 : Nat) (q4 : Option Addr) (q5 q6 : Nat), SpAt u X ⟨q1, q2, q3, q4, q5, q6⟩ → q2 ≤ 1000000 → q5 ≤ 1000000 → Calls Try.prog 12 #[.agg #[.int .i64 X.id, .int .i64 X.c, .int .i64 X.m, .int .i64 X.d, .slice q1 q2 q3, .slice q4 q5 q6]] u fun e w' => ∃ (c1 : Option Addr) (c2 c3 : Nat) (c4 : Option Addr) (c5 c6 : Nat), e = .returned (.agg #[.int .i64 X.id, .int .i64 X.c, .int .i64 X.m, .int .i64 X.d, .slice c1 c2 c3, .slice c4 c5 c6]) ∧ SpNew u.heap.size w' X ⟨c1, c2, c3, c4, c5, c6⟩ ∧ Kept u w' := fun u q1 q2 q3 q4 q5 q6 h h2 h5 => (P.copy h h2 h5).mono fun e w' ⟨⟨c1, c2, c3, c4, c5, c6⟩, h1, h2, h3⟩ => ⟨c1, c2, c3, c4, c5, c6, h1, h2, h3⟩
  have c6 : ∀ (u : World) (q1 : Option Addr) (q2 q3 : Nat) (q4 : Option Addr) (q5 q6 : Nat) (r1 : Option Addr) (r2 r3 : Nat) (r4 : Option Addr) (r5 r6 : Nat), SpAt u X ⟨q1, q2, q3, q4, q5, q6⟩ → SpAt u Y ⟨r1, r2, r3, r4, r5, r6⟩ → Calls Try.prog 16 #[.agg #[.int .i64 X.id, .int .i64 X.c, .int .i64 X.m, .int .i64 X.d, .slice q1 q2 q3, .slice q4 q5 q6], .agg #[.int .i64 Y.id, .int .i64 Y.c, .int .i64 Y.m, .int .i64 Y.d, .slice r1 r2 r3, .slice r4 r5 r6]] u fun e w' => e = .returned (.bool Q) ∧ Kept u w' := fun u q1 q2 q3 q4 q5 q6 r1 r2 r3 r4 r5 r6 h k => by have := P.eq h k; rwa [← hQ] at this
  have c7 : ∀ (u : World) (q1 : Option Addr) (q2 q3 : Nat) (q4 : Option Addr) (q5 q6 : Nat) (r1 : Option Addr) (r2 r3 : Nat) (r4 : Option Addr) (r5 r6 : Nat), SpAt u X ⟨q1, q2, q3, q4, q5, q6⟩ → SpAt u Y ⟨r1, r2, r3, r4, r5, r6⟩ → Calls Try.prog 13 #[.agg #[.int .i64 X.id, .int .i64 X.c, .int .i64 X.m, .int .i64 X.d, .slice q1 q2 q3, .slice q4 q5 q6], .agg #[.int .i64 Y.id, .int .i64 Y.c, .int .i64 Y.m, .int .i64 Y.d, .slice r1 r2 r3, .slice r4 r5 r6]] u fun e w' => e = .returned (.bool Q) ∧ Kept u w' := fun u q1 q2 q3 q4 q5 q6 r1 r2 r3 r4 r5 r6 h k => by have := eqs_c h k; rwa [← hQ] at this
  have c8 : ∀ (u : World) (q1 : Option Addr) (q2 q3 : Nat) (q4 : Option Addr) (q5 q6 : Nat) (r1 : Option Addr) (r2 r3 : Nat) (r4 : Option Addr) (r5 r6 : Nat), SpAt u X ⟨q1, q2, q3, q4, q5, q6⟩ → SpAt u X ⟨r1, r2, r3, r4, r5, r6⟩ → Calls Try.prog 16 #[.agg #[.int .i64 X.id, .int .i64 X.c, .int .i64 X.m, .int .i64 X.d, .slice q1 q2 q3, .slice q4 q5 q6], .agg #[.int .i64 X.id, .int .i64 X.c, .int .i64 X.m, .int .i64 X.d, .slice r1 r2 r3, .slice r4 r5 r6]] u fun e w' => e = .returned (.bool true) ∧ Kept u w' := fun u q1 q2 q3 q4 q5 q6 r1 r2 r3 r4 r5 r6 h k => by have := P.eq h k; rwa [decide_eq_true (p := X = X) rfl] at this
  have c9 := awake_c P
  have C := Lib.hid (And.intro c1 (And.intro c2 (And.intro c3 (And.intro c4 (And.intro c5 (And.intro c6 (And.intro c7 (And.intro c8 (And.intro c9 hT)))))))))
  clear c1 c2 c3 c4 c5 c6 c7 c8 c9 hT hA hE hQ P
  have g1 : (Q != Q) = false := by simp
  have g2 : (E != E) = false := by simp
  have g3 : (!(A.toList == A.toList)) = false := by simp
  have g4 : (A.toList == A.toList) = true := by simp
  go_enter Try.func3, Try.ntmps3
  go_upto_region 1 with fail
  go_cut [4] from 13 to 16 (fun v4 wx => v4 = .bool false ∧ ∃ (q1 : Option Addr) (q2 q3 : Nat) (q4 : Option Addr) (q5 q6 : Nat) (r1 : Option Addr) (r2 r3 : Nat) (r4 : Option Addr) (r5 r6 : Nat), Two w X Y q1 q2 q3 q4 q5 q6 r1 r2 r3 r4 r5 r6 wx)
  case first =>
    go_region_with (first
      | (go_at_call 9; first
        | ((with_reducible refine (HF.out _ (HX.out.kept O0.out.kept.drew)).mono ?_); rintro e w1 ⟨q1, q2, q3, q4, q5, q6, rfl, n1, k1⟩; have N1 := Lib.hid n1; clear n1; have O1 := Lib.hid (O0.out.drew.later k1); obtain ⟨⟨m0, m1, m2, m3, m4, m5⟩, _⟩ := box6 (O1.out.boxed 0 rfl))
        | ((with_reducible refine (HG.out _ (HY.out.kept O1.out.kept)).mono ?_); rintro e w2 ⟨r1, r2, r3, r4, r5, r6, rfl, n2, k2⟩; have N2 := Lib.hid n2; clear n2; have K2 := Lib.hid k2; have O2 := Lib.hid (O1.out.later k2); obtain ⟨⟨m0, m1, m2, m3, m4, m5⟩, fm⟩ := box6 (O2.out.boxed 0 rfl); obtain ⟨⟨l0, l1, l2, l3, l4, l5⟩, fl⟩ := box6 (O2.out.boxed 1 rfl); have y0 := fm 0; have y1 := fm 1; have y2 := fm 2; have y3 := fm 3; have y4 := fm 4; have y5 := fm 5; have x0 := fl 0; have x1 := fl 1; have x2 := fl 2; have x3 := fl 3; have x4 := fl 4; have x5 := fl 5; clear fm fl)))
    all_goals
      go_wp2_with fail
      go_meet
      have hs0 : w.heap.size + 2 ≤ ((w.alloc (.cells #[.int .i64 x.id, .int .i64 x.c, .int .i64 x.m, .int .i64 x.d, .slice p1 p2 p3, .slice p4 p5 p6] 27)).alloc (.cells #[.int .i64 y.id, .int .i64 y.c, .int .i64 y.m, .int .i64 y.d, .slice o1 o2 o3, .slice o4 o5 o6] 27)).drew.heap.size := by simp [World.drew]
      have hs1 : w.heap.size + 2 ≤ w1.heap.size := Nat.le_trans hs0 k1.size
      exact ⟨rfl, _, _, _, _, _, _, _, _, _, _, _, _, two_end O2.out ((N1.out.base hs0).kept K2.out) (N2.out.base hs1)⟩
  case rest =>
    obtain ⟨rfl, q1, q2, q3, q4, q5, q6, r1, r2, r3, r4, r5, r6, hO, hX, hY⟩ := hcut
    clear u0 u1 u2 u3 u4 u5 v0 v1 v2 v3 v4 v5
    have OQ := Lib.hid hO
    have SX := Lib.hid hX.at
    have SY := Lib.hid hY.at
    clear hO hX hY
    obtain ⟨⟨m0, m1, m2, m3, m4, m5⟩, _⟩ := box6 (OQ.out.boxed 1 rfl)
    go_upto_region 6 with (first
      | (go_at_call 9; (with_reducible refine (C.out.2.2.2.2.2.2.2.2.2 q1 q2 q3 q4 q5 q6 _ SX.out).mono ?_); rintro e w1 ⟨n1, n2, n3, n4, n5, n6, rfl, hn, k1⟩; clear m0 m1 m2 m3 m4 m5; have NX := Lib.hid hn.at; have hn2 := Lib.hid (show n2 ≤ 1000000 ∧ n5 ≤ 1000000 from sp_small hn.at HL.out); clear hn; have O5 := Lib.hid ((OQ.out.later k1).box #[.int .i64 X.id, .int .i64 X.c, .int .i64 X.m, .int .i64 X.d, .slice n1 n2 n3, .slice n4 n5 n6] 27); obtain ⟨⟨m0, m1, m2, m3, m4, m5⟩, _⟩ := box6 (O5.out.boxed 0 rfl))
      | (go_at_call 10; (with_reducible refine (C.out.1 _ n1 n2 n3 n4 n5 n6 (NX.out.kept ((Kept.refl w1).alloc _))).mono ?_); rintro e w2 ⟨rfl, k2⟩; clear m0 m1 m2 m3 m4 m5; have O6 := Lib.hid (O5.out.later k2); have J2 := Lib.hid (((Kept.refl w1).alloc _).trans k2); obtain ⟨⟨m0, m1, m2, m3, m4, m5⟩, _⟩ := box6 (O6.out.boxed 2 rfl))
      | (go_at_call 11; (with_reducible refine (C.out.2.1 _ q1 q2 q3 q4 q5 q6 (SX.out.kept (k1.trans J2.out))).mono ?_); rintro e w3 ⟨rfl, k3⟩; clear m0 m1 m2 m3 m4 m5; have O7 := Lib.hid (O6.out.later k3); have J3 := Lib.hid (J2.out.trans k3); obtain ⟨⟨m0, m1, m2, m3, m4, m5⟩, _⟩ := box6 (O7.out.boxed 0 rfl))
      | (go_at_call 12; (with_reducible refine (C.out.2.2.2.2.1 _ n1 n2 n3 n4 n5 n6 (NX.out.kept J3.out) hn2.out.1 hn2.out.2).mono ?_); rintro e w4 ⟨c1, c2, c3, c4, c5, c6, rfl, hc, k4⟩; clear m0 m1 m2 m3 m4 m5; have NC := Lib.hid hc; clear hc; have O8 := Lib.hid ((O7.out.later k4).box #[.int .i64 X.id, .int .i64 X.c, .int .i64 X.m, .int .i64 X.d, .slice c1 c2 c3, .slice c4 c5 c6] 27)))
    have hS : ∀ W, Kept (w4.alloc (.cells #[.int .i64 X.id, .int .i64 X.c, .int .i64 X.m, .int .i64 X.d, .slice c1 c2 c3, .slice c4 c5 c6] 27)) W → (W.cell? ⟨w.heap.size, 0, none⟩ = some (.int .i64 X.id) ∧ W.cell? ⟨w.heap.size, 1, none⟩ = some (.int .i64 X.c) ∧ W.cell? ⟨w.heap.size, 2, none⟩ = some (.int .i64 X.m) ∧ W.cell? ⟨w.heap.size, 3, none⟩ = some (.int .i64 X.d) ∧ W.cell? ⟨w.heap.size, 4, none⟩ = some (.slice q1 q2 q3) ∧ W.cell? ⟨w.heap.size, 5, none⟩ = some (.slice q4 q5 q6)) ∧ (W.cell? ⟨(w.heap.size + 1), 0, none⟩ = some (.int .i64 Y.id) ∧ W.cell? ⟨(w.heap.size + 1), 1, none⟩ = some (.int .i64 Y.c) ∧ W.cell? ⟨(w.heap.size + 1), 2, none⟩ = some (.int .i64 Y.m) ∧ W.cell? ⟨(w.heap.size + 1), 3, none⟩ = some (.int .i64 Y.d) ∧ W.cell? ⟨(w.heap.size + 1), 4, none⟩ = some (.slice r1 r2 r3) ∧ W.cell? ⟨(w.heap.size + 1), 5, none⟩ = some (.slice r4 r5 r6)) ∧ (W.cell? ⟨w1.heap.size, 0, none⟩ = some (.int .i64 X.id) ∧ W.cell? ⟨w1.heap.size, 1, none⟩ = some (.int .i64 X.c) ∧ W.cell? ⟨w1.heap.size, 2, none⟩ = some (.int .i64 X.m) ∧ W.cell? ⟨w1.heap.size, 3, none⟩ = some (.int .i64 X.d) ∧ W.cell? ⟨w1.heap.size, 4, none⟩ = some (.slice n1 n2 n3) ∧ W.cell? ⟨w1.heap.size, 5, none⟩ = some (.slice n4 n5 n6)) ∧ (W.cell? ⟨w4.heap.size, 0, none⟩ = some (.int .i64 X.id) ∧ W.cell? ⟨w4.heap.size, 1, none⟩ = some (.int .i64 X.c) ∧ W.cell? ⟨w4.heap.size, 2, none⟩ = some (.int .i64 X.m) ∧ W.cell? ⟨w4.heap.size, 3, none⟩ = some (.int .i64 X.d) ∧ W.cell? ⟨w4.heap.size, 4, none⟩ = some (.slice c1 c2 c3) ∧ W.cell? ⟨w4.heap.size, 5, none⟩ = some (.slice c4 c5 c6)) := fun W k => ⟨(box6 ((O8.out.later k).boxed 3 rfl)).1, (box6 ((O8.out.later k).boxed 2 rfl)).1, (box6 ((O8.out.later k).boxed 1 rfl)).1, (box6 ((O8.out.later k).boxed 0 rfl)).1⟩
    have HS := Lib.hid hS
    have hS0 := hS _ (Kept.refl _)
    clear hS
    have KX := Lib.hid (show Kept wc (w4.alloc (.cells #[.int .i64 X.id, .int .i64 X.c, .int .i64 X.m, .int .i64 X.d, .slice c1 c2 c3, .slice c4 c5 c6] 27)) from ((k1.trans J3.out).trans k4).alloc _)
    have KN := Lib.hid (show Kept w1 (w4.alloc (.cells #[.int .i64 X.id, .int .i64 X.c, .int .i64 X.m, .int .i64 X.d, .slice c1 c2 c3, .slice c4 c5 c6] 27)) from (J3.out.trans k4).alloc _)
    have K0 := Lib.hid (Kept.refl (w4.alloc (.cells #[.int .i64 X.id, .int .i64 X.c, .int .i64 X.m, .int .i64 X.d, .slice c1 c2 c3, .slice c4 c5 c6] 27))).drew
    have HK := Lib.hid k4
    have S0 := HS.out _ K0.out
    go_region_held3 (fun W => (W.cell? ⟨w.heap.size, 0, none⟩ = some (.int .i64 X.id) ∧ W.cell? ⟨w.heap.size, 1, none⟩ = some (.int .i64 X.c) ∧ W.cell? ⟨w.heap.size, 2, none⟩ = some (.int .i64 X.m) ∧ W.cell? ⟨w.heap.size, 3, none⟩ = some (.int .i64 X.d) ∧ W.cell? ⟨w.heap.size, 4, none⟩ = some (.slice q1 q2 q3) ∧ W.cell? ⟨w.heap.size, 5, none⟩ = some (.slice q4 q5 q6)) ∧ (W.cell? ⟨(w.heap.size + 1), 0, none⟩ = some (.int .i64 Y.id) ∧ W.cell? ⟨(w.heap.size + 1), 1, none⟩ = some (.int .i64 Y.c) ∧ W.cell? ⟨(w.heap.size + 1), 2, none⟩ = some (.int .i64 Y.m) ∧ W.cell? ⟨(w.heap.size + 1), 3, none⟩ = some (.int .i64 Y.d) ∧ W.cell? ⟨(w.heap.size + 1), 4, none⟩ = some (.slice r1 r2 r3) ∧ W.cell? ⟨(w.heap.size + 1), 5, none⟩ = some (.slice r4 r5 r6)) ∧ (W.cell? ⟨w1.heap.size, 0, none⟩ = some (.int .i64 X.id) ∧ W.cell? ⟨w1.heap.size, 1, none⟩ = some (.int .i64 X.c) ∧ W.cell? ⟨w1.heap.size, 2, none⟩ = some (.int .i64 X.m) ∧ W.cell? ⟨w1.heap.size, 3, none⟩ = some (.int .i64 X.d) ∧ W.cell? ⟨w1.heap.size, 4, none⟩ = some (.slice n1 n2 n3) ∧ W.cell? ⟨w1.heap.size, 5, none⟩ = some (.slice n4 n5 n6)) ∧ (W.cell? ⟨w4.heap.size, 0, none⟩ = some (.int .i64 X.id) ∧ W.cell? ⟨w4.heap.size, 1, none⟩ = some (.int .i64 X.c) ∧ W.cell? ⟨w4.heap.size, 2, none⟩ = some (.int .i64 X.m) ∧ W.cell? ⟨w4.heap.size, 3, none⟩ = some (.int .i64 X.d) ∧ W.cell? ⟨w4.heap.size, 4, none⟩ = some (.slice c1 c2 c3) ∧ W.cell? ⟨w4.heap.size, 5, none⟩ = some (.slice c4 c5 c6)))
      (first | with_reducible assumption | exact HS.out _ K0.out)
      (first
        | (go_at_call 13; first
          | ((with_reducible refine (eq_same (NC.out.at.kept (((Kept.refl w4).alloc _).trans K0.out)) (SX.out.kept (KX.out.trans K0.out))).mono ?_); rintro e w5 ⟨rfl, k5⟩; have K5 := Lib.hid (K0.out.trans k5); have S5 := HS.out _ K5.out)
          | ((with_reducible refine (C.out.2.2.2.2.2.2.1 _ q1 q2 q3 q4 q5 q6 r1 r2 r3 r4 r5 r6 (SX.out.kept (KX.out.trans K8.out)) (SY.out.kept (KX.out.trans K8.out))).mono ?_); rintro e w9 ⟨rfl, k9⟩; have K9 := Lib.hid (K8.out.trans k9); have S9 := HS.out _ K9.out))
        | (go_at_call 14; (with_reducible refine (C.out.2.2.1 _ n1 n2 n3 n4 n5 n6 (NX.out.kept (KN.out.trans K5.out))).mono ?_); rintro e w6 ⟨rfl, k6⟩; have K6 := Lib.hid (K5.out.trans k6); have S6 := HS.out _ K6.out)
        | (go_at_call 15; (with_reducible refine (C.out.2.2.2.1 _ q1 q2 q3 q4 q5 q6 (SX.out.kept (KX.out.trans K6.out))).mono ?_); rintro e w7 ⟨rfl, k7⟩; have K7 := Lib.hid (K6.out.trans k7); have S7 := HS.out _ K7.out)
        | (go_at_call 9; (with_reducible refine (C.out.2.2.2.2.2.2.2.2.2 q1 q2 q3 q4 q5 q6 _ (SX.out.kept (KX.out.trans K9.out))).mono ?_); rintro e w10 ⟨f1, f2, f3, f4, f5, f6, rfl, hf, k10⟩; have NF := Lib.hid hf.at; clear hf; have K10 := Lib.hid (K9.out.trans k10); have S10 := HS.out _ K10.out)
        | (go_at_call 16; first
          | ((with_reducible refine (C.out.2.2.2.2.2.1 _ n1 n2 n3 n4 n5 n6 r1 r2 r3 r4 r5 r6 (NX.out.kept (KN.out.trans K7.out)) (SY.out.kept (KX.out.trans K7.out))).mono ?_); rintro e w8 ⟨rfl, k8⟩; have K8 := Lib.hid (K7.out.trans k8); have S8 := HS.out _ K8.out)
          | ((with_reducible refine (C.out.2.2.2.2.2.2.2.1 _ n1 n2 n3 n4 n5 n6 f1 f2 f3 f4 f5 f6 (NX.out.kept (KN.out.trans K10.out)) NF.out).mono ?_); rintro e w11 ⟨rfl, k11⟩; have K11 := Lib.hid (K10.out.trans k11); have S11 := HS.out _ K11.out)))
    clear S0 S5 S6 S7 S8 S9 S10 S11 hS0
    have hk11 : Kept w3 w11 := (k4.alloc _).trans K11.out
    have hb11 := (O8.out.later K11.out).boxed 0 rfl
    have f11 : FreeB w3.heap.size w4.heap.size 3 w11 c1 (c2 * 1) := (free_row NC.out.ports.row (Nat.le_refl _)).kept (((Kept.refl w4).alloc _).trans K11.out)
    have t11 : FreeB w3.heap.size w4.heap.size 37 w11 c4 (c5 * 6) := (free_row NC.out.tasks.2 (Nat.le_refl _)).kept (((Kept.refl w4).alloc _).trans K11.out)
    have hcs := sp_small NC.out.at HL.out
    have hcs2 : c2 ≤ 1000000 := hcs.1
    have hcs5 : c5 ≤ 1000000 := hcs.2
    clear hcs
    go_wp2_with fail
    go_loopw [11] (fun i wr => ∃ j : Nat, j ≤ c2 ∧ i = .int .i64 j ∧ Kept w3 wr ∧ wr.heap[w4.heap.size]? = some (.cells #[.int .i64 X.id, .int .i64 X.c, .int .i64 X.m, .int .i64 X.d, .slice c1 c2 c3, .slice c4 c5 c6] 27 (0, 0)) ∧ FreeB w3.heap.size w4.heap.size 3 wr c1 (c2 * 1) ∧ FreeB w3.heap.size w4.heap.size 37 wr c4 (c5 * 6)) (fun i _ => c2 - (RowKit.intOf i).toNat)
    case atStart => exact ⟨0, Nat.zero_le _, rfl, hk11, hb11, f11, t11⟩
    case round =>
      clear hk11 hb11 f11 t11
      obtain ⟨j, hj, rfl, hk, hb, hf, ht⟩ := hrel
      obtain ⟨⟨m0, m1, m2, m3, m4, m5⟩, _⟩ := box6 hb
      have HB := Lib.hid (And.intro hk (And.intro hb (And.intro hf ht)))
      by_cases hlt : j < c2
      · have d1 : decide ((j : Int) < (c2 : Int)) = true := decide_eq_true (by omega)
        obtain ⟨g, v, rfl, hc, hz, hst⟩ := hf.get (k := j) (by omega)
        have HT := Lib.hid hst
        clear hst hk hb hf ht
        have j0 : (0 : Int) ≤ (j : Int) := by omega
        have j1 : (j : Int) < (c2 : Int) := by omega
        go_wp2
        go_roundw
        case rel => exact ⟨j + 1, by omega, by go_num, (HT.out _).2.1 _ (Nat.le_refl _) HB.out.1, (HT.out _).2.2.1 _ _ (Nat.le_refl _) HB.out.2.1, (HT.out _).1, (HT.out _).2.2.2 _ _ _ (by decide) HB.out.2.2.2⟩
        case measure => simp [RowKit.intOf]; omega
      · have d1 : decide ((j : Int) < (c2 : Int)) = false := decide_eq_false (by omega)
        clear hk hb hf ht
        go_wp2_with fail
        go_loopw [12] (fun i wq => ∃ k : Nat, k ≤ c5 ∧ i = .int .i64 k ∧ Kept w3 wq ∧ wq.heap[w4.heap.size]? = some (.cells #[.int .i64 X.id, .int .i64 X.c, .int .i64 X.m, .int .i64 X.d, .slice c1 c2 c3, .slice c4 c5 c6] 27 (0, 0)) ∧ FreeB w3.heap.size w4.heap.size 37 wq c4 (c5 * 6)) (fun i _ => c5 - (RowKit.intOf i).toNat)
        case atStart => exact ⟨0, Nat.zero_le _, rfl, HB.out.1, HB.out.2.1, HB.out.2.2.2⟩
        case round =>
          clear m0 m1 m2 m3 m4 m5
          obtain ⟨k, hk, rfl, hkq, hb, ht⟩ := hrel
          obtain ⟨⟨m0, m1, m2, m3, m4, m5⟩, _⟩ := box6 hb
          have HB2 := Lib.hid (And.intro hkq (And.intro hb ht))
          by_cases hlt2 : k < c5
          · have d2 : decide ((k : Int) < (c5 : Int)) = true := decide_eq_true (by omega)
            obtain ⟨g, v, rfl, hc, hz, hst⟩ := ht.get (k := k * 6 + 5) (by omega)
            have HT := Lib.hid hst
            clear hst hkq hb ht
            have j0 : (0 : Int) ≤ (k : Int) := by omega
            have j1 : (k : Int) < (c5 : Int) := by omega
            go_wp2
            go_roundw
            case rel => exact ⟨k + 1, by omega, by go_num, (HT.out _).2.1 _ (Nat.le_refl _) HB2.out.1, (HT.out _).2.2.1 _ _ (Nat.le_refl _) HB2.out.2.1, (HT.out _).1⟩
            case measure => simp [RowKit.intOf]; omega
          · have d2 : decide ((k : Int) < (c5 : Int)) = false := decide_eq_false (by omega)
            clear hkq hb ht
            obtain ⟨⟨e0, e1, e2, e3, e4, e5⟩, _⟩ := box6 ((O7.out.later HB2.out.1).boxed 0 rfl)
            obtain ⟨⟨l0, l1, l2, l3, l4, l5⟩, _⟩ := box6 ((O7.out.later HB2.out.1).boxed 2 rfl)
            go_wp2_with (first
              | (go_at_call 13; (with_reducible refine (eq_same (NX.out.kept (J3.out.trans HB2.out.1)) (SX.out.kept ((k1.trans J3.out).trans HB2.out.1))).mono ?_); rintro e w12 ⟨rfl, k12⟩)
              | (go_at_call 17; (with_reducible refine (C.out.2.2.2.2.2.2.2.2.1 _).mono ?_); rintro e w13 ⟨rfl, k13⟩))
            go_ret
            exact ⟨rfl, ((O7.out.kept.trans HB2.out.1).trans k12).trans k13⟩
end Go.Proofs.YtngojgocplmedaaR.Ls
