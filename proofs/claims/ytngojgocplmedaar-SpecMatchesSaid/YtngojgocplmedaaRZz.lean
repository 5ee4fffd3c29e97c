/-
  SpecApart (layer 13): its walk. (Written by program.)
-/
import Derived.Test.YtngojgocplmedaaRZy
namespace Go.Proofs.YtngojgocplmedaaR.Ls
open Go.RowKit Go.Proofs.YtngojgocplmedaaR.Mem Go.Proofs.YtngojgocplmedaaR.Bx Go.Proofs.YtngojgocplmedaaR.In Go.Proofs.YtngojgocplmedaaR.Sp Go.Proofs.YtngojgocplmedaaR.Nr Go.ChangeShapes Go.WideShapes Go.ChangeAt
set_option linter.unusedVariables false
theorem own_six1 {w0 w1 : World} {A : As} {B : Nat} {U : TypeId} {a0 a1 a2 a3 a4 a5 : Value} (h : Mem.Own w0 [A, boxA B #[a0, a1, a2, a3, a4, a5] U] w1) (b0 b1 b2 b3 b4 b5 : Value) : Mem.Own w0 [A, boxA B #[b0, b1, b2, b3, b4, b5] U] (((((((w1.setCell ⟨B, 0, none⟩ b0).setCell ⟨B, 1, none⟩ b1).setCell ⟨B, 2, none⟩ b2).setCell ⟨B, 3, none⟩ b3).setCell ⟨B, 4, none⟩ b4).setCell ⟨B, 5, none⟩ b5)) := by
  have h0 : Mem.Own w0 [A, boxA B #[b0, a1, a2, a3, a4, a5] U] _ := h.boxset 1 rfl 0 b0
  have h1 : Mem.Own w0 [A, boxA B #[b0, b1, a2, a3, a4, a5] U] _ := h0.boxset 1 rfl 1 b1
  have h2 : Mem.Own w0 [A, boxA B #[b0, b1, b2, a3, a4, a5] U] _ := h1.boxset 1 rfl 2 b2
  have h3 : Mem.Own w0 [A, boxA B #[b0, b1, b2, b3, a4, a5] U] _ := h2.boxset 1 rfl 3 b3
  have h4 : Mem.Own w0 [A, boxA B #[b0, b1, b2, b3, b4, a5] U] _ := h3.boxset 1 rfl 4 b4
  exact h4.boxset 1 rfl 5 b5
/-- 's, other = Few(s), Few(other)': what stands behind it. -/
def Two (w : World) (X Y : Sp) (q1 : Option Addr) (q2 q3 : Nat) (q4 : Option Addr) (q5 q6 : Nat) (r1 : Option Addr) (r2 r3 : Nat) (r4 : Option Addr) (r5 r6 : Nat) (u : World) : Prop := Mem.Own w [boxA (w.heap.size + 1) #[.int .i64 Y.id, .int .i64 Y.c, .int .i64 Y.m, .int .i64 Y.d, .slice r1 r2 r3, .slice r4 r5 r6] 27, boxA w.heap.size #[.int .i64 X.id, .int .i64 X.c, .int .i64 X.m, .int .i64 X.d, .slice q1 q2 q3, .slice q4 q5 q6] 27] u ∧ SpNew (w.heap.size + 2) u X ⟨q1, q2, q3, q4, q5, q6⟩ ∧ SpNew (w.heap.size + 2) u Y ⟨r1, r2, r3, r4, r5, r6⟩
theorem two_end {w u : World} {X Y : Sp} {a0 a1 a2 a3 a4 a5 b0 b1 b2 b3 b4 b5 : Value} {q1 : Option Addr} {q2 q3 : Nat} {q4 : Option Addr} {q5 q6 : Nat} {r1 : Option Addr} {r2 r3 : Nat} {r4 : Option Addr} {r5 r6 : Nat} (h : Mem.Own w [boxA (w.heap.size + 1) #[b0, b1, b2, b3, b4, b5] 27, boxA w.heap.size #[a0, a1, a2, a3, a4, a5] 27] u) (n1 : SpNew (w.heap.size + 2) u X ⟨q1, q2, q3, q4, q5, q6⟩) (n2 : SpNew (w.heap.size + 2) u Y ⟨r1, r2, r3, r4, r5, r6⟩) :
    Two w X Y q1 q2 q3 q4 q5 q6 r1 r2 r3 r4 r5 r6 ((((((((((((((u.setCell ⟨w.heap.size, 0, none⟩ (.int .i64 X.id)).setCell ⟨w.heap.size, 1, none⟩ (.int .i64 X.c)).setCell ⟨w.heap.size, 2, none⟩ (.int .i64 X.m)).setCell ⟨w.heap.size, 3, none⟩ (.int .i64 X.d)).setCell ⟨w.heap.size, 4, none⟩ (.slice q1 q2 q3)).setCell ⟨w.heap.size, 5, none⟩ (.slice q4 q5 q6))).setCell ⟨(w.heap.size + 1), 0, none⟩ (.int .i64 Y.id)).setCell ⟨(w.heap.size + 1), 1, none⟩ (.int .i64 Y.c)).setCell ⟨(w.heap.size + 1), 2, none⟩ (.int .i64 Y.m)).setCell ⟨(w.heap.size + 1), 3, none⟩ (.int .i64 Y.d)).setCell ⟨(w.heap.size + 1), 4, none⟩ (.slice r1 r2 r3)).setCell ⟨(w.heap.size + 1), 5, none⟩ (.slice r4 r5 r6))) :=
  ⟨own_six (own_six1 h _ _ _ _ _ _) _ _ _ _ _ _, new_six (new_six n1 (by omega) _ _ _ _ _ _) (by omega) _ _ _ _ _ _, new_six (new_six n2 (by omega) _ _ _ _ _ _) (by omega) _ _ _ _ _ _⟩
/-- The bytes decide. -/
theorem apart {X Y : Sp} (gx : X.good) (gy : Y.good) {n : Nat} (hn : n = min X.bytes.size Y.bytes.size) : (X.bytes.extract 0 n = Y.bytes.extract 0 n ↔ X = Y) ∧ (X.bytes = Y.bytes ↔ X = Y) := by
  have key : ∀ {A B : Sp}, A.good → B.good → A.bytes.size ≤ B.bytes.size → B.bytes.extract 0 A.bytes.size = A.bytes → A = B := by
    intro A B ga gb h e
    have e2 : B.bytes = A.bytes ++ B.bytes.extract A.bytes.size B.bytes.size := by
      have e3 : A.bytes.data.toList = B.bytes.data.toList.take A.bytes.size := by
        conv => lhs; rw [← e]
        simp [ByteArray.data_extract, List.extract_eq_take_drop]
      apply ByteArray.ext
      apply Array.toList_inj.1
      have h3 : B.bytes.size = B.bytes.data.toList.length := rfl
      rw [ByteArray.data_append, Array.toList_append, e3]
      have h4 : (B.bytes.extract A.bytes.size B.bytes.size).data.toList = B.bytes.data.toList.drop A.bytes.size := by
        simp only [ByteArray.data_extract, Array.toList_extract, List.extract_eq_take_drop]
        exact List.take_of_length_le (by rw [List.length_drop]; exact Nat.le_refl _)
      rw [h4, List.take_append_drop]
    exact (read_one (s := B.bytes) ⟨ga, e2⟩ ⟨gb, (ByteArray.append_empty).symm⟩).1
  have full : ∀ {s : ByteArray}, s.extract 0 s.size = s := fun {s} => ByteArray.extract_zero_size
  refine ⟨⟨fun h => ?_, fun h => by rw [h]⟩, ⟨fun h => ?_, fun h => by rw [h]⟩⟩
  · rcases Nat.le_total X.bytes.size Y.bytes.size with hl | hl
    · rw [Nat.min_eq_left hl] at hn
      subst hn
      rw [full] at h
      exact key gx gy hl h.symm
    · rw [Nat.min_eq_right hl] at hn
      subst hn
      rw [full] at h
      exact (key gy gx hl h).symm
  · exact key gx gy (by rw [h]; exact Nat.le_refl _) (by rw [h]; exact full)
theorem list_iff {a b : ByteArray} : (a.toList == b.toList) = decide (a = b) := by
  rw [ByteArray.toList_eq, ByteArray.toList_eq, Bool.eq_iff_iff, beq_iff_eq, decide_eq_true_iff]
  exact ⟨fun h => ByteArray.ext (Array.toList_inj.1 h), fun h => by rw [h]⟩
set_option maxHeartbeats 16000000 in
set_option maxRecDepth 100000 in
theorem apart_core (P : SpecP) (x y : Sp) (p1 : Option Addr) (p2 p3 : Nat) (p4 : Option Addr) (p5 p6 : Nat) (o1 : Option Addr) (o2 o3 : Nat) (o4 : Option Addr) (o5 o6 : Nat) (w : World) (hx : SpAt w x ⟨p1, p2, p3, p4, p5, p6⟩) (hy : SpAt w y ⟨o1, o2, o3, o4, o5, o6⟩) : Calls Try.prog 7 #[.agg #[.int .i64 x.id, .int .i64 x.c, .int .i64 x.m, .int .i64 x.d, .slice p1 p2 p3, .slice p4 p5 p6], .agg #[.int .i64 y.id, .int .i64 y.c, .int .i64 y.m, .int .i64 y.d, .slice o1 o2 o3, .slice o4 o5 o6]] w fun e w' => e = .returned (.bool true) ∧ Kept w w' := by
  have O0 := Lib.hid (boxes2 w #[.int .i64 x.id, .int .i64 x.c, .int .i64 x.m, .int .i64 x.d, .slice p1 p2 p3, .slice p4 p5 p6] #[.int .i64 y.id, .int .i64 y.c, .int .i64 y.m, .int .i64 y.d, .slice o1 o2 o3, .slice o4 o5 o6] 27)
  have HX := Lib.hid hx
  have HY := Lib.hid hy
  clear hx hy
  have hF := few6 x p1 p2 p3 p4 p5 p6
  have hG := few6 y o1 o2 o3 o4 o5 o6
  generalize few x = X at hF
  generalize few y = Y at hG
  have HF := Lib.hid hF
  have HG := Lib.hid hG
  clear hF hG
  obtain ⟨⟨u0, u1, u2, u3, u4, u5⟩, _⟩ := box6 (O0.out.drew.boxed 1 rfl)
  obtain ⟨⟨v0, v1, v2, v3, v4, v5⟩, _⟩ := box6 (O0.out.drew.boxed 0 rfl)
  obtain ⟨A, hA⟩ : ∃ A, A = encV X := ⟨_, rfl⟩
  obtain ⟨E, hE⟩ : ∃ E, E = spSays X := ⟨_, rfl⟩
  obtain ⟨B, hB⟩ : ∃ B, B = encV Y := ⟨_, rfl⟩
  obtain ⟨F, hF⟩ : ∃ F, F = spSays Y := ⟨_, rfl⟩
  obtain ⟨Q, hQ⟩ : ∃ Q, Q = decide (X = Y) := ⟨_, rfl⟩
  have c1 : Encs X A E := fun u q1 q2 q3 q4 q5 q6 h => by have := P.enc h; rwa [← hA, ← hE] at this
  have c2 : Encs Y B F := fun u q1 q2 q3 q4 q5 q6 h => by have := P.enc h; rwa [← hB, ← hF] at this
  have c3 : ∀ (u : World) (q1 : Option Addr) (q2 q3 : Nat) (q4 : Option Addr) (q5 q6 : Nat) (r1 : Option Addr) (r2 r3 : Nat) (r4 : Option Addr) (r5 r6 : Nat), SpAt u X ⟨q1, q2, q3, q4, q5, q6⟩ → SpAt u Y ⟨r1, r2, r3, r4, r5, r6⟩ → Calls Try.prog 16 #[.agg #[.int .i64 X.id, .int .i64 X.c, .int .i64 X.m, .int .i64 X.d, .slice q1 q2 q3, .slice q4 q5 q6], .agg #[.int .i64 Y.id, .int .i64 Y.c, .int .i64 Y.m, .int .i64 Y.d, .slice r1 r2 r3, .slice r4 r5 r6]] u fun e w' => e = .returned (.bool Q) ∧ Kept u w' := fun u q1 q2 q3 q4 q5 q6 r1 r2 r3 r4 r5 r6 h k => by have := P.eq h k; rwa [← hQ] at this
  have c4 : ∀ (u : World) (q1 : Option Addr) (q2 q3 : Nat) (q4 : Option Addr) (q5 q6 : Nat) (r1 : Option Addr) (r2 r3 : Nat) (r4 : Option Addr) (r5 r6 : Nat), SpAt u X ⟨q1, q2, q3, q4, q5, q6⟩ → SpAt u Y ⟨r1, r2, r3, r4, r5, r6⟩ → Calls Try.prog 13 #[.agg #[.int .i64 X.id, .int .i64 X.c, .int .i64 X.m, .int .i64 X.d, .slice q1 q2 q3, .slice q4 q5 q6], .agg #[.int .i64 Y.id, .int .i64 Y.c, .int .i64 Y.m, .int .i64 Y.d, .slice r1 r2 r3, .slice r4 r5 r6]] u fun e w' => e = .returned (.bool Q) ∧ Kept u w' := fun u q1 q2 q3 q4 q5 q6 r1 r2 r3 r4 r5 r6 h k => by have := eqs_c h k; rwa [← hQ] at this
  have c5 := awake_c P
  obtain ⟨N, hN⟩ : ∃ N, N = min A.size B.size := ⟨_, rfl⟩
  have c6 : E = 0 → F = 0 → ((A.extract 0 N).toList == (B.extract 0 N).toList) = Q ∧ (A.toList == B.toList) = Q ∧ A.size ≤ 200 ∧ B.size ≤ 200 := fun h k => by
    have gx := (sp_say X).1 (by rw [← hE]; exact h)
    have gy := (sp_say Y).1 (by rw [← hF]; exact k)
    have eA : A = X.bytes := by rw [hA, encV_good (by rw [← hE]; exact h)]
    have eB : B = Y.bytes := by rw [hB, encV_good (by rw [← hF]; exact k)]
    have := apart gx gy (n := N) (by rw [hN, eA, eB])
    rw [list_iff, list_iff, hQ, eA, eB]
    exact ⟨by rw [decide_eq_decide]; exact this.1, by rw [decide_eq_decide]; exact this.2, bytes_few gx, bytes_few gy⟩
  have C := Lib.hid (And.intro c1 (And.intro c2 (And.intro c3 (And.intro c4 c5))))
  clear c1 c2 c3 c4 c5 hA hB hE hF hQ P
  have g1 : min (A.size : Int) (B.size : Int) = (N : Int) := by omega
  have g2 : (if (B.size : Int) < (A.size : Int) then (B.size : Int) else (A.size : Int)) = (N : Int) := by rw [← g1]; split <;> omega
  have g8 : (if B.size < A.size then (B.size : Int) else (A.size : Int)) = (N : Int) := by rw [← g1]; split <;> omega
  have g3 : N ≤ A.size := by omega
  have g4 : N ≤ B.size := by omega
  have g5 : (0 : Int) ≤ (N : Int) := by omega
  have g6 : (N : Int) ≤ (A.size : Int) := by omega
  have g7 : (N : Int) ≤ (B.size : Int) := by omega
  clear hN
  have q1 : (Q == Q) = true := by simp
  go_enter Try.func7, Try.ntmps7
  go_upto_region 1 with fail
  go_cut [4] from 10 to 13 (fun v4 wx => v4 = .bool false ∧ ∃ (q1 : Option Addr) (q2 q3 : Nat) (q4 : Option Addr) (q5 q6 : Nat) (r1 : Option Addr) (r2 r3 : Nat) (r4 : Option Addr) (r5 r6 : Nat), Two w X Y q1 q2 q3 q4 q5 q6 r1 r2 r3 r4 r5 r6 wx)
  case first =>
    go_region_with (first
      | (go_at_call 9; first
        | ((with_reducible refine (HF.out _ (HX.out.kept O0.out.kept.drew)).mono ?_); rintro e w1 ⟨q1, q2, q3, q4, q5, q6, rfl, n1, k1⟩; have N1 := Lib.hid n1; clear n1; have O1 := Lib.hid (O0.out.drew.later k1); obtain ⟨⟨m0, m1, m2, m3, m4, m5⟩, _⟩ := box6 (O1.out.boxed 0 rfl))
        | ((with_reducible refine (HG.out _ (HY.out.kept O1.out.kept)).mono ?_); rintro e w2 ⟨r1, r2, r3, r4, r5, r6, rfl, n2, k2⟩; have N2 := Lib.hid n2; clear n2; have K2 := Lib.hid k2; have O2 := Lib.hid (O1.out.later k2); obtain ⟨⟨m0, m1, m2, m3, m4, m5⟩, fm⟩ := box6 (O2.out.boxed 0 rfl); obtain ⟨⟨l0, l1, l2, l3, l4, l5⟩, fl⟩ := box6 (O2.out.boxed 1 rfl); have y0 := fm 0; have y1 := fm 1; have y2 := fm 2; have y3 := fm 3; have y4 := fm 4; have y5 := fm 5; have x0 := fl 0; have x1 := fl 1; have x2 := fl 2; have x3 := fl 3; have x4 := fl 4; have x5 := fl 5; clear fm fl)))
    all_goals
      go_wp2_with fail
      go_meet
      have hs0 : w.heap.size + 2 ≤ ((w.alloc (.cells #[.int .i64 x.id, .int .i64 x.c, .int .i64 x.m, .int .i64 x.d, .slice p1 p2 p3, .slice p4 p5 p6] 27)).alloc (.cells #[.int .i64 y.id, .int .i64 y.c, .int .i64 y.m, .int .i64 y.d, .slice o1 o2 o3, .slice o4 o5 o6] 27)).drew.heap.size := by simp [World.drew]
      have hs1 : w.heap.size + 2 ≤ w1.heap.size := Nat.le_trans hs0 k1.size
      exact ⟨rfl, _, _, _, _, _, _, _, _, _, _, _, _, two_end O2.out ((N1.out.base hs0).kept K2.out) (N2.out.base hs1)⟩
  case rest =>
    obtain ⟨rfl, q1, q2, q3, q4, q5, q6, r1, r2, r3, r4, r5, r6, hO, hX, hY⟩ := hcut
    clear u0 u1 u2 u3 u4 u5 v0 v1 v2 v3 v4 v5
    have OQ := Lib.hid hO
    have SX := Lib.hid hX.at
    have SY := Lib.hid hY.at
    clear hO hX hY
    have hS : ∀ W, Kept wc W → (W.cell? ⟨w.heap.size, 0, none⟩ = some (.int .i64 X.id) ∧ W.cell? ⟨w.heap.size, 1, none⟩ = some (.int .i64 X.c) ∧ W.cell? ⟨w.heap.size, 2, none⟩ = some (.int .i64 X.m) ∧ W.cell? ⟨w.heap.size, 3, none⟩ = some (.int .i64 X.d) ∧ W.cell? ⟨w.heap.size, 4, none⟩ = some (.slice q1 q2 q3) ∧ W.cell? ⟨w.heap.size, 5, none⟩ = some (.slice q4 q5 q6)) ∧ (W.cell? ⟨(w.heap.size + 1), 0, none⟩ = some (.int .i64 Y.id) ∧ W.cell? ⟨(w.heap.size + 1), 1, none⟩ = some (.int .i64 Y.c) ∧ W.cell? ⟨(w.heap.size + 1), 2, none⟩ = some (.int .i64 Y.m) ∧ W.cell? ⟨(w.heap.size + 1), 3, none⟩ = some (.int .i64 Y.d) ∧ W.cell? ⟨(w.heap.size + 1), 4, none⟩ = some (.slice r1 r2 r3) ∧ W.cell? ⟨(w.heap.size + 1), 5, none⟩ = some (.slice r4 r5 r6)) := fun W k => ⟨(box6 ((OQ.out.later k).boxed 1 rfl)).1, (box6 ((OQ.out.later k).boxed 0 rfl)).1⟩
    have HS := Lib.hid hS
    clear hS
    obtain ⟨⟨m0, m1, m2, m3, m4, m5⟩, l0, l1, l2, l3, l4, l5⟩ := HS.out wc (Kept.refl _)
    have ok : ¬ (E = 0 ∧ F = 0) → (E != 0) = true ∨ E = 0 ∧ (F != 0) = true := fun h => by
      by_cases e : E = 0
      · exact .inr ⟨e, by simp; omega⟩
      · exact .inl (by simpa using e)
    have ENC : True := trivial
    by_cases hEF : E = 0 ∧ F = 0
    · obtain ⟨hE0, hF0⟩ := hEF
      obtain ⟨t1, t2, t3, t4⟩ := c6 hE0 hF0
      clear c6 ok ENC
      subst hE0 hF0
      go_upto_region 7 with (go_at_call 10; first
        | ((with_reducible refine (C.out.1 _ q1 q2 q3 q4 q5 q6 SX.out).mono ?_); rintro e w3 ⟨rfl, k3⟩; have K3 := Lib.hid k3; clear m0 m1 m2 m3 m4 m5 l0 l1 l2 l3 l4 l5; obtain ⟨_, l0, l1, l2, l3, l4, l5⟩ := HS.out _ k3)
        | ((with_reducible refine (C.out.2.1 _ r1 r2 r3 r4 r5 r6 (SY.out.kept K3.out)).mono ?_); rintro e w4 ⟨rfl, k4⟩; have K4 := Lib.hid (K3.out.trans k4); clear l0 l1 l2 l3 l4 l5; have S4 := HS.out _ K4.out))
      go_region_held3 (fun W => (W.cell? ⟨w.heap.size, 0, none⟩ = some (.int .i64 X.id) ∧ W.cell? ⟨w.heap.size, 1, none⟩ = some (.int .i64 X.c) ∧ W.cell? ⟨w.heap.size, 2, none⟩ = some (.int .i64 X.m) ∧ W.cell? ⟨w.heap.size, 3, none⟩ = some (.int .i64 X.d) ∧ W.cell? ⟨w.heap.size, 4, none⟩ = some (.slice q1 q2 q3) ∧ W.cell? ⟨w.heap.size, 5, none⟩ = some (.slice q4 q5 q6)) ∧ (W.cell? ⟨(w.heap.size + 1), 0, none⟩ = some (.int .i64 Y.id) ∧ W.cell? ⟨(w.heap.size + 1), 1, none⟩ = some (.int .i64 Y.c) ∧ W.cell? ⟨(w.heap.size + 1), 2, none⟩ = some (.int .i64 Y.m) ∧ W.cell? ⟨(w.heap.size + 1), 3, none⟩ = some (.int .i64 Y.d) ∧ W.cell? ⟨(w.heap.size + 1), 4, none⟩ = some (.slice r1 r2 r3) ∧ W.cell? ⟨(w.heap.size + 1), 5, none⟩ = some (.slice r4 r5 r6)))
        (first | with_reducible assumption | exact HS.out _ K4.out.drew)
        (first
          | (go_at_call 16; (with_reducible refine (C.out.2.2.1 _ q1 q2 q3 q4 q5 q6 r1 r2 r3 r4 r5 r6 (SX.out.kept K4.out.drew) (SY.out.kept K4.out.drew)).mono ?_); rintro e w5 ⟨rfl, k5⟩; have K5 := Lib.hid (K4.out.drew.trans k5); have S5 := HS.out _ K5.out)
          | (go_at_call 13; (with_reducible refine (C.out.2.2.2.1 _ q1 q2 q3 q4 q5 q6 r1 r2 r3 r4 r5 r6 (SX.out.kept K5.out) (SY.out.kept K5.out)).mono ?_); rintro e w6 ⟨rfl, k6⟩; have K6 := Lib.hid (K5.out.trans k6); have S6 := HS.out _ K6.out)
          | (go_at_call 17; (with_reducible refine (C.out.2.2.2.2 _).mono ?_); rintro e w7 ⟨rfl, k7⟩; have K7 := Lib.hid (K6.out.trans k7); have S7 := HS.out _ K7.out))
      all_goals
        go_wp2_with fail
        go_ret
        exact ⟨rfl, OQ.out.kept.trans K7.out⟩
    · clear c6
      rcases ok hEF with n1 | ⟨n0, n1⟩
      · go_wp2_with (first
          | (go_at_call 10; first
            | ((with_reducible refine (C.out.1 _ q1 q2 q3 q4 q5 q6 SX.out).mono ?_); rintro e w3 ⟨rfl, k3⟩; have K3 := Lib.hid k3; clear m0 m1 m2 m3 m4 m5 l0 l1 l2 l3 l4 l5; obtain ⟨_, l0, l1, l2, l3, l4, l5⟩ := HS.out _ k3)
            | ((with_reducible refine (C.out.2.1 _ r1 r2 r3 r4 r5 r6 (SY.out.kept K3.out)).mono ?_); rintro e w4 ⟨rfl, k4⟩; have K4 := Lib.hid (K3.out.trans k4); clear l0 l1 l2 l3 l4 l5))
          | (go_at_call 17; (with_reducible refine (C.out.2.2.2.2 _).mono ?_); rintro e w7 ⟨rfl, k7⟩; have K7 := Lib.hid (K4.out.trans k7)))
        go_ret
        exact ⟨rfl, OQ.out.kept.trans K7.out⟩
      · subst n0
        go_wp2_with (first
          | (go_at_call 10; first
            | ((with_reducible refine (C.out.1 _ q1 q2 q3 q4 q5 q6 SX.out).mono ?_); rintro e w3 ⟨rfl, k3⟩; have K3 := Lib.hid k3; clear m0 m1 m2 m3 m4 m5 l0 l1 l2 l3 l4 l5; obtain ⟨_, l0, l1, l2, l3, l4, l5⟩ := HS.out _ k3)
            | ((with_reducible refine (C.out.2.1 _ r1 r2 r3 r4 r5 r6 (SY.out.kept K3.out)).mono ?_); rintro e w4 ⟨rfl, k4⟩; have K4 := Lib.hid (K3.out.trans k4); clear l0 l1 l2 l3 l4 l5))
          | (go_at_call 17; (with_reducible refine (C.out.2.2.2.2 _).mono ?_); rintro e w7 ⟨rfl, k7⟩; have K7 := Lib.hid (K4.out.trans k7)))
        go_ret
        exact ⟨rfl, OQ.out.kept.trans K7.out⟩
end Go.Proofs.YtngojgocplmedaaR.Ls
