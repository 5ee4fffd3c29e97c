/-
  SpecBack (layer 13): its walk. (Written by program.)
-/
import Derived.Test.YtngojgocplmedaaRZx
import Derived.Deep.CutRange
namespace Go.Proofs.YtngojgocplmedaaR.Ls
open Go.RowKit Go.Proofs.YtngojgocplmedaaR.Mem Go.Proofs.YtngojgocplmedaaR.Bx Go.Proofs.YtngojgocplmedaaR.In Go.Proofs.YtngojgocplmedaaR.Sp Go.Proofs.YtngojgocplmedaaR.Nr Go.ChangeShapes Go.WideShapes Go.ChangeAt
set_option linter.unusedVariables false
/-- A struct of six cells stored, cell by cell. -/
theorem own_six {w0 w1 : World} {L : List As} {B : Nat} {U : TypeId} {a0 a1 a2 a3 a4 a5 : Value} (h : Mem.Own w0 (boxA B #[a0, a1, a2, a3, a4, a5] U :: L) w1) (b0 b1 b2 b3 b4 b5 : Value) : Mem.Own w0 (boxA B #[b0, b1, b2, b3, b4, b5] U :: L) (((((((w1.setCell ⟨B, 0, none⟩ b0).setCell ⟨B, 1, none⟩ b1).setCell ⟨B, 2, none⟩ b2).setCell ⟨B, 3, none⟩ b3).setCell ⟨B, 4, none⟩ b4).setCell ⟨B, 5, none⟩ b5)) := by
  have h0 : Mem.Own w0 (boxA B #[b0, a1, a2, a3, a4, a5] U :: L) _ := h.boxset 0 rfl 0 b0
  have h1 : Mem.Own w0 (boxA B #[b0, b1, a2, a3, a4, a5] U :: L) _ := h0.boxset 0 rfl 1 b1
  have h2 : Mem.Own w0 (boxA B #[b0, b1, b2, a3, a4, a5] U :: L) _ := h1.boxset 0 rfl 2 b2
  have h3 : Mem.Own w0 (boxA B #[b0, b1, b2, b3, a4, a5] U :: L) _ := h2.boxset 0 rfl 3 b3
  have h4 : Mem.Own w0 (boxA B #[b0, b1, b2, b3, b4, a5] U :: L) _ := h3.boxset 0 rfl 4 b4
  exact h4.boxset 0 rfl 5 b5
theorem new_six {B C : Nat} {w1 : World} {X : Sp} {q : Pl} (h : SpNew C w1 X q) (hB : B < C) (b0 b1 b2 b3 b4 b5 : Value) : SpNew C (((((((w1.setCell ⟨B, 0, none⟩ b0).setCell ⟨B, 1, none⟩ b1).setCell ⟨B, 2, none⟩ b2).setCell ⟨B, 3, none⟩ b3).setCell ⟨B, 4, none⟩ b4).setCell ⟨B, 5, none⟩ b5)) X q := by
  have k : ∀ g, C ≤ g → (((((((w1.setCell ⟨B, 0, none⟩ b0).setCell ⟨B, 1, none⟩ b1).setCell ⟨B, 2, none⟩ b2).setCell ⟨B, 3, none⟩ b3).setCell ⟨B, 4, none⟩ b4).setCell ⟨B, 5, none⟩ b5)).heap[g]? = w1.heap[g]? := fun g hg => by
    have hne : g ≠ B := by omega
    rw [heap_setCell_other _ _ _ _ hne, heap_setCell_other _ _ _ _ hne, heap_setCell_other _ _ _ _ hne, heap_setCell_other _ _ _ _ hne, heap_setCell_other _ _ _ _ hne, heap_setCell_other _ _ _ _ hne]
  exact ⟨h.ports.off k, h.tasks.off k⟩
/-- A good specification's bytes are few (P13.6). -/
theorem num_le {n k : Nat} (h : n < 256 ^ k) (h1 : 1 ≤ k := by decide) (h8 : k ≤ 8 := by decide) : (Pk.num n).length ≤ 1 + k := by
  rw [Pk.num_length]
  split
  · omega
  · have := Pk.wd_least h1 h8 h; omega
theorem sum_le {α : Type} {f : α → Nat} {b : Nat} : ∀ {l : List α}, (∀ x ∈ l, f x ≤ b) → (l.map f).sum ≤ b * l.length
  | [], _ => by simp
  | a :: l, h => by
    have h1 := h a (by simp)
    have h2 := sum_le (f := f) (b := b) (l := l) fun x hx => h x (by simp [hx])
    rw [List.map_cons, List.sum_cons, List.length_cons, Nat.mul_succ]; omega
theorem bytes_few {x : Sp} (g : x.good) : x.bytes.size ≤ 200 := by
  have one : ∀ n : Nat, n < 248 → (Pk.num n).length ≤ 1 := fun n h => by rw [Pk.num_length, if_pos h]; exact Nat.le_refl _
  have h1 := num_le (n := x.id.toNat) (k := 4) (by have := g.id; omega)
  have h2 := num_le (n := x.c.toNat) (k := 6) (by have := g.c; omega)
  have h3 := num_le (n := x.m.toNat) (k := 6) (by have := g.m; omega)
  have h4 := num_le (n := x.d.toNat) (k := 6) (by have := g.d; omega)
  have h5 := one x.ports.length (by have := g.few; omega)
  have h6 := one x.tasks.length (by have := g.most; omega)
  have hP : ((nats x.ports).map fun n => (Pk.num n).length).sum ≤ 3 * x.ports.length := by
    have := sum_le (f := fun n => (Pk.num n).length) (b := 3) (l := nats x.ports) fun n hn => by
      obtain ⟨p, hp, rfl⟩ := List.mem_map.1 hn
      have := g.port p hp
      exact num_le (k := 2) (by omega)
    rwa [show (nats x.ports).length = x.ports.length by simp [nats]] at this
  have hT : ((rows x.tasks).map fun n => (Pk.num n).length).sum ≤ 26 * x.tasks.length := by
    have key : ∀ l : List Tsk, (∀ t ∈ l, t.good) → ((rows l).map fun n => (Pk.num n).length).sum ≤ 26 * l.length := by
      intro l
      induction l with
      | nil => intro _; simp [rows]
      | cons t l ih =>
        intro hl
        have gt := hl t (by simp)
        have k0 := one (if t.always then 1 else 0) (by split <;> omega)
        have k1 := one t.lim.toNat (by have := gt.lim; omega)
        have k2 := num_le (n := t.win.toNat) (k := 6) (by have := gt.win; omega)
        have k3 := num_le (n := t.bas.toNat) (k := 6) (by have := gt.bas; have := gt.most; omega)
        have k4 := num_le (n := t.most.toNat) (k := 6) (by have := gt.most; omega)
        have k5 := num_le (n := t.prb.toNat) (k := 2) (by have := gt.prb; omega)
        have := ih fun u hu => hl u (by simp [hu])
        rw [rows_cons, List.map_append, List.sum_append, List.length_cons]
        simp only [Tsk.row, List.map_cons, List.map_nil, List.sum_cons, List.sum_nil]
        omega
    exact key _ g.task
  have g8 := g.few
  have g9 := g.most
  rw [Sp.bytes, size_encs, Sp.nums]
  simp only [Sp.head, List.map_append, List.sum_append, List.map_cons, List.map_nil, List.sum_cons, List.sum_nil]
  omega
theorem encV_good {x : Sp} (h : spSays x = 0) : encV x = x.bytes := if_pos h
theorem encV_bad {x : Sp} (h : ¬ spSays x = 0) : encV x = ⟨#[]⟩ := if_neg h
/-- What Encode answers, at a place. -/
abbrev Encs (X : Sp) (B : ByteArray) (E : Int) : Prop := ∀ (u : World) (q1 : Option Addr) (q2 q3 : Nat) (q4 : Option Addr) (q5 q6 : Nat), SpAt u X ⟨q1, q2, q3, q4, q5, q6⟩ → Calls Try.prog 10 #[.agg #[.int .i64 X.id, .int .i64 X.c, .int .i64 X.m, .int .i64 X.d, .slice q1 q2 q3, .slice q4 q5 q6]] u fun e w' => e = .returned (.tuple #[.string B, .int .i64 E]) ∧ Kept u w'
abbrev Chks (X : Sp) (E : Int) : Prop := ∀ (u : World) (q1 : Option Addr) (q2 q3 : Nat) (q4 : Option Addr) (q5 q6 : Nat), SpAt u X ⟨q1, q2, q3, q4, q5, q6⟩ → Calls Try.prog 14 #[.agg #[.int .i64 X.id, .int .i64 X.c, .int .i64 X.m, .int .i64 X.d, .slice q1 q2 q3, .slice q4 q5 q6]] u fun e w' => e = .returned (.int .i64 E) ∧ Kept u w'
theorem zero_at (w : World) : SpAt w zeroS ⟨none, 0, 0, none, 0, 0⟩ := ⟨At.empty _, AtE.empty _ _⟩
theorem eq_zero {w : World} {q1 : Option Addr} {q2 q3 : Nat} {q4 : Option Addr} {q5 q6 : Nat} (h : SpAt w zeroS ⟨q1, q2, q3, q4, q5, q6⟩) : Calls Try.prog 13 #[.agg #[.int .i64 zeroS.id, .int .i64 zeroS.c, .int .i64 zeroS.m, .int .i64 zeroS.d, .slice q1 q2 q3, .slice q4 q5 q6], .agg #[.int .i64 0, .int .i64 0, .int .i64 0, .int .i64 0, .slice none 0 0, .slice none 0 0]] w fun e w' => e = .returned (.bool true) ∧ Kept w w' := eq_same (S := zeroS) h (zero_at w)
set_option maxHeartbeats 16000000 in
set_option maxRecDepth 100000 in
theorem back_core (P : SpecP) (x : Sp) (p1 : Option Addr) (p2 p3 : Nat) (p4 : Option Addr) (p5 p6 : Nat) (s : ByteArray) (hs : s.size ≤ maxLen) (w : World) (hx : SpAt w x ⟨p1, p2, p3, p4, p5, p6⟩) : Calls Try.prog 6 #[.agg #[.int .i64 x.id, .int .i64 x.c, .int .i64 x.m, .int .i64 x.d, .slice p1 p2 p3, .slice p4 p5 p6], .string s] w fun e w' => e = .returned (.bool true) ∧ Kept w w' := by
  obtain ⟨M, f1, hM1, hM2⟩ := cut_at s.size 400
  have f2 : (if 400 < (s.size : Int) then 400 else (s.size : Int)) = (M : Int) := by rw [← f1]; split <;> omega
  obtain ⟨T, hT⟩ : ∃ T, T = s.extract 0 M := ⟨_, rfl⟩
  have hT0 : s.extract 0 M = T := hT.symm
  have hTs : T.size ≤ 400 := by rw [hT, ByteArray.size_extract]; omega
  clear hT
  unfold maxLen at hs
  have O0 := Lib.hid ((Own.nil w).box #[.int .i64 x.id, .int .i64 x.c, .int .i64 x.m, .int .i64 x.d, .slice p1 p2 p3, .slice p4 p5 p6] 27)
  have HX := Lib.hid hx
  clear hx
  have hF := few6 x p1 p2 p3 p4 p5 p6
  generalize few x = X at hF
  have HF := Lib.hid hF
  clear hF
  obtain ⟨⟨u0, u1, u2, u3, u4, u5⟩, _⟩ := box6 (O0.out.boxed 0 rfl)
  obtain ⟨B, hB⟩ : ∃ B, B = encV X := ⟨_, rfl⟩
  obtain ⟨E, hE⟩ : ∃ E, E = spSays X := ⟨_, rfl⟩
  have c1 : Encs X B E := fun u q1 q2 q3 q4 q5 q6 h => by have := P.enc h; rwa [← hB, ← hE] at this
  have c2 : Chks X E := fun u q1 q2 q3 q4 q5 q6 h => by have := P.check h; rwa [← hE] at this
  obtain ⟨S, t, D, hR⟩ := reads_any T
  have c3 := dec_is hR (fun w => P.dec T w (by omega))
  have c4 := awake_c P
  have hBE : E ≠ 0 → B = ⟨#[]⟩ := fun h => by rw [hB]; exact encV_bad (by rw [← hE]; exact h)
  have hBR : E = 0 → B.size ≤ 200 ∧ SpRead (B ++ T) X T := fun h => by
    have g := (sp_say X).1 (by rw [← hE]; exact h)
    rw [hB, encV_good (by rw [← hE]; exact h)]
    exact ⟨bytes_few g, g, rfl⟩
  have c5 : E = 0 → Decs 18 (B ++ T) X T 0 := fun h => dec_is (.inl ⟨rfl, (hBR h).2⟩) (fun w => P.dec _ w (by rw [ByteArray.size_append]; have := (hBR h).1; omega))
  have c6 : D = 0 → Encs S S.bytes 0 ∧ S.bytes ++ t = T := fun h => by
    rcases hR with ⟨_, hR⟩ | ⟨h4, _⟩
    · have e := (sp_say S).2 hR.1
      refine ⟨fun u q1 q2 q3 q4 q5 q6 h => ?_, hR.2.symm⟩
      have := P.enc h
      rwa [encV_good e, e] at this
    · omega
  have hD : D = 0 ∨ D = 4 ∧ S = zeroS ∧ t = ⟨#[]⟩ := by
    rcases hR with ⟨h, _⟩ | ⟨h, _, h1, h2⟩
    · exact .inl h
    · exact .inr ⟨h, h1, h2⟩
  have C := Lib.hid (And.intro c1 (And.intro c2 (And.intro c3 (And.intro c4 (And.intro c5 (And.intro c6 (And.intro hBE hBR)))))))
  clear c1 c2 c3 c4 c5 c6 hB hE hBE hBR hR P
  go_enter Try.func6, Try.ntmps6
  go_upto_region 1 with fail
  go_cut [1] from 15 to 21 (fun v1 wx => v1 = .string T ∧ ∃ (q1 : Option Addr) (q2 q3 : Nat) (q4 : Option Addr) (q5 q6 : Nat), Mem.Own w [boxA w.heap.size #[.int .i64 X.id, .int .i64 X.c, .int .i64 X.m, .int .i64 X.d, .slice q1 q2 q3, .slice q4 q5 q6] 27] wx ∧ SpAt wx X ⟨q1, q2, q3, q4, q5, q6⟩)
  case first =>
    go_region_with (first
      | (go_at_call 9; (with_reducible refine (HF.out _ (HX.out.kept O0.out.kept.drew)).mono ?_); rintro e w1 ⟨q1, q2, q3, q4, q5, q6, rfl, n1, k1⟩; have N1 := Lib.hid n1; have O1 := Lib.hid (O0.out.drew.later k1); obtain ⟨⟨v0, v1, v2, v3, v4, v5⟩, fv⟩ := box6 (O1.out.boxed 0 rfl); have y0 := fv 0; have y1 := fv 1; have y2 := fv 2; have y3 := fv 3; have y4 := fv 4; have y5 := fv 5; clear fv))
    all_goals
      go_wp2_with fail
      go_meet
      refine ⟨rfl, q1, q2, q3, q4, q5, q6, own_six O1.out _ _ _ _ _ _, (new_six N1.out ?_ _ _ _ _ _ _).at⟩
      simp [World.drew]
  case rest =>
    obtain ⟨rfl, q1, q2, q3, q4, q5, q6, hO, hS⟩ := hcut
    have OQ := Lib.hid hO
    have SX := Lib.hid hS
    clear hO hS u0 u1 u2 u3 u4 u5 hT0 f1 f2 hM1 hM2 hs
    obtain ⟨⟨u0, u1, u2, u3, u4, u5⟩, _⟩ := box6 (OQ.out.boxed 0 rfl)
    by_cases hE0 : E = 0
    · have c5 := C.out.2.2.2.2.1 hE0
      have hB2 := (C.out.2.2.2.2.2.2.2 hE0).1
      have HC5 := Lib.hid c5
      subst hE0
      clear c5
      have n2 : decide (200 < (B.size : Int)) = false := decide_eq_false (by omega)
      have n3 : (T.toList == T.toList) = true := by simp
      rcases hD with hD | ⟨hD, hS0, ht0⟩
      · subst hD
        obtain ⟨c6, hcat⟩ := C.out.2.2.2.2.2.1 rfl
        have HC6 := Lib.hid c6
        clear c6
        generalize S.bytes = Z at hcat HC6
        have hzt : Z.size + t.size ≤ 400 := by rw [← ByteArray.size_append, hcat]; exact hTs
        go_wp2_with (first
          | (go_at_call 10; first | (have hh := N6.out; clear hh; (with_reducible refine (HC6.out _ s1 s2 s3 s4 s5 s6 (N6.out.kept ((Kept.refl w6).alloc _))).mono ?_); rintro e w7 ⟨rfl, k7⟩) | ((with_reducible refine (C.out.1 _ q1 q2 q3 q4 q5 q6 SX.out).mono ?_); rintro e w2 ⟨rfl, k2⟩; clear u0 u1 u2 u3 u4 u5; have O2 := Lib.hid (OQ.out.later k2); obtain ⟨⟨u0, u1, u2, u3, u4, u5⟩, _⟩ := box6 (O2.out.boxed 0 rfl)))
          | (go_at_call 14; (with_reducible refine (C.out.2.1 _ q1 q2 q3 q4 q5 q6 (SX.out.kept k2)).mono ?_); rintro e w3 ⟨rfl, k3⟩; clear u0 u1 u2 u3 u4 u5)
          | (go_at_call 18; first | ((with_reducible refine (HC5.out _).mono ?_); rintro e w4 ⟨r1, r2, r3, r4, r5, r6, rfl, n4, k4⟩; have N4 := Lib.hid n4; clear n4; have O4 := Lib.hid (((O2.out.later k3).later k4).box #[.int .i64 X.id, .int .i64 X.c, .int .i64 X.m, .int .i64 X.d, .slice r1 r2 r3, .slice r4 r5 r6] 27); obtain ⟨⟨u0, u1, u2, u3, u4, u5⟩, _⟩ := box6 (O4.out.boxed 0 rfl); obtain ⟨⟨v0, v1, v2, v3, v4, v5⟩, _⟩ := box6 (O4.out.boxed 1 rfl)) | ((with_reducible refine (C.out.2.2.1 _).mono ?_); rintro e w6 ⟨s1, s2, s3, s4, s5, s6, rfl, n6, k6⟩; have N6 := Lib.hid n6; clear n6; have O6 := Lib.hid ((O5.out.later k6).box #[.int .i64 S.id, .int .i64 S.c, .int .i64 S.m, .int .i64 S.d, .slice s1 s2 s3, .slice s4 s5 s6] 27); obtain ⟨⟨u0, u1, u2, u3, u4, u5⟩, _⟩ := box6 (O6.out.boxed 0 rfl)))
          | (go_at_call 13; ((with_reducible refine (eq_same (SX.out.kept (((k2.trans k3).trans k4).alloc _)) (N4.out.kept ((Kept.refl w4).alloc _))).mono ?_); rintro e w5 ⟨rfl, k5⟩; clear u0 u1 u2 u3 u4 u5 v0 v1 v2 v3 v4 v5; have O5 := Lib.hid (O4.out.later k5)))
          | (go_at_call 17; (with_reducible refine (C.out.2.2.2.1 _).mono ?_); rintro e w8 ⟨rfl, k8⟩))
        go_ret
        exact ⟨rfl, (O6.out.kept.trans k7).trans k8⟩
      · subst hD hS0 ht0
        go_wp2_with (first
          | (go_at_call 10; ((with_reducible refine (C.out.1 _ q1 q2 q3 q4 q5 q6 SX.out).mono ?_); rintro e w2 ⟨rfl, k2⟩; clear u0 u1 u2 u3 u4 u5; have O2 := Lib.hid (OQ.out.later k2); obtain ⟨⟨u0, u1, u2, u3, u4, u5⟩, _⟩ := box6 (O2.out.boxed 0 rfl)))
          | (go_at_call 14; (with_reducible refine (C.out.2.1 _ q1 q2 q3 q4 q5 q6 (SX.out.kept k2)).mono ?_); rintro e w3 ⟨rfl, k3⟩; clear u0 u1 u2 u3 u4 u5)
          | (go_at_call 18; first | ((with_reducible refine (HC5.out _).mono ?_); rintro e w4 ⟨r1, r2, r3, r4, r5, r6, rfl, n4, k4⟩; have N4 := Lib.hid n4; clear n4; have O4 := Lib.hid (((O2.out.later k3).later k4).box #[.int .i64 X.id, .int .i64 X.c, .int .i64 X.m, .int .i64 X.d, .slice r1 r2 r3, .slice r4 r5 r6] 27); obtain ⟨⟨u0, u1, u2, u3, u4, u5⟩, _⟩ := box6 (O4.out.boxed 0 rfl); obtain ⟨⟨v0, v1, v2, v3, v4, v5⟩, _⟩ := box6 (O4.out.boxed 1 rfl)) | ((with_reducible refine (C.out.2.2.1 _).mono ?_); rintro e w6 ⟨s1, s2, s3, s4, s5, s6, rfl, n6, k6⟩; have N6 := Lib.hid n6; clear n6; have O6 := Lib.hid ((O5.out.later k6).box #[.int .i64 zeroS.id, .int .i64 zeroS.c, .int .i64 zeroS.m, .int .i64 zeroS.d, .slice s1 s2 s3, .slice s4 s5 s6] 27); obtain ⟨⟨u0, u1, u2, u3, u4, u5⟩, _⟩ := box6 (O6.out.boxed 0 rfl)))
          | (go_at_call 13; first | (have hh := N6.out; clear hh; ((with_reducible refine (eq_zero (N6.out.kept ((Kept.refl w6).alloc _))).mono ?_); rintro e w7 ⟨rfl, k7⟩)) | ((with_reducible refine (eq_same (SX.out.kept (((k2.trans k3).trans k4).alloc _)) (N4.out.kept ((Kept.refl w4).alloc _))).mono ?_); rintro e w5 ⟨rfl, k5⟩; clear u0 u1 u2 u3 u4 u5 v0 v1 v2 v3 v4 v5; have O5 := Lib.hid (O4.out.later k5)))
          | (go_at_call 17; (with_reducible refine (C.out.2.2.2.1 _).mono ?_); rintro e w8 ⟨rfl, k8⟩))
        go_ret
        exact ⟨rfl, (O6.out.kept.trans k7).trans k8⟩
    · have hB0 := C.out.2.2.2.2.2.2.1 hE0
      have n1 : (E != 0) = true := by simpa using hE0
      have n4 : (E == E) = true := by simp
      subst hB0
      rcases hD with hD | ⟨hD, hS0, ht0⟩
      · subst hD
        obtain ⟨c6, hcat⟩ := C.out.2.2.2.2.2.1 rfl
        have HC6 := Lib.hid c6
        clear c6
        generalize S.bytes = Z at hcat HC6
        have hzt : Z.size + t.size ≤ 400 := by rw [← ByteArray.size_append, hcat]; exact hTs
        go_wp2_with (first
          | (go_at_call 10; first | (have hh := N6.out; clear hh; (with_reducible refine (HC6.out _ s1 s2 s3 s4 s5 s6 (N6.out.kept ((Kept.refl w6).alloc _))).mono ?_); rintro e w7 ⟨rfl, k7⟩) | ((with_reducible refine (C.out.1 _ q1 q2 q3 q4 q5 q6 SX.out).mono ?_); rintro e w2 ⟨rfl, k2⟩; clear u0 u1 u2 u3 u4 u5; have O2 := Lib.hid (OQ.out.later k2); obtain ⟨⟨u0, u1, u2, u3, u4, u5⟩, _⟩ := box6 (O2.out.boxed 0 rfl)))
          | (go_at_call 14; (with_reducible refine (C.out.2.1 _ q1 q2 q3 q4 q5 q6 (SX.out.kept k2)).mono ?_); rintro e w3 ⟨rfl, k3⟩; clear u0 u1 u2 u3 u4 u5; have O5 := Lib.hid (O2.out.later k3))
          | (go_at_call 18; ((with_reducible refine (C.out.2.2.1 _).mono ?_); rintro e w6 ⟨s1, s2, s3, s4, s5, s6, rfl, n6, k6⟩; have N6 := Lib.hid n6; clear n6; have O6 := Lib.hid ((O5.out.later k6).box #[.int .i64 S.id, .int .i64 S.c, .int .i64 S.m, .int .i64 S.d, .slice s1 s2 s3, .slice s4 s5 s6] 27); obtain ⟨⟨u0, u1, u2, u3, u4, u5⟩, _⟩ := box6 (O6.out.boxed 0 rfl)))
          | (go_at_call 17; (with_reducible refine (C.out.2.2.2.1 _).mono ?_); rintro e w8 ⟨rfl, k8⟩))
        go_ret
        exact ⟨rfl, (O6.out.kept.trans k7).trans k8⟩
      · subst hD hS0 ht0
        go_wp2_with (first
          | (go_at_call 10; ((with_reducible refine (C.out.1 _ q1 q2 q3 q4 q5 q6 SX.out).mono ?_); rintro e w2 ⟨rfl, k2⟩; clear u0 u1 u2 u3 u4 u5; have O2 := Lib.hid (OQ.out.later k2); obtain ⟨⟨u0, u1, u2, u3, u4, u5⟩, _⟩ := box6 (O2.out.boxed 0 rfl)))
          | (go_at_call 14; (with_reducible refine (C.out.2.1 _ q1 q2 q3 q4 q5 q6 (SX.out.kept k2)).mono ?_); rintro e w3 ⟨rfl, k3⟩; clear u0 u1 u2 u3 u4 u5; have O5 := Lib.hid (O2.out.later k3))
          | (go_at_call 18; ((with_reducible refine (C.out.2.2.1 _).mono ?_); rintro e w6 ⟨s1, s2, s3, s4, s5, s6, rfl, n6, k6⟩; have N6 := Lib.hid n6; clear n6; have O6 := Lib.hid ((O5.out.later k6).box #[.int .i64 zeroS.id, .int .i64 zeroS.c, .int .i64 zeroS.m, .int .i64 zeroS.d, .slice s1 s2 s3, .slice s4 s5 s6] 27); obtain ⟨⟨u0, u1, u2, u3, u4, u5⟩, _⟩ := box6 (O6.out.boxed 0 rfl)))
          | (go_at_call 13; ((with_reducible refine (eq_zero (N6.out.kept ((Kept.refl w6).alloc _))).mono ?_); rintro e w7 ⟨rfl, k7⟩))
          | (go_at_call 17; (with_reducible refine (C.out.2.2.2.1 _).mono ?_); rintro e w8 ⟨rfl, k8⟩))
        go_ret
        exact ⟨rfl, (O6.out.kept.trans k7).trans k8⟩
end Go.Proofs.YtngojgocplmedaaR.Ls
