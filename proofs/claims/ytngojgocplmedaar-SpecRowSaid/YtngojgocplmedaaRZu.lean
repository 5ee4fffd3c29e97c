/-
  Layer 13: the chapter's examples (awake). (Written by program.)
-/
import Derived.Test.YtngojgocplmedaaRZs
import Derived.Deep.CutBlock
import Derived.Deep.CutRange
namespace Go.Proofs.YtngojgocplmedaaR.Ls
open Go.RowKit Go.Proofs.YtngojgocplmedaaR.Mem Go.Proofs.YtngojgocplmedaaR.Bx Go.Proofs.YtngojgocplmedaaR.In Go.Proofs.YtngojgocplmedaaR.Sp Go.Proofs.YtngojgocplmedaaR.Nr Go.ChangeShapes Go.WideShapes Go.ChangeAt
set_option linter.unusedVariables false
set_option maxRecDepth 100000

theorem one_bytes : encV oneS = ⟨#[7, 4, 4, 4, 1, 80, 1, 0, 2, 20, 2, 8, 0]⟩ := by decide
theorem one_read : SpRead ((⟨#[7, 4, 4, 4, 1, 80, 1, 0, 2, 20, 2, 8, 0]⟩ : ByteArray) ++ ⟨#[120]⟩) oneS ⟨#[120]⟩ := ⟨oneS_good, by decide⟩
theorem one_short : NoRead ((⟨#[7, 4, 4, 4, 1, 80, 1, 0, 2, 20, 2, 8, 0]⟩ : ByteArray).extract 0 12) := fun x t h => by
  have e : ((⟨#[7, 4, 4, 4, 1, 80, 1, 0, 2, 20, 2, 8, 0]⟩ : ByteArray).extract 0 12) ++ ⟨#[0]⟩ = oneS.bytes ++ ⟨#[]⟩ := by decide
  have h1 : SpRead (oneS.bytes ++ ⟨#[]⟩) x (t ++ ⟨#[0]⟩) := ⟨h.1, by rw [← e, h.2, ByteArray.append_assoc]⟩
  have h2 := (read_one h1 ⟨oneS_good, rfl⟩).2
  have h3 := congrArg ByteArray.size h2
  rw [ByteArray.size_append] at h3
  exact absurd h3 (by show ¬ (t.size + 1 = 0); omega)
theorem aw_one (w : World) : Calls Try.prog 51 #[] w fun e w' => ∃ (q1 : Option Addr) (q2 q3 : Nat) (q4 : Option Addr) (q5 q6 : Nat), e = .returned (.agg #[.int .i64 7, .int .i64 4, .int .i64 4, .int .i64 4, .slice q1 q2 q3, .slice q4 q5 q6]) ∧ SpNew w.heap.size w' oneS ⟨q1, q2, q3, q4, q5, q6⟩ ∧ Kept w w' :=
  (one_c w).mono fun e w' ⟨⟨q1, q2, q3, q4, q5, q6⟩, h1, h2, _, _, h3⟩ => ⟨q1, q2, q3, q4, q5, q6, h1, h2, h3⟩
theorem aw_enc (P : SpecP) {w : World} {q1 : Option Addr} {q2 q3 : Nat} {q4 : Option Addr} {q5 q6 : Nat} (h : SpAt w oneS ⟨q1, q2, q3, q4, q5, q6⟩) : Calls Try.prog 10 #[.agg #[.int .i64 7, .int .i64 4, .int .i64 4, .int .i64 4, .slice q1 q2 q3, .slice q4 q5 q6]] w fun e w' => e = .returned (.tuple #[.string ⟨#[7, 4, 4, 4, 1, 80, 1, 0, 2, 20, 2, 8, 0]⟩, .int .i64 0]) ∧ Kept w w' := by
  have := P.enc h
  rwa [one_bytes, show spSays oneS = 0 by decide] at this
theorem aw_dec (P : SpecP) (w : World) : Calls Try.prog 18 #[.string ((⟨#[7, 4, 4, 4, 1, 80, 1, 0, 2, 20, 2, 8, 0]⟩ : ByteArray) ++ ⟨#[120]⟩)] w fun e w' => ∃ (q1 : Option Addr) (q2 q3 : Nat) (q4 : Option Addr) (q5 q6 : Nat), e = .returned (.tuple #[.agg #[.int .i64 7, .int .i64 4, .int .i64 4, .int .i64 4, .slice q1 q2 q3, .slice q4 q5 q6], .string ⟨#[120]⟩, .int .i64 0]) ∧ SpAt w' oneS ⟨q1, q2, q3, q4, q5, q6⟩ ∧ Kept w w' := by
  refine (P.dec _ w (by decide)).mono ?_
  rintro e w' (⟨S, ⟨q1, q2, q3, q4, q5, q6⟩, t, hr, rfl, hS, k⟩ | ⟨hn, _⟩)
  · obtain ⟨rfl, rfl⟩ := read_one hr one_read
    exact ⟨q1, q2, q3, q4, q5, q6, rfl, hS, k⟩
  · exact absurd one_read (hn _ _)
theorem aw_dec2 (P : SpecP) (w : World) : Calls Try.prog 18 #[.string ((⟨#[7, 4, 4, 4, 1, 80, 1, 0, 2, 20, 2, 8, 0]⟩ : ByteArray).extract 0 12)] w fun e w' => ∃ (q1 : Option Addr) (q2 q3 : Nat) (q4 : Option Addr) (q5 q6 : Nat), e = .returned (.tuple #[.agg #[.int .i64 0, .int .i64 0, .int .i64 0, .int .i64 0, .slice q1 q2 q3, .slice q4 q5 q6], .string ⟨#[]⟩, .int .i64 4]) ∧ Kept w w' := by
  refine (P.dec _ w (by decide)).mono ?_
  rintro e w' (⟨S, q, t, hr, _⟩ | ⟨_, ⟨q1, q2, q3, q4, q5, q6⟩, rfl, _, k⟩)
  · exact absurd hr (one_short _ _)
  · exact ⟨q1, q2, q3, q4, q5, q6, rfl, k⟩
theorem aw_eq {w : World} {q1 p1 : Option Addr} {q2 q3 p2 p3 : Nat} {q4 p4 : Option Addr} {q5 q6 p5 p6 : Nat} (h : SpAt w oneS ⟨q1, q2, q3, q4, q5, q6⟩) (k : SpAt w oneS ⟨p1, p2, p3, p4, p5, p6⟩) : Calls Try.prog 13 #[.agg #[.int .i64 7, .int .i64 4, .int .i64 4, .int .i64 4, .slice q1 q2 q3, .slice q4 q5 q6], .agg #[.int .i64 7, .int .i64 4, .int .i64 4, .int .i64 4, .slice p1 p2 p3, .slice p4 p5 p6]] w fun e w' => e = .returned (.bool true) ∧ Kept w w' := by
  have := eqs_c h k
  rwa [decide_eq_true (p := oneS = oneS) rfl] at this
def badS : Sp := ⟨7, 4, 4, 4, [80, 80], [⟨false, 2, 20, 2, 8, 0⟩]⟩
def noneS : Sp := ⟨7, 4, 4, 4, [80], []⟩
theorem aw_bad (P : SpecP) {w : World} {q1 : Option Addr} {q2 q3 : Nat} {q4 : Option Addr} {q5 q6 : Nat} (h : SpAt w badS ⟨q1, q2, q3, q4, q5, q6⟩) : Calls Try.prog 14 #[.agg #[.int .i64 7, .int .i64 4, .int .i64 4, .int .i64 4, .slice q1 q2 q3, .slice q4 q5 q6]] w fun e w' => e = .returned (.int .i64 13) ∧ Kept w w' := by
  have := P.check h
  rwa [show spSays badS = 13 by decide] at this
theorem aw_none (P : SpecP) {w : World} {q1 : Option Addr} {q2 q3 : Nat} {q4 : Option Addr} {q5 q6 : Nat} (h : SpAt w noneS ⟨q1, q2, q3, q4, q5, q6⟩) : Calls Try.prog 14 #[.agg #[.int .i64 7, .int .i64 4, .int .i64 4, .int .i64 4, .slice q1 q2 q3, .slice q4 q5 q6]] w fun e w' => e = .returned (.int .i64 2) ∧ Kept w w' := by
  have := P.check h
  rwa [show spSays noneS = 2 by decide] at this
theorem aw_c0 (P : SpecP) (w : World) : Calls Try.prog 20 #[.agg #[.int .i64 10, .int .i64 10, .int .i64 10, .int .i64 2, .int .i64 48, .int .i64 2, .int .i64 2, .int .i64 5, .int .i64 10, .int .i64 2, .int .i64 3]] w fun e w' => e = .returned (.int .i64 0) ∧ Kept w w' := by
  have := P.conf ⟨10, 10, 10, 2, 48, 2, 2, 5, 10, 2, 3⟩ w
  rwa [show cfSays ⟨10, 10, 10, 2, 48, 2, 2, 5, 10, 2, 3⟩ = 0 by decide] at this
theorem aw_c1 (P : SpecP) (w : World) : Calls Try.prog 20 #[.agg #[.int .i64 10, .int .i64 10, .int .i64 10, .int .i64 2, .int .i64 47, .int .i64 2, .int .i64 2, .int .i64 5, .int .i64 10, .int .i64 2, .int .i64 3]] w fun e w' => e = .returned (.int .i64 3) ∧ Kept w w' := by
  have := P.conf ⟨10, 10, 10, 2, 47, 2, 2, 5, 10, 2, 3⟩ w
  rwa [show cfSays ⟨10, 10, 10, 2, 47, 2, 2, 5, 10, 2, 3⟩ = 3 by decide] at this
theorem aw_c2 (P : SpecP) (w : World) : Calls Try.prog 20 #[.agg #[.int .i64 10, .int .i64 10, .int .i64 10, .int .i64 2, .int .i64 48, .int .i64 1, .int .i64 2, .int .i64 5, .int .i64 10, .int .i64 2, .int .i64 3]] w fun e w' => e = .returned (.int .i64 3) ∧ Kept w w' := by
  have := P.conf ⟨10, 10, 10, 2, 48, 1, 2, 5, 10, 2, 3⟩ w
  rwa [show cfSays ⟨10, 10, 10, 2, 48, 1, 2, 5, 10, 2, 3⟩ = 3 by decide] at this
theorem aw_n2 (P : SpecP) (w : World) : Calls Try.prog 22 #[.int .i64 2] w fun e w' => e = .returned (.int .i64 48) ∧ Kept w w' := by
  have := P.need 2 w
  rwa [show needV 2 = 48 by decide] at this
theorem aw_n0 (P : SpecP) (w : World) : Calls Try.prog 22 #[.int .i64 0] w fun e w' => e = .returned (.int .i64 0) ∧ Kept w w' := by
  have := P.need 0 w
  rwa [show needV 0 = 0 by decide] at this
theorem box11 {y : World} {F : Nat} {U : TypeId} {v0 v1 v2 v3 v4 v5 v6 v7 v8 v9 v10 : Value} (h : y.heap[F]? = some (.cells #[v0, v1, v2, v3, v4, v5, v6, v7, v8, v9, v10] U (0, 0))) :
    y.cell? ⟨F, 0, none⟩ = some v0 ∧ y.cell? ⟨F, 1, none⟩ = some v1 ∧ y.cell? ⟨F, 2, none⟩ = some v2 ∧ y.cell? ⟨F, 3, none⟩ = some v3 ∧ y.cell? ⟨F, 4, none⟩ = some v4 ∧ y.cell? ⟨F, 5, none⟩ = some v5 ∧ y.cell? ⟨F, 6, none⟩ = some v6 ∧ y.cell? ⟨F, 7, none⟩ = some v7 ∧ y.cell? ⟨F, 8, none⟩ = some v8 ∧ y.cell? ⟨F, 9, none⟩ = some v9 ∧ y.cell? ⟨F, 10, none⟩ = some v10 :=
  ⟨cell_of_row _ _ _ _ _ _ h, cell_of_row _ _ _ _ _ _ h, cell_of_row _ _ _ _ _ _ h, cell_of_row _ _ _ _ _ _ h, cell_of_row _ _ _ _ _ _ h, cell_of_row _ _ _ _ _ _ h, cell_of_row _ _ _ _ _ _ h, cell_of_row _ _ _ _ _ _ h, cell_of_row _ _ _ _ _ _ h, cell_of_row _ _ _ _ _ _ h, cell_of_row _ _ _ _ _ _ h⟩
theorem bad_at {w : World} {g : Nat} {q1 q4 : Option Addr} {q2 q3 q5 q6 : Nat} (h : w.heap[g]? = some (.cells #[.int .i64 80, .int .i64 80] 3 (0, 0))) (k : SpAt w oneS ⟨q1, q2, q3, q4, q5, q6⟩) : SpAt w badS ⟨some ⟨g, 0, none⟩, 2, 2, q4, q5, q6⟩ :=
  ⟨⟨rfl, Nat.le_refl _, (show 2 ≤ maxLen by decide), fun e => by simp at e, (fun x hx => by rcases List.mem_cons.1 hx with rfl | hx; exact ⟨by decide, by decide⟩; rw [List.mem_singleton] at hx; subst hx; exact ⟨by decide, by decide⟩), fun j x hx => ⟨g, 0, rfl, lt_of_block h, by
    have hj := (List.getElem?_eq_some_iff.1 hx).1
    match j, hx with
    | 0, hx => cases hx; exact cell_of_row _ _ _ _ _ _ h
    | 1, hx => cases hx; exact cell_of_row _ _ _ _ _ _ h⟩⟩, k.tasks⟩
theorem none_at {w : World} {q : Pl} (k : SpAt w oneS q) : SpAt w noneS ⟨q.po, q.pn, q.pc, none, 0, 0⟩ := ⟨k.ports, AtE.empty _ _⟩
theorem aw_plain (w : World) : Calls Try.prog 52 #[] w fun e w' => e = .returned (.agg #[.int .i64 10, .int .i64 10, .int .i64 10, .int .i64 2, .int .i64 48, .int .i64 2, .int .i64 2, .int .i64 5, .int .i64 10, .int .i64 2, .int .i64 3]) ∧ Kept w w' := plain_c w
set_option maxHeartbeats 4000000 in
theorem awake_c (P : SpecP) (w : World) : Calls Try.prog 17 #[] w fun e w' => e = .returned (.bool true) ∧ Kept w w' := by
  have HP := Lib.hid P
  clear P
  go_enter Try.func17, Try.ntmps17
  go_upto_region 3 with (first
    | (go_at_call 51; (with_reducible refine (aw_one _).mono ?_); rintro e w1 ⟨a1, a2, a3, a4, a5, a6, rfl, n1, k1⟩; have N1 := Lib.hid n1.at; clear n1)
    | (go_at_call 10; (with_reducible refine (aw_enc HP.out N1.out).mono ?_); rintro e w2 ⟨rfl, k2⟩)
    | (go_at_call 18; (with_reducible refine (aw_dec HP.out _).mono ?_); rintro e w3 ⟨b1, b2, b3, b4, b5, b6, rfl, n3, k3⟩; have N3 := Lib.hid n3; clear n3))
  have hb3 := box6 (((Own.nil w3).box #[.int .i64 7, .int .i64 4, .int .i64 4, .int .i64 4, .slice b1 b2 b3, .slice b4 b5 b6] 27).boxed 0 rfl)
  have HS := Lib.hid (show ∀ W, Kept (w3.alloc (.cells #[.int .i64 7, .int .i64 4, .int .i64 4, .int .i64 4, .slice b1 b2 b3, .slice b4 b5 b6] 27)) W → W.cell? ⟨w3.heap.size, 0, none⟩ = some (.int .i64 7) ∧ W.cell? ⟨w3.heap.size, 1, none⟩ = some (.int .i64 4) ∧ W.cell? ⟨w3.heap.size, 2, none⟩ = some (.int .i64 4) ∧ W.cell? ⟨w3.heap.size, 3, none⟩ = some (.int .i64 4) ∧ W.cell? ⟨w3.heap.size, 4, none⟩ = some (.slice b1 b2 b3) ∧ W.cell? ⟨w3.heap.size, 5, none⟩ = some (.slice b4 b5 b6) from fun W k => (box6 ((((Own.nil w3).box #[.int .i64 7, .int .i64 4, .int .i64 4, .int .i64 4, .slice b1 b2 b3, .slice b4 b5 b6] 27).later k).boxed 0 rfl)).1)
  go_region_held3 (fun W => W.cell? ⟨w3.heap.size, 0, none⟩ = some (.int .i64 7) ∧ W.cell? ⟨w3.heap.size, 1, none⟩ = some (.int .i64 4) ∧ W.cell? ⟨w3.heap.size, 2, none⟩ = some (.int .i64 4) ∧ W.cell? ⟨w3.heap.size, 3, none⟩ = some (.int .i64 4) ∧ W.cell? ⟨w3.heap.size, 4, none⟩ = some (.slice b1 b2 b3) ∧ W.cell? ⟨w3.heap.size, 5, none⟩ = some (.slice b4 b5 b6))
    (first | with_reducible assumption | exact HS.out _ (Kept.refl _).drew)
    (first
      | (go_at_call 51; (with_reducible refine (aw_one _).mono ?_); rintro e w4 ⟨p1, p2, p3, p4, p5, p6, rfl, n4, k4⟩; have N4 := Lib.hid n4.at; clear n4; have K4 := Lib.hid ((Kept.refl (w3.alloc (.cells #[.int .i64 7, .int .i64 4, .int .i64 4, .int .i64 4, .slice b1 b2 b3, .slice b4 b5 b6] 27))).drew.trans k4); have S4 := HS.out _ K4.out)
      | (go_at_call 13; (with_reducible refine (aw_eq (N3.out.kept (((Kept.refl w3).alloc _).trans K4.out)) N4.out).mono ?_); rintro e w5 ⟨rfl, k5⟩; have K5 := Lib.hid (K4.out.trans k5); have S5 := HS.out _ K5.out))
  go_upto_region 12 with (first
    | (go_at_call 18; (with_reducible refine (aw_dec2 HP.out _).mono ?_); rintro e w6 ⟨c1, c2, c3, c4, c5, c6, rfl, k6⟩)
    | (go_at_call 51; first
      | (have hh := N7.out; clear hh; (with_reducible refine (aw_one _).mono ?_); rintro e w8 ⟨e1, e2, e3, e4, e5, e6, rfl, n8, k8⟩; have N8 := Lib.hid n8.at; clear n8; have O9a := Lib.hid (O9b.out.later k8); have O10a := Lib.hid ((Own.nil w8).box #[.int .i64 7, .int .i64 4, .int .i64 4, .int .i64 4, .slice e1 e2 e3, .slice none 0 0] 27))
      | ((with_reducible refine (aw_one _).mono ?_); rintro e w7 ⟨d1, d2, d3, d4, d5, d6, rfl, n7, k7⟩; have N7 := Lib.hid n7.at; clear n7; have O9b := Lib.hid (show Mem.Own w7 [boxA (w7.heap.size + 1) #[.int .i64 80, .int .i64 80] 3, boxA w7.heap.size #[.int .i64 7, .int .i64 4, .int .i64 4, .int .i64 4, .slice (some ⟨w7.heap.size + 1, 0, none⟩) 2 2, .slice d4 d5 d6] 27] _ from by have h := ((Own.nil w7).box #[.int .i64 7, .int .i64 4, .int .i64 4, .int .i64 4, .slice (some ⟨w7.heap.size + 1, 0, none⟩) 2 2, .slice d4 d5 d6] 27).box #[.int .i64 80, .int .i64 80] 3; rw [show (w7.alloc (.cells #[.int .i64 7, .int .i64 4, .int .i64 4, .int .i64 4, .slice (some ⟨w7.heap.size + 1, 0, none⟩) 2 2, .slice d4 d5 d6] 27)).heap.size = w7.heap.size + 1 by simp] at h; exact h)))
    | (go_at_call 52; first
      | (have hh := O10b.out; clear hh; (with_reducible refine (aw_plain _).mono ?_); rintro e w10 ⟨rfl, k10⟩; have O10c := Lib.hid (O10b.out.later k10))
      | ((with_reducible refine (aw_plain _).mono ?_); rintro e w9 ⟨rfl, k9⟩; have O10b := Lib.hid (O10a.out.later k9))))
  have O12 := Lib.hid (show Mem.Own w8 [boxA (w10.heap.size + 1) #[.int .i64 10, .int .i64 10, .int .i64 10, .int .i64 2, .int .i64 48, .int .i64 1, .int .i64 2, .int .i64 5, .int .i64 10, .int .i64 2, .int .i64 3] 43, boxA w10.heap.size #[.int .i64 10, .int .i64 10, .int .i64 10, .int .i64 2, .int .i64 47, .int .i64 2, .int .i64 2, .int .i64 5, .int .i64 10, .int .i64 2, .int .i64 3] 43, boxA w8.heap.size #[.int .i64 7, .int .i64 4, .int .i64 4, .int .i64 4, .slice e1 e2 e3, .slice none 0 0] 27] _ from by have h := (O10c.out.box #[.int .i64 10, .int .i64 10, .int .i64 10, .int .i64 2, .int .i64 47, .int .i64 2, .int .i64 2, .int .i64 5, .int .i64 10, .int .i64 2, .int .i64 3] 43).box #[.int .i64 10, .int .i64 10, .int .i64 10, .int .i64 2, .int .i64 48, .int .i64 1, .int .i64 2, .int .i64 5, .int .i64 10, .int .i64 2, .int .i64 3] 43; rw [show (w10.alloc (.cells #[.int .i64 10, .int .i64 10, .int .i64 10, .int .i64 2, .int .i64 47, .int .i64 2, .int .i64 2, .int .i64 5, .int .i64 10, .int .i64 2, .int .i64 3] 43)).heap.size = w10.heap.size + 1 by simp] at h; exact h)
  have O9c := Lib.hid (O9a.out.later O12.out.kept)
  have SB := Lib.hid (bad_at (O9c.out.boxed 0 rfl) (N7.out.kept O9c.out.kept))
  have SN := Lib.hid (none_at (N8.out.kept O12.out.kept))
  have KW := Lib.hid ((((((((k1.trans k2).trans k3).alloc (.cells #[.int .i64 7, .int .i64 4, .int .i64 4, .int .i64 4, .slice b1 b2 b3, .slice b4 b5 b6] 27)).trans K5.out).trans k6).alloc (.cells #[.int .i64 0, .int .i64 0, .int .i64 0, .int .i64 0, .slice c1 c2 c3, .slice c4 c5 c6] 27)).trans k7).trans O9c.out.kept)
  obtain ⟨⟨m0, m1, m2, m3, m4, m5⟩, _⟩ := box6 (O9c.out.boxed 1 rfl)
  go_wp2_with (first
    | (go_at_call 14; first
      | (with_reducible refine (aw_bad HP.out SB.out).mono ?_; rintro e w11 ⟨rfl, k11⟩; clear m0 m1 m2 m3 m4 m5; obtain ⟨⟨m0, m1, m2, m3, m4, m5⟩, _⟩ := box6 ((O12.out.later k11).boxed 2 rfl))
      | (with_reducible refine (aw_none HP.out (SN.out.kept k11)).mono ?_; rintro e w12 ⟨rfl, k12⟩; clear m0 m1 m2 m3 m4 m5))
    | (go_at_call 22; first
      | (with_reducible refine (aw_n2 HP.out _).mono ?_; rintro e w13 ⟨rfl, k13⟩)
      | (with_reducible refine (aw_n0 HP.out _).mono ?_; rintro e w14 ⟨rfl, k14⟩))
    | (go_at_call 52; with_reducible refine (aw_plain _).mono ?_; rintro e w15 ⟨rfl, k15⟩)
    | (go_at_call 20; first
      | (with_reducible refine (aw_c0 HP.out _).mono ?_; rintro e w16 ⟨rfl, k16⟩; have K16 := Lib.hid (((((k11.trans k12).trans k13).trans k14).trans k15).trans k16); obtain ⟨m0, m1, m2, m3, m4, m5, m6, m7, m8, m9, m10⟩ := box11 ((O12.out.later K16.out).boxed 1 rfl))
      | (with_reducible refine (aw_c1 HP.out _).mono ?_; rintro e w17 ⟨rfl, k17⟩; clear m0 m1 m2 m3 m4 m5 m6 m7 m8 m9 m10; obtain ⟨m0, m1, m2, m3, m4, m5, m6, m7, m8, m9, m10⟩ := box11 ((O12.out.later (K16.out.trans k17)).boxed 0 rfl))
      | (with_reducible refine (aw_c2 HP.out _).mono ?_; rintro e w18 ⟨rfl, k18⟩)))
  go_ret
  exact ⟨rfl, ((KW.out.trans K16.out).trans k17).trans k18⟩
end Go.Proofs.YtngojgocplmedaaR.Ls
