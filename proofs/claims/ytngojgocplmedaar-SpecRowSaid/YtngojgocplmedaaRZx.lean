/-
  SpecReads (layer 13): its walk; what a Decode answers, the specification and its place taken apart.
-/
import Derived.Test.YtngojgocplmedaaRZw
namespace Go.Proofs.YtngojgocplmedaaR.Ls
open Go.RowKit Go.Proofs.YtngojgocplmedaaR.Mem Go.Proofs.YtngojgocplmedaaR.Bx Go.Proofs.YtngojgocplmedaaR.In Go.Proofs.YtngojgocplmedaaR.Sp Go.Proofs.YtngojgocplmedaaR.Nr Go.ChangeShapes Go.WideShapes Go.ChangeAt
set_option linter.unusedVariables false

/-- Cut to at most N. -/
theorem cut_at (n N : Nat) : ∃ M : Nat, min (n : Int) (N : Int) = (M : Int) ∧ M ≤ n ∧ M ≤ N := ⟨min n N, by omega, by omega, by omega⟩
/-- What is read of bytes: a specification and the rest, or nothing. -/
def Reads (s : ByteArray) (S : Sp) (t : ByteArray) (E : Int) : Prop := E = 0 ∧ SpRead s S t ∨ E = 4 ∧ NoRead s ∧ S = zeroS ∧ t = ⟨#[]⟩
theorem reads_any (s : ByteArray) : ∃ S t E, Reads s S t E := by
  by_cases h : ∃ S t, SpRead s S t
  · obtain ⟨S, t, h⟩ := h
    exact ⟨S, t, 0, .inl ⟨rfl, h⟩⟩
  · exact ⟨zeroS, ⟨#[]⟩, 4, .inr ⟨rfl, fun x t hx => h ⟨x, t, hx⟩, rfl, rfl⟩⟩
/-- A Decode answers so. -/
abbrev Decs (f : FuncId) (s : ByteArray) (S : Sp) (t : ByteArray) (E : Int) : Prop := ∀ w, Calls Try.prog f #[.string s] w fun e w' => ∃ (q1 : Option Addr) (q2 q3 : Nat) (q4 : Option Addr) (q5 q6 : Nat), e = .returned (.tuple #[.agg #[.int .i64 S.id, .int .i64 S.c, .int .i64 S.m, .int .i64 S.d, .slice q1 q2 q3, .slice q4 q5 q6], .string t, .int .i64 E]) ∧ SpAt w' S ⟨q1, q2, q3, q4, q5, q6⟩ ∧ Kept w w'
theorem dec_is {f : FuncId} {s : ByteArray} {S : Sp} {t : ByteArray} {E : Int} (h : Reads s S t E) (hf : ∀ w, Calls Try.prog f #[.string s] w fun e w' => DecP w s e w') : Decs f s S t E := fun w => by
  refine (hf w).mono ?_
  rintro e w' (⟨S', ⟨q1, q2, q3, q4, q5, q6⟩, t', hr, rfl, hS, k⟩ | ⟨hn, ⟨q1, q2, q3, q4, q5, q6⟩, rfl, hS, k⟩)
  · rcases h with ⟨rfl, h⟩ | ⟨_, hn, _⟩
    · obtain ⟨rfl, rfl⟩ := read_one hr h
      exact ⟨q1, q2, q3, q4, q5, q6, rfl, hS, k⟩
    · exact absurd hr (hn _ _)
  · rcases h with ⟨_, h⟩ | ⟨rfl, _, rfl, rfl⟩
    · exact absurd h (hn _ _)
    · exact ⟨q1, q2, q3, q4, q5, q6, rfl, hS, k⟩
theorem eq_same {w : World} {S : Sp} {q1 : Option Addr} {q2 q3 : Nat} {q4 : Option Addr} {q5 q6 : Nat} {p1 : Option Addr} {p2 p3 : Nat} {p4 : Option Addr} {p5 p6 : Nat} (h : SpAt w S ⟨q1, q2, q3, q4, q5, q6⟩) (k : SpAt w S ⟨p1, p2, p3, p4, p5, p6⟩) : Calls Try.prog 13 #[.agg #[.int .i64 S.id, .int .i64 S.c, .int .i64 S.m, .int .i64 S.d, .slice q1 q2 q3, .slice q4 q5 q6], .agg #[.int .i64 S.id, .int .i64 S.c, .int .i64 S.m, .int .i64 S.d, .slice p1 p2 p3, .slice p4 p5 p6]] w fun e w' => e = .returned (.bool true) ∧ Kept w w' := by
  have := eqs_c h k
  rwa [decide_eq_true (p := S = S) rfl] at this
/-- Few at a place, in any world that still has it. -/
abbrev Fews (x X : Sp) (p1 : Option Addr) (p2 p3 : Nat) (p4 : Option Addr) (p5 p6 : Nat) : Prop := ∀ (u : World), SpAt u x ⟨p1, p2, p3, p4, p5, p6⟩ → Calls Try.prog 9 #[.agg #[.int .i64 x.id, .int .i64 x.c, .int .i64 x.m, .int .i64 x.d, .slice p1 p2 p3, .slice p4 p5 p6]] u fun e w' => ∃ (q1 : Option Addr) (q2 q3 : Nat) (q4 : Option Addr) (q5 q6 : Nat), e = .returned (.agg #[.int .i64 X.id, .int .i64 X.c, .int .i64 X.m, .int .i64 X.d, .slice q1 q2 q3, .slice q4 q5 q6]) ∧ SpNew u.heap.size w' X ⟨q1, q2, q3, q4, q5, q6⟩ ∧ Kept u w'
theorem few6 (x : Sp) (p1 : Option Addr) (p2 p3 : Nat) (p4 : Option Addr) (p5 p6 : Nat) : Fews x (few x) p1 p2 p3 p4 p5 p6 := fun _ h => (few_c h).mono fun e w' ⟨⟨q1, q2, q3, q4, q5, q6⟩, h1, h2, h3⟩ => ⟨q1, q2, q3, q4, q5, q6, h1, h2, h3⟩
set_option maxHeartbeats 4000000 in
set_option maxRecDepth 100000 in
theorem reads_core (P : SpecP) (s : ByteArray) (hs : s.size ≤ maxLen) (w : World) : Calls Try.prog 4 #[.string s] w fun e w' => e = .returned (.bool true) ∧ Kept w w' := by
  obtain ⟨M, f1, hM1, hM2⟩ := cut_at s.size 400
  have f2 : (if 400 < (s.size : Int) then 400 else (s.size : Int)) = (M : Int) := by rw [← f1]; split <;> omega
  obtain ⟨T, hT⟩ : ∃ T, T = s.extract 0 M := ⟨_, rfl⟩
  have hT0 : s.extract 0 M = T := hT.symm
  have hTs : T.size ≤ 1000000 := by rw [hT, ByteArray.size_extract]; omega
  obtain ⟨S, t, E, hR⟩ := reads_any T
  have q1 := dec_is hR (fun w => P.dec T w hTs)
  have q2 := dec_is hR (fun w => rdec_p T w)
  have HQ := Lib.hid (And.intro q1 (And.intro q2 (awake_c P)))
  clear q1 q2 P hR hTs hT
  unfold maxLen at hs
  have b1 : (E == E) = true := by simp
  have b2 : (t.toList == t.toList) = true := by simp
  go_enter Try.func4, Try.ntmps4
  go_wp2_with (first
    | (go_at_call 18; (with_reducible refine (HQ.out.1 _).mono ?_); rintro e w1 ⟨a1, a2, a3, a4, a5, a6, rfl, n1, k1⟩; have N1 := Lib.hid n1; have O1 := Lib.hid ((Own.nil w1).box #[.int .i64 S.id, .int .i64 S.c, .int .i64 S.m, .int .i64 S.d, .slice a1 a2 a3, .slice a4 a5 a6] 27); clear n1)
    | (go_at_call 19; (with_reducible refine (HQ.out.2.1 _).mono ?_); rintro e w2 ⟨b1, b2, b3, b4, b5, b6, rfl, n2, k2⟩; have N2 := Lib.hid n2; have O2 := Lib.hid ((O1.out.later k2).box #[.int .i64 S.id, .int .i64 S.c, .int .i64 S.m, .int .i64 S.d, .slice b1 b2 b3, .slice b4 b5 b6] 27); clear n2; obtain ⟨⟨u0, u1, u2, u3, u4, u5⟩, _⟩ := box6 (O2.out.boxed 0 rfl); obtain ⟨⟨v0, v1, v2, v3, v4, v5⟩, _⟩ := box6 (O2.out.boxed 1 rfl))
    | (go_at_call 13; (with_reducible refine (eq_same (N1.out.kept O2.out.kept) (N2.out.kept ((Kept.refl w2).alloc _))).mono ?_); rintro e w3 ⟨rfl, k3⟩)
    | (go_at_call 17; (with_reducible refine (HQ.out.2.2 _).mono ?_); rintro e w4 ⟨rfl, k4⟩))
  go_ret
  exact ⟨rfl, ((k1.trans O2.out.kept).trans k3).trans k4⟩
end Go.Proofs.YtngojgocplmedaaR.Ls
