/-
  PROVED: the statement 'SpecMatchesSaid': for every input the law SpecMatches returns true, and each argument reads afterwards as it read before. No condition.
-/
import Derived.Test.YtngojgocplmedaaRYp
import Derived.Test.YtngojgocplmedaaRZr
import Derived.Test.YtngojgocplmedaaRRows
import Derived.WalkKit
import Derived.Deep.RegionHeld3
import Derived.BigQuiet
import Derived.ProofKit
import Derived.OpenShut
import Derived.ShutString
namespace Go.Proofs.YtngojgocplmedaaR.specMatches
open Go.ChangeShapes Go.WideShapes Go.ChangeAt Go.RowKit
open Go.Proofs.YtngojgocplmedaaR.Mem Go.Proofs.YtngojgocplmedaaR.In Go.Proofs.YtngojgocplmedaaR.Sp Go.Proofs.YtngojgocplmedaaR.Ls
set_option linter.unusedVariables false

theorem own : ownKnob Try.prog.godebug = none := by kernel_rfl
theorem laidOut : laidOutB Try.prog = true := by kernel_rfl

theorem walk (w : World) (x : Sp) (p1 : Option Addr) (p2 p3 : Nat) (p4 : Option Addr) (p5 p6 : Nat) (hx : SpAt w x ⟨p1, p2, p3, p4, p5, p6⟩) (y : Sp) (o1 : Option Addr) (o2 o3 : Nat) (o4 : Option Addr) (o5 o6 : Nat) (hy : SpAt w y ⟨o1, o2, o3, o4, o5, o6⟩) : Calls Try.prog 3 #[.agg #[.int .i64 x.id, .int .i64 x.c, .int .i64 x.m, .int .i64 x.d, .slice p1 p2 p3, .slice p4 p5 p6], .agg #[.int .i64 y.id, .int .i64 y.c, .int .i64 y.m, .int .i64 y.d, .slice o1 o2 o3, .slice o4 o5 o6]] w fun e w' => e = .returned (.bool true) ∧ Kept w w' := matches_core specP x y p1 p2 p3 p4 p5 p6 o1 o2 o3 o4 o5 o6 w hx hy

set_option maxRecDepth 100000 in
theorem lifted (os : Os) (started : os.Started) (H : Type) (enc : TypeId × Value → H) :
    ReturnsInHanded {} Try.checked os 3 .any (Rows.specMatchesSpec.pre6 enc Try.prog Try.f3 Rows.specMatchesRow.domain false) (Rows.specMatchesSpec.post enc Try.prog Try.f3 false true false false) := by
  refine returnsInHanded_of_change (C := Try.checked) own started (by kernel_rfl) Try.func3
    (ChangeSpec.witness6 (enc := enc) (C := Try.checked) false ⟨#[], #[.agg #[.int .i64 0, .int .i64 0, .int .i64 0, .int .i64 0, .slice none 0 0, .slice none 0 0], .agg #[.int .i64 0, .int .i64 0, .int .i64 0, .int .i64 0, .slice none 0 0, .slice none 0 0]], []⟩ 8 (by kernel_rfl) (by kernel_rfl) (by kernel_rfl) (by kernel_rfl)) ?_
  intro W base args ds gs before hval0 hW hcnd _
  have hval : ∀ (j : Nat) t v, Try.f3.params[j]? = some t → args[j]? = some v → Value.okWide Try.prog W .any base t v := hval0
  have hW' := hW
  obtain ⟨p, q, hA0, hV, rfl, hfz, hnd⟩ := hW
  have hA : DataW.TrodAll enc Try.prog W 0 (fun _ => true) true Try.f3.params.toList args.toList ds p := hA0
  rw [Try.params3] at hA hval
  obtain ⟨v0, vs0, d0, ds0, p0, q0, hargs0, rfl, rfl, h0, r0⟩ := trodAll_cons hA
  obtain ⟨v1, vs1, d1, ds1, p1, q1, hargs1, rfl, rfl, h1, r1⟩ := trodAll_cons r0
  obtain ⟨rfl, rfl, rfl⟩ := trodAll_nil r1
  obtain rfl : args = #[v0, v1] := by cases args; simp_all
  obtain ⟨rfl, rfl⟩ := trodVars_none hV
  obtain ⟨s0, ⟨a01, a02, a03, a04, a05, a06⟩, E0, f0⟩ := open_spec (hval 0 27 v0 rfl rfl) h0
  have e0 : v0 = .agg #[.int .i64 s0.id, .int .i64 s0.c, .int .i64 s0.m, .int .i64 s0.d, .slice a01 a02 a03, .slice a04 a05 a06] := f0
  obtain ⟨s1, ⟨a11, a12, a13, a14, a15, a16⟩, E1, f1⟩ := open_spec (hval 1 27 v1 rfl rfl) h1
  have e1 : v1 = .agg #[.int .i64 s1.id, .int .i64 s1.c, .int .i64 s1.m, .int .i64 s1.d, .slice a11 a12 a13, .slice a14 a15 a16] := f1
  clear hA0 hval0
  simp only [List.append_nil] at hW'
  have hlt0 : ∀ x ∈ p0, x.block < W.heap.size := fun x hx => hW'.lt x (by simp [hx])
  have hlt1 : ∀ x ∈ p1, x.block < W.heap.size := fun x hx => hW'.lt x (by simp [hx])
  have hwalk := walk W s0 a01 a02 a03 a04 a05 a06 E0 s1 a11 a12 a13 a14 a15 a16 E1
  rw [← e0, ← e1] at hwalk
  refine hwalk.mono fun e W' ⟨he, hg⟩ => ?_
  subst he
  exact ⟨_, rfl, _, _, _, [], _, [], hW', (trodAll_cons_mk (shut_bool Try.underlying4 _) trodAll_mk0), (trodAll_cons_mk (Below.trod laidOut (by kernel_rfl) (of_decide_eq_true (by kernel_rfl)) h0 hg hlt0) (trodAll_cons_mk (Below.trod laidOut (by kernel_rfl) (of_decide_eq_true (by kernel_rfl)) h1 hg hlt1) trodAll_mk0)), rfl, Below.frame hg _, fun h => by cases h⟩

theorem over : Rows.specMatchesRow.holds Try.pinned (OpenSpec.ofChange Rows.specMatchesSpec) :=
  OpenClaim.holds_of_wide 3 Try.f3 rfl rfl rfl rfl rfl rfl rfl ⟨rfl, rfl, rfl, rfl, rfl⟩ rfl rfl rfl rfl rfl (by kernel_rfl) Try.func3 (by kernel_rfl)
    (of_decide_eq_true (by kernel_rfl)) (by unfold Func.isWrapper; first | (rw [if_pos (by decide +kernel)]; kernel_rfl) | (rw [if_neg (by decide +kernel)]; exact ⟨rfl, rfl⟩))
    (fun os started H enc _ => lifted os started H enc)

/-- ████ THE STATEMENT ████ -/
theorem proved : Rows.SpecMatchesSaid :=
  over
#print axioms proved
end Go.Proofs.YtngojgocplmedaaR.specMatches
