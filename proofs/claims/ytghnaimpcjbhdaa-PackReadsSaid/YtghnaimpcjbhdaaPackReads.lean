/-
  PROVED: the statement 'PackReadsSaid': for every input the law PackReads returns true, and each argument reads afterwards as it read before. No condition.
-/
import Derived.Test.YtghnaimpcjbhdaaPl
import Derived.Test.YtghnaimpcjbhdaaPg
import Derived.Test.YtghnaimpcjbhdaaRows
import Derived.WalkKit
import Derived.ProofKit
import Derived.OpenShut
import Derived.ShutString
namespace Go.Proofs.Ytghnaimpcjbhdaa.packReads
open Go.ChangeShapes Go.WideShapes Go.ChangeAt Go.RowKit
open Go.Proofs.Ytghnaimpcjbhdaa.Mem Go.Proofs.Ytghnaimpcjbhdaa.Pk
open Go.ChangeMaps (open_string shut_string)
set_option linter.unusedVariables false      -- a walk need not use every 'w<i>' (that an integer argument fits its kind)

theorem own : ownKnob Try.prog.godebug = none := by kernel_rfl

/-- What the calls return: the same of both. -/
structure Given (s : ByteArray) (N V : Nat) (I eN eV eT : Int) (R S T : ByteArray) : Prop where
  cN : ∀ w, Calls Try.prog 18 #[.string s] w fun e w' => e = .returned (.tuple #[.int .u64 N, .int .i64 eN]) ∧ Kept w w'
  rN : ∀ w, Calls Try.prog 19 #[.string s] w fun e w' => e = .returned (.tuple #[.int .u64 N, .int .i64 eN]) ∧ Kept w w'
  cV : ∀ w, Calls Try.prog 20 #[.string s] w fun e w' => e = .returned (.tuple #[.int .u64 V, .string R, .int .i64 eV]) ∧ Kept w w'
  rV : ∀ w, Calls Try.prog 21 #[.string s] w fun e w' => e = .returned (.tuple #[.int .u64 V, .string R, .int .i64 eV]) ∧ Kept w w'
  cI : ∀ w, Calls Try.prog 22 #[.string s] w fun e w' => e = .returned (.tuple #[.int .i64 I, .string R, .int .i64 eV]) ∧ Kept w w'
  rI : ∀ w, Calls Try.prog 23 #[.string s] w fun e w' => e = .returned (.tuple #[.int .i64 I, .string R, .int .i64 eV]) ∧ Kept w w'
  cT : ∀ w, Calls Try.prog 24 #[.string s] w fun e w' => e = .returned (.tuple #[.string S, .string T, .int .i64 eT]) ∧ Kept w w'
  rT : ∀ w, Calls Try.prog 25 #[.string s] w fun e w' => e = .returned (.tuple #[.string S, .string T, .int .i64 eT]) ∧ Kept w w'
theorem given (s : ByteArray) (hs : I63 s.size) : ∃ N V I eN eV eT R S T, Given s N V I eN eV eT R S T :=
  ⟨_, _, _, _, _, _, _, _, _, unfixed_any s, runfixed_any s, unvar_any s, runvar_any s, unint_any s, runint_any s, untext_any s hs, runtext_any s hs⟩
set_option maxHeartbeats 1000000 in
set_option maxRecDepth 100000 in
theorem walk (a0 : ByteArray) (w0 : a0.size ≤ maxLen) (w : World) :
    Calls Try.prog 4 #[.string a0] w fun e w' => e = .returned (.bool true) ∧ Kept w w' := by
  by_cases hs : a0.size ≤ 2000
  · obtain ⟨N, V, I, eN, eV, eT, R, S, T, G⟩ := given a0 (by unfold I63; omega)
    have h1 : decide (2000 < (a0.size : Int)) = false := by simp; omega
    clear hs w0
    go_enter Try.func4, Try.ntmps4
    go_wp2_with (first
      | (go_at_call 18; (with_reducible refine (G.cN _).mono ?_); rintro e w1 ⟨rfl, hk1⟩)
      | (go_at_call 19; (with_reducible refine (G.rN _).mono ?_); rintro e w2 ⟨rfl, hk2⟩)
      | (go_at_call 20; (with_reducible refine (G.cV _).mono ?_); rintro e w3 ⟨rfl, hk3⟩)
      | (go_at_call 21; (with_reducible refine (G.rV _).mono ?_); rintro e w4 ⟨rfl, hk4⟩)
      | (go_at_call 22; (with_reducible refine (G.cI _).mono ?_); rintro e w5 ⟨rfl, hk5⟩)
      | (go_at_call 23; (with_reducible refine (G.rI _).mono ?_); rintro e w6 ⟨rfl, hk6⟩)
      | (go_at_call 24; (with_reducible refine (G.cT _).mono ?_); rintro e w7 ⟨rfl, hk7⟩)
      | (go_at_call 25; (with_reducible refine (G.rT _).mono ?_); rintro e w8 ⟨rfl, hk8⟩)
      | (go_at_call 9; (with_reducible refine (known_any _).mono ?_); rintro e w9 ⟨rfl, hk9⟩))
    go_ret
    refine ⟨rfl, ?_⟩
    repeat (first | assumption | refine Kept.trans ?_ ‹_›)
  · have h1 : decide (2000 < (a0.size : Int)) = true := by simp; omega
    clear hs w0
    go_enter Try.func4, Try.ntmps4
    go_wp2_with (go_at_call 9; (with_reducible refine (known_any _).mono ?_); rintro e u ⟨rfl, hk⟩)
    go_ret
    exact ⟨rfl, hk⟩

/-! ### THE ROW's STEP: WRITTEN OUT: LEAVE IT -/
set_option maxRecDepth 100000 in
theorem lifted (os : Os) (started : os.Started) (H : Type) (enc : TypeId × Value → H) :
    ReturnsInHanded {} Try.checked os 4 .any (Rows.packReadsSpec.pre6 enc Try.prog Try.f4 Rows.packReadsRow.domain false) (Rows.packReadsSpec.post enc Try.prog Try.f4 false true false false) := by
  refine returnsInHanded_of_change (C := Try.checked) own started (by kernel_rfl) Try.func4
    (ChangeSpec.witness6 (enc := enc) (C := Try.checked) false ⟨#[], #[.string ByteArray.empty], []⟩ 8 (by kernel_rfl) (by kernel_rfl) (by kernel_rfl) (by kernel_rfl)) ?_
  intro W base args ds gs before hval0 hW hcnd _
  have hval : ∀ (j : Nat) t v, Try.f4.params[j]? = some t → args[j]? = some v → Value.okWide Try.prog W .any base t v := hval0
  have hW' := hW
  obtain ⟨p, q, hA0, hV, rfl, hfz, hnd⟩ := hW
  have hA : DataW.TrodAll enc Try.prog W 0 (fun _ => true) true Try.f4.params.toList args.toList ds p := hA0
  rw [Try.params4] at hA hval
  obtain ⟨v0, vs0, d0, ds0, p0, q0, hargs, rfl, rfl, h0, r0⟩ := trodAll_cons hA
  obtain ⟨rfl, rfl, rfl⟩ := trodAll_nil r0
  obtain rfl : args = #[v0] := by cases args; simp_all
  obtain ⟨rfl, rfl⟩ := trodVars_none hV
  obtain ⟨a0, rfl, rfl, rfl, w0⟩ := open_string Try.underlying9 (hval 0 9 v0 rfl rfl) h0
  clear hA0 hval0
  simp only [List.append_nil] at hW'
  refine (walk a0 w0 W).mono fun e W' ⟨he, hg⟩ => ?_
  subst he
  exact ⟨_, rfl, _, _, _, [], [], [], hW', (trodAll_cons_mk (shut_bool Try.underlying4 _) trodAll_mk0), (trodAll_cons_mk (shut_string Try.underlying9 w0) trodAll_mk0), rfl, Below.frame hg _, fun h => by cases h⟩

theorem over : Rows.packReadsRow.holds Try.pinned (OpenSpec.ofChange Rows.packReadsSpec) :=
  OpenClaim.holds_of_wide 4 Try.f4 rfl rfl rfl rfl rfl rfl rfl ⟨rfl, rfl, rfl, rfl, rfl⟩ rfl rfl rfl rfl rfl (by kernel_rfl) Try.func4 (by kernel_rfl)
    (of_decide_eq_true (by kernel_rfl)) (by unfold Func.isWrapper; first | (rw [if_pos (by decide +kernel)]; kernel_rfl) | (rw [if_neg (by decide +kernel)]; exact ⟨rfl, rfl⟩))
    (fun os started H enc _ => lifted os started H enc)

/-- ████ THE STATEMENT ████ -/
theorem proved : Rows.PackReadsSaid :=
  over
#print axioms proved
end Go.Proofs.Ytghnaimpcjbhdaa.packReads
