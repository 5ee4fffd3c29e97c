/-
  PROVED: the statement 'PackWritesSaid': for every input the law PackWrites returns true, and each argument reads afterwards as it read before. No condition.
-/
import Derived.Test.YtghnaimpcjbhdaaPl
import Derived.Test.YtghnaimpcjbhdaaPg
import Derived.Test.YtghnaimpcjbhdaaRows
import Derived.WalkKit
import Derived.ProofKit
import Derived.OpenShut
import Derived.ShutString
namespace Go.Proofs.Ytghnaimpcjbhdaa.packWrites
open Go.ChangeShapes Go.WideShapes Go.ChangeAt Go.RowKit
open Go.Proofs.Ytghnaimpcjbhdaa.Mem Go.Proofs.Ytghnaimpcjbhdaa.Pk
open Go.ChangeMaps (open_string shut_string)
set_option linter.unusedVariables false      -- a walk need not use every 'w<i>' (that an integer argument fits its kind)

theorem own : ownKnob Try.prog.godebug = none := by kernel_rfl

/-- What the calls return: the same of both. -/
structure Given (n : Nat) (k i : Int) (s : ByteArray) (A V I T : ByteArray) (eA : Int) : Prop where
  cF : ∀ w, Calls Try.prog 10 #[.int .u64 n, .int .i64 k] w fun e w' => e = .returned (.tuple #[.string A, .int .i64 eA]) ∧ Kept w w'
  rF : ∀ w, Calls Try.prog 11 #[.int .u64 n, .int .i64 k] w fun e w' => e = .returned (.tuple #[.string A, .int .i64 eA]) ∧ Kept w w'
  cV : ∀ w, Calls Try.prog 12 #[.int .u64 n] w fun e w' => e = .returned (.string V) ∧ Kept w w'
  rV : ∀ w, Calls Try.prog 13 #[.int .u64 n] w fun e w' => e = .returned (.string V) ∧ Kept w w'
  cI : ∀ w, Calls Try.prog 14 #[.int .i64 i] w fun e w' => e = .returned (.string I) ∧ Kept w w'
  rI : ∀ w, Calls Try.prog 15 #[.int .i64 i] w fun e w' => e = .returned (.string I) ∧ Kept w w'
  cT : ∀ w, Calls Try.prog 16 #[.string s] w fun e w' => e = .returned (.string T) ∧ Kept w w'
  rT : ∀ w, Calls Try.prog 17 #[.string s] w fun e w' => e = .returned (.string T) ∧ Kept w w'
theorem given (n : Nat) (k i : Int) (s : ByteArray) (hn : U64 n) (hi : I64 i) (hs : Short s) : ∃ A V I T eA, Given n k i s A V I T eA :=
  ⟨_, _, _, _, _, fixed_any n k hn, rfixed_any n k hn, var_any n hn, rvar_any n hn, int_any i hi, rint_any i hi, text_any s hs, rtext_any s hs⟩
set_option maxHeartbeats 1000000 in
set_option maxRecDepth 100000 in
theorem walk (a0 : Int) (a1 : Int) (a2 : Int) (a3 : ByteArray) (w0 : (Lit.int .u64 a0).wf = true) (w1 : (Lit.int .i64 a1).wf = true) (w2 : (Lit.int .i64 a2).wf = true) (w3 : a3.size ≤ maxLen) (w : World) :
    Calls Try.prog 3 #[.int .u64 a0, .int .i64 a1, .int .i64 a2, .string a3] w fun e w' => e = .returned (.bool true) ∧ Kept w w' := by
  have b0 := bounds_u64 w0
  have b2 := bounds_i64 w2
  obtain ⟨n, rfl⟩ := Int.eq_ofNat_of_zero_le b0.1
  by_cases hs : a3.size ≤ 2000
  · obtain ⟨A, V, I, T, eA, G⟩ := given n a1 a2 a3 (by unfold U64; omega) ⟨by omega, by omega⟩ (by unfold Short; omega)
    have h1 : decide (2000 < (a3.size : Int)) = false := by simp; omega
    clear hs b0 b2 w0 w1 w2 w3
    go_enter Try.func3, Try.ntmps3
    go_wp2_with (first
      | (go_at_call 10; (with_reducible refine (G.cF _).mono ?_); rintro e w1 ⟨rfl, hk1⟩)
      | (go_at_call 11; (with_reducible refine (G.rF _).mono ?_); rintro e w2 ⟨rfl, hk2⟩)
      | (go_at_call 12; (with_reducible refine (G.cV _).mono ?_); rintro e w3 ⟨rfl, hk3⟩)
      | (go_at_call 13; (with_reducible refine (G.rV _).mono ?_); rintro e w4 ⟨rfl, hk4⟩)
      | (go_at_call 14; (with_reducible refine (G.cI _).mono ?_); rintro e w5 ⟨rfl, hk5⟩)
      | (go_at_call 15; (with_reducible refine (G.rI _).mono ?_); rintro e w6 ⟨rfl, hk6⟩)
      | (go_at_call 16; (with_reducible refine (G.cT _).mono ?_); rintro e w7 ⟨rfl, hk7⟩)
      | (go_at_call 17; (with_reducible refine (G.rT _).mono ?_); rintro e w8 ⟨rfl, hk8⟩)
      | (go_at_call 9; (with_reducible refine (known_any _).mono ?_); rintro e w9 ⟨rfl, hk9⟩))
    go_ret
    refine ⟨rfl, ?_⟩
    repeat (first | assumption | refine Kept.trans ?_ ‹_›)
  · have h1 : decide (2000 < (a3.size : Int)) = true := by simp; omega
    clear hs b0 b2 w0 w1 w2 w3
    go_enter Try.func3, Try.ntmps3
    go_wp2_with (go_at_call 9; (with_reducible refine (known_any _).mono ?_); rintro e u ⟨rfl, hk⟩)
    go_ret
    exact ⟨rfl, hk⟩

/-! ### THE ROW's STEP: WRITTEN OUT: LEAVE IT -/
set_option maxRecDepth 100000 in
theorem lifted (os : Os) (started : os.Started) (H : Type) (enc : TypeId × Value → H) :
    ReturnsInHanded {} Try.checked os 3 .any (Rows.packWritesSpec.pre6 enc Try.prog Try.f3 Rows.packWritesRow.domain false) (Rows.packWritesSpec.post enc Try.prog Try.f3 false true false false) := by
  refine returnsInHanded_of_change (C := Try.checked) own started (by kernel_rfl) Try.func3
    (ChangeSpec.witness6 (enc := enc) (C := Try.checked) false ⟨#[], #[.int .u64 0, .int .i64 0, .int .i64 0, .string ByteArray.empty], []⟩ 8 (by kernel_rfl) (by kernel_rfl) (by kernel_rfl) (by kernel_rfl)) ?_
  intro W base args ds gs before hval0 hW hcnd _
  have hval : ∀ (j : Nat) t v, Try.f3.params[j]? = some t → args[j]? = some v → Value.okWide Try.prog W .any base t v := hval0
  have hW' := hW
  obtain ⟨p, q, hA0, hV, rfl, hfz, hnd⟩ := hW
  have hA : DataW.TrodAll enc Try.prog W 0 (fun _ => true) true Try.f3.params.toList args.toList ds p := hA0
  rw [Try.params3] at hA hval
  obtain ⟨v0, vs0, d0, ds0, p0, q0, hargs, rfl, rfl, h0, r0⟩ := trodAll_cons hA
  obtain ⟨v1, vs1, d1, ds1, p1, q1, rfl, rfl, rfl, h1, r1⟩ := trodAll_cons r0
  obtain ⟨v2, vs2, d2, ds2, p2, q2, rfl, rfl, rfl, h2, r2⟩ := trodAll_cons r1
  obtain ⟨v3, vs3, d3, ds3, p3, q3, rfl, rfl, rfl, h3, r3⟩ := trodAll_cons r2
  obtain ⟨rfl, rfl, rfl⟩ := trodAll_nil r3
  obtain rfl : args = #[v0, v1, v2, v3] := by cases args; simp_all
  obtain ⟨rfl, rfl⟩ := trodVars_none hV
  obtain ⟨a0, rfl, rfl, rfl, w0⟩ := open_int Try.underlying22 (hval 0 22 v0 rfl rfl) h0
  obtain ⟨a1, rfl, rfl, rfl, w1⟩ := open_int Try.underlying3 (hval 1 3 v1 rfl rfl) h1
  obtain ⟨a2, rfl, rfl, rfl, w2⟩ := open_int Try.underlying3 (hval 2 3 v2 rfl rfl) h2
  obtain ⟨a3, rfl, rfl, rfl, w3⟩ := open_string Try.underlying9 (hval 3 9 v3 rfl rfl) h3
  clear hA0 hval0
  simp only [List.append_nil] at hW'
  refine (walk a0 a1 a2 a3 w0 w1 w2 w3 W).mono fun e W' ⟨he, hg⟩ => ?_
  subst he
  exact ⟨_, rfl, _, _, _, [], [], [], hW', (trodAll_cons_mk (shut_bool Try.underlying4 _) trodAll_mk0), (trodAll_cons_mk (shut_int Try.underlying22 w0) (trodAll_cons_mk (shut_int Try.underlying3 w1) (trodAll_cons_mk (shut_int Try.underlying3 w2) (trodAll_cons_mk (shut_string Try.underlying9 w3) trodAll_mk0)))), rfl, Below.frame hg _, fun h => by cases h⟩

theorem over : Rows.packWritesRow.holds Try.pinned (OpenSpec.ofChange Rows.packWritesSpec) :=
  OpenClaim.holds_of_wide 3 Try.f3 rfl rfl rfl rfl rfl rfl rfl ⟨rfl, rfl, rfl, rfl, rfl⟩ rfl rfl rfl rfl rfl (by kernel_rfl) Try.func3 (by kernel_rfl)
    (of_decide_eq_true (by kernel_rfl)) (by unfold Func.isWrapper; first | (rw [if_pos (by decide +kernel)]; kernel_rfl) | (rw [if_neg (by decide +kernel)]; exact ⟨rfl, rfl⟩))
    (fun os started H enc _ => lifted os started H enc)

/-- ████ THE STATEMENT ████ -/
theorem proved : Rows.PackWritesSaid :=
  over
#print axioms proved
end Go.Proofs.Ytghnaimpcjbhdaa.packWrites
