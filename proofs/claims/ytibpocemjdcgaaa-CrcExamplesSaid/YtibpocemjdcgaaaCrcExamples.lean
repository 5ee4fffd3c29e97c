/-
  PROVED: the statement 'CrcExamplesSaid': for every input the law CrcExamples returns true, and each argument reads afterwards as it read before. No condition.
-/
import Derived.Test.YtibpocemjdcgaaaMore
import Derived.Test.YtibpocemjdcgaaaRows
import Derived.WalkKit
import Derived.ProofKit
import Derived.OpenShut
import Derived.ShutString
namespace Go.Proofs.Ytibpocemjdcgaaa.crcExamples
open Go.ChangeShapes Go.WideShapes Go.ChangeAt Go.RowKit
open Go.ChangeMaps (open_string shut_string)
set_option linter.unusedVariables false      -- a walk need not use every 'w<i>' (that an integer argument fits its kind)

theorem n5 : num 3904355907#32 = 3904355907 := rfl
theorem n4 : num (moreB 0 [49, 50, 51, 52]) = 2615402659 := by decide +kernel
theorem known4b : num (moreB 2615402659#32 [53, 54, 55, 56, 57]) = 3421780262 := by decide +kernel
theorem n4b : num 2615402659#32 = 2615402659 := rfl
theorem ex5 (w : World) : Calls Try.prog 12 #[.int .u32 3904355907, .string ⟨#[]⟩] w fun e w' => e = .returned (.int .u32 3904355907) ∧ Grown w w' :=
  more_is 3904355907#32 3904355907 ⟨#[]⟩ 3904355907 w (by decide) n5 known5
theorem ex4 (w : World) : Calls Try.prog 12 #[.int .u32 2615402659, .string ⟨#[53, 54, 55, 56, 57]⟩] w fun e w' => e = .returned (.int .u32 3421780262) ∧ Grown w w' :=
  more_is 2615402659#32 2615402659 ⟨#[53, 54, 55, 56, 57]⟩ 3421780262 w (by decide) n4b known4b
theorem own : ownKnob Try.prog.godebug = none := by kernel_rfl

/-! ### STEP 1: THE WALK: the Go text returns true. 'Grown w w'': the world has at most new blocks (Derived/RowKit3.lean). Part the cases AHEAD of 'go_enter' where a test parts the walk; take each callee by a contract of your own. -/
theorem walk  (w : World) :
    Calls Try.prog 4 #[] w fun e w' => e = .returned (.bool true) ∧ Grown w w' := by
  go_enter Try.func4, Try.ntmps4
  go_wp2_with (first
    | (go_at_call 10; (with_reducible refine (sum_is ⟨#[]⟩ 0 _ (by decide) known6).mono ?_); rintro e w1 ⟨rfl, hg⟩)
    | (go_at_call 10; (with_reducible refine (sum_is ⟨#[49, 50, 51, 52, 53, 54, 55, 56, 57]⟩ 3421780262 _ (by decide) known1).mono ?_); rintro e w1 ⟨rfl, hg⟩)
    | (go_at_call 10; (with_reducible refine (sum_is ⟨#[97]⟩ 3904355907 _ (by decide) known2).mono ?_); rintro e w1 ⟨rfl, hg⟩)
    | (go_at_call 10; (with_reducible refine (sum_is ⟨#[0]⟩ 3523407757 _ (by decide) known3).mono ?_); rintro e w1 ⟨rfl, hg⟩)
    | (go_at_call 10; (with_reducible refine (sum_is ⟨#[49, 50, 51, 52]⟩ 2615402659 _ (by decide) n4).mono ?_); rintro e w1 ⟨rfl, hg⟩)
    | (go_at_call 12; (with_reducible refine (ex5 _).mono ?_); rintro e w1 ⟨rfl, hg⟩)
    | (go_at_call 12; (with_reducible refine (ex4 _).mono ?_); rintro e w1 ⟨rfl, hg⟩))
  go_ret
  refine ⟨rfl, ?_⟩
  iterate 7 (first | assumption | refine Grown.trans ?_ ‹_›)

/-! ### THE ROW's STEP: WRITTEN OUT: LEAVE IT -/
set_option maxRecDepth 100000 in
theorem lifted (os : Os) (started : os.Started) (H : Type) (enc : TypeId × Value → H) :
    ReturnsInHanded {} Try.checked os 4 .any (Rows.crcExamplesSpec.pre6 enc Try.prog Try.f4 Rows.crcExamplesRow.domain false) (Rows.crcExamplesSpec.post enc Try.prog Try.f4 false true false false) := by
  refine returnsInHanded_of_change (C := Try.checked) own started (by kernel_rfl) Try.func4
    (ChangeSpec.witness6 (enc := enc) (C := Try.checked) false ⟨#[], #[], []⟩ 8 (by kernel_rfl) (by kernel_rfl) (by kernel_rfl) (by kernel_rfl)) ?_
  intro W base args ds gs before hval0 hW hcnd _
  have hval : ∀ (j : Nat) t v, Try.f4.params[j]? = some t → args[j]? = some v → Value.okWide Try.prog W .any base t v := hval0
  have hW' := hW
  obtain ⟨p, q, hA0, hV, rfl, hfz, hnd⟩ := hW
  have hA : DataW.TrodAll enc Try.prog W 0 (fun _ => true) true Try.f4.params.toList args.toList ds p := hA0
  rw [Try.params4] at hA hval
  obtain ⟨rfl, rfl, rfl⟩ := trodAll_none hA
  obtain ⟨rfl, rfl⟩ := trodVars_none hV
  clear hA0 hval0
  simp only [List.append_nil] at hW'
  refine (walk  W).mono fun e W' ⟨he, hg⟩ => ?_
  subst he
  exact ⟨_, rfl, post_of_same (pa := []) (pv := []) hW' (fun _ _ _ => (trodAll_cons_mk (shut_bool Try.underlying4 _) trodAll_mk0)) (fun sp _ => rfl) (fun _ _ => rfl) rfl
    (hg.frame _) hg.2.1 (ok_one (by kernel_rfl) rfl (okWide_bool_mk Try.underlying4 _))⟩

theorem over : Rows.crcExamplesRow.holds Try.pinned (OpenSpec.ofChange Rows.crcExamplesSpec) :=
  OpenClaim.holds_of_wide 4 Try.f4 rfl rfl rfl rfl rfl rfl rfl ⟨rfl, rfl, rfl, rfl, rfl⟩ rfl rfl rfl rfl rfl (by kernel_rfl) Try.func4 (by kernel_rfl)
    (of_decide_eq_true (by kernel_rfl)) (by unfold Func.isWrapper; first | (rw [if_pos (by decide +kernel)]; kernel_rfl) | (rw [if_neg (by decide +kernel)]; exact ⟨rfl, rfl⟩))
    (fun os started H enc _ => lifted os started H enc)

/-- ████ THE STATEMENT ████ -/
theorem proved : Rows.CrcExamplesSaid :=
  over
#print axioms proved
end Go.Proofs.Ytibpocemjdcgaaa.crcExamples
