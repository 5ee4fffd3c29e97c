/-
  PROVED: the statement 'FuseCountsSaid': for every input the law FuseCounts returns true, and each argument reads afterwards as it read before. No condition.
-/
import Derived.Test.YtbjheldocmgnkaaFo
import Derived.Test.YtbjheldocmgnkaaRows
import Derived.WalkKit
import Derived.ProofKit
import Derived.OpenShut
namespace Go.Proofs.Ytbjheldocmgnkaa.fuseCounts
open Go.ChangeShapes Go.WideShapes Go.ChangeAt Go.RowKit
open Go.Proofs.Ytbjheldocmgnkaa.Mem Go.Proofs.Ytbjheldocmgnkaa.Fz
set_option linter.unusedVariables false      -- a walk need not use every 'w<i>' (that an integer argument fits its kind)

theorem own : ownKnob Try.prog.godebug = none := by kernel_rfl

theorem says_dec {n j : Nat} (h : j < n) : (St.armed (n - j)).says = 0 := by
  obtain ⟨m, e⟩ : ∃ m, n - j = m + 1 := ⟨n - j - 1, by omega⟩
  rw [e]; rfl
theorem burnt_dec {n j : Nat} (h : j < n) : (St.armed (n - j)).burnt = .armed (n - (j + 1)) := by
  obtain ⟨m, e⟩ : ∃ m, n - j = m + 1 := ⟨n - j - 1, by omega⟩
  rw [e, show n - (j + 1) = m by omega]; rfl
set_option maxHeartbeats 1000000 in
set_option maxRecDepth 100000 in
theorem walk (a0 : Int) (a1 : Int) (a2 : Int) (w0 : (Lit.int .u16 a0).wf = true) (w1 : (Lit.int .u16 a1).wf = true) (w2 : (Lit.int .u16 a2).wf = true) (w : World) :
    Calls Try.prog 5 #[.int .u16 a0, .int .u16 a1, .int .u16 a2] w fun e w' => e = .returned (.bool true) ∧ Kept w w' := by
  have b0 := bounds_u16 w0
  have b1 := bounds_u16 w1
  have b2 := bounds_u16 w2
  obtain ⟨p, rfl⟩ := Int.eq_ofNat_of_zero_le b0.1
  obtain ⟨a, rfl⟩ := Int.eq_ofNat_of_zero_le b1.1
  obtain ⟨n, rfl⟩ := Int.eq_ofNat_of_zero_le b2.1
  clear w0 w1 w2
  obtain ⟨P, hP, lP⟩ : ∃ P : Nat, (p : Int) % 300 = P ∧ P < 300 := ⟨p % 300, by omega, by omega⟩
  obtain ⟨A, hA, lA⟩ : ∃ A : Nat, (a : Int) % 300 = A ∧ A < 300 := ⟨a % 300, by omega, by omega⟩
  obtain ⟨N, hN, lN⟩ : ∃ N : Nat, (n : Int) % 300 = N ∧ N < 300 := ⟨n % 300, by omega, by omega⟩
  go_enter Try.func5, Try.ntmps5
  go_wp2_with (go_at_call 8; refine (new_o _).mono ?_; rintro e w1 ⟨rfl, h1⟩)
  go_loopw [8] (fun i wr => ∃ j : Nat, j ≤ P ∧ i = .int .i64 j ∧ Own w w.heap.size .idle wr) (fun i _ => P - (intOf i).toNat)
  case atStart => exact ⟨0, by omega, rfl, h1⟩
  case round =>
    clear h1
    obtain ⟨j, hj, rfl, h2⟩ := hrel
    by_cases hlt : j < P
    · go_wp2_with (first
        | (go_at_call 9; refine (burn_o ‹_›).mono ?_; rintro e w3 ⟨rfl, h3⟩)
        | (go_at_call 16; refine (blown_o ‹_›).mono ?_; rintro e w4 ⟨rfl, rfl⟩))
      go_roundw
      case rel => exact ⟨j + 1, by omega, by go_num, h3⟩
      case measure => simp [intOf]; omega
    · clear hj
      go_wp2_with (go_at_call 11; refine (arm_o ‹_› (by omega)).mono ?_; rintro e w3 ⟨rfl, h3⟩)
      rw [arm_idle] at h3
      clear h2 hlt
      go_loopw [11] (fun i wr => ∃ j : Nat, j ≤ A / 2 ∧ i = .int .i64 j ∧ Own w w.heap.size (.armed (A - j)) wr) (fun i _ => A / 2 - (intOf i).toNat)
      case atStart => exact ⟨0, by omega, rfl, h3⟩
      case round =>
        clear h3
        obtain ⟨j, hj, rfl, h2⟩ := hrel
        by_cases hlt : j < A / 2
        · have hs := says_dec (n := A) (j := j) (by omega)
          go_wp2_with (go_at_call 9; refine (burn_o ‹_›).mono ?_; rintro e w3 ⟨rfl, h3⟩)
          go_roundw
          case rel => exact ⟨j + 1, by omega, by go_num, by rw [burnt_dec (by omega)] at h3; exact h3⟩
          case measure => simp [intOf]; omega
        · clear hj
          go_wp2_with (go_at_call 11; refine (arm_o ‹_› (by omega)).mono ?_; rintro e w3 ⟨rfl, h3⟩)
          rw [arm_armed] at h3
          clear h2 hlt
          go_loopw [12] (fun i wr => ∃ j : Nat, j ≤ N ∧ i = .int .i64 j ∧ Own w w.heap.size (.armed (N - j)) wr) (fun i _ => N - (intOf i).toNat)
          case atStart => exact ⟨0, by omega, rfl, h3⟩
          case round =>
            clear h3
            obtain ⟨j, hj, rfl, h2⟩ := hrel
            by_cases hlt : j < N
            · have hs := says_dec (n := N) (j := j) (by omega)
              have hb := burnt_dec (n := N) (j := j) (by omega)
              go_wp2_with (first
                | (go_at_call 9; refine (burn_o ‹_›).mono ?_; rintro e w3 ⟨rfl, h3⟩)
                | (go_at_call 16; refine (blown_o ‹_›).mono ?_; rintro e w4 ⟨rfl, rfl⟩))
              go_roundw
              case rel => exact ⟨j + 1, by omega, by go_num, by rw [hb] at h3; exact h3⟩
              case measure => simp [intOf]; omega
            · obtain rfl : j = N := by omega
              rw [Nat.sub_self] at h2
              clear hlt hj
              go_wp2
              go_loopw [13] (fun i wr => ∃ j : Nat, j ≤ 3 ∧ i = .int .i64 j ∧ Own w w.heap.size (if j = 0 then .armed 0 else .blown) wr) (fun i _ => 3 - (intOf i).toNat)
              case atStart => exact ⟨0, by omega, rfl, h2⟩
              case round =>
                clear h2
                obtain ⟨k, hk, rfl, h2⟩ := hrel
                by_cases hlt : k < 3
                · by_cases hz : k = 0
                  · subst hz
                    rw [if_pos rfl] at h2
                    go_wp2_with (first
                      | (go_at_call 9; refine (burn_o ‹_›).mono ?_; rintro e w3 ⟨rfl, h3⟩)
                      | (go_at_call 11; refine (arm_o ‹_› (by omega)).mono ?_; rintro e w5 ⟨rfl, h5⟩)
                      | (go_at_call 16; refine (blown_o ‹_›).mono ?_; rintro e w4 ⟨rfl, rfl⟩))
                    go_roundw
                    case rel => exact ⟨1, by omega, rfl, h5⟩
                    case measure => simp [intOf]
                  · rw [if_neg hz] at h2
                    go_wp2_with (first
                      | (go_at_call 9; refine (burn_o ‹_›).mono ?_; rintro e w3 ⟨rfl, h3⟩)
                      | (go_at_call 11; refine (arm_o ‹_› (by omega)).mono ?_; rintro e w5 ⟨rfl, h5⟩)
                      | (go_at_call 16; refine (blown_o ‹_›).mono ?_; rintro e w4 ⟨rfl, rfl⟩))
                    go_roundw
                    case rel => exact ⟨k + 1, by omega, by go_num, by rw [if_neg (by omega)]; exact h5⟩
                    case measure => simp [intOf]; omega
                · rw [if_neg (by omega)] at h2
                  go_wp2_with (first
                    | (go_at_call 13; refine (reset_o ‹_›).mono ?_; rintro e w3 ⟨rfl, h3⟩)
                    | (go_at_call 16; refine (blown_o ‹_›).mono ?_; rintro e w4 ⟨rfl, rfl⟩)
                    | (go_at_call 9; refine (burn_o ‹_›).mono ?_; rintro e w5 ⟨rfl, h5⟩)
                    | (go_at_call 7; refine (known_any _).mono ?_; rintro e w6 ⟨rfl, h6⟩))
                  go_ret
                  exact ⟨rfl, h5.kept.trans h6⟩

/-! ### THE ROW's STEP: WRITTEN OUT: LEAVE IT -/
set_option maxRecDepth 100000 in
theorem lifted (os : Os) (started : os.Started) (H : Type) (enc : TypeId × Value → H) :
    ReturnsInHanded {} Try.checked os 5 .any (Rows.fuseCountsSpec.pre6 enc Try.prog Try.f5 Rows.fuseCountsRow.domain false) (Rows.fuseCountsSpec.post enc Try.prog Try.f5 false true false false) := by
  refine returnsInHanded_of_change (C := Try.checked) own started (by kernel_rfl) Try.func5
    (ChangeSpec.witness6 (enc := enc) (C := Try.checked) false ⟨#[], #[.int .u16 0, .int .u16 0, .int .u16 0], []⟩ 8 (by kernel_rfl) (by kernel_rfl) (by kernel_rfl) (by kernel_rfl)) ?_
  intro W base args ds gs before hval0 hW hcnd _
  have hval : ∀ (j : Nat) t v, Try.f5.params[j]? = some t → args[j]? = some v → Value.okWide Try.prog W .any base t v := hval0
  have hW' := hW
  obtain ⟨p, q, hA0, hV, rfl, hfz, hnd⟩ := hW
  have hA : DataW.TrodAll enc Try.prog W 0 (fun _ => true) true Try.f5.params.toList args.toList ds p := hA0
  rw [Try.params5] at hA hval
  obtain ⟨v0, vs0, d0, ds0, p0, q0, hargs, rfl, rfl, h0, r0⟩ := trodAll_cons hA
  obtain ⟨v1, vs1, d1, ds1, p1, q1, rfl, rfl, rfl, h1, r1⟩ := trodAll_cons r0
  obtain ⟨v2, vs2, d2, ds2, p2, q2, rfl, rfl, rfl, h2, r2⟩ := trodAll_cons r1
  obtain ⟨rfl, rfl, rfl⟩ := trodAll_nil r2
  obtain rfl : args = #[v0, v1, v2] := by cases args; simp_all
  obtain ⟨rfl, rfl⟩ := trodVars_none hV
  obtain ⟨a0, rfl, rfl, rfl, w0⟩ := open_int Try.underlying35 (hval 0 35 v0 rfl rfl) h0
  obtain ⟨a1, rfl, rfl, rfl, w1⟩ := open_int Try.underlying35 (hval 1 35 v1 rfl rfl) h1
  obtain ⟨a2, rfl, rfl, rfl, w2⟩ := open_int Try.underlying35 (hval 2 35 v2 rfl rfl) h2
  clear hA0 hval0
  simp only [List.append_nil] at hW'
  refine (walk a0 a1 a2 w0 w1 w2 W).mono fun e W' ⟨he, hg⟩ => ?_
  subst he
  exact ⟨_, rfl, _, _, _, [], [], [], hW', (trodAll_cons_mk (shut_bool Try.underlying4 _) trodAll_mk0), (trodAll_cons_mk (shut_int Try.underlying35 w0) (trodAll_cons_mk (shut_int Try.underlying35 w1) (trodAll_cons_mk (shut_int Try.underlying35 w2) trodAll_mk0))), rfl, Below.frame hg _, fun h => by cases h⟩

theorem over : Rows.fuseCountsRow.holds Try.pinned (OpenSpec.ofChange Rows.fuseCountsSpec) :=
  OpenClaim.holds_of_wide 5 Try.f5 rfl rfl rfl rfl rfl rfl rfl ⟨rfl, rfl, rfl, rfl, rfl⟩ rfl rfl rfl rfl rfl (by kernel_rfl) Try.func5 (by kernel_rfl)
    (of_decide_eq_true (by kernel_rfl)) (by unfold Func.isWrapper; first | (rw [if_pos (by decide +kernel)]; kernel_rfl) | (rw [if_neg (by decide +kernel)]; exact ⟨rfl, rfl⟩))
    (fun os started H enc _ => lifted os started H enc)

/-- ████ THE STATEMENT ████ -/
theorem proved : Rows.FuseCountsSaid :=
  over
#print axioms proved
end Go.Proofs.Ytbjheldocmgnkaa.fuseCounts
