/-
  PROVED: the statement 'PackOrderSaid': for every input the law PackOrder returns true, and each argument reads afterwards as it read before. No condition.
-/
import Derived.Test.YtghnaimpcjbhdaaPl
import Derived.Test.YtghnaimpcjbhdaaPo
import Derived.Test.YtghnaimpcjbhdaaRows
import Derived.WalkKit
import Derived.ProofKit
import Derived.OpenShut
namespace Go.Proofs.Ytghnaimpcjbhdaa.packOrder
open Go.ChangeShapes Go.WideShapes Go.ChangeAt Go.RowKit
open Go.Proofs.Ytghnaimpcjbhdaa.Mem Go.Proofs.Ytghnaimpcjbhdaa.Pk
set_option linter.unusedVariables false      -- a walk need not use every 'w<i>' (that an integer argument fits its kind)

theorem own : ownKnob Try.prog.godebug = none := by kernel_rfl

/-- What the calls return, and how it compares. -/
structure Given (m n : Nat) (k : Int) (A B X Y : ByteArray) (eA eB : Int) (K : Nat) (q1 q2 L M : Bool) : Prop where
  cA : ∀ w, Calls Try.prog 10 #[.int .u64 m, .int .i64 k] w fun e w' => e = .returned (.tuple #[.string A, .int .i64 eA]) ∧ Kept w w'
  cB : ∀ w, Calls Try.prog 10 #[.int .u64 n, .int .i64 k] w fun e w' => e = .returned (.tuple #[.string B, .int .i64 eB]) ∧ Kept w w'
  cX : ∀ w, Calls Try.prog 12 #[.int .u64 m] w fun e w' => e = .returned (.string X) ∧ Kept w w'
  cY : ∀ w, Calls Try.prog 12 #[.int .u64 n] w fun e w' => e = .returned (.string Y) ∧ Kept w w'
  hm : ∀ w, (Builtin.min_ #[3, 3] 3 #[.int .i64 X.size, .int .i64 Y.size]).run Try.prog w = .ok (.int .i64 K) w
  x1 : (1 : Int) ≤ X.size
  x9 : (X.size : Int) ≤ 9
  xy : (!L || decide (X.size ≤ Y.size)) = true
  kx : (K : Int) ≤ X.size
  ky : (K : Int) ≤ Y.size
  h1 : (eA == 0) = q1
  h2 : (eB == 0) = q2
  hL : decide (m < n) = L
  hM : ((m : Int) == (n : Int)) = M
  hs : q1 = true → q2 = true → Op.bytesLess A.toList B.toList = L ∧ (A.toList == B.toList) = M
  hK : ((X.extract 0 K).toList == (Y.extract 0 K).toList) = M
theorem min2' (x y : Int) (w : World) : (Builtin.min_ #[3, 3] 3 #[.int .i64 x, .int .i64 y]).run Try.prog w = .ok (.int .i64 (if y < x then y else x)) w := by
  simp [Builtin.min_, Builtin.min2]
theorem given (m n : Nat) (k : Int) (hm : U64 m) (hn : U64 n) : ∃ A B X Y eA eB K q1 q2 L M, Given m n k A B X Y eA eB K q1 q2 L M := by
  have lx := num_len m
  have e0 : ∀ s : ByteArray, ∀ j, (s.extract 0 j).data.toList = s.data.toList.take j := fun s j => by rw [Lib.extract_data]; simp
  have sx : (str (num m)).size = (num m).length := size_str _
  have sy : (str (num n)).size = (num n).length := size_str _
  refine ⟨fixS m k, fixS n k, str (num m), str (num n), fixE m k, fixE n k, min (num m).length (num n).length, fixE m k == 0, fixE n k == 0, decide (m < n), decide (m = n),
    fixed_any m k hm, fixed_any n k hn, var_any m hm, var_any n hn, ?_, by rw [sx]; omega, by rw [sx]; omega, ?_, by rw [sx]; omega, by rw [sy]; omega, rfl, rfl, rfl, ?_, ?_, ?_⟩
  · intro w
    rw [min2', sx, sy]
    congr 2
    split <;> omega
  · by_cases h : m < n
    · have := num_mono (Nat.le_of_lt h)
      simp [h, sx, sy]; exact this
    · simp [h]
  · rw [Bool.eq_iff_iff]; simp only [beq_iff_eq, decide_eq_true_eq]; omega
  · intro h1 h2
    have a1 : fixE m k = 0 := by simpa using h1
    have a2 : fixE n k = 0 := by simpa using h2
    unfold fixE at a1 a2
    by_cases hk : k < 1 ∨ 8 < k
    · rw [if_pos hk] at a1; cases a1
    · rw [if_neg hk] at a1 a2
      by_cases b1 : k.toNat < wd m
      · rw [if_pos b1] at a1; cases a1
      · by_cases b2 : k.toNat < wd n
        · rw [if_pos b2] at a2; cases a2
        · unfold fixS
          rw [if_neg hk, if_neg hk, if_neg b1, if_neg b2, Lib.toList_data, Lib.toList_data, list_str, list_str]
          exact ⟨less_be (wd_fits hm (by omega)) (wd_fits hn (by omega)), eq_be (wd_fits hm (by omega)) (wd_fits hn (by omega))⟩
  · rw [Lib.toList_data, Lib.toList_data, e0, e0, list_str, list_str]
    exact eq_num hm hn rfl
set_option maxHeartbeats 4000000 in
set_option maxRecDepth 100000 in
theorem main (m n : Nat) (k : Int) (A B X Y : ByteArray) (eA eB : Int) (K : Nat) (q1 q2 L M : Bool) (G : Given m n k A B X Y eA eB K q1 q2 L M) (w : World) :
    Calls Try.prog 7 #[.int .u64 m, .int .u64 n, .int .i64 k] w fun e w' => e = .returned (.bool true) ∧ Kept w w' := by
  have x1 := G.x1
  have x9 := G.x9
  have kx := G.kx
  have ky := G.ky
  have k0 : (0 : Int) ≤ K := by omega
  have hm := G.hm
  have h1 := G.h1
  have h2 := G.h2
  have hL := G.hL
  have hM := G.hM
  have hK := G.hK
  have hs := G.hs
  have xy := G.xy
  cases L <;> cases M <;> cases q1 <;> cases q2
  all_goals
    simp only [Bool.not_true, Bool.not_false, Bool.true_or, Bool.false_or, decide_eq_true_eq, forall_const, Bool.false_eq_true, false_implies, implies_true] at xy hs
    try obtain ⟨hs1, hs2⟩ := hs
    try clear hs
    go_enter Try.func7, Try.ntmps7
    go_wp2_with (first
      | (go_at_call 10; (with_reducible refine (G.cA _).mono ?_); rintro e w1 ⟨rfl, hk1⟩)
      | (go_at_call 10; (with_reducible refine (G.cB _).mono ?_); rintro e w2 ⟨rfl, hk2⟩)
      | (go_at_call 12; (with_reducible refine (G.cX _).mono ?_); rintro e w3 ⟨rfl, hk3⟩)
      | (go_at_call 12; (with_reducible refine (G.cY _).mono ?_); rintro e w4 ⟨rfl, hk4⟩))
    have hk := ((hk1.trans hk2).trans hk3).trans hk4
    clear hk1 hk2 hk3 hk4
    go_region_held3 (fun W => Kept w W) (first | assumption | (refine Kept.trans ?_ ‹_›; assumption) | exact Kept.drew ‹_›) (first
      | (go_at_call 9; (with_reducible refine (known_any _).mono ?_); rintro e u ⟨rfl, hg⟩))
    go_wp2_with fail
    go_ret
    exact ⟨rfl, by assumption⟩
theorem walk (a0 : Int) (a1 : Int) (a2 : Int) (w0 : (Lit.int .u64 a0).wf = true) (w1 : (Lit.int .u64 a1).wf = true) (w2 : (Lit.int .i64 a2).wf = true) (w : World) :
    Calls Try.prog 7 #[.int .u64 a0, .int .u64 a1, .int .i64 a2] w fun e w' => e = .returned (.bool true) ∧ Kept w w' := by
  have b0 := bounds_u64 w0
  have b1 := bounds_u64 w1
  obtain ⟨m, rfl⟩ := Int.eq_ofNat_of_zero_le b0.1
  obtain ⟨n, rfl⟩ := Int.eq_ofNat_of_zero_le b1.1
  obtain ⟨A, B, X, Y, eA, eB, K, q1, q2, L, M, G⟩ := given m n a2 (by unfold U64; omega) (by unfold U64; omega)
  exact main m n a2 A B X Y eA eB K q1 q2 L M G w

/-! ### THE ROW's STEP: WRITTEN OUT: LEAVE IT -/
set_option maxRecDepth 100000 in
theorem lifted (os : Os) (started : os.Started) (H : Type) (enc : TypeId × Value → H) :
    ReturnsInHanded {} Try.checked os 7 .any (Rows.packOrderSpec.pre6 enc Try.prog Try.f7 Rows.packOrderRow.domain false) (Rows.packOrderSpec.post enc Try.prog Try.f7 false true false false) := by
  refine returnsInHanded_of_change (C := Try.checked) own started (by kernel_rfl) Try.func7
    (ChangeSpec.witness6 (enc := enc) (C := Try.checked) false ⟨#[], #[.int .u64 0, .int .u64 0, .int .i64 0], []⟩ 8 (by kernel_rfl) (by kernel_rfl) (by kernel_rfl) (by kernel_rfl)) ?_
  intro W base args ds gs before hval0 hW hcnd _
  have hval : ∀ (j : Nat) t v, Try.f7.params[j]? = some t → args[j]? = some v → Value.okWide Try.prog W .any base t v := hval0
  have hW' := hW
  obtain ⟨p, q, hA0, hV, rfl, hfz, hnd⟩ := hW
  have hA : DataW.TrodAll enc Try.prog W 0 (fun _ => true) true Try.f7.params.toList args.toList ds p := hA0
  rw [Try.params7] at hA hval
  obtain ⟨v0, vs0, d0, ds0, p0, q0, hargs, rfl, rfl, h0, r0⟩ := trodAll_cons hA
  obtain ⟨v1, vs1, d1, ds1, p1, q1, rfl, rfl, rfl, h1, r1⟩ := trodAll_cons r0
  obtain ⟨v2, vs2, d2, ds2, p2, q2, rfl, rfl, rfl, h2, r2⟩ := trodAll_cons r1
  obtain ⟨rfl, rfl, rfl⟩ := trodAll_nil r2
  obtain rfl : args = #[v0, v1, v2] := by cases args; simp_all
  obtain ⟨rfl, rfl⟩ := trodVars_none hV
  obtain ⟨a0, rfl, rfl, rfl, w0⟩ := open_int Try.underlying22 (hval 0 22 v0 rfl rfl) h0
  obtain ⟨a1, rfl, rfl, rfl, w1⟩ := open_int Try.underlying22 (hval 1 22 v1 rfl rfl) h1
  obtain ⟨a2, rfl, rfl, rfl, w2⟩ := open_int Try.underlying3 (hval 2 3 v2 rfl rfl) h2
  clear hA0 hval0
  simp only [List.append_nil] at hW'
  refine (walk a0 a1 a2 w0 w1 w2 W).mono fun e W' ⟨he, hg⟩ => ?_
  subst he
  exact ⟨_, rfl, _, _, _, [], [], [], hW', (trodAll_cons_mk (shut_bool Try.underlying4 _) trodAll_mk0), (trodAll_cons_mk (shut_int Try.underlying22 w0) (trodAll_cons_mk (shut_int Try.underlying22 w1) (trodAll_cons_mk (shut_int Try.underlying3 w2) trodAll_mk0))), rfl, Below.frame hg _, fun h => by cases h⟩

theorem over : Rows.packOrderRow.holds Try.pinned (OpenSpec.ofChange Rows.packOrderSpec) :=
  OpenClaim.holds_of_wide 7 Try.f7 rfl rfl rfl rfl rfl rfl rfl ⟨rfl, rfl, rfl, rfl, rfl⟩ rfl rfl rfl rfl rfl (by kernel_rfl) Try.func7 (by kernel_rfl)
    (of_decide_eq_true (by kernel_rfl)) (by unfold Func.isWrapper; first | (rw [if_pos (by decide +kernel)]; kernel_rfl) | (rw [if_neg (by decide +kernel)]; exact ⟨rfl, rfl⟩))
    (fun os started H enc _ => lifted os started H enc)

/-- ████ THE STATEMENT ████ -/
theorem proved : Rows.PackOrderSaid :=
  over
#print axioms proved
end Go.Proofs.Ytghnaimpcjbhdaa.packOrder
