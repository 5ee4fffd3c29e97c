/-
  PROVED: the statement 'CrcJoinsSaid': for every input the law CrcJoins returns true, and each argument reads afterwards as it read before. No condition.
-/
import Derived.Test.YtibpocemjdcgaaaMore
import Derived.Test.YtibpocemjdcgaaaRows
import Derived.WalkKit
import Derived.Deep.RegionHeld3
import Derived.ProofKit
import Derived.OpenShut
import Derived.ShutString
namespace Go.Proofs.Ytibpocemjdcgaaa.crcJoins
open Go.ChangeShapes Go.WideShapes Go.ChangeAt Go.RowKit
open Go.ChangeMaps (open_string shut_string)
set_option linter.unusedVariables false      -- a walk need not use every 'w<i>' (that an integer argument fits its kind)

theorem own : ownKnob Try.prog.godebug = none := by kernel_rfl

theorem pieces (s : ByteArray) (i j k : Nat) (h : i ≤ j) (h2 : j ≤ k) (h3 : k ≤ s.size) : (s.extract i k).data.toList = (s.extract i j).data.toList ++ (s.extract j k).data.toList := by
  have e : s.extract i k = s.extract i j ++ s.extract j k := by
    rw [ByteArray.extract_append_extract]
    congr 1 <;> omega
  rw [e, ByteArray.data_append, Array.toList_append]
theorem whole (s : ByteArray) : s.extract 0 s.size = s := ByteArray.extract_zero_size
/-- All that the last statement asks: the slices, and what the calls on them return. -/
structure Given (s p0 p1 p2 p3 : ByteArray) (N N1 N2 : Int) : Prop where
  c0 : ∀ w, Calls Try.prog 10 #[.string s] w fun e w' => e = .returned (.int .u32 N) ∧ Grown w w'
  c1 : ∀ w, Calls Try.prog 10 #[.string p0] w fun e w' => e = .returned (.int .u32 N1) ∧ Grown w w'
  c2 : ∀ w, Calls Try.prog 12 #[.int .u32 N1, .string p1] w fun e w' => e = .returned (.int .u32 N) ∧ Grown w w'
  c3 : ∀ w, Calls Try.prog 12 #[.int .u32 0, .string p0] w fun e w' => e = .returned (.int .u32 N1) ∧ Grown w w'
  c4 : ∀ w, Calls Try.prog 12 #[.int .u32 N1, .string p2] w fun e w' => e = .returned (.int .u32 N2) ∧ Grown w w'
  c5 : ∀ w, Calls Try.prog 12 #[.int .u32 N2, .string p3] w fun e w' => e = .returned (.int .u32 N) ∧ Grown w w'
theorem ext_le (s : ByteArray) (i j : Nat) (h : s.size ≤ maxLen) : (s.extract i j).size ≤ maxLen := by
  rw [ByteArray.size_extract]; omega
theorem given (s : ByteArray) (A D : Nat) (hs : s.size ≤ maxLen) (h : A + D ≤ s.size) : ∃ N N1 N2, Given s (s.extract 0 A) (s.extract A s.size) (s.extract A (A + D)) (s.extract (A + D) s.size) N N1 N2 := by
  have e1 : moreB (moreB 0 (s.extract 0 A).data.toList) (s.extract A s.size).data.toList = moreB 0 s.data.toList := by
    rw [← more_append, ← pieces s 0 A s.size (by omega) (by omega) (by omega), whole]
  have e2 : moreB (moreB (moreB 0 (s.extract 0 A).data.toList) (s.extract A (A + D)).data.toList) (s.extract (A + D) s.size).data.toList = moreB 0 s.data.toList := by
    rw [← more_append, ← more_append, ← pieces s A (A + D) s.size (by omega) (by omega) (by omega), ← pieces s 0 A s.size (by omega) (by omega) (by omega), whole]
  exact ⟨num (moreB 0 s.data.toList), num (moreB 0 (s.extract 0 A).data.toList), num (moreB (moreB 0 (s.extract 0 A).data.toList) (s.extract A (A + D)).data.toList), fun w => sum_any s w hs, fun w => sum_any _ w (ext_le _ _ _ hs), fun w => more_is _ _ _ _ w (ext_le _ _ _ hs) rfl (by rw [e1]), fun w => more_any 0 _ w (ext_le _ _ _ hs), fun w => more_any _ _ w (ext_le _ _ _ hs), fun w => more_is _ _ _ _ w (ext_le _ _ _ hs) rfl (by rw [e2])⟩
set_option maxHeartbeats 2000000 in
theorem walk (a0 : ByteArray) (a1 : Int) (a2 : Int) (w0 : a0.size ≤ maxLen) (w1 : (Lit.int .u16 a1).wf = true) (w2 : (Lit.int .u16 a2).wf = true) (w : World) :
    Calls Try.prog 5 #[.string a0, .int .u16 a1, .int .u16 a2] w fun e w' => e = .returned (.bool true) ∧ Grown w w' := by
  have b1 := bounds_u16 w1
  have b2 := bounds_u16 w2
  by_cases g : a0.size ≤ 2000
  · clear w1 w2
    obtain ⟨c1, rfl⟩ := Int.eq_ofNat_of_zero_le b1.1
    obtain ⟨c2, rfl⟩ := Int.eq_ofNat_of_zero_le b2.1
    obtain ⟨A, hA, lA⟩ : ∃ A : Nat, (c1 : Int) % ((a0.size : Int) + 1) = A ∧ A ≤ a0.size :=
      ⟨c1 % (a0.size + 1), by simp, Nat.le_of_lt_succ (Nat.mod_lt c1 (Nat.succ_pos a0.size))⟩
    obtain ⟨D, hD, lD⟩ : ∃ D : Nat, (c2 : Int) % ((a0.size : Int) - (A : Int) + 1) = D ∧ A + D ≤ a0.size :=
      ⟨c2 % (a0.size - A + 1), by rw [show (a0.size : Int) - (A : Int) + 1 = ((a0.size - A + 1 : Nat) : Int) by omega]; simp, by have := Nat.le_of_lt_succ (Nat.mod_lt c2 (Nat.succ_pos (a0.size - A))); simp only [Nat.succ_eq_add_one] at this; omega⟩
    obtain ⟨N, N1, N2, G⟩ := given a0 A D w0 lD
    clear w0
    go_enter Try.func5, Try.ntmps5
    go_wp2
    rw [hA, hD]
    clear hA hD
    have i1 : (0 : Int) ≤ (A : Int) := by omega
    have i2 : (A : Int) ≤ (a0.size : Int) := by omega
    have i3 : (A : Int) ≤ (A : Int) + (D : Int) := by omega
    have i4 : (A : Int) + (D : Int) ≤ (a0.size : Int) := by omega
    have i5 : (0 : Int) ≤ (A : Int) + (D : Int) := by omega
    have i6 : ((A : Int) + (D : Int)).toNat = A + D := by omega
    go_region_held3 (fun W => Grown w W) (first | assumption | (refine Grown.trans ?_ ‹_›; assumption) | exact Grown.refl _) (first
      | (go_at_call 10; (with_reducible refine (G.c0 _).mono ?_); rintro e u ⟨rfl, hg⟩)
      | (go_at_call 10; (with_reducible refine (G.c1 _).mono ?_); rintro e u ⟨rfl, hg⟩)
      | (go_at_call 12; (with_reducible refine (G.c2 _).mono ?_); rintro e u ⟨rfl, hg⟩)
      | (go_at_call 12; (with_reducible refine (G.c3 _).mono ?_); rintro e u ⟨rfl, hg⟩)
      | (go_at_call 12; (with_reducible refine (G.c4 _).mono ?_); rintro e u ⟨rfl, hg⟩)
      | (go_at_call 12; (with_reducible refine (G.c5 _).mono ?_); rintro e u ⟨rfl, hg⟩)
      | (go_at_call 9; (with_reducible refine (known_any _).mono ?_); rintro e u ⟨rfl, hg⟩))
    go_wp2
    go_ret
    exact ⟨rfl, by assumption⟩
  · clear b1 b2
    go_enter Try.func5, Try.ntmps5
    go_wp2_with (go_at_call 9; refine (known_any _).mono ?_; rintro e u5 ⟨rfl, hg3⟩)
    go_ret
    exact ⟨rfl, hg3⟩

/-! ### THE ROW's STEP: WRITTEN OUT: LEAVE IT -/
set_option maxRecDepth 100000 in
theorem lifted (os : Os) (started : os.Started) (H : Type) (enc : TypeId × Value → H) :
    ReturnsInHanded {} Try.checked os 5 .any (Rows.crcJoinsSpec.pre6 enc Try.prog Try.f5 Rows.crcJoinsRow.domain false) (Rows.crcJoinsSpec.post enc Try.prog Try.f5 false true false false) := by
  refine returnsInHanded_of_change (C := Try.checked) own started (by kernel_rfl) Try.func5
    (ChangeSpec.witness6 (enc := enc) (C := Try.checked) false ⟨#[], #[.string ByteArray.empty, .int .u16 0, .int .u16 0], []⟩ 8 (by kernel_rfl) (by kernel_rfl) (by kernel_rfl) (by kernel_rfl)) ?_
  intro W base args ds gs before hval0 hW hcnd _
  have hval : ∀ (j : Nat) t v, Try.f5.params[j]? = some t → args[j]? = some v → Value.okWide Try.prog W .any base t v := hval0
  have hW' := hW
  obtain ⟨p, q, hA0, hV, rfl, hfz, hnd⟩ := hW
  have hA : DataW.TrodAll enc Try.prog W 0 (fun _ => true) true Try.f5.params.toList args.toList ds p := hA0
  rw [Try.params5] at hA hval
  obtain ⟨v0, vs0, d0, ds0, p0, q0, hargs, rfl, rfl, h0, r0⟩ := trodAll_cons hA
  obtain ⟨v1, vs1, d1, ds1, p1, q1, rfl, rfl, rfl, h1, r1⟩ := trodAll_cons r0
  obtain ⟨v2, vs2, d2, ds2, p2, q2, rfl, rfl, rfl, h2, r2⟩ := trodAll_cons r1
  obtain ⟨rfl, rfl, rfl⟩ := trodAll_nil r2
  obtain rfl : args = #[v0, v1, v2] := by cases args; simp_all
  obtain ⟨rfl, rfl⟩ := trodVars_none hV
  obtain ⟨a0, rfl, rfl, rfl, w0⟩ := open_string Try.underlying9 (hval 0 9 v0 rfl rfl) h0
  obtain ⟨a1, rfl, rfl, rfl, w1⟩ := open_int Try.underlying27 (hval 1 27 v1 rfl rfl) h1
  obtain ⟨a2, rfl, rfl, rfl, w2⟩ := open_int Try.underlying27 (hval 2 27 v2 rfl rfl) h2
  clear hA0 hval0
  simp only [List.append_nil] at hW'
  refine (walk a0 a1 a2 w0 w1 w2 W).mono fun e W' ⟨he, hg⟩ => ?_
  subst he
  exact ⟨_, rfl, post_of_same (pa := []) (pv := []) hW' (fun _ _ _ => (trodAll_cons_mk (shut_bool Try.underlying4 _) trodAll_mk0)) (fun sp _ => (trodAll_cons_mk (shut_string Try.underlying9 w0) (trodAll_cons_mk (shut_int Try.underlying27 w1) (trodAll_cons_mk (shut_int Try.underlying27 w2) trodAll_mk0)))) (fun _ _ => rfl) rfl
    (hg.frame _) hg.2.1 (ok_one (by kernel_rfl) rfl (okWide_bool_mk Try.underlying4 _))⟩

theorem over : Rows.crcJoinsRow.holds Try.pinned (OpenSpec.ofChange Rows.crcJoinsSpec) :=
  OpenClaim.holds_of_wide 5 Try.f5 rfl rfl rfl rfl rfl rfl rfl ⟨rfl, rfl, rfl, rfl, rfl⟩ rfl rfl rfl rfl rfl (by kernel_rfl) Try.func5 (by kernel_rfl)
    (of_decide_eq_true (by kernel_rfl)) (by unfold Func.isWrapper; first | (rw [if_pos (by decide +kernel)]; kernel_rfl) | (rw [if_neg (by decide +kernel)]; exact ⟨rfl, rfl⟩))
    (fun os started H enc _ => lifted os started H enc)

/-- ████ THE STATEMENT ████ -/
theorem proved : Rows.CrcJoinsSaid :=
  over
#print axioms proved
end Go.Proofs.Ytibpocemjdcgaaa.crcJoins
