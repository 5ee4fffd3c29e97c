/-
  PROVED: the statement 'SlotsCodesSaid': for every input the law SlotsCodes returns true, and each argument reads afterwards as it read before. No condition.
-/
import Derived.Test.YtmmlgnoicecgfaaKi
import Derived.Test.YtmmlgnoicecgfaaKc
import Derived.Test.YtmmlgnoicecgfaaRows
import Derived.WalkKit
import Derived.Deep.RegionHeld3
import Derived.BigQuiet
import Derived.ProofKit
import Derived.OpenShut
import Derived.ShutString
namespace Go.Proofs.Ytmmlgnoicecgfaa.slotsCodes
open Go.ChangeShapes Go.WideShapes Go.ChangeAt Go.RowKit
open Go.Proofs.Ytmmlgnoicecgfaa.Mem Go.Proofs.Ytmmlgnoicecgfaa.Hk
set_option linter.unusedVariables false

theorem own : ownKnob Try.prog.godebug = none := by kernel_rfl
theorem laidOut : laidOutB Try.prog = true := by kernel_rfl

set_option maxRecDepth 100000 in
theorem long (q b a f n : Int) (s : ByteArray) (h1 : decide (2000 < (s.size : Int)) = true) (w : World) :
    Calls Try.prog 4 #[.agg #[.int .i64 q, .int .i64 b, .int .i64 a, .int .i64 f, .int .i64 n], .string s] w fun e w' => e = .returned (.bool true) ∧ Kept w w' := by
  have hkn : ∀ W, Calls Try.prog 18 #[] W fun e w' => e = .returned (.bool true) ∧ Kept W w' := known_c
  have hk0 := Kept.alloc (Kept.refl w) (.cells #[.int .i64 q, .int .i64 b, .int .i64 a, .int .i64 f, .int .i64 n] 50)
  go_enter Try.func4, Try.ntmps4
  go_wp2_with (go_at_call 18; (with_reducible refine (hkn _).mono ?_); rintro e u4 ⟨rfl, k4⟩)
  go_ret
  exact ⟨rfl, hk0.trans k4⟩
set_option maxHeartbeats 4000000 in
set_option maxRecDepth 100000 in
theorem main (q b a f n q2 b2 a2 f2 n2 E H : Int) (s X : ByteArray) (w : World) (h1 : decide (2000 < (s.size : Int)) = false)
    (ce : ∀ w, Calls Try.prog 19 #[.agg #[.int .i64 q, .int .i64 b, .int .i64 a, .int .i64 f, .int .i64 n]] w fun e w' => e = .returned (.tuple #[.string X, .int .i64 E]) ∧ Kept w w')
    (re : ∀ w, Calls Try.prog 20 #[.agg #[.int .i64 q, .int .i64 b, .int .i64 a, .int .i64 f, .int .i64 n]] w fun e w' => e = .returned (.tuple #[.string X, .int .i64 E]) ∧ Kept w w')
    (cd : ∀ w, Calls Try.prog 21 #[.string s] w fun e w' => e = .returned (.tuple #[.agg #[.int .i64 q2, .int .i64 b2, .int .i64 a2, .int .i64 f2, .int .i64 n2], .int .i64 H]) ∧ Kept w w')
    (rd : ∀ w, Calls Try.prog 22 #[.string s] w fun e w' => e = .returned (.tuple #[.agg #[.int .i64 q2, .int .i64 b2, .int .i64 a2, .int .i64 f2, .int .i64 n2], .int .i64 H]) ∧ Kept w w') :
    Calls Try.prog 4 #[.agg #[.int .i64 q, .int .i64 b, .int .i64 a, .int .i64 f, .int .i64 n], .string s] w fun e w' => e = .returned (.bool true) ∧ Kept w w' := by
  have hkn : ∀ W, Calls Try.prog 18 #[] W fun e w' => e = .returned (.bool true) ∧ Kept W w' := known_c
  have hk0 := Kept.alloc (Kept.refl w) (.cells #[.int .i64 q, .int .i64 b, .int .i64 a, .int .i64 f, .int .i64 n] 50)
  have hA := Box.start w 50 q b a f n
  have hq := eqlH q2 b2 a2 f2 n2 q2 b2 a2 f2 n2
  rw [show sameH q2 b2 a2 f2 n2 q2 b2 a2 f2 n2 = true from (sameH_iff (x := ⟨q2, b2, a2, f2, n2⟩) (y := ⟨q2, b2, a2, f2, n2⟩)).mpr rfl] at hq
  go_enter Try.func4, Try.ntmps4
  go_wp2_with (first
    | (go_at_call 19; (with_reducible refine (ce _).mono ?_); rintro e u1 ⟨rfl, k1⟩; obtain ⟨_, c0, c1, c2, c3, c4⟩ := hA.kept k1)
    | (go_at_call 20; (with_reducible refine (re _).mono ?_); rintro e u2 ⟨rfl, k2⟩)
    | (go_at_call 21; (with_reducible refine (cd _).mono ?_); rintro e u3 ⟨rfl, k3⟩)
    | (go_at_call 22; (with_reducible refine (rd _).mono ?_); rintro e u4 ⟨rfl, k4⟩; obtain ⟨_, d0, d1, d2, d3, d4⟩ := ((Box.start u3 50 q2 b2 a2 f2 n2).kept k4).kept ((Kept.refl u4).alloc (.cells #[.int .i64 q2, .int .i64 b2, .int .i64 a2, .int .i64 f2, .int .i64 n2] 50)))
    | (go_at_call 18; (with_reducible refine (hkn _).mono ?_); rintro e u5 ⟨rfl, k5⟩))
  go_ret
  exact ⟨rfl, ((((hk0.trans k1).trans k2).trans (k3.alloc _)).trans (k4.alloc _)).trans k5⟩
theorem walk (w : World) (h : Hd) (_ : h.fits) (s : ByteArray) (_ : s.size ≤ maxLen) :
    Calls Try.prog 4 #[.agg #[.int .i64 h.seq, .int .i64 h.boot, .int .i64 h.area, .int .i64 h.first, .int .i64 h.snaps], .string s] w fun e w' => e = .returned (.bool true) ∧ Kept w w' := by
  by_cases b2 : 2000 < s.size
  · exact long _ _ _ _ _ _ (by simp; omega) w
  · exact main _ _ _ _ _ _ _ _ _ _ _ _ _ _ w (by simp; omega) (encode_c h) (rencode_c h) (decode_c s) (rdecode_c s)

set_option maxRecDepth 100000 in
theorem lifted (os : Os) (started : os.Started) (H : Type) (enc : TypeId × Value → H) :
    ReturnsInHanded {} Try.checked os 4 .any (Rows.slotsCodesSpec.pre6 enc Try.prog Try.f4 Rows.slotsCodesRow.domain false) (Rows.slotsCodesSpec.post enc Try.prog Try.f4 false true false false) := by
  refine returnsInHanded_of_change (C := Try.checked) own started (by kernel_rfl) Try.func4
    (ChangeSpec.witness6 (enc := enc) (C := Try.checked) false ⟨#[], #[.agg #[.int .i64 0, .int .i64 0, .int .i64 0, .int .i64 0, .int .i64 0], .string ByteArray.empty], []⟩ 8 (by kernel_rfl) (by kernel_rfl) (by kernel_rfl) (by kernel_rfl)) ?_
  intro W base args ds gs before hval0 hW hcnd _
  have hval : ∀ (j : Nat) t v, Try.f4.params[j]? = some t → args[j]? = some v → Value.okWide Try.prog W .any base t v := hval0
  have hW' := hW
  obtain ⟨p, q, hA0, hV, rfl, hfz, hnd⟩ := hW
  have hA : DataW.TrodAll enc Try.prog W 0 (fun _ => true) true Try.f4.params.toList args.toList ds p := hA0
  rw [Try.params4] at hA hval
  obtain ⟨v0, vs0, d0, ds0, p0, q0, hargs0, rfl, rfl, h0, r0⟩ := trodAll_cons hA
  obtain ⟨v1, vs1, d1, ds1, p1, q1, hargs1, rfl, rfl, h1, r1⟩ := trodAll_cons r0
  obtain ⟨rfl, rfl, rfl⟩ := trodAll_nil r1
  obtain rfl : args = #[v0, v1] := by cases args; simp_all
  obtain ⟨rfl, rfl⟩ := trodVars_none hV
  obtain ⟨n0, b0, e0⟩ := open_head (hval 0 50 v0 rfl rfl) h0
  obtain ⟨n1, b1, e1⟩ := open_str (hval 1 9 v1 rfl rfl) h1
  clear hA0 hval0
  simp only [List.append_nil] at hW'
  have hlt0 : ∀ x ∈ p0, x.block < W.heap.size := fun x hx => hW'.lt x (by simp [hx])
  have hlt1 : ∀ x ∈ p1, x.block < W.heap.size := fun x hx => hW'.lt x (by simp [hx])
  have hwalk := walk W n0 b0 n1 b1
  rw [← e0, ← e1] at hwalk
  refine hwalk.mono fun e W' ⟨he, hg⟩ => ?_
  subst he
  exact ⟨_, rfl, _, _, _, [], _, [], hW', (trodAll_cons_mk (shut_bool Try.underlying4 _) trodAll_mk0), (trodAll_cons_mk (Below.trod laidOut (by kernel_rfl) (of_decide_eq_true (by kernel_rfl)) h0 hg hlt0) (trodAll_cons_mk (Below.trod laidOut (by kernel_rfl) (of_decide_eq_true (by kernel_rfl)) h1 hg hlt1) trodAll_mk0)), rfl, Below.frame hg _, fun h => by cases h⟩

theorem over : Rows.slotsCodesRow.holds Try.pinned (OpenSpec.ofChange Rows.slotsCodesSpec) :=
  OpenClaim.holds_of_wide 4 Try.f4 rfl rfl rfl rfl rfl rfl rfl ⟨rfl, rfl, rfl, rfl, rfl⟩ rfl rfl rfl rfl rfl (by kernel_rfl) Try.func4 (by kernel_rfl)
    (of_decide_eq_true (by kernel_rfl)) (by unfold Func.isWrapper; first | (rw [if_pos (by decide +kernel)]; kernel_rfl) | (rw [if_neg (by decide +kernel)]; exact ⟨rfl, rfl⟩))
    (fun os started H enc _ => lifted os started H enc)

/-- ████ THE STATEMENT ████ -/
theorem proved : Rows.SlotsCodesSaid :=
  over
#print axioms proved
end Go.Proofs.Ytmmlgnoicecgfaa.slotsCodes
