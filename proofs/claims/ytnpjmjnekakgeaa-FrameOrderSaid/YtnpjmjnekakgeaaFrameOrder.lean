/-
  PROVED: the statement 'FrameOrderSaid': for every input the law FrameOrder returns true, and each argument reads afterwards as it read before. No condition.
-/
import Derived.Test.YtnpjmjnekakgeaaFi
import Derived.Test.YtnpjmjnekakgeaaRows
import Derived.WalkKit
import Derived.Deep.RegionHeld3
import Derived.BigQuiet
import Derived.ProofKit
import Derived.OpenShut
import Derived.ShutString
namespace Go.Proofs.Ytnpjmjnekakgeaa.frameOrder
open Go.ChangeShapes Go.WideShapes Go.ChangeAt Go.RowKit
open Go.Proofs.Ytnpjmjnekakgeaa.Mem Go.Proofs.Ytnpjmjnekakgeaa.Pk Go.Proofs.Ytnpjmjnekakgeaa.Fk
set_option linter.unusedVariables false

theorem own : ownKnob Try.prog.godebug = none := by kernel_rfl
theorem laidOut : laidOutB Try.prog = true := by kernel_rfl

theorem two_boxes (w : World) (b l p q : Int) (k : Nat) (d : ByteArray) (b' l' p' q' : Int) (k' : Nat) (d' : ByteArray) :
    Kept w ((w.alloc (.cells #[.int .i64 b, .int .i64 l, .int .i64 p, .int .i64 q, .int .u8 k, .string d] 23)).alloc (.cells #[.int .i64 b', .int .i64 l', .int .i64 p', .int .i64 q', .int .u8 k', .string d'] 23)) ∧ Box ((w.alloc (.cells #[.int .i64 b, .int .i64 l, .int .i64 p, .int .i64 q, .int .u8 k, .string d] 23)).alloc (.cells #[.int .i64 b', .int .i64 l', .int .i64 p', .int .i64 q', .int .u8 k', .string d'] 23)) w.heap.size b l p q k d ∧ Box ((w.alloc (.cells #[.int .i64 b, .int .i64 l, .int .i64 p, .int .i64 q, .int .u8 k, .string d] 23)).alloc (.cells #[.int .i64 b', .int .i64 l', .int .i64 p', .int .i64 q', .int .u8 k', .string d'] 23)) (w.heap.size + 1) b' l' p' q' k' d' :=
  ⟨((Kept.refl w).alloc _).alloc _, (Box.start w 23 b l p q k d).kept ((Kept.refl _).alloc _), by have := Box.start (w.alloc (.cells #[.int .i64 b, .int .i64 l, .int .i64 p, .int .i64 q, .int .u8 k, .string d] 23)) 23 b' l' p' q' k' d'; simpa using this⟩
set_option maxHeartbeats 4000000 in
set_option maxRecDepth 100000 in
theorem m1 (b b' l l' p p' q q' E F : Int) (k k' : Nat) (d d' X Y : ByteArray) (t1 : (E != 0) = true) (w : World)
    (ce : ∀ w, Calls Try.prog 10 #[.agg #[.int .i64 b, .int .i64 l, .int .i64 p, .int .i64 q, .int .u8 k, .string d]] w fun e w' => e = .returned (.tuple #[.string X, .int .i64 E]) ∧ Kept w w')
    (cg : ∀ w, Calls Try.prog 10 #[.agg #[.int .i64 b', .int .i64 l', .int .i64 p', .int .i64 q', .int .u8 k', .string d']] w fun e w' => e = .returned (.tuple #[.string Y, .int .i64 F]) ∧ Kept w w') :
    Calls Try.prog 8 #[.agg #[.int .i64 b, .int .i64 l, .int .i64 p, .int .i64 q, .int .u8 k, .string d], .agg #[.int .i64 b', .int .i64 l', .int .i64 p', .int .i64 q', .int .u8 k', .string d']] w fun e w' => e = .returned (.bool true) ∧ Kept w w' := by
  have hkn : ∀ W, Calls Try.prog 9 #[] W fun e w' => e = .returned (.bool true) ∧ Kept W w' := known_c
  obtain ⟨kx, hA, hB⟩ := two_boxes w b l p q k d b' l' p' q' k' d'
  go_enter Try.func8, Try.ntmps8
  go_wp2_with (first
    | (go_at_call 10; (with_reducible refine (ce _).mono ?_); rintro e u1 ⟨rfl, k1⟩; obtain ⟨_, c0, c1, c2, c3, c4, c5⟩ := hB.kept k1)
    | (go_at_call 10; (with_reducible refine (cg _).mono ?_); rintro e u2 ⟨rfl, k2⟩; obtain ⟨_, d0, d1, d2, d3, d4, d5⟩ := hB.kept (k1.trans k2); obtain ⟨_, e0, e1, e2, e3, e4, e5⟩ := hA.kept (k1.trans k2))
    | (go_at_call 9; (with_reducible refine (hkn _).mono ?_); rintro e u3 ⟨rfl, k3⟩))
  all_goals
    go_ret
    exact ⟨rfl, ((kx.trans k1).trans k2).trans k3⟩
set_option maxHeartbeats 4000000 in
set_option maxRecDepth 100000 in
theorem m2 (b b' l l' p p' q q' F : Int) (k k' : Nat) (d d' X Y : ByteArray) (t1 : (F != 0) = true) (w : World)
    (ce : ∀ w, Calls Try.prog 10 #[.agg #[.int .i64 b, .int .i64 l, .int .i64 p, .int .i64 q, .int .u8 k, .string d]] w fun e w' => e = .returned (.tuple #[.string X, .int .i64 0]) ∧ Kept w w')
    (cg : ∀ w, Calls Try.prog 10 #[.agg #[.int .i64 b', .int .i64 l', .int .i64 p', .int .i64 q', .int .u8 k', .string d']] w fun e w' => e = .returned (.tuple #[.string Y, .int .i64 F]) ∧ Kept w w') :
    Calls Try.prog 8 #[.agg #[.int .i64 b, .int .i64 l, .int .i64 p, .int .i64 q, .int .u8 k, .string d], .agg #[.int .i64 b', .int .i64 l', .int .i64 p', .int .i64 q', .int .u8 k', .string d']] w fun e w' => e = .returned (.bool true) ∧ Kept w w' := by
  have hkn : ∀ W, Calls Try.prog 9 #[] W fun e w' => e = .returned (.bool true) ∧ Kept W w' := known_c
  obtain ⟨kx, hA, hB⟩ := two_boxes w b l p q k d b' l' p' q' k' d'
  go_enter Try.func8, Try.ntmps8
  go_wp2_with (first
    | (go_at_call 10; (with_reducible refine (ce _).mono ?_); rintro e u1 ⟨rfl, k1⟩; obtain ⟨_, c0, c1, c2, c3, c4, c5⟩ := hB.kept k1)
    | (go_at_call 10; (with_reducible refine (cg _).mono ?_); rintro e u2 ⟨rfl, k2⟩; obtain ⟨_, d0, d1, d2, d3, d4, d5⟩ := hB.kept (k1.trans k2); obtain ⟨_, e0, e1, e2, e3, e4, e5⟩ := hA.kept (k1.trans k2))
    | (go_at_call 9; (with_reducible refine (hkn _).mono ?_); rintro e u3 ⟨rfl, k3⟩))
  all_goals
    go_ret
    exact ⟨rfl, ((kx.trans k1).trans k2).trans k3⟩
set_option maxHeartbeats 4000000 in
set_option maxRecDepth 100000 in
theorem m3 (b l p q q' : Int) (k k' : Nat) (d d' X Y : ByteArray)  (w : World)
    (ce : ∀ w, Calls Try.prog 10 #[.agg #[.int .i64 b, .int .i64 l, .int .i64 p, .int .i64 q, .int .u8 k, .string d]] w fun e w' => e = .returned (.tuple #[.string X, .int .i64 0]) ∧ Kept w w')
    (cg : ∀ w, Calls Try.prog 10 #[.agg #[.int .i64 b, .int .i64 l, .int .i64 p, .int .i64 q', .int .u8 k', .string d']] w fun e w' => e = .returned (.tuple #[.string Y, .int .i64 0]) ∧ Kept w w') :
    Calls Try.prog 8 #[.agg #[.int .i64 b, .int .i64 l, .int .i64 p, .int .i64 q, .int .u8 k, .string d], .agg #[.int .i64 b, .int .i64 l, .int .i64 p, .int .i64 q', .int .u8 k', .string d']] w fun e w' => e = .returned (.bool true) ∧ Kept w w' := by
  have hkn : ∀ W, Calls Try.prog 9 #[] W fun e w' => e = .returned (.bool true) ∧ Kept W w' := known_c
  obtain ⟨kx, hA, hB⟩ := two_boxes w b l p q k d b l p q' k' d'
  go_enter Try.func8, Try.ntmps8
  go_wp2_with (first
    | (go_at_call 10; (with_reducible refine (ce _).mono ?_); rintro e u1 ⟨rfl, k1⟩; obtain ⟨_, c0, c1, c2, c3, c4, c5⟩ := hB.kept k1)
    | (go_at_call 10; (with_reducible refine (cg _).mono ?_); rintro e u2 ⟨rfl, k2⟩; obtain ⟨_, d0, d1, d2, d3, d4, d5⟩ := hB.kept (k1.trans k2); obtain ⟨_, e0, e1, e2, e3, e4, e5⟩ := hA.kept (k1.trans k2))
    | (go_at_call 9; (with_reducible refine (hkn _).mono ?_); rintro e u3 ⟨rfl, k3⟩))
  all_goals
    go_ret
    exact ⟨rfl, ((kx.trans k1).trans k2).trans k3⟩
set_option maxHeartbeats 4000000 in
set_option maxRecDepth 100000 in
theorem m4 (b b' l l' p p' q q' : Int) (k k' : Nat) (d d' X Y : ByteArray) (t1 : (b == b') = false) (t2 : (b != b') = true) (t3 : Op.bytesLess X.toList Y.toList = decide (b < b')) (t9 : (!X.toList == Y.toList) = true) (w : World)
    (ce : ∀ w, Calls Try.prog 10 #[.agg #[.int .i64 b, .int .i64 l, .int .i64 p, .int .i64 q, .int .u8 k, .string d]] w fun e w' => e = .returned (.tuple #[.string X, .int .i64 0]) ∧ Kept w w')
    (cg : ∀ w, Calls Try.prog 10 #[.agg #[.int .i64 b', .int .i64 l', .int .i64 p', .int .i64 q', .int .u8 k', .string d']] w fun e w' => e = .returned (.tuple #[.string Y, .int .i64 0]) ∧ Kept w w') :
    Calls Try.prog 8 #[.agg #[.int .i64 b, .int .i64 l, .int .i64 p, .int .i64 q, .int .u8 k, .string d], .agg #[.int .i64 b', .int .i64 l', .int .i64 p', .int .i64 q', .int .u8 k', .string d']] w fun e w' => e = .returned (.bool true) ∧ Kept w w' := by
  have hkn : ∀ W, Calls Try.prog 9 #[] W fun e w' => e = .returned (.bool true) ∧ Kept W w' := known_c
  obtain ⟨kx, hA, hB⟩ := two_boxes w b l p q k d b' l' p' q' k' d'
  go_enter Try.func8, Try.ntmps8
  go_wp2_with (first
    | (go_at_call 10; (with_reducible refine (ce _).mono ?_); rintro e u1 ⟨rfl, k1⟩; obtain ⟨_, c0, c1, c2, c3, c4, c5⟩ := hB.kept k1)
    | (go_at_call 10; (with_reducible refine (cg _).mono ?_); rintro e u2 ⟨rfl, k2⟩; obtain ⟨_, d0, d1, d2, d3, d4, d5⟩ := hB.kept (k1.trans k2); obtain ⟨_, e0, e1, e2, e3, e4, e5⟩ := hA.kept (k1.trans k2))
    | (go_at_call 9; (with_reducible refine (hkn _).mono ?_); rintro e u3 ⟨rfl, k3⟩))
  all_goals
    go_ret
    exact ⟨rfl, ((kx.trans k1).trans k2).trans k3⟩
set_option maxHeartbeats 4000000 in
set_option maxRecDepth 100000 in
theorem m5 (b l l' p p' q q' : Int) (k k' : Nat) (d d' X Y : ByteArray) (t1 : (l == l') = false) (t2 : (l != l') = true) (t3 : Op.bytesLess X.toList Y.toList = decide (l < l')) (t9 : (!X.toList == Y.toList) = true) (w : World)
    (ce : ∀ w, Calls Try.prog 10 #[.agg #[.int .i64 b, .int .i64 l, .int .i64 p, .int .i64 q, .int .u8 k, .string d]] w fun e w' => e = .returned (.tuple #[.string X, .int .i64 0]) ∧ Kept w w')
    (cg : ∀ w, Calls Try.prog 10 #[.agg #[.int .i64 b, .int .i64 l', .int .i64 p', .int .i64 q', .int .u8 k', .string d']] w fun e w' => e = .returned (.tuple #[.string Y, .int .i64 0]) ∧ Kept w w') :
    Calls Try.prog 8 #[.agg #[.int .i64 b, .int .i64 l, .int .i64 p, .int .i64 q, .int .u8 k, .string d], .agg #[.int .i64 b, .int .i64 l', .int .i64 p', .int .i64 q', .int .u8 k', .string d']] w fun e w' => e = .returned (.bool true) ∧ Kept w w' := by
  have hkn : ∀ W, Calls Try.prog 9 #[] W fun e w' => e = .returned (.bool true) ∧ Kept W w' := known_c
  obtain ⟨kx, hA, hB⟩ := two_boxes w b l p q k d b l' p' q' k' d'
  go_enter Try.func8, Try.ntmps8
  go_wp2_with (first
    | (go_at_call 10; (with_reducible refine (ce _).mono ?_); rintro e u1 ⟨rfl, k1⟩; obtain ⟨_, c0, c1, c2, c3, c4, c5⟩ := hB.kept k1)
    | (go_at_call 10; (with_reducible refine (cg _).mono ?_); rintro e u2 ⟨rfl, k2⟩; obtain ⟨_, d0, d1, d2, d3, d4, d5⟩ := hB.kept (k1.trans k2); obtain ⟨_, e0, e1, e2, e3, e4, e5⟩ := hA.kept (k1.trans k2))
    | (go_at_call 9; (with_reducible refine (hkn _).mono ?_); rintro e u3 ⟨rfl, k3⟩))
  all_goals
    go_ret
    exact ⟨rfl, ((kx.trans k1).trans k2).trans k3⟩
set_option maxHeartbeats 4000000 in
set_option maxRecDepth 100000 in
theorem m6 (b l p p' q q' : Int) (k k' : Nat) (d d' X Y : ByteArray) (t1 : (p == p') = false) (t3 : Op.bytesLess X.toList Y.toList = decide (p < p')) (t9 : (!X.toList == Y.toList) = true) (w : World)
    (ce : ∀ w, Calls Try.prog 10 #[.agg #[.int .i64 b, .int .i64 l, .int .i64 p, .int .i64 q, .int .u8 k, .string d]] w fun e w' => e = .returned (.tuple #[.string X, .int .i64 0]) ∧ Kept w w')
    (cg : ∀ w, Calls Try.prog 10 #[.agg #[.int .i64 b, .int .i64 l, .int .i64 p', .int .i64 q', .int .u8 k', .string d']] w fun e w' => e = .returned (.tuple #[.string Y, .int .i64 0]) ∧ Kept w w') :
    Calls Try.prog 8 #[.agg #[.int .i64 b, .int .i64 l, .int .i64 p, .int .i64 q, .int .u8 k, .string d], .agg #[.int .i64 b, .int .i64 l, .int .i64 p', .int .i64 q', .int .u8 k', .string d']] w fun e w' => e = .returned (.bool true) ∧ Kept w w' := by
  have hkn : ∀ W, Calls Try.prog 9 #[] W fun e w' => e = .returned (.bool true) ∧ Kept W w' := known_c
  obtain ⟨kx, hA, hB⟩ := two_boxes w b l p q k d b l p' q' k' d'
  go_enter Try.func8, Try.ntmps8
  go_wp2_with (first
    | (go_at_call 10; (with_reducible refine (ce _).mono ?_); rintro e u1 ⟨rfl, k1⟩; obtain ⟨_, c0, c1, c2, c3, c4, c5⟩ := hB.kept k1)
    | (go_at_call 10; (with_reducible refine (cg _).mono ?_); rintro e u2 ⟨rfl, k2⟩; obtain ⟨_, d0, d1, d2, d3, d4, d5⟩ := hB.kept (k1.trans k2); obtain ⟨_, e0, e1, e2, e3, e4, e5⟩ := hA.kept (k1.trans k2))
    | (go_at_call 9; (with_reducible refine (hkn _).mono ?_); rintro e u3 ⟨rfl, k3⟩))
  all_goals
    go_ret
    exact ⟨rfl, ((kx.trans k1).trans k2).trans k3⟩
theorem walk (w : World) (a : Fr) (ha : a.ok) (c : Fr) (hc : c.ok) :
    Calls Try.prog 8 #[.agg #[.int .i64 a.boot, .int .i64 a.lsn, .int .i64 a.part, .int .i64 a.parts, .int .u8 a.kind, .string a.data], .agg #[.int .i64 c.boot, .int .i64 c.lsn, .int .i64 c.part, .int .i64 c.parts, .int .u8 c.kind, .string c.data]] w fun e w' => e = .returned (.bool true) ∧ Kept w w' := by
  have ce := encode_c a ha.k ha.d
  have cg := encode_c c hc.k hc.d
  by_cases h1 : a.err = 0
  · by_cases h2 : c.err = 0
    · have ga := a.err_zero.mp h1
      have gc := c.err_zero.mp h2
      rw [h1] at ce; rw [h2] at cg
      by_cases hn : a.boot = c.boot ∧ a.lsn = c.lsn ∧ a.part = c.part
      · obtain ⟨n1, n2, n3⟩ := hn
        rw [← n1, ← n2, ← n3] at cg ⊢
        exact m3 _ _ _ _ _ _ _ _ _ _ _ w ce cg
      · have hl := less_sec ga gc hn
        have hne := ne_sec ga gc hn
        have ex : a.enc.toList = a.sec := by rw [Fr.enc_good ga, Lib.toList_data, list_str]
        have ey : c.enc.toList = c.sec := by rw [Fr.enc_good gc, Lib.toList_data, list_str]
        have t9 : (!a.enc.toList == c.enc.toList) = true := by rw [ex, ey]; simpa using hne
        rw [← ex, ← ey] at hl
        by_cases n1 : a.boot = c.boot
        · by_cases n2 : a.lsn = c.lsn
          · have n3 : ¬ a.part = c.part := fun h => hn ⟨n1, n2, h⟩
            have t3 : Op.bytesLess a.enc.toList c.enc.toList = decide (a.part < c.part) := by
              rw [hl]; apply decide_eq_decide.mpr; omega
            rw [← n1, ← n2] at cg ⊢
            exact m6 _ _ _ _ _ _ _ _ _ _ _ _ (beq_eq_false_iff_ne.mpr n3) t3 t9 w ce cg
          · have t3 : Op.bytesLess a.enc.toList c.enc.toList = decide (a.lsn < c.lsn) := by
              rw [hl]; apply decide_eq_decide.mpr; omega
            rw [← n1] at cg ⊢
            exact m5 _ _ _ _ _ _ _ _ _ _ _ _ _ (beq_eq_false_iff_ne.mpr n2) (bne_iff_ne.mpr n2) t3 t9 w ce cg
        · have t3 : Op.bytesLess a.enc.toList c.enc.toList = decide (a.boot < c.boot) := by
            rw [hl]; apply decide_eq_decide.mpr; omega
          exact m4 _ _ _ _ _ _ _ _ _ _ _ _ _ _ (beq_eq_false_iff_ne.mpr n1) (bne_iff_ne.mpr n1) t3 t9 w ce cg
    · rw [h1] at ce
      exact m2 _ _ _ _ _ _ _ _ _ _ _ _ _ _ _ (bne_iff_ne.mpr h2) w ce cg
  · exact m1 _ _ _ _ _ _ _ _ _ _ _ _ _ _ _ _ (bne_iff_ne.mpr h1) w ce cg


set_option maxRecDepth 100000 in
theorem lifted (os : Os) (started : os.Started) (H : Type) (enc : TypeId × Value → H) :
    ReturnsInHanded {} Try.checked os 8 .any (Rows.frameOrderSpec.pre6 enc Try.prog Try.f8 Rows.frameOrderRow.domain false) (Rows.frameOrderSpec.post enc Try.prog Try.f8 false true false false) := by
  refine returnsInHanded_of_change (C := Try.checked) own started (by kernel_rfl) Try.func8
    (ChangeSpec.witness6 (enc := enc) (C := Try.checked) false ⟨#[], #[.agg #[.int .i64 0, .int .i64 0, .int .i64 0, .int .i64 0, .int .u8 0, .string ByteArray.empty], .agg #[.int .i64 0, .int .i64 0, .int .i64 0, .int .i64 0, .int .u8 0, .string ByteArray.empty]], []⟩ 8 (by kernel_rfl) (by kernel_rfl) (by kernel_rfl) (by kernel_rfl)) ?_
  intro W base args ds gs before hval0 hW hcnd _
  have hval : ∀ (j : Nat) t v, Try.f8.params[j]? = some t → args[j]? = some v → Value.okWide Try.prog W .any base t v := hval0
  have hW' := hW
  obtain ⟨p, q, hA0, hV, rfl, hfz, hnd⟩ := hW
  have hA : DataW.TrodAll enc Try.prog W 0 (fun _ => true) true Try.f8.params.toList args.toList ds p := hA0
  rw [Try.params8] at hA hval
  obtain ⟨v0, vs0, d0, ds0, p0, q0, hargs0, rfl, rfl, h0, r0⟩ := trodAll_cons hA
  obtain ⟨v1, vs1, d1, ds1, p1, q1, hargs1, rfl, rfl, h1, r1⟩ := trodAll_cons r0
  obtain ⟨rfl, rfl, rfl⟩ := trodAll_nil r1
  obtain rfl : args = #[v0, v1] := by cases args; simp_all
  obtain ⟨rfl, rfl⟩ := trodVars_none hV
  obtain ⟨n0, b0, e0⟩ := open_frame (hval 0 23 v0 rfl rfl) h0
  obtain ⟨n1, b1, e1⟩ := open_frame (hval 1 23 v1 rfl rfl) h1
  clear hA0 hval0
  simp only [List.append_nil] at hW'
  have hlt0 : ∀ x ∈ p0, x.block < W.heap.size := fun x hx => hW'.lt x (by simp [hx])
  have hlt1 : ∀ x ∈ p1, x.block < W.heap.size := fun x hx => hW'.lt x (by simp [hx])
  have hwalk := walk W n0 b0 n1 b1
  rw [← e0, ← e1] at hwalk
  refine hwalk.mono fun e W' ⟨he, hg⟩ => ?_
  subst he
  exact ⟨_, rfl, _, _, _, [], _, [], hW', (trodAll_cons_mk (shut_bool Try.underlying4 _) trodAll_mk0), (trodAll_cons_mk (Below.trod laidOut (by kernel_rfl) (of_decide_eq_true (by kernel_rfl)) h0 hg hlt0) (trodAll_cons_mk (Below.trod laidOut (by kernel_rfl) (of_decide_eq_true (by kernel_rfl)) h1 hg hlt1) trodAll_mk0)), rfl, Below.frame hg _, fun h => by cases h⟩

theorem over : Rows.frameOrderRow.holds Try.pinned (OpenSpec.ofChange Rows.frameOrderSpec) :=
  OpenClaim.holds_of_wide 8 Try.f8 rfl rfl rfl rfl rfl rfl rfl ⟨rfl, rfl, rfl, rfl, rfl⟩ rfl rfl rfl rfl rfl (by kernel_rfl) Try.func8 (by kernel_rfl)
    (of_decide_eq_true (by kernel_rfl)) (by unfold Func.isWrapper; first | (rw [if_pos (by decide +kernel)]; kernel_rfl) | (rw [if_neg (by decide +kernel)]; exact ⟨rfl, rfl⟩))
    (fun os started H enc _ => lifted os started H enc)

/-- ████ THE STATEMENT ████ -/
theorem proved : Rows.FrameOrderSaid :=
  over
#print axioms proved
end Go.Proofs.Ytnpjmjnekakgeaa.frameOrder
