/-
  PROVED: the statement 'FrameTornSaid': for every input the law FrameTorn returns true, and each argument reads afterwards as it read before. No condition.
-/
import Derived.Test.YtnpjmjnekakgeaaFi
import Derived.Test.YtnpjmjnekakgeaaFt
import Derived.Test.YtnpjmjnekakgeaaMz
import Derived.Test.YtnpjmjnekakgeaaRows
import Derived.WalkKit
import Derived.Deep.RegionHeld3
import Derived.BigQuiet
import Derived.ProofKit
import Derived.OpenShut
import Derived.ShutString
namespace Go.Proofs.Ytnpjmjnekakgeaa.frameTorn
open Go.ChangeShapes Go.WideShapes Go.ChangeAt Go.RowKit
open Go.Proofs.Ytnpjmjnekakgeaa.Mem Go.Proofs.Ytnpjmjnekakgeaa.Pk Go.Proofs.Ytnpjmjnekakgeaa.Fk
set_option linter.unusedVariables false

theorem own : ownKnob Try.prog.godebug = none := by kernel_rfl
theorem laidOut : laidOutB Try.prog = true := by kernel_rfl

theorem two_boxes (w : World) (b l p q : Int) (k : Nat) (d : ByteArray) (b' l' p' q' : Int) (k' : Nat) (d' : ByteArray) :
    Kept w ((w.alloc (.cells #[.int .i64 b, .int .i64 l, .int .i64 p, .int .i64 q, .int .u8 k, .string d] 23)).alloc (.cells #[.int .i64 b', .int .i64 l', .int .i64 p', .int .i64 q', .int .u8 k', .string d'] 23)) ∧ Box ((w.alloc (.cells #[.int .i64 b, .int .i64 l, .int .i64 p, .int .i64 q, .int .u8 k, .string d] 23)).alloc (.cells #[.int .i64 b', .int .i64 l', .int .i64 p', .int .i64 q', .int .u8 k', .string d'] 23)) w.heap.size b l p q k d ∧ Box ((w.alloc (.cells #[.int .i64 b, .int .i64 l, .int .i64 p, .int .i64 q, .int .u8 k, .string d] 23)).alloc (.cells #[.int .i64 b', .int .i64 l', .int .i64 p', .int .i64 q', .int .u8 k', .string d'] 23)) (w.heap.size + 1) b' l' p' q' k' d' :=
  ⟨((Kept.refl w).alloc _).alloc _, (Box.start w 23 b l p q k d).kept ((Kept.refl _).alloc _), by have := Box.start (w.alloc (.cells #[.int .i64 b, .int .i64 l, .int .i64 p, .int .i64 q, .int .u8 k, .string d] 23)) 23 b' l' p' q' k' d'; simpa using this⟩

set_option maxHeartbeats 4000000 in
set_option maxRecDepth 100000 in
theorem s0 (b l p q q' E G : Int) (k k' n : Nat) (d d' X Y : ByteArray)  (w : World)
    (ce : ∀ w, Calls Try.prog 10 #[.agg #[.int .i64 b, .int .i64 l, .int .i64 p, .int .i64 q, .int .u8 k, .string d]] w fun e w' => e = .returned (.tuple #[.string X, .int .i64 E]) ∧ Kept w w')
    (cg : ∀ w, Calls Try.prog 10 #[.agg #[.int .i64 b, .int .i64 l, .int .i64 p, .int .i64 q', .int .u8 k', .string d']] w fun e w' => e = .returned (.tuple #[.string Y, .int .i64 G]) ∧ Kept w w') :
    Calls Try.prog 6 #[.agg #[.int .i64 b, .int .i64 l, .int .i64 p, .int .i64 q, .int .u8 k, .string d], .agg #[.int .i64 b, .int .i64 l, .int .i64 p, .int .i64 q', .int .u8 k', .string d'], .int .u8 n, .bool false] w fun e w' => e = .returned (.bool true) ∧ Kept w w' := by
  have hkn : ∀ W, Calls Try.prog 9 #[] W fun e w' => e = .returned (.bool true) ∧ Kept W w' := known_c
  obtain ⟨kx, hA, hB⟩ := two_boxes w b l p q k d b l p q' k' d'
  go_enter Try.func6, Try.ntmps6
  go_wp2_with (first
    | (go_at_call 10; (with_reducible refine (ce _).mono ?_); rintro e u1 ⟨rfl, k1⟩; obtain ⟨_, c0, c1, c2, c3, c4, c5⟩ := hB.kept k1)
    | (go_at_call 10; (with_reducible refine (cg _).mono ?_); rintro e u2 ⟨rfl, k2⟩; obtain ⟨_, d0, d1, d2, d3, d4, d5⟩ := hB.kept (k1.trans k2); obtain ⟨_, e0, e1, e2, e3, e4, e5⟩ := hA.kept (k1.trans k2))
    | (go_at_call 9; (with_reducible refine (hkn _).mono ?_); rintro e u4 ⟨rfl, k4⟩))
  all_goals
    go_ret
    exact ⟨rfl, ((kx.trans (k1.trans k2))).trans k4⟩
set_option maxHeartbeats 4000000 in
set_option maxRecDepth 100000 in
theorem e1 (b b' l l' p p' q q' E G : Int) (k k' n : Nat) (d d' X Y : ByteArray) (n1 : (b == b') = false) (t1 : (E != 0) = true) (w : World)
    (ce : ∀ w, Calls Try.prog 10 #[.agg #[.int .i64 b, .int .i64 l, .int .i64 p, .int .i64 q, .int .u8 k, .string d]] w fun e w' => e = .returned (.tuple #[.string X, .int .i64 E]) ∧ Kept w w')
    (cg : ∀ w, Calls Try.prog 10 #[.agg #[.int .i64 b', .int .i64 l', .int .i64 p', .int .i64 q', .int .u8 k', .string d']] w fun e w' => e = .returned (.tuple #[.string Y, .int .i64 G]) ∧ Kept w w') :
    Calls Try.prog 6 #[.agg #[.int .i64 b, .int .i64 l, .int .i64 p, .int .i64 q, .int .u8 k, .string d], .agg #[.int .i64 b', .int .i64 l', .int .i64 p', .int .i64 q', .int .u8 k', .string d'], .int .u8 n, .bool false] w fun e w' => e = .returned (.bool true) ∧ Kept w w' := by
  have hkn : ∀ W, Calls Try.prog 9 #[] W fun e w' => e = .returned (.bool true) ∧ Kept W w' := known_c
  obtain ⟨kx, hA, hB⟩ := two_boxes w b l p q k d b' l' p' q' k' d'
  go_enter Try.func6, Try.ntmps6
  go_wp2_with (first
    | (go_at_call 10; (with_reducible refine (ce _).mono ?_); rintro e u1 ⟨rfl, k1⟩; obtain ⟨_, c0, c1, c2, c3, c4, c5⟩ := hB.kept k1)
    | (go_at_call 10; (with_reducible refine (cg _).mono ?_); rintro e u2 ⟨rfl, k2⟩; obtain ⟨_, d0, d1, d2, d3, d4, d5⟩ := hB.kept (k1.trans k2); obtain ⟨_, e0, e1, e2, e3, e4, e5⟩ := hA.kept (k1.trans k2))
    | (go_at_call 9; (with_reducible refine (hkn _).mono ?_); rintro e u4 ⟨rfl, k4⟩))
  all_goals
    go_ret
    exact ⟨rfl, ((kx.trans (k1.trans k2))).trans k4⟩
set_option maxHeartbeats 4000000 in
set_option maxRecDepth 100000 in
theorem f1 (b b' l l' p p' q q' G : Int) (k k' n : Nat) (d d' X Y : ByteArray) (n1 : (b == b') = false) (t1 : (G != 0) = true) (w : World)
    (ce : ∀ w, Calls Try.prog 10 #[.agg #[.int .i64 b, .int .i64 l, .int .i64 p, .int .i64 q, .int .u8 k, .string d]] w fun e w' => e = .returned (.tuple #[.string X, .int .i64 0]) ∧ Kept w w')
    (cg : ∀ w, Calls Try.prog 10 #[.agg #[.int .i64 b', .int .i64 l', .int .i64 p', .int .i64 q', .int .u8 k', .string d']] w fun e w' => e = .returned (.tuple #[.string Y, .int .i64 G]) ∧ Kept w w') :
    Calls Try.prog 6 #[.agg #[.int .i64 b, .int .i64 l, .int .i64 p, .int .i64 q, .int .u8 k, .string d], .agg #[.int .i64 b', .int .i64 l', .int .i64 p', .int .i64 q', .int .u8 k', .string d'], .int .u8 n, .bool false] w fun e w' => e = .returned (.bool true) ∧ Kept w w' := by
  have hkn : ∀ W, Calls Try.prog 9 #[] W fun e w' => e = .returned (.bool true) ∧ Kept W w' := known_c
  obtain ⟨kx, hA, hB⟩ := two_boxes w b l p q k d b' l' p' q' k' d'
  go_enter Try.func6, Try.ntmps6
  go_wp2_with (first
    | (go_at_call 10; (with_reducible refine (ce _).mono ?_); rintro e u1 ⟨rfl, k1⟩; obtain ⟨_, c0, c1, c2, c3, c4, c5⟩ := hB.kept k1)
    | (go_at_call 10; (with_reducible refine (cg _).mono ?_); rintro e u2 ⟨rfl, k2⟩; obtain ⟨_, d0, d1, d2, d3, d4, d5⟩ := hB.kept (k1.trans k2); obtain ⟨_, e0, e1, e2, e3, e4, e5⟩ := hA.kept (k1.trans k2))
    | (go_at_call 9; (with_reducible refine (hkn _).mono ?_); rintro e u4 ⟨rfl, k4⟩))
  all_goals
    go_ret
    exact ⟨rfl, ((kx.trans (k1.trans k2))).trans k4⟩
set_option maxHeartbeats 4000000 in
set_option maxRecDepth 100000 in
theorem x1 (b b' l l' p p' q q' : Int) (k k' n N : Nat) (d d' X Y S : ByteArray) (n1 : (b == b') = false) (t1 : (S.toList == X.toList) = true) (n2 : n ≤ 255) (hN : (n : Int) % 81 = (N : Int)) (i0 : (0 : Int) ≤ (N : Int)) (i1 : (N : Int) ≤ (X.size : Int)) (i2 : (N : Int) ≤ (Y.size : Int)) (z1 : ((X.size : Int) != 80) = false) (z2 : ((Y.size : Int) != 80) = false) (aS : ∀ w : World, (Op.stringOp .add (X.extract 0 N) (Y.extract N Y.size)).run Try.prog w = .ok (.string S) w) (cd : ∀ w, Calls Try.prog 12 #[.string S] w fun e w' => e = .returned (.tuple #[.agg #[.int .i64 b, .int .i64 l, .int .i64 p, .int .i64 q, .int .u8 k, .string d], .int .i64 0]) ∧ Kept w w') (w : World)
    (ce : ∀ w, Calls Try.prog 10 #[.agg #[.int .i64 b, .int .i64 l, .int .i64 p, .int .i64 q, .int .u8 k, .string d]] w fun e w' => e = .returned (.tuple #[.string X, .int .i64 0]) ∧ Kept w w')
    (cg : ∀ w, Calls Try.prog 10 #[.agg #[.int .i64 b', .int .i64 l', .int .i64 p', .int .i64 q', .int .u8 k', .string d']] w fun e w' => e = .returned (.tuple #[.string Y, .int .i64 0]) ∧ Kept w w') :
    Calls Try.prog 6 #[.agg #[.int .i64 b, .int .i64 l, .int .i64 p, .int .i64 q, .int .u8 k, .string d], .agg #[.int .i64 b', .int .i64 l', .int .i64 p', .int .i64 q', .int .u8 k', .string d'], .int .u8 n, .bool false] w fun e w' => e = .returned (.bool true) ∧ Kept w w' := by
  have hkn : ∀ W, Calls Try.prog 9 #[] W fun e w' => e = .returned (.bool true) ∧ Kept W w' := known_c
  obtain ⟨kx, hA, hB⟩ := two_boxes w b l p q k d b' l' p' q' k' d'
  go_enter Try.func6, Try.ntmps6
  go_wp2_with (first
    | (go_at_call 10; (with_reducible refine (ce _).mono ?_); rintro e u1 ⟨rfl, k1⟩; obtain ⟨_, c0, c1, c2, c3, c4, c5⟩ := hB.kept k1)
    | (go_at_call 10; (with_reducible refine (cg _).mono ?_); rintro e u2 ⟨rfl, k2⟩; obtain ⟨_, d0, d1, d2, d3, d4, d5⟩ := hB.kept (k1.trans k2); obtain ⟨_, e0, e1, e2, e3, e4, e5⟩ := hA.kept (k1.trans k2)))
  go_quiet (fail)
  go_wp2_with (first
    | (go_at_call 12; (with_reducible refine (cd _).mono ?_); rintro e u3 ⟨rfl, k3⟩; have kq := ((((k1.trans k2).drewN _).trans k3).alloc (.cells #[.int .i64 b, .int .i64 l, .int .i64 p, .int .i64 q, .int .u8 k, .string d] 23)); obtain ⟨_, f0, f1, f2, f3, f4, f5⟩ := hA.kept kq; obtain ⟨_, g0, g1, g2, g3, g4, g5⟩ := hB.kept kq)
    | (go_at_call 9; (with_reducible refine (hkn _).mono ?_); rintro e u4 ⟨rfl, k4⟩))
  all_goals
    go_ret
    exact ⟨rfl, (kx.trans kq).trans k4⟩
set_option maxHeartbeats 4000000 in
set_option maxRecDepth 100000 in
theorem y1 (b b' l l' p p' q q' : Int) (k k' n N : Nat) (d d' X Y S : ByteArray) (n1 : (b == b') = false) (t1 : (S.toList == X.toList) = false) (t2 : (S.toList == Y.toList) = true) (n2 : n ≤ 255) (hN : (n : Int) % 81 = (N : Int)) (i0 : (0 : Int) ≤ (N : Int)) (i1 : (N : Int) ≤ (X.size : Int)) (i2 : (N : Int) ≤ (Y.size : Int)) (z1 : ((X.size : Int) != 80) = false) (z2 : ((Y.size : Int) != 80) = false) (aS : ∀ w : World, (Op.stringOp .add (X.extract 0 N) (Y.extract N Y.size)).run Try.prog w = .ok (.string S) w) (cd : ∀ w, Calls Try.prog 12 #[.string S] w fun e w' => e = .returned (.tuple #[.agg #[.int .i64 b', .int .i64 l', .int .i64 p', .int .i64 q', .int .u8 k', .string d'], .int .i64 0]) ∧ Kept w w') (w : World)
    (ce : ∀ w, Calls Try.prog 10 #[.agg #[.int .i64 b, .int .i64 l, .int .i64 p, .int .i64 q, .int .u8 k, .string d]] w fun e w' => e = .returned (.tuple #[.string X, .int .i64 0]) ∧ Kept w w')
    (cg : ∀ w, Calls Try.prog 10 #[.agg #[.int .i64 b', .int .i64 l', .int .i64 p', .int .i64 q', .int .u8 k', .string d']] w fun e w' => e = .returned (.tuple #[.string Y, .int .i64 0]) ∧ Kept w w') :
    Calls Try.prog 6 #[.agg #[.int .i64 b, .int .i64 l, .int .i64 p, .int .i64 q, .int .u8 k, .string d], .agg #[.int .i64 b', .int .i64 l', .int .i64 p', .int .i64 q', .int .u8 k', .string d'], .int .u8 n, .bool false] w fun e w' => e = .returned (.bool true) ∧ Kept w w' := by
  have hkn : ∀ W, Calls Try.prog 9 #[] W fun e w' => e = .returned (.bool true) ∧ Kept W w' := known_c
  obtain ⟨kx, hA, hB⟩ := two_boxes w b l p q k d b' l' p' q' k' d'
  go_enter Try.func6, Try.ntmps6
  go_wp2_with (first
    | (go_at_call 10; (with_reducible refine (ce _).mono ?_); rintro e u1 ⟨rfl, k1⟩; obtain ⟨_, c0, c1, c2, c3, c4, c5⟩ := hB.kept k1)
    | (go_at_call 10; (with_reducible refine (cg _).mono ?_); rintro e u2 ⟨rfl, k2⟩; obtain ⟨_, d0, d1, d2, d3, d4, d5⟩ := hB.kept (k1.trans k2); obtain ⟨_, e0, e1, e2, e3, e4, e5⟩ := hA.kept (k1.trans k2)))
  go_quiet (fail)
  go_wp2_with (first
    | (go_at_call 12; (with_reducible refine (cd _).mono ?_); rintro e u3 ⟨rfl, k3⟩; have kq := ((((k1.trans k2).drewN _).trans k3).alloc (.cells #[.int .i64 b', .int .i64 l', .int .i64 p', .int .i64 q', .int .u8 k', .string d'] 23)); obtain ⟨_, f0, f1, f2, f3, f4, f5⟩ := hA.kept kq; obtain ⟨_, g0, g1, g2, g3, g4, g5⟩ := hB.kept kq)
    | (go_at_call 9; (with_reducible refine (hkn _).mono ?_); rintro e u4 ⟨rfl, k4⟩))
  all_goals
    go_ret
    exact ⟨rfl, (kx.trans kq).trans k4⟩
set_option maxHeartbeats 4000000 in
set_option maxRecDepth 100000 in
theorem z1 (b b' l l' p p' q q' bz lz pz qz : Int) (k k' n kz N : Nat) (d d' X Y dz S : ByteArray) (n1 : (b == b') = false) (t1 : (S.toList == X.toList) = false) (t2 : (S.toList == Y.toList) = false) (n2 : n ≤ 255) (hN : (n : Int) % 81 = (N : Int)) (i0 : (0 : Int) ≤ (N : Int)) (i1 : (N : Int) ≤ (X.size : Int)) (i2 : (N : Int) ≤ (Y.size : Int)) (z1 : ((X.size : Int) != 80) = false) (z2 : ((Y.size : Int) != 80) = false) (aS : ∀ w : World, (Op.stringOp .add (X.extract 0 N) (Y.extract N Y.size)).run Try.prog w = .ok (.string S) w) (cd : ∀ w, Calls Try.prog 12 #[.string S] w fun e w' => e = .returned (.tuple #[.agg #[.int .i64 bz, .int .i64 lz, .int .i64 pz, .int .i64 qz, .int .u8 kz, .string dz], .int .i64 12]) ∧ Kept w w') (w : World)
    (ce : ∀ w, Calls Try.prog 10 #[.agg #[.int .i64 b, .int .i64 l, .int .i64 p, .int .i64 q, .int .u8 k, .string d]] w fun e w' => e = .returned (.tuple #[.string X, .int .i64 0]) ∧ Kept w w')
    (cg : ∀ w, Calls Try.prog 10 #[.agg #[.int .i64 b', .int .i64 l', .int .i64 p', .int .i64 q', .int .u8 k', .string d']] w fun e w' => e = .returned (.tuple #[.string Y, .int .i64 0]) ∧ Kept w w') :
    Calls Try.prog 6 #[.agg #[.int .i64 b, .int .i64 l, .int .i64 p, .int .i64 q, .int .u8 k, .string d], .agg #[.int .i64 b', .int .i64 l', .int .i64 p', .int .i64 q', .int .u8 k', .string d'], .int .u8 n, .bool false] w fun e w' => e = .returned (.bool true) ∧ Kept w w' := by
  have hkn : ∀ W, Calls Try.prog 9 #[] W fun e w' => e = .returned (.bool true) ∧ Kept W w' := known_c
  obtain ⟨kx, hA, hB⟩ := two_boxes w b l p q k d b' l' p' q' k' d'
  go_enter Try.func6, Try.ntmps6
  go_wp2_with (first
    | (go_at_call 10; (with_reducible refine (ce _).mono ?_); rintro e u1 ⟨rfl, k1⟩; obtain ⟨_, c0, c1, c2, c3, c4, c5⟩ := hB.kept k1)
    | (go_at_call 10; (with_reducible refine (cg _).mono ?_); rintro e u2 ⟨rfl, k2⟩; obtain ⟨_, d0, d1, d2, d3, d4, d5⟩ := hB.kept (k1.trans k2); obtain ⟨_, e0, e1, e2, e3, e4, e5⟩ := hA.kept (k1.trans k2)))
  go_quiet (fail)
  go_wp2_with (first
    | (go_at_call 12; (with_reducible refine (cd _).mono ?_); rintro e u3 ⟨rfl, k3⟩; have kq := ((((k1.trans k2).drewN _).trans k3).alloc (.cells #[.int .i64 bz, .int .i64 lz, .int .i64 pz, .int .i64 qz, .int .u8 kz, .string dz] 23)); obtain ⟨_, f0, f1, f2, f3, f4, f5⟩ := hA.kept kq; obtain ⟨_, g0, g1, g2, g3, g4, g5⟩ := hB.kept kq)
    | (go_at_call 9; (with_reducible refine (hkn _).mono ?_); rintro e u4 ⟨rfl, k4⟩))
  all_goals
    go_ret
    exact ⟨rfl, (kx.trans kq).trans k4⟩
set_option maxHeartbeats 4000000 in
set_option maxRecDepth 100000 in
theorem e2 (b l l' p p' q q' E G : Int) (k k' n : Nat) (d d' X Y : ByteArray) (n1 : (l == l') = false) (t1 : (E != 0) = true) (w : World)
    (ce : ∀ w, Calls Try.prog 10 #[.agg #[.int .i64 b, .int .i64 l, .int .i64 p, .int .i64 q, .int .u8 k, .string d]] w fun e w' => e = .returned (.tuple #[.string X, .int .i64 E]) ∧ Kept w w')
    (cg : ∀ w, Calls Try.prog 10 #[.agg #[.int .i64 b, .int .i64 l', .int .i64 p', .int .i64 q', .int .u8 k', .string d']] w fun e w' => e = .returned (.tuple #[.string Y, .int .i64 G]) ∧ Kept w w') :
    Calls Try.prog 6 #[.agg #[.int .i64 b, .int .i64 l, .int .i64 p, .int .i64 q, .int .u8 k, .string d], .agg #[.int .i64 b, .int .i64 l', .int .i64 p', .int .i64 q', .int .u8 k', .string d'], .int .u8 n, .bool false] w fun e w' => e = .returned (.bool true) ∧ Kept w w' := by
  have hkn : ∀ W, Calls Try.prog 9 #[] W fun e w' => e = .returned (.bool true) ∧ Kept W w' := known_c
  obtain ⟨kx, hA, hB⟩ := two_boxes w b l p q k d b l' p' q' k' d'
  go_enter Try.func6, Try.ntmps6
  go_wp2_with (first
    | (go_at_call 10; (with_reducible refine (ce _).mono ?_); rintro e u1 ⟨rfl, k1⟩; obtain ⟨_, c0, c1, c2, c3, c4, c5⟩ := hB.kept k1)
    | (go_at_call 10; (with_reducible refine (cg _).mono ?_); rintro e u2 ⟨rfl, k2⟩; obtain ⟨_, d0, d1, d2, d3, d4, d5⟩ := hB.kept (k1.trans k2); obtain ⟨_, e0, e1, e2, e3, e4, e5⟩ := hA.kept (k1.trans k2))
    | (go_at_call 9; (with_reducible refine (hkn _).mono ?_); rintro e u4 ⟨rfl, k4⟩))
  all_goals
    go_ret
    exact ⟨rfl, ((kx.trans (k1.trans k2))).trans k4⟩
set_option maxHeartbeats 4000000 in
set_option maxRecDepth 100000 in
theorem f2 (b l l' p p' q q' G : Int) (k k' n : Nat) (d d' X Y : ByteArray) (n1 : (l == l') = false) (t1 : (G != 0) = true) (w : World)
    (ce : ∀ w, Calls Try.prog 10 #[.agg #[.int .i64 b, .int .i64 l, .int .i64 p, .int .i64 q, .int .u8 k, .string d]] w fun e w' => e = .returned (.tuple #[.string X, .int .i64 0]) ∧ Kept w w')
    (cg : ∀ w, Calls Try.prog 10 #[.agg #[.int .i64 b, .int .i64 l', .int .i64 p', .int .i64 q', .int .u8 k', .string d']] w fun e w' => e = .returned (.tuple #[.string Y, .int .i64 G]) ∧ Kept w w') :
    Calls Try.prog 6 #[.agg #[.int .i64 b, .int .i64 l, .int .i64 p, .int .i64 q, .int .u8 k, .string d], .agg #[.int .i64 b, .int .i64 l', .int .i64 p', .int .i64 q', .int .u8 k', .string d'], .int .u8 n, .bool false] w fun e w' => e = .returned (.bool true) ∧ Kept w w' := by
  have hkn : ∀ W, Calls Try.prog 9 #[] W fun e w' => e = .returned (.bool true) ∧ Kept W w' := known_c
  obtain ⟨kx, hA, hB⟩ := two_boxes w b l p q k d b l' p' q' k' d'
  go_enter Try.func6, Try.ntmps6
  go_wp2_with (first
    | (go_at_call 10; (with_reducible refine (ce _).mono ?_); rintro e u1 ⟨rfl, k1⟩; obtain ⟨_, c0, c1, c2, c3, c4, c5⟩ := hB.kept k1)
    | (go_at_call 10; (with_reducible refine (cg _).mono ?_); rintro e u2 ⟨rfl, k2⟩; obtain ⟨_, d0, d1, d2, d3, d4, d5⟩ := hB.kept (k1.trans k2); obtain ⟨_, e0, e1, e2, e3, e4, e5⟩ := hA.kept (k1.trans k2))
    | (go_at_call 9; (with_reducible refine (hkn _).mono ?_); rintro e u4 ⟨rfl, k4⟩))
  all_goals
    go_ret
    exact ⟨rfl, ((kx.trans (k1.trans k2))).trans k4⟩
set_option maxHeartbeats 4000000 in
set_option maxRecDepth 100000 in
theorem x2 (b l l' p p' q q' : Int) (k k' n N : Nat) (d d' X Y S : ByteArray) (n1 : (l == l') = false) (t1 : (S.toList == X.toList) = true) (n2 : n ≤ 255) (hN : (n : Int) % 81 = (N : Int)) (i0 : (0 : Int) ≤ (N : Int)) (i1 : (N : Int) ≤ (X.size : Int)) (i2 : (N : Int) ≤ (Y.size : Int)) (z1 : ((X.size : Int) != 80) = false) (z2 : ((Y.size : Int) != 80) = false) (aS : ∀ w : World, (Op.stringOp .add (X.extract 0 N) (Y.extract N Y.size)).run Try.prog w = .ok (.string S) w) (cd : ∀ w, Calls Try.prog 12 #[.string S] w fun e w' => e = .returned (.tuple #[.agg #[.int .i64 b, .int .i64 l, .int .i64 p, .int .i64 q, .int .u8 k, .string d], .int .i64 0]) ∧ Kept w w') (w : World)
    (ce : ∀ w, Calls Try.prog 10 #[.agg #[.int .i64 b, .int .i64 l, .int .i64 p, .int .i64 q, .int .u8 k, .string d]] w fun e w' => e = .returned (.tuple #[.string X, .int .i64 0]) ∧ Kept w w')
    (cg : ∀ w, Calls Try.prog 10 #[.agg #[.int .i64 b, .int .i64 l', .int .i64 p', .int .i64 q', .int .u8 k', .string d']] w fun e w' => e = .returned (.tuple #[.string Y, .int .i64 0]) ∧ Kept w w') :
    Calls Try.prog 6 #[.agg #[.int .i64 b, .int .i64 l, .int .i64 p, .int .i64 q, .int .u8 k, .string d], .agg #[.int .i64 b, .int .i64 l', .int .i64 p', .int .i64 q', .int .u8 k', .string d'], .int .u8 n, .bool false] w fun e w' => e = .returned (.bool true) ∧ Kept w w' := by
  have hkn : ∀ W, Calls Try.prog 9 #[] W fun e w' => e = .returned (.bool true) ∧ Kept W w' := known_c
  obtain ⟨kx, hA, hB⟩ := two_boxes w b l p q k d b l' p' q' k' d'
  go_enter Try.func6, Try.ntmps6
  go_wp2_with (first
    | (go_at_call 10; (with_reducible refine (ce _).mono ?_); rintro e u1 ⟨rfl, k1⟩; obtain ⟨_, c0, c1, c2, c3, c4, c5⟩ := hB.kept k1)
    | (go_at_call 10; (with_reducible refine (cg _).mono ?_); rintro e u2 ⟨rfl, k2⟩; obtain ⟨_, d0, d1, d2, d3, d4, d5⟩ := hB.kept (k1.trans k2); obtain ⟨_, e0, e1, e2, e3, e4, e5⟩ := hA.kept (k1.trans k2)))
  go_quiet (fail)
  go_wp2_with (first
    | (go_at_call 12; (with_reducible refine (cd _).mono ?_); rintro e u3 ⟨rfl, k3⟩; have kq := ((((k1.trans k2).drewN _).trans k3).alloc (.cells #[.int .i64 b, .int .i64 l, .int .i64 p, .int .i64 q, .int .u8 k, .string d] 23)); obtain ⟨_, f0, f1, f2, f3, f4, f5⟩ := hA.kept kq; obtain ⟨_, g0, g1, g2, g3, g4, g5⟩ := hB.kept kq)
    | (go_at_call 9; (with_reducible refine (hkn _).mono ?_); rintro e u4 ⟨rfl, k4⟩))
  all_goals
    go_ret
    exact ⟨rfl, (kx.trans kq).trans k4⟩
set_option maxHeartbeats 4000000 in
set_option maxRecDepth 100000 in
theorem y2 (b l l' p p' q q' : Int) (k k' n N : Nat) (d d' X Y S : ByteArray) (n1 : (l == l') = false) (t1 : (S.toList == X.toList) = false) (t2 : (S.toList == Y.toList) = true) (n2 : n ≤ 255) (hN : (n : Int) % 81 = (N : Int)) (i0 : (0 : Int) ≤ (N : Int)) (i1 : (N : Int) ≤ (X.size : Int)) (i2 : (N : Int) ≤ (Y.size : Int)) (z1 : ((X.size : Int) != 80) = false) (z2 : ((Y.size : Int) != 80) = false) (aS : ∀ w : World, (Op.stringOp .add (X.extract 0 N) (Y.extract N Y.size)).run Try.prog w = .ok (.string S) w) (cd : ∀ w, Calls Try.prog 12 #[.string S] w fun e w' => e = .returned (.tuple #[.agg #[.int .i64 b, .int .i64 l', .int .i64 p', .int .i64 q', .int .u8 k', .string d'], .int .i64 0]) ∧ Kept w w') (w : World)
    (ce : ∀ w, Calls Try.prog 10 #[.agg #[.int .i64 b, .int .i64 l, .int .i64 p, .int .i64 q, .int .u8 k, .string d]] w fun e w' => e = .returned (.tuple #[.string X, .int .i64 0]) ∧ Kept w w')
    (cg : ∀ w, Calls Try.prog 10 #[.agg #[.int .i64 b, .int .i64 l', .int .i64 p', .int .i64 q', .int .u8 k', .string d']] w fun e w' => e = .returned (.tuple #[.string Y, .int .i64 0]) ∧ Kept w w') :
    Calls Try.prog 6 #[.agg #[.int .i64 b, .int .i64 l, .int .i64 p, .int .i64 q, .int .u8 k, .string d], .agg #[.int .i64 b, .int .i64 l', .int .i64 p', .int .i64 q', .int .u8 k', .string d'], .int .u8 n, .bool false] w fun e w' => e = .returned (.bool true) ∧ Kept w w' := by
  have hkn : ∀ W, Calls Try.prog 9 #[] W fun e w' => e = .returned (.bool true) ∧ Kept W w' := known_c
  obtain ⟨kx, hA, hB⟩ := two_boxes w b l p q k d b l' p' q' k' d'
  go_enter Try.func6, Try.ntmps6
  go_wp2_with (first
    | (go_at_call 10; (with_reducible refine (ce _).mono ?_); rintro e u1 ⟨rfl, k1⟩; obtain ⟨_, c0, c1, c2, c3, c4, c5⟩ := hB.kept k1)
    | (go_at_call 10; (with_reducible refine (cg _).mono ?_); rintro e u2 ⟨rfl, k2⟩; obtain ⟨_, d0, d1, d2, d3, d4, d5⟩ := hB.kept (k1.trans k2); obtain ⟨_, e0, e1, e2, e3, e4, e5⟩ := hA.kept (k1.trans k2)))
  go_quiet (fail)
  go_wp2_with (first
    | (go_at_call 12; (with_reducible refine (cd _).mono ?_); rintro e u3 ⟨rfl, k3⟩; have kq := ((((k1.trans k2).drewN _).trans k3).alloc (.cells #[.int .i64 b, .int .i64 l', .int .i64 p', .int .i64 q', .int .u8 k', .string d'] 23)); obtain ⟨_, f0, f1, f2, f3, f4, f5⟩ := hA.kept kq; obtain ⟨_, g0, g1, g2, g3, g4, g5⟩ := hB.kept kq)
    | (go_at_call 9; (with_reducible refine (hkn _).mono ?_); rintro e u4 ⟨rfl, k4⟩))
  all_goals
    go_ret
    exact ⟨rfl, (kx.trans kq).trans k4⟩
set_option maxHeartbeats 4000000 in
set_option maxRecDepth 100000 in
theorem z2 (b l l' p p' q q' bz lz pz qz : Int) (k k' n kz N : Nat) (d d' X Y dz S : ByteArray) (n1 : (l == l') = false) (t1 : (S.toList == X.toList) = false) (t2 : (S.toList == Y.toList) = false) (n2 : n ≤ 255) (hN : (n : Int) % 81 = (N : Int)) (i0 : (0 : Int) ≤ (N : Int)) (i1 : (N : Int) ≤ (X.size : Int)) (i2 : (N : Int) ≤ (Y.size : Int)) (z1 : ((X.size : Int) != 80) = false) (z2 : ((Y.size : Int) != 80) = false) (aS : ∀ w : World, (Op.stringOp .add (X.extract 0 N) (Y.extract N Y.size)).run Try.prog w = .ok (.string S) w) (cd : ∀ w, Calls Try.prog 12 #[.string S] w fun e w' => e = .returned (.tuple #[.agg #[.int .i64 bz, .int .i64 lz, .int .i64 pz, .int .i64 qz, .int .u8 kz, .string dz], .int .i64 12]) ∧ Kept w w') (w : World)
    (ce : ∀ w, Calls Try.prog 10 #[.agg #[.int .i64 b, .int .i64 l, .int .i64 p, .int .i64 q, .int .u8 k, .string d]] w fun e w' => e = .returned (.tuple #[.string X, .int .i64 0]) ∧ Kept w w')
    (cg : ∀ w, Calls Try.prog 10 #[.agg #[.int .i64 b, .int .i64 l', .int .i64 p', .int .i64 q', .int .u8 k', .string d']] w fun e w' => e = .returned (.tuple #[.string Y, .int .i64 0]) ∧ Kept w w') :
    Calls Try.prog 6 #[.agg #[.int .i64 b, .int .i64 l, .int .i64 p, .int .i64 q, .int .u8 k, .string d], .agg #[.int .i64 b, .int .i64 l', .int .i64 p', .int .i64 q', .int .u8 k', .string d'], .int .u8 n, .bool false] w fun e w' => e = .returned (.bool true) ∧ Kept w w' := by
  have hkn : ∀ W, Calls Try.prog 9 #[] W fun e w' => e = .returned (.bool true) ∧ Kept W w' := known_c
  obtain ⟨kx, hA, hB⟩ := two_boxes w b l p q k d b l' p' q' k' d'
  go_enter Try.func6, Try.ntmps6
  go_wp2_with (first
    | (go_at_call 10; (with_reducible refine (ce _).mono ?_); rintro e u1 ⟨rfl, k1⟩; obtain ⟨_, c0, c1, c2, c3, c4, c5⟩ := hB.kept k1)
    | (go_at_call 10; (with_reducible refine (cg _).mono ?_); rintro e u2 ⟨rfl, k2⟩; obtain ⟨_, d0, d1, d2, d3, d4, d5⟩ := hB.kept (k1.trans k2); obtain ⟨_, e0, e1, e2, e3, e4, e5⟩ := hA.kept (k1.trans k2)))
  go_quiet (fail)
  go_wp2_with (first
    | (go_at_call 12; (with_reducible refine (cd _).mono ?_); rintro e u3 ⟨rfl, k3⟩; have kq := ((((k1.trans k2).drewN _).trans k3).alloc (.cells #[.int .i64 bz, .int .i64 lz, .int .i64 pz, .int .i64 qz, .int .u8 kz, .string dz] 23)); obtain ⟨_, f0, f1, f2, f3, f4, f5⟩ := hA.kept kq; obtain ⟨_, g0, g1, g2, g3, g4, g5⟩ := hB.kept kq)
    | (go_at_call 9; (with_reducible refine (hkn _).mono ?_); rintro e u4 ⟨rfl, k4⟩))
  all_goals
    go_ret
    exact ⟨rfl, (kx.trans kq).trans k4⟩
set_option maxHeartbeats 4000000 in
set_option maxRecDepth 100000 in
theorem e3 (b l p p' q q' E G : Int) (k k' n : Nat) (d d' X Y : ByteArray) (n1 : (p == p') = false) (t1 : (E != 0) = true) (w : World)
    (ce : ∀ w, Calls Try.prog 10 #[.agg #[.int .i64 b, .int .i64 l, .int .i64 p, .int .i64 q, .int .u8 k, .string d]] w fun e w' => e = .returned (.tuple #[.string X, .int .i64 E]) ∧ Kept w w')
    (cg : ∀ w, Calls Try.prog 10 #[.agg #[.int .i64 b, .int .i64 l, .int .i64 p', .int .i64 q', .int .u8 k', .string d']] w fun e w' => e = .returned (.tuple #[.string Y, .int .i64 G]) ∧ Kept w w') :
    Calls Try.prog 6 #[.agg #[.int .i64 b, .int .i64 l, .int .i64 p, .int .i64 q, .int .u8 k, .string d], .agg #[.int .i64 b, .int .i64 l, .int .i64 p', .int .i64 q', .int .u8 k', .string d'], .int .u8 n, .bool false] w fun e w' => e = .returned (.bool true) ∧ Kept w w' := by
  have hkn : ∀ W, Calls Try.prog 9 #[] W fun e w' => e = .returned (.bool true) ∧ Kept W w' := known_c
  obtain ⟨kx, hA, hB⟩ := two_boxes w b l p q k d b l p' q' k' d'
  go_enter Try.func6, Try.ntmps6
  go_wp2_with (first
    | (go_at_call 10; (with_reducible refine (ce _).mono ?_); rintro e u1 ⟨rfl, k1⟩; obtain ⟨_, c0, c1, c2, c3, c4, c5⟩ := hB.kept k1)
    | (go_at_call 10; (with_reducible refine (cg _).mono ?_); rintro e u2 ⟨rfl, k2⟩; obtain ⟨_, d0, d1, d2, d3, d4, d5⟩ := hB.kept (k1.trans k2); obtain ⟨_, e0, e1, e2, e3, e4, e5⟩ := hA.kept (k1.trans k2))
    | (go_at_call 9; (with_reducible refine (hkn _).mono ?_); rintro e u4 ⟨rfl, k4⟩))
  all_goals
    go_ret
    exact ⟨rfl, ((kx.trans (k1.trans k2))).trans k4⟩
set_option maxHeartbeats 4000000 in
set_option maxRecDepth 100000 in
theorem f3 (b l p p' q q' G : Int) (k k' n : Nat) (d d' X Y : ByteArray) (n1 : (p == p') = false) (t1 : (G != 0) = true) (w : World)
    (ce : ∀ w, Calls Try.prog 10 #[.agg #[.int .i64 b, .int .i64 l, .int .i64 p, .int .i64 q, .int .u8 k, .string d]] w fun e w' => e = .returned (.tuple #[.string X, .int .i64 0]) ∧ Kept w w')
    (cg : ∀ w, Calls Try.prog 10 #[.agg #[.int .i64 b, .int .i64 l, .int .i64 p', .int .i64 q', .int .u8 k', .string d']] w fun e w' => e = .returned (.tuple #[.string Y, .int .i64 G]) ∧ Kept w w') :
    Calls Try.prog 6 #[.agg #[.int .i64 b, .int .i64 l, .int .i64 p, .int .i64 q, .int .u8 k, .string d], .agg #[.int .i64 b, .int .i64 l, .int .i64 p', .int .i64 q', .int .u8 k', .string d'], .int .u8 n, .bool false] w fun e w' => e = .returned (.bool true) ∧ Kept w w' := by
  have hkn : ∀ W, Calls Try.prog 9 #[] W fun e w' => e = .returned (.bool true) ∧ Kept W w' := known_c
  obtain ⟨kx, hA, hB⟩ := two_boxes w b l p q k d b l p' q' k' d'
  go_enter Try.func6, Try.ntmps6
  go_wp2_with (first
    | (go_at_call 10; (with_reducible refine (ce _).mono ?_); rintro e u1 ⟨rfl, k1⟩; obtain ⟨_, c0, c1, c2, c3, c4, c5⟩ := hB.kept k1)
    | (go_at_call 10; (with_reducible refine (cg _).mono ?_); rintro e u2 ⟨rfl, k2⟩; obtain ⟨_, d0, d1, d2, d3, d4, d5⟩ := hB.kept (k1.trans k2); obtain ⟨_, e0, e1, e2, e3, e4, e5⟩ := hA.kept (k1.trans k2))
    | (go_at_call 9; (with_reducible refine (hkn _).mono ?_); rintro e u4 ⟨rfl, k4⟩))
  all_goals
    go_ret
    exact ⟨rfl, ((kx.trans (k1.trans k2))).trans k4⟩
set_option maxHeartbeats 4000000 in
set_option maxRecDepth 100000 in
theorem x3 (b l p p' q q' : Int) (k k' n N : Nat) (d d' X Y S : ByteArray) (n1 : (p == p') = false) (t1 : (S.toList == X.toList) = true) (n2 : n ≤ 255) (hN : (n : Int) % 81 = (N : Int)) (i0 : (0 : Int) ≤ (N : Int)) (i1 : (N : Int) ≤ (X.size : Int)) (i2 : (N : Int) ≤ (Y.size : Int)) (z1 : ((X.size : Int) != 80) = false) (z2 : ((Y.size : Int) != 80) = false) (aS : ∀ w : World, (Op.stringOp .add (X.extract 0 N) (Y.extract N Y.size)).run Try.prog w = .ok (.string S) w) (cd : ∀ w, Calls Try.prog 12 #[.string S] w fun e w' => e = .returned (.tuple #[.agg #[.int .i64 b, .int .i64 l, .int .i64 p, .int .i64 q, .int .u8 k, .string d], .int .i64 0]) ∧ Kept w w') (w : World)
    (ce : ∀ w, Calls Try.prog 10 #[.agg #[.int .i64 b, .int .i64 l, .int .i64 p, .int .i64 q, .int .u8 k, .string d]] w fun e w' => e = .returned (.tuple #[.string X, .int .i64 0]) ∧ Kept w w')
    (cg : ∀ w, Calls Try.prog 10 #[.agg #[.int .i64 b, .int .i64 l, .int .i64 p', .int .i64 q', .int .u8 k', .string d']] w fun e w' => e = .returned (.tuple #[.string Y, .int .i64 0]) ∧ Kept w w') :
    Calls Try.prog 6 #[.agg #[.int .i64 b, .int .i64 l, .int .i64 p, .int .i64 q, .int .u8 k, .string d], .agg #[.int .i64 b, .int .i64 l, .int .i64 p', .int .i64 q', .int .u8 k', .string d'], .int .u8 n, .bool false] w fun e w' => e = .returned (.bool true) ∧ Kept w w' := by
  have hkn : ∀ W, Calls Try.prog 9 #[] W fun e w' => e = .returned (.bool true) ∧ Kept W w' := known_c
  obtain ⟨kx, hA, hB⟩ := two_boxes w b l p q k d b l p' q' k' d'
  go_enter Try.func6, Try.ntmps6
  go_wp2_with (first
    | (go_at_call 10; (with_reducible refine (ce _).mono ?_); rintro e u1 ⟨rfl, k1⟩; obtain ⟨_, c0, c1, c2, c3, c4, c5⟩ := hB.kept k1)
    | (go_at_call 10; (with_reducible refine (cg _).mono ?_); rintro e u2 ⟨rfl, k2⟩; obtain ⟨_, d0, d1, d2, d3, d4, d5⟩ := hB.kept (k1.trans k2); obtain ⟨_, e0, e1, e2, e3, e4, e5⟩ := hA.kept (k1.trans k2)))
  go_quiet (fail)
  go_wp2_with (first
    | (go_at_call 12; (with_reducible refine (cd _).mono ?_); rintro e u3 ⟨rfl, k3⟩; have kq := ((((k1.trans k2).drewN _).trans k3).alloc (.cells #[.int .i64 b, .int .i64 l, .int .i64 p, .int .i64 q, .int .u8 k, .string d] 23)); obtain ⟨_, f0, f1, f2, f3, f4, f5⟩ := hA.kept kq; obtain ⟨_, g0, g1, g2, g3, g4, g5⟩ := hB.kept kq)
    | (go_at_call 9; (with_reducible refine (hkn _).mono ?_); rintro e u4 ⟨rfl, k4⟩))
  all_goals
    go_ret
    exact ⟨rfl, (kx.trans kq).trans k4⟩
set_option maxHeartbeats 4000000 in
set_option maxRecDepth 100000 in
theorem y3 (b l p p' q q' : Int) (k k' n N : Nat) (d d' X Y S : ByteArray) (n1 : (p == p') = false) (t1 : (S.toList == X.toList) = false) (t2 : (S.toList == Y.toList) = true) (n2 : n ≤ 255) (hN : (n : Int) % 81 = (N : Int)) (i0 : (0 : Int) ≤ (N : Int)) (i1 : (N : Int) ≤ (X.size : Int)) (i2 : (N : Int) ≤ (Y.size : Int)) (z1 : ((X.size : Int) != 80) = false) (z2 : ((Y.size : Int) != 80) = false) (aS : ∀ w : World, (Op.stringOp .add (X.extract 0 N) (Y.extract N Y.size)).run Try.prog w = .ok (.string S) w) (cd : ∀ w, Calls Try.prog 12 #[.string S] w fun e w' => e = .returned (.tuple #[.agg #[.int .i64 b, .int .i64 l, .int .i64 p', .int .i64 q', .int .u8 k', .string d'], .int .i64 0]) ∧ Kept w w') (w : World)
    (ce : ∀ w, Calls Try.prog 10 #[.agg #[.int .i64 b, .int .i64 l, .int .i64 p, .int .i64 q, .int .u8 k, .string d]] w fun e w' => e = .returned (.tuple #[.string X, .int .i64 0]) ∧ Kept w w')
    (cg : ∀ w, Calls Try.prog 10 #[.agg #[.int .i64 b, .int .i64 l, .int .i64 p', .int .i64 q', .int .u8 k', .string d']] w fun e w' => e = .returned (.tuple #[.string Y, .int .i64 0]) ∧ Kept w w') :
    Calls Try.prog 6 #[.agg #[.int .i64 b, .int .i64 l, .int .i64 p, .int .i64 q, .int .u8 k, .string d], .agg #[.int .i64 b, .int .i64 l, .int .i64 p', .int .i64 q', .int .u8 k', .string d'], .int .u8 n, .bool false] w fun e w' => e = .returned (.bool true) ∧ Kept w w' := by
  have hkn : ∀ W, Calls Try.prog 9 #[] W fun e w' => e = .returned (.bool true) ∧ Kept W w' := known_c
  obtain ⟨kx, hA, hB⟩ := two_boxes w b l p q k d b l p' q' k' d'
  go_enter Try.func6, Try.ntmps6
  go_wp2_with (first
    | (go_at_call 10; (with_reducible refine (ce _).mono ?_); rintro e u1 ⟨rfl, k1⟩; obtain ⟨_, c0, c1, c2, c3, c4, c5⟩ := hB.kept k1)
    | (go_at_call 10; (with_reducible refine (cg _).mono ?_); rintro e u2 ⟨rfl, k2⟩; obtain ⟨_, d0, d1, d2, d3, d4, d5⟩ := hB.kept (k1.trans k2); obtain ⟨_, e0, e1, e2, e3, e4, e5⟩ := hA.kept (k1.trans k2)))
  go_quiet (fail)
  go_wp2_with (first
    | (go_at_call 12; (with_reducible refine (cd _).mono ?_); rintro e u3 ⟨rfl, k3⟩; have kq := ((((k1.trans k2).drewN _).trans k3).alloc (.cells #[.int .i64 b, .int .i64 l, .int .i64 p', .int .i64 q', .int .u8 k', .string d'] 23)); obtain ⟨_, f0, f1, f2, f3, f4, f5⟩ := hA.kept kq; obtain ⟨_, g0, g1, g2, g3, g4, g5⟩ := hB.kept kq)
    | (go_at_call 9; (with_reducible refine (hkn _).mono ?_); rintro e u4 ⟨rfl, k4⟩))
  all_goals
    go_ret
    exact ⟨rfl, (kx.trans kq).trans k4⟩
set_option maxHeartbeats 4000000 in
set_option maxRecDepth 100000 in
theorem z3 (b l p p' q q' bz lz pz qz : Int) (k k' n kz N : Nat) (d d' X Y dz S : ByteArray) (n1 : (p == p') = false) (t1 : (S.toList == X.toList) = false) (t2 : (S.toList == Y.toList) = false) (n2 : n ≤ 255) (hN : (n : Int) % 81 = (N : Int)) (i0 : (0 : Int) ≤ (N : Int)) (i1 : (N : Int) ≤ (X.size : Int)) (i2 : (N : Int) ≤ (Y.size : Int)) (z1 : ((X.size : Int) != 80) = false) (z2 : ((Y.size : Int) != 80) = false) (aS : ∀ w : World, (Op.stringOp .add (X.extract 0 N) (Y.extract N Y.size)).run Try.prog w = .ok (.string S) w) (cd : ∀ w, Calls Try.prog 12 #[.string S] w fun e w' => e = .returned (.tuple #[.agg #[.int .i64 bz, .int .i64 lz, .int .i64 pz, .int .i64 qz, .int .u8 kz, .string dz], .int .i64 12]) ∧ Kept w w') (w : World)
    (ce : ∀ w, Calls Try.prog 10 #[.agg #[.int .i64 b, .int .i64 l, .int .i64 p, .int .i64 q, .int .u8 k, .string d]] w fun e w' => e = .returned (.tuple #[.string X, .int .i64 0]) ∧ Kept w w')
    (cg : ∀ w, Calls Try.prog 10 #[.agg #[.int .i64 b, .int .i64 l, .int .i64 p', .int .i64 q', .int .u8 k', .string d']] w fun e w' => e = .returned (.tuple #[.string Y, .int .i64 0]) ∧ Kept w w') :
    Calls Try.prog 6 #[.agg #[.int .i64 b, .int .i64 l, .int .i64 p, .int .i64 q, .int .u8 k, .string d], .agg #[.int .i64 b, .int .i64 l, .int .i64 p', .int .i64 q', .int .u8 k', .string d'], .int .u8 n, .bool false] w fun e w' => e = .returned (.bool true) ∧ Kept w w' := by
  have hkn : ∀ W, Calls Try.prog 9 #[] W fun e w' => e = .returned (.bool true) ∧ Kept W w' := known_c
  obtain ⟨kx, hA, hB⟩ := two_boxes w b l p q k d b l p' q' k' d'
  go_enter Try.func6, Try.ntmps6
  go_wp2_with (first
    | (go_at_call 10; (with_reducible refine (ce _).mono ?_); rintro e u1 ⟨rfl, k1⟩; obtain ⟨_, c0, c1, c2, c3, c4, c5⟩ := hB.kept k1)
    | (go_at_call 10; (with_reducible refine (cg _).mono ?_); rintro e u2 ⟨rfl, k2⟩; obtain ⟨_, d0, d1, d2, d3, d4, d5⟩ := hB.kept (k1.trans k2); obtain ⟨_, e0, e1, e2, e3, e4, e5⟩ := hA.kept (k1.trans k2)))
  go_quiet (fail)
  go_wp2_with (first
    | (go_at_call 12; (with_reducible refine (cd _).mono ?_); rintro e u3 ⟨rfl, k3⟩; have kq := ((((k1.trans k2).drewN _).trans k3).alloc (.cells #[.int .i64 bz, .int .i64 lz, .int .i64 pz, .int .i64 qz, .int .u8 kz, .string dz] 23)); obtain ⟨_, f0, f1, f2, f3, f4, f5⟩ := hA.kept kq; obtain ⟨_, g0, g1, g2, g3, g4, g5⟩ := hB.kept kq)
    | (go_at_call 9; (with_reducible refine (hkn _).mono ?_); rintro e u4 ⟨rfl, k4⟩))
  all_goals
    go_ret
    exact ⟨rfl, (kx.trans kq).trans k4⟩
set_option maxHeartbeats 4000000 in
set_option maxRecDepth 100000 in
theorem be (b b' l l' p p' q q' E G : Int) (k k' n : Nat) (d d' X Y V : ByteArray) (t1 : (E != 0) = true) (mk : ∀ w : World, (Instr.makeSlice 36 (.int .i64 80) (.int .i64 80)).run Try.prog w = .ok (.slice (some ⟨w.heap.size, 0, none⟩) 80 80) (w.alloc (.cells (Array.replicate 80 (.int .u8 0)) 5))) (cv : ∀ w : World, (convert 36 9 (.slice (some ⟨w.heap.size, 0, none⟩) 80 80)).run Try.prog (w.alloc (.cells (Array.replicate 80 (.int .u8 0)) 5)) = .ok (.string V) (w.alloc (.cells (Array.replicate 80 (.int .u8 0)) 5))) (w : World)
    (ce : ∀ w, Calls Try.prog 10 #[.agg #[.int .i64 b, .int .i64 l, .int .i64 p, .int .i64 q, .int .u8 k, .string d]] w fun e w' => e = .returned (.tuple #[.string X, .int .i64 E]) ∧ Kept w w')
    (cg : ∀ w, Calls Try.prog 10 #[.agg #[.int .i64 b', .int .i64 l', .int .i64 p', .int .i64 q', .int .u8 k', .string d']] w fun e w' => e = .returned (.tuple #[.string Y, .int .i64 G]) ∧ Kept w w') :
    Calls Try.prog 6 #[.agg #[.int .i64 b, .int .i64 l, .int .i64 p, .int .i64 q, .int .u8 k, .string d], .agg #[.int .i64 b', .int .i64 l', .int .i64 p', .int .i64 q', .int .u8 k', .string d'], .int .u8 n, .bool true] w fun e w' => e = .returned (.bool true) ∧ Kept w w' := by
  have hkn : ∀ W, Calls Try.prog 9 #[] W fun e w' => e = .returned (.bool true) ∧ Kept W w' := known_c
  obtain ⟨kx, hA, hB⟩ := two_boxes w b l p q k d b' l' p' q' k' d'
  go_enter Try.func6, Try.ntmps6
  go_wp2_with (first
    | (go_at_call 10; (with_reducible refine (ce _).mono ?_); rintro e u1 ⟨rfl, k1⟩; obtain ⟨_, c0, c1, c2, c3, c4, c5⟩ := hB.kept k1)
    | (go_at_call 10; (with_reducible refine (cg _).mono ?_); rintro e u2 ⟨rfl, k2⟩; obtain ⟨_, d0, d1, d2, d3, d4, d5⟩ := hB.kept (k1.trans k2); obtain ⟨_, e0, e1, e2, e3, e4, e5⟩ := hA.kept (k1.trans k2))
    | (go_at_call 9; (with_reducible refine (hkn _).mono ?_); rintro e u4 ⟨rfl, k4⟩))
  all_goals
    go_ret
    exact ⟨rfl, ((kx.trans ((k1.trans k2).alloc (.cells (Array.replicate 80 (.int .u8 0)) 5)))).trans k4⟩
set_option maxHeartbeats 4000000 in
set_option maxRecDepth 100000 in
theorem bx (b b' l l' p p' q q' G : Int) (k k' n N : Nat) (d d' X Y S V : ByteArray) (t1 : (S.toList == X.toList) = true) (n2 : n ≤ 255) (hN : (n : Int) % 81 = (N : Int)) (i0 : (0 : Int) ≤ (N : Int)) (i1 : (N : Int) ≤ (X.size : Int)) (i2 : (N : Int) ≤ (V.size : Int)) (z1 : ((X.size : Int) != 80) = false) (z2 : ((V.size : Int) != 80) = false) (aS : ∀ w : World, (Op.stringOp .add (X.extract 0 N) (V.extract N V.size)).run Try.prog w = .ok (.string S) w) (cd : ∀ w, Calls Try.prog 12 #[.string S] w fun e w' => e = .returned (.tuple #[.agg #[.int .i64 b, .int .i64 l, .int .i64 p, .int .i64 q, .int .u8 k, .string d], .int .i64 0]) ∧ Kept w w') (mk : ∀ w : World, (Instr.makeSlice 36 (.int .i64 80) (.int .i64 80)).run Try.prog w = .ok (.slice (some ⟨w.heap.size, 0, none⟩) 80 80) (w.alloc (.cells (Array.replicate 80 (.int .u8 0)) 5))) (cv : ∀ w : World, (convert 36 9 (.slice (some ⟨w.heap.size, 0, none⟩) 80 80)).run Try.prog (w.alloc (.cells (Array.replicate 80 (.int .u8 0)) 5)) = .ok (.string V) (w.alloc (.cells (Array.replicate 80 (.int .u8 0)) 5))) (w : World)
    (ce : ∀ w, Calls Try.prog 10 #[.agg #[.int .i64 b, .int .i64 l, .int .i64 p, .int .i64 q, .int .u8 k, .string d]] w fun e w' => e = .returned (.tuple #[.string X, .int .i64 0]) ∧ Kept w w')
    (cg : ∀ w, Calls Try.prog 10 #[.agg #[.int .i64 b', .int .i64 l', .int .i64 p', .int .i64 q', .int .u8 k', .string d']] w fun e w' => e = .returned (.tuple #[.string Y, .int .i64 G]) ∧ Kept w w') :
    Calls Try.prog 6 #[.agg #[.int .i64 b, .int .i64 l, .int .i64 p, .int .i64 q, .int .u8 k, .string d], .agg #[.int .i64 b', .int .i64 l', .int .i64 p', .int .i64 q', .int .u8 k', .string d'], .int .u8 n, .bool true] w fun e w' => e = .returned (.bool true) ∧ Kept w w' := by
  have hkn : ∀ W, Calls Try.prog 9 #[] W fun e w' => e = .returned (.bool true) ∧ Kept W w' := known_c
  obtain ⟨kx, hA, hB⟩ := two_boxes w b l p q k d b' l' p' q' k' d'
  go_enter Try.func6, Try.ntmps6
  go_wp2_with (first
    | (go_at_call 10; (with_reducible refine (ce _).mono ?_); rintro e u1 ⟨rfl, k1⟩; obtain ⟨_, c0, c1, c2, c3, c4, c5⟩ := hB.kept k1)
    | (go_at_call 10; (with_reducible refine (cg _).mono ?_); rintro e u2 ⟨rfl, k2⟩; obtain ⟨_, d0, d1, d2, d3, d4, d5⟩ := hB.kept (k1.trans k2); obtain ⟨_, e0, e1, e2, e3, e4, e5⟩ := hA.kept (k1.trans k2)))
  go_quiet (fail)
  go_wp2_with (first
    | (go_at_call 12; (with_reducible refine (cd _).mono ?_); rintro e u3 ⟨rfl, k3⟩; have kq := (((((k1.trans k2).alloc (.cells (Array.replicate 80 (.int .u8 0)) 5)).drewN _).trans k3).alloc (.cells #[.int .i64 b, .int .i64 l, .int .i64 p, .int .i64 q, .int .u8 k, .string d] 23)); obtain ⟨_, f0, f1, f2, f3, f4, f5⟩ := hA.kept kq; obtain ⟨_, g0, g1, g2, g3, g4, g5⟩ := hB.kept kq)
    | (go_at_call 9; (with_reducible refine (hkn _).mono ?_); rintro e u4 ⟨rfl, k4⟩))
  all_goals
    go_ret
    exact ⟨rfl, (kx.trans kq).trans k4⟩
set_option maxHeartbeats 4000000 in
set_option maxRecDepth 100000 in
theorem bz (b b' l l' p p' q q' bz lz pz qz G : Int) (k k' n kz N : Nat) (d d' X Y dz S V : ByteArray) (t1 : (S.toList == X.toList) = false) (n2 : n ≤ 255) (hN : (n : Int) % 81 = (N : Int)) (i0 : (0 : Int) ≤ (N : Int)) (i1 : (N : Int) ≤ (X.size : Int)) (i2 : (N : Int) ≤ (V.size : Int)) (z1 : ((X.size : Int) != 80) = false) (z2 : ((V.size : Int) != 80) = false) (aS : ∀ w : World, (Op.stringOp .add (X.extract 0 N) (V.extract N V.size)).run Try.prog w = .ok (.string S) w) (cd : ∀ w, Calls Try.prog 12 #[.string S] w fun e w' => e = .returned (.tuple #[.agg #[.int .i64 bz, .int .i64 lz, .int .i64 pz, .int .i64 qz, .int .u8 kz, .string dz], .int .i64 12]) ∧ Kept w w') (mk : ∀ w : World, (Instr.makeSlice 36 (.int .i64 80) (.int .i64 80)).run Try.prog w = .ok (.slice (some ⟨w.heap.size, 0, none⟩) 80 80) (w.alloc (.cells (Array.replicate 80 (.int .u8 0)) 5))) (cv : ∀ w : World, (convert 36 9 (.slice (some ⟨w.heap.size, 0, none⟩) 80 80)).run Try.prog (w.alloc (.cells (Array.replicate 80 (.int .u8 0)) 5)) = .ok (.string V) (w.alloc (.cells (Array.replicate 80 (.int .u8 0)) 5))) (w : World)
    (ce : ∀ w, Calls Try.prog 10 #[.agg #[.int .i64 b, .int .i64 l, .int .i64 p, .int .i64 q, .int .u8 k, .string d]] w fun e w' => e = .returned (.tuple #[.string X, .int .i64 0]) ∧ Kept w w')
    (cg : ∀ w, Calls Try.prog 10 #[.agg #[.int .i64 b', .int .i64 l', .int .i64 p', .int .i64 q', .int .u8 k', .string d']] w fun e w' => e = .returned (.tuple #[.string Y, .int .i64 G]) ∧ Kept w w') :
    Calls Try.prog 6 #[.agg #[.int .i64 b, .int .i64 l, .int .i64 p, .int .i64 q, .int .u8 k, .string d], .agg #[.int .i64 b', .int .i64 l', .int .i64 p', .int .i64 q', .int .u8 k', .string d'], .int .u8 n, .bool true] w fun e w' => e = .returned (.bool true) ∧ Kept w w' := by
  have hkn : ∀ W, Calls Try.prog 9 #[] W fun e w' => e = .returned (.bool true) ∧ Kept W w' := known_c
  obtain ⟨kx, hA, hB⟩ := two_boxes w b l p q k d b' l' p' q' k' d'
  go_enter Try.func6, Try.ntmps6
  go_wp2_with (first
    | (go_at_call 10; (with_reducible refine (ce _).mono ?_); rintro e u1 ⟨rfl, k1⟩; obtain ⟨_, c0, c1, c2, c3, c4, c5⟩ := hB.kept k1)
    | (go_at_call 10; (with_reducible refine (cg _).mono ?_); rintro e u2 ⟨rfl, k2⟩; obtain ⟨_, d0, d1, d2, d3, d4, d5⟩ := hB.kept (k1.trans k2); obtain ⟨_, e0, e1, e2, e3, e4, e5⟩ := hA.kept (k1.trans k2)))
  go_quiet (fail)
  go_wp2_with (first
    | (go_at_call 12; (with_reducible refine (cd _).mono ?_); rintro e u3 ⟨rfl, k3⟩; have kq := (((((k1.trans k2).alloc (.cells (Array.replicate 80 (.int .u8 0)) 5)).drewN _).trans k3).alloc (.cells #[.int .i64 bz, .int .i64 lz, .int .i64 pz, .int .i64 qz, .int .u8 kz, .string dz] 23)); obtain ⟨_, f0, f1, f2, f3, f4, f5⟩ := hA.kept kq; obtain ⟨_, g0, g1, g2, g3, g4, g5⟩ := hB.kept kq)
    | (go_at_call 9; (with_reducible refine (hkn _).mono ?_); rintro e u4 ⟨rfl, k4⟩))
  all_goals
    go_ret
    exact ⟨rfl, (kx.trans kq).trans k4⟩
theorem dX {a : Fr} (ga : a.good) (ka : a.kind < 256) {L : List UInt8} (e : L = a.sec) (w : World) :
    Calls Try.prog 12 #[.string (str L)] w fun e w' => e = .returned (.tuple #[.agg #[.int .i64 a.boot, .int .i64 a.lsn, .int .i64 a.part, .int .i64 a.parts, .int .u8 a.kind, .string a.data], .int .i64 0]) ∧ Kept w w' := by
  have h := decode_c (str L) w
  rw [e, ← Fr.enc_good ga, (decF_enc ga ka).1, (decF_enc ga ka).2, Fr.enc_good ga, ← e] at h
  exact h
theorem dN {L : List UInt8} (h : dec (str L) = none) (w : World) :
    Calls Try.prog 12 #[.string (str L)] w fun e w' => e = .returned (.tuple #[.agg #[.int .i64 (decF (str L)).boot, .int .i64 (decF (str L)).lsn, .int .i64 (decF (str L)).part, .int .i64 (decF (str L)).parts, .int .u8 (decF (str L)).kind, .string (decF (str L)).data], .int .i64 12]) ∧ Kept w w' := by
  have h2 := decode_c (str L) w
  rw [none_E h] at h2
  exact h2
theorem eq_t {a b : List UInt8} (h : a = b) : ((str a).toList == (str b).toList) = true := by rw [h]; simp
theorem eq_f {a b : List UInt8} (h : a ≠ b) : ((str a).toList == (str b).toList) = false := by
  rw [Lib.toList_data, Lib.toList_data, list_str, list_str]; exact beq_eq_false_iff_ne.mpr h
theorem both (w : World) (a c : Fr) (ha : a.ok) (hc : c.ok) (n : Nat) (hn : n ≤ 255) (ga : a.good) (gc : c.good) (hne : ¬ (a.boot = c.boot ∧ a.lsn = c.lsn ∧ a.part = c.part))
    (ce : ∀ w, Calls Try.prog 10 #[.agg #[.int .i64 a.boot, .int .i64 a.lsn, .int .i64 a.part, .int .i64 a.parts, .int .u8 a.kind, .string a.data]] w fun e w' => e = .returned (.tuple #[.string (str a.sec), .int .i64 0]) ∧ Kept w w')
    (cg : ∀ w, Calls Try.prog 10 #[.agg #[.int .i64 c.boot, .int .i64 c.lsn, .int .i64 c.part, .int .i64 c.parts, .int .u8 c.kind, .string c.data]] w fun e w' => e = .returned (.tuple #[.string (str c.sec), .int .i64 0]) ∧ Kept w w') :
    Calls Try.prog 6 #[.agg #[.int .i64 a.boot, .int .i64 a.lsn, .int .i64 a.part, .int .i64 a.parts, .int .u8 a.kind, .string a.data], .agg #[.int .i64 c.boot, .int .i64 c.lsn, .int .i64 c.part, .int .i64 c.parts, .int .u8 c.kind, .string c.data], .int .u8 n, .bool false] w fun e w' => e = .returned (.bool true) ∧ Kept w w' := by
  have hN : (n : Int) % 81 = ((n % 81 : Nat) : Int) := by omega
  have h80 : n % 81 ≤ 80 := by omega
  have sx : (str a.sec).size = 80 := by rw [size_str, sec_len ga.short]
  have sy : (str c.sec).size = 80 := by rw [size_str, sec_len gc.short]
  have aS : ∀ w : World, (Op.stringOp .add ((str a.sec).extract 0 (n % 81)) ((str c.sec).extract (n % 81) (str c.sec).size)).run Try.prog w = .ok (.string (str (a.sec.take (n % 81) ++ c.sec.drop (n % 81)))) w := fun w => by
    rw [cut_first, cut_rest]
    exact cat_c _ _ _ rfl (by rw [List.length_take, List.length_drop, sec_len ga.short, sec_len gc.short]; omega) w
  have i0 : (0 : Int) ≤ ((n % 81 : Nat) : Int) := by omega
  have i1 : ((n % 81 : Nat) : Int) ≤ ((str a.sec).size : Int) := by rw [sx]; omega
  have i2 : ((n % 81 : Nat) : Int) ≤ ((str c.sec).size : Int) := by rw [sy]; omega
  have zz1 : (((str a.sec).size : Int) != 80) = false := by rw [sx]; rfl
  have zz2 : (((str c.sec).size : Int) != 80) = false := by rw [sy]; rfl
  by_cases e1 : a.sec.take (n % 81) ++ c.sec.drop (n % 81) = a.sec
  · have cd := dX ga ha.k e1
    have t1 := eq_t e1
    by_cases n1 : a.boot = c.boot
    · by_cases n2 : a.lsn = c.lsn
      · have n3 : (a.part == c.part) = false := beq_eq_false_iff_ne.mpr fun h => hne ⟨n1, n2, h⟩
        rw [← n1, ← n2] at cg ⊢
        exact x3 _ _ _ _ _ _ _ _ _ _ _ _ _ _ _ n3 t1 hn hN i0 i1 i2 zz1 zz2 aS cd w ce cg
      · have n3 : (a.lsn == c.lsn) = false := beq_eq_false_iff_ne.mpr n2
        rw [← n1] at cg ⊢
        exact x2 _ _ _ _ _ _ _ _ _ _ _ _ _ _ _ _ n3 t1 hn hN i0 i1 i2 zz1 zz2 aS cd w ce cg
    · exact x1 _ _ _ _ _ _ _ _ _ _ _ _ _ _ _ _ _ (beq_eq_false_iff_ne.mpr n1) t1 hn hN i0 i1 i2 zz1 zz2 aS cd w ce cg
  · have t1 := eq_f e1
    by_cases e2 : a.sec.take (n % 81) ++ c.sec.drop (n % 81) = c.sec
    · have cd := dX gc hc.k e2
      have t2 := eq_t e2
      by_cases n1 : a.boot = c.boot
      · by_cases n2 : a.lsn = c.lsn
        · have n3 : (a.part == c.part) = false := beq_eq_false_iff_ne.mpr fun h => hne ⟨n1, n2, h⟩
          rw [← n1, ← n2] at cg cd ⊢
          exact y3 _ _ _ _ _ _ _ _ _ _ _ _ _ _ _ n3 t1 t2 hn hN i0 i1 i2 zz1 zz2 aS cd w ce cg
        · have n3 : (a.lsn == c.lsn) = false := beq_eq_false_iff_ne.mpr n2
          rw [← n1] at cg cd ⊢
          exact y2 _ _ _ _ _ _ _ _ _ _ _ _ _ _ _ _ n3 t1 t2 hn hN i0 i1 i2 zz1 zz2 aS cd w ce cg
      · exact y1 _ _ _ _ _ _ _ _ _ _ _ _ _ _ _ _ _ (beq_eq_false_iff_ne.mpr n1) t1 t2 hn hN i0 i1 i2 zz1 zz2 aS cd w ce cg
    · have cd := dN (torn_none ga gc hne h80 e1 e2)
      have t2 := eq_f e2
      by_cases n1 : a.boot = c.boot
      · by_cases n2 : a.lsn = c.lsn
        · have n3 : (a.part == c.part) = false := beq_eq_false_iff_ne.mpr fun h => hne ⟨n1, n2, h⟩
          rw [← n1, ← n2] at cg ⊢
          exact z3 _ _ _ _ _ _ _ _ _ _ _ _ _ _ _ _ _ _ _ _ _ n3 t1 t2 hn hN i0 i1 i2 zz1 zz2 aS cd w ce cg
        · have n3 : (a.lsn == c.lsn) = false := beq_eq_false_iff_ne.mpr n2
          rw [← n1] at cg ⊢
          exact z2 _ _ _ _ _ _ _ _ _ _ _ _ _ _ _ _ _ _ _ _ _ _ n3 t1 t2 hn hN i0 i1 i2 zz1 zz2 aS cd w ce cg
      · exact z1 _ _ _ _ _ _ _ _ _ _ _ _ _ _ _ _ _ _ _ _ _ _ _ (beq_eq_false_iff_ne.mpr n1) t1 t2 hn hN i0 i1 i2 zz1 zz2 aS cd w ce cg
theorem walk (w : World) (a : Fr) (ha : a.ok) (c : Fr) (hc : c.ok) (n : Nat) (hn : n ≤ 255) (q : Bool) :
    Calls Try.prog 6 #[.agg #[.int .i64 a.boot, .int .i64 a.lsn, .int .i64 a.part, .int .i64 a.parts, .int .u8 a.kind, .string a.data], .agg #[.int .i64 c.boot, .int .i64 c.lsn, .int .i64 c.part, .int .i64 c.parts, .int .u8 c.kind, .string c.data], .int .u8 n, .bool q] w fun e w' => e = .returned (.bool true) ∧ Kept w w' := by
  have ce := encode_c a ha.k ha.d
  have cg := encode_c c hc.k hc.d
  cases q with
  | true =>
    have mk : ∀ w : World, _ := make_bytes 80 (by decide)
    have cv : ∀ w : World, _ := bytes_str 80
    by_cases h1 : a.err = 0
    · have ga := a.err_zero.mp h1
      rw [h1, Fr.enc_good ga] at ce
      have hN : (n : Int) % 81 = ((n % 81 : Nat) : Int) := by omega
      have h80 : n % 81 ≤ 80 := by omega
      have sx : (str a.sec).size = 80 := by rw [size_str, sec_len ga.short]
      have sy : (str (List.replicate 80 0)).size = 80 := by rw [size_str, List.length_replicate]
      have aS : ∀ w : World, (Op.stringOp .add ((str a.sec).extract 0 (n % 81)) ((str (List.replicate 80 0)).extract (n % 81) (str (List.replicate 80 0)).size)).run Try.prog w = .ok (.string (str (a.sec.take (n % 81) ++ (List.replicate 80 0).drop (n % 81)))) w := fun w => by
        rw [cut_first, cut_rest]
        exact cat_c _ _ _ rfl (by rw [List.length_take, List.length_drop, sec_len ga.short, List.length_replicate]; omega) w
      have i0 : (0 : Int) ≤ ((n % 81 : Nat) : Int) := by omega
      have i1 : ((n % 81 : Nat) : Int) ≤ ((str a.sec).size : Int) := by rw [sx]; omega
      have i2 : ((n % 81 : Nat) : Int) ≤ ((str (List.replicate 80 0)).size : Int) := by rw [sy]; omega
      have zz1 : (((str a.sec).size : Int) != 80) = false := by rw [sx]; rfl
      have zz2 : (((str (List.replicate 80 0)).size : Int) != 80) = false := by rw [sy]; rfl
      by_cases e1 : a.sec.take (n % 81) ++ (List.replicate 80 0).drop (n % 81) = a.sec
      · exact bx _ _ _ _ _ _ _ _ _ _ _ _ _ _ _ _ _ _ _ (eq_t e1) hn hN i0 i1 i2 zz1 zz2 aS (dX ga ha.k e1) mk cv w ce cg
      · exact bz _ _ _ _ _ _ _ _ _ _ _ _ _ _ _ _ _ _ _ _ _ _ _ _ _ (eq_f e1) hn hN i0 i1 i2 zz1 zz2 aS (dN (torn_zero ga h80 e1)) mk cv w ce cg
    · exact be _ _ _ _ _ _ _ _ _ _ _ _ _ _ _ _ _ _ (bne_iff_ne.mpr h1) mk cv w ce cg
  | false =>
    by_cases hne : a.boot = c.boot ∧ a.lsn = c.lsn ∧ a.part = c.part
    · obtain ⟨n1, n2, n3⟩ := hne
      rw [← n1, ← n2, ← n3] at cg ⊢
      exact s0 _ _ _ _ _ _ _ _ _ _ _ _ _ _ w ce cg
    · by_cases h1 : a.err = 0
      · have ga := a.err_zero.mp h1
        rw [h1, Fr.enc_good ga] at ce
        by_cases h2 : c.err = 0
        · have gc := c.err_zero.mp h2
          rw [h2, Fr.enc_good gc] at cg
          exact both w a c ha hc n hn ga gc hne ce cg
        · have t1 : (c.err != 0) = true := bne_iff_ne.mpr h2
          by_cases n1 : a.boot = c.boot
          · by_cases n2 : a.lsn = c.lsn
            · have n3 : (a.part == c.part) = false := beq_eq_false_iff_ne.mpr fun h => hne ⟨n1, n2, h⟩
              rw [← n1, ← n2] at cg ⊢
              exact f3 _ _ _ _ _ _ _ _ _ _ _ _ _ _ n3 t1 w ce cg
            · have n3 : (a.lsn == c.lsn) = false := beq_eq_false_iff_ne.mpr n2
              rw [← n1] at cg ⊢
              exact f2 _ _ _ _ _ _ _ _ _ _ _ _ _ _ _ n3 t1 w ce cg
          · exact f1 _ _ _ _ _ _ _ _ _ _ _ _ _ _ _ _ (beq_eq_false_iff_ne.mpr n1) t1 w ce cg
      · have t1 : (a.err != 0) = true := bne_iff_ne.mpr h1
        by_cases n1 : a.boot = c.boot
        · by_cases n2 : a.lsn = c.lsn
          · have n3 : (a.part == c.part) = false := beq_eq_false_iff_ne.mpr fun h => hne ⟨n1, n2, h⟩
            rw [← n1, ← n2] at cg ⊢
            exact e3 _ _ _ _ _ _ _ _ _ _ _ _ _ _ _ n3 t1 w ce cg
          · have n3 : (a.lsn == c.lsn) = false := beq_eq_false_iff_ne.mpr n2
            rw [← n1] at cg ⊢
            exact e2 _ _ _ _ _ _ _ _ _ _ _ _ _ _ _ _ n3 t1 w ce cg
        · exact e1 _ _ _ _ _ _ _ _ _ _ _ _ _ _ _ _ _ (beq_eq_false_iff_ne.mpr n1) t1 w ce cg

set_option maxRecDepth 100000 in
theorem lifted (os : Os) (started : os.Started) (H : Type) (enc : TypeId × Value → H) :
    ReturnsInHanded {} Try.checked os 6 .any (Rows.frameTornSpec.pre6 enc Try.prog Try.f6 Rows.frameTornRow.domain false) (Rows.frameTornSpec.post enc Try.prog Try.f6 false true false false) := by
  refine returnsInHanded_of_change (C := Try.checked) own started (by kernel_rfl) Try.func6
    (ChangeSpec.witness6 (enc := enc) (C := Try.checked) false ⟨#[], #[.agg #[.int .i64 0, .int .i64 0, .int .i64 0, .int .i64 0, .int .u8 0, .string ByteArray.empty], .agg #[.int .i64 0, .int .i64 0, .int .i64 0, .int .i64 0, .int .u8 0, .string ByteArray.empty], .int .u8 0, .bool false], []⟩ 8 (by kernel_rfl) (by kernel_rfl) (by kernel_rfl) (by kernel_rfl)) ?_
  intro W base args ds gs before hval0 hW hcnd _
  have hval : ∀ (j : Nat) t v, Try.f6.params[j]? = some t → args[j]? = some v → Value.okWide Try.prog W .any base t v := hval0
  have hW' := hW
  obtain ⟨p, q, hA0, hV, rfl, hfz, hnd⟩ := hW
  have hA : DataW.TrodAll enc Try.prog W 0 (fun _ => true) true Try.f6.params.toList args.toList ds p := hA0
  rw [Try.params6] at hA hval
  obtain ⟨v0, vs0, d0, ds0, p0, q0, hargs0, rfl, rfl, h0, r0⟩ := trodAll_cons hA
  obtain ⟨v1, vs1, d1, ds1, p1, q1, hargs1, rfl, rfl, h1, r1⟩ := trodAll_cons r0
  obtain ⟨v2, vs2, d2, ds2, p2, q2, hargs2, rfl, rfl, h2, r2⟩ := trodAll_cons r1
  obtain ⟨v3, vs3, d3, ds3, p3, q3, hargs3, rfl, rfl, h3, r3⟩ := trodAll_cons r2
  obtain ⟨rfl, rfl, rfl⟩ := trodAll_nil r3
  obtain rfl : args = #[v0, v1, v2, v3] := by cases args; simp_all
  obtain ⟨rfl, rfl⟩ := trodVars_none hV
  obtain ⟨n0, b0, e0⟩ := open_frame (hval 0 23 v0 rfl rfl) h0
  obtain ⟨n1, b1, e1⟩ := open_frame (hval 1 23 v1 rfl rfl) h1
  obtain ⟨n2, b2, e2⟩ := open_u8 (hval 2 5 v2 rfl rfl) h2
  obtain ⟨n3, b3, e3⟩ := open_b (hval 3 4 v3 rfl rfl) h3
  clear hA0 hval0
  simp only [List.append_nil] at hW'
  have hlt0 : ∀ x ∈ p0, x.block < W.heap.size := fun x hx => hW'.lt x (by simp [hx])
  have hlt1 : ∀ x ∈ p1, x.block < W.heap.size := fun x hx => hW'.lt x (by simp [hx])
  have hlt2 : ∀ x ∈ p2, x.block < W.heap.size := fun x hx => hW'.lt x (by simp [hx])
  have hlt3 : ∀ x ∈ p3, x.block < W.heap.size := fun x hx => hW'.lt x (by simp [hx])
  have hwalk := walk W n0 b0 n1 b1 n2 b2 n3
  rw [← e0, ← e1, ← e2, ← e3] at hwalk
  refine hwalk.mono fun e W' ⟨he, hg⟩ => ?_
  subst he
  exact ⟨_, rfl, _, _, _, [], _, [], hW', (trodAll_cons_mk (shut_bool Try.underlying4 _) trodAll_mk0), (trodAll_cons_mk (Below.trod laidOut (by kernel_rfl) (of_decide_eq_true (by kernel_rfl)) h0 hg hlt0) (trodAll_cons_mk (Below.trod laidOut (by kernel_rfl) (of_decide_eq_true (by kernel_rfl)) h1 hg hlt1) (trodAll_cons_mk (Below.trod laidOut (by kernel_rfl) (of_decide_eq_true (by kernel_rfl)) h2 hg hlt2) (trodAll_cons_mk (Below.trod laidOut (by kernel_rfl) (of_decide_eq_true (by kernel_rfl)) h3 hg hlt3) trodAll_mk0)))), rfl, Below.frame hg _, fun h => by cases h⟩

theorem over : Rows.frameTornRow.holds Try.pinned (OpenSpec.ofChange Rows.frameTornSpec) :=
  OpenClaim.holds_of_wide 6 Try.f6 rfl rfl rfl rfl rfl rfl rfl ⟨rfl, rfl, rfl, rfl, rfl⟩ rfl rfl rfl rfl rfl (by kernel_rfl) Try.func6 (by kernel_rfl)
    (of_decide_eq_true (by kernel_rfl)) (by unfold Func.isWrapper; first | (rw [if_pos (by decide +kernel)]; kernel_rfl) | (rw [if_neg (by decide +kernel)]; exact ⟨rfl, rfl⟩))
    (fun os started H enc _ => lifted os started H enc)

/-- ████ THE STATEMENT ████ -/
theorem proved : Rows.FrameTornSaid :=
  over
#print axioms proved
end Go.Proofs.Ytnpjmjnekakgeaa.frameTorn
