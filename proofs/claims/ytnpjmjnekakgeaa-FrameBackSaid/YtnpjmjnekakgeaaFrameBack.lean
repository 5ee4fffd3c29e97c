/-
  PROVED: the statement 'FrameBackSaid': for every input the law FrameBack returns true, and each argument reads afterwards as it read before. No condition.
-/
import Derived.Test.YtnpjmjnekakgeaaFi
import Derived.Test.YtnpjmjnekakgeaaFt
import Derived.Test.YtnpjmjnekakgeaaRows
import Derived.WalkKit
import Derived.Deep.RegionHeld3
import Derived.BigQuiet
import Derived.ProofKit
import Derived.OpenShut
import Derived.ShutString
namespace Go.Proofs.Ytnpjmjnekakgeaa.frameBack
open Go.ChangeShapes Go.WideShapes Go.ChangeAt Go.RowKit
open Go.Proofs.Ytnpjmjnekakgeaa.Mem Go.Proofs.Ytnpjmjnekakgeaa.Pk Go.Proofs.Ytnpjmjnekakgeaa.Fk
set_option linter.unusedVariables false

theorem own : ownKnob Try.prog.godebug = none := by kernel_rfl
theorem laidOut : laidOutB Try.prog = true := by kernel_rfl

theorem two_boxes (w : World) (b l p q : Int) (k : Nat) (d : ByteArray) (b' l' p' q' : Int) (k' : Nat) (d' : ByteArray) :
    Kept w ((w.alloc (.cells #[.int .i64 b, .int .i64 l, .int .i64 p, .int .i64 q, .int .u8 k, .string d] 23)).alloc (.cells #[.int .i64 b', .int .i64 l', .int .i64 p', .int .i64 q', .int .u8 k', .string d'] 23)) ∧ Box ((w.alloc (.cells #[.int .i64 b, .int .i64 l, .int .i64 p, .int .i64 q, .int .u8 k, .string d] 23)).alloc (.cells #[.int .i64 b', .int .i64 l', .int .i64 p', .int .i64 q', .int .u8 k', .string d'] 23)) w.heap.size b l p q k d ∧ Box ((w.alloc (.cells #[.int .i64 b, .int .i64 l, .int .i64 p, .int .i64 q, .int .u8 k, .string d] 23)).alloc (.cells #[.int .i64 b', .int .i64 l', .int .i64 p', .int .i64 q', .int .u8 k', .string d'] 23)) (w.heap.size + 1) b' l' p' q' k' d' :=
  ⟨((Kept.refl w).alloc _).alloc _, (Box.start w 23 b l p q k d).kept ((Kept.refl _).alloc _), by have := Box.start (w.alloc (.cells #[.int .i64 b, .int .i64 l, .int .i64 p, .int .i64 q, .int .u8 k, .string d] 23)) 23 b' l' p' q' k' d'; simpa using this⟩

set_option maxRecDepth 100000 in
theorem r1 (b l p q b' l' p' q' : Int) (k k' : Nat) (d d' s : ByteArray) (h1 : decide (200 < (s.size : Int)) = true) (w : World) :
    Calls Try.prog 5 #[.agg #[.int .i64 b, .int .i64 l, .int .i64 p, .int .i64 q, .int .u8 k, .string d], .agg #[.int .i64 b', .int .i64 l', .int .i64 p', .int .i64 q', .int .u8 k', .string d'], .string s] w fun e w' => e = .returned (.bool true) ∧ Kept w w' := by
  have hkn : ∀ W, Calls Try.prog 9 #[] W fun e w' => e = .returned (.bool true) ∧ Kept W w' := known_c
  obtain ⟨kx, hA, hB⟩ := two_boxes w b l p q k d b' l' p' q' k' d'
  go_enter Try.func5, Try.ntmps5
  go_wp2_with (go_at_call 9; (with_reducible refine (hkn _).mono ?_); rintro e u4 ⟨rfl, k4⟩)
  all_goals
    go_ret
    exact ⟨rfl, kx.trans k4⟩
set_option maxRecDepth 100000 in
theorem r2 (b l p q b' l' p' q' : Int) (k k' : Nat) (d d' s : ByteArray) (h1 : decide (200 < (s.size : Int)) = false) (h2 : decide (200 < (d.size : Int)) = true) (w : World) :
    Calls Try.prog 5 #[.agg #[.int .i64 b, .int .i64 l, .int .i64 p, .int .i64 q, .int .u8 k, .string d], .agg #[.int .i64 b', .int .i64 l', .int .i64 p', .int .i64 q', .int .u8 k', .string d'], .string s] w fun e w' => e = .returned (.bool true) ∧ Kept w w' := by
  have hkn : ∀ W, Calls Try.prog 9 #[] W fun e w' => e = .returned (.bool true) ∧ Kept W w' := known_c
  obtain ⟨kx, hA, hB⟩ := two_boxes w b l p q k d b' l' p' q' k' d'
  go_enter Try.func5, Try.ntmps5
  go_wp2_with (go_at_call 9; (with_reducible refine (hkn _).mono ?_); rintro e u4 ⟨rfl, k4⟩)
  all_goals
    go_ret
    exact ⟨rfl, kx.trans k4⟩
set_option maxRecDepth 100000 in
theorem r3 (b l p q b' l' p' q' : Int) (k k' : Nat) (d d' s : ByteArray) (h1 : decide (200 < (s.size : Int)) = false) (h2 : decide (200 < (d.size : Int)) = false) (h3 : decide (200 < (d'.size : Int)) = true) (w : World) :
    Calls Try.prog 5 #[.agg #[.int .i64 b, .int .i64 l, .int .i64 p, .int .i64 q, .int .u8 k, .string d], .agg #[.int .i64 b', .int .i64 l', .int .i64 p', .int .i64 q', .int .u8 k', .string d'], .string s] w fun e w' => e = .returned (.bool true) ∧ Kept w w' := by
  have hkn : ∀ W, Calls Try.prog 9 #[] W fun e w' => e = .returned (.bool true) ∧ Kept W w' := known_c
  obtain ⟨kx, hA, hB⟩ := two_boxes w b l p q k d b' l' p' q' k' d'
  go_enter Try.func5, Try.ntmps5
  go_wp2_with (go_at_call 9; (with_reducible refine (hkn _).mono ?_); rintro e u4 ⟨rfl, k4⟩)
  all_goals
    go_ret
    exact ⟨rfl, kx.trans k4⟩
set_option maxHeartbeats 4000000 in
set_option maxRecDepth 100000 in
theorem en (b b' l l' p p' q q' bz lz pz qz E G : Int) (k k' kz : Nat) (d d' dz s X Y : ByteArray) (w : World)
    (h1 : decide (200 < (s.size : Int)) = false)
    (h2 : decide (200 < (d.size : Int)) = false)
    (h3 : decide (200 < (d'.size : Int)) = false)
    (t1 : (E == 0) = false)
    (ce : ∀ w, Calls Try.prog 10 #[.agg #[.int .i64 b, .int .i64 l, .int .i64 p, .int .i64 q, .int .u8 k, .string d]] w fun e w' => e = .returned (.tuple #[.string X, .int .i64 E]) ∧ Kept w w')
    (cg : ∀ w, Calls Try.prog 10 #[.agg #[.int .i64 b', .int .i64 l', .int .i64 p', .int .i64 q', .int .u8 k', .string d']] w fun e w' => e = .returned (.tuple #[.string Y, .int .i64 G]) ∧ Kept w w')
    (cd : ∀ w, Calls Try.prog 12 #[.string s] w fun e w' => e = .returned (.tuple #[.agg #[.int .i64 bz, .int .i64 lz, .int .i64 pz, .int .i64 qz, .int .u8 kz, .string dz], .int .i64 12]) ∧ Kept w w') :
    Calls Try.prog 5 #[.agg #[.int .i64 b, .int .i64 l, .int .i64 p, .int .i64 q, .int .u8 k, .string d], .agg #[.int .i64 b', .int .i64 l', .int .i64 p', .int .i64 q', .int .u8 k', .string d'], .string s] w fun e w' => e = .returned (.bool true) ∧ Kept w w' := by
  have hkn : ∀ W, Calls Try.prog 9 #[] W fun e w' => e = .returned (.bool true) ∧ Kept W w' := known_c
  obtain ⟨kx, hA, hB⟩ := two_boxes w b l p q k d b' l' p' q' k' d'
  obtain ⟨_, y0, y1, y2, y3, y4, y5⟩ := hB
  have hB := (two_boxes w b l p q k d b' l' p' q' k' d').2.2
  have ce1 := ce ((w.alloc (.cells #[.int .i64 b, .int .i64 l, .int .i64 p, .int .i64 q, .int .u8 k, .string d] 23)).alloc (.cells #[.int .i64 b', .int .i64 l', .int .i64 p', .int .i64 q', .int .u8 k', .string d'] 23))
  go_enter Try.func5, Try.ntmps5
  go_wp2_with (first
    | (go_at_call 10; (with_reducible refine ce1.mono ?_); rintro e u1 ⟨rfl, k1⟩; obtain ⟨_, c0, c1, c2, c3, c4, c5⟩ := hB.kept k1)
    | (go_at_call 10; (with_reducible refine (cg _).mono ?_); rintro e u2 ⟨rfl, k2⟩; have kq := (k1.trans k2))
    | (go_at_call 12; (with_reducible refine (cd _).mono ?_); rintro e u4 ⟨rfl, k4⟩; have kq := (kq.trans k4).alloc (.cells #[.int .i64 bz, .int .i64 lz, .int .i64 pz, .int .i64 qz, .int .u8 kz, .string dz] 23))
    | (go_at_call 9; (with_reducible refine (hkn _).mono ?_); rintro e u6 ⟨rfl, k6⟩))
  all_goals
    go_ret
    exact ⟨rfl, (kx.trans kq).trans k6⟩
set_option maxHeartbeats 4000000 in
set_option maxRecDepth 100000 in
theorem gn (b b' l l' p p' q q' bz lz pz qz G : Int) (k k' kz : Nat) (d d' dz s X Y : ByteArray) (w : World)
    (h1 : decide (200 < (s.size : Int)) = false)
    (h2 : decide (200 < (d.size : Int)) = false)
    (h3 : decide (200 < (d'.size : Int)) = false)
    (t1 : (G == 0) = false)
    (ce : ∀ w, Calls Try.prog 10 #[.agg #[.int .i64 b, .int .i64 l, .int .i64 p, .int .i64 q, .int .u8 k, .string d]] w fun e w' => e = .returned (.tuple #[.string X, .int .i64 0]) ∧ Kept w w')
    (cg : ∀ w, Calls Try.prog 10 #[.agg #[.int .i64 b', .int .i64 l', .int .i64 p', .int .i64 q', .int .u8 k', .string d']] w fun e w' => e = .returned (.tuple #[.string Y, .int .i64 G]) ∧ Kept w w')
    (cx : ∀ w, Calls Try.prog 12 #[.string X] w fun e w' => e = .returned (.tuple #[.agg #[.int .i64 b, .int .i64 l, .int .i64 p, .int .i64 q, .int .u8 k, .string d], .int .i64 0]) ∧ Kept w w')
    (cd : ∀ w, Calls Try.prog 12 #[.string s] w fun e w' => e = .returned (.tuple #[.agg #[.int .i64 bz, .int .i64 lz, .int .i64 pz, .int .i64 qz, .int .u8 kz, .string dz], .int .i64 12]) ∧ Kept w w') :
    Calls Try.prog 5 #[.agg #[.int .i64 b, .int .i64 l, .int .i64 p, .int .i64 q, .int .u8 k, .string d], .agg #[.int .i64 b', .int .i64 l', .int .i64 p', .int .i64 q', .int .u8 k', .string d'], .string s] w fun e w' => e = .returned (.bool true) ∧ Kept w w' := by
  have hkn : ∀ W, Calls Try.prog 9 #[] W fun e w' => e = .returned (.bool true) ∧ Kept W w' := known_c
  obtain ⟨kx, hA, hB⟩ := two_boxes w b l p q k d b' l' p' q' k' d'
  obtain ⟨_, y0, y1, y2, y3, y4, y5⟩ := hB
  have hB := (two_boxes w b l p q k d b' l' p' q' k' d').2.2
  have ce1 := ce ((w.alloc (.cells #[.int .i64 b, .int .i64 l, .int .i64 p, .int .i64 q, .int .u8 k, .string d] 23)).alloc (.cells #[.int .i64 b', .int .i64 l', .int .i64 p', .int .i64 q', .int .u8 k', .string d'] 23))
  go_enter Try.func5, Try.ntmps5
  go_wp2_with (first
    | (go_at_call 10; (with_reducible refine ce1.mono ?_); rintro e u1 ⟨rfl, k1⟩; obtain ⟨_, c0, c1, c2, c3, c4, c5⟩ := hB.kept k1)
    | (go_at_call 10; (with_reducible refine (cg _).mono ?_); rintro e u2 ⟨rfl, k2⟩; have kq := (k1.trans k2))
    | (go_at_call 12; (with_reducible refine (cx _).mono ?_); rintro e u3 ⟨rfl, k3⟩; have kq := (kq.trans k3).alloc (.cells #[.int .i64 b, .int .i64 l, .int .i64 p, .int .i64 q, .int .u8 k, .string d] 23); obtain ⟨_, f0, f1, f2, f3, f4, f5⟩ := hA.kept kq; obtain ⟨_, g0, g1, g2, g3, g4, g5⟩ := hB.kept kq)
    | (go_at_call 12; (with_reducible refine (cd _).mono ?_); rintro e u4 ⟨rfl, k4⟩; have kq := (kq.trans k4).alloc (.cells #[.int .i64 bz, .int .i64 lz, .int .i64 pz, .int .i64 qz, .int .u8 kz, .string dz] 23))
    | (go_at_call 9; (with_reducible refine (hkn _).mono ?_); rintro e u6 ⟨rfl, k6⟩))
  all_goals
    go_ret
    exact ⟨rfl, (kx.trans kq).trans k6⟩
set_option maxHeartbeats 4000000 in
set_option maxRecDepth 100000 in
theorem dn (b b' l l' p p' q q' bz lz pz qz : Int) (k k' kz : Nat) (d d' dz s X Y : ByteArray) (w : World)
    (h1 : decide (200 < (s.size : Int)) = false)
    (h2 : decide (200 < (d.size : Int)) = false)
    (h3 : decide (200 < (d'.size : Int)) = false)
    (t2 : (X.toList == Y.toList) = false)
    (t3 : ∀ w, (binOp .eql 23 (.agg #[.int .i64 b, .int .i64 l, .int .i64 p, .int .i64 q, .int .u8 k, .string d]) (.agg #[.int .i64 b', .int .i64 l', .int .i64 p', .int .i64 q', .int .u8 k', .string d'])).run Try.prog w = .ok (.bool false) w)
    (ce : ∀ w, Calls Try.prog 10 #[.agg #[.int .i64 b, .int .i64 l, .int .i64 p, .int .i64 q, .int .u8 k, .string d]] w fun e w' => e = .returned (.tuple #[.string X, .int .i64 0]) ∧ Kept w w')
    (cg : ∀ w, Calls Try.prog 10 #[.agg #[.int .i64 b', .int .i64 l', .int .i64 p', .int .i64 q', .int .u8 k', .string d']] w fun e w' => e = .returned (.tuple #[.string Y, .int .i64 0]) ∧ Kept w w')
    (cx : ∀ w, Calls Try.prog 12 #[.string X] w fun e w' => e = .returned (.tuple #[.agg #[.int .i64 b, .int .i64 l, .int .i64 p, .int .i64 q, .int .u8 k, .string d], .int .i64 0]) ∧ Kept w w')
    (cd : ∀ w, Calls Try.prog 12 #[.string s] w fun e w' => e = .returned (.tuple #[.agg #[.int .i64 bz, .int .i64 lz, .int .i64 pz, .int .i64 qz, .int .u8 kz, .string dz], .int .i64 12]) ∧ Kept w w') :
    Calls Try.prog 5 #[.agg #[.int .i64 b, .int .i64 l, .int .i64 p, .int .i64 q, .int .u8 k, .string d], .agg #[.int .i64 b', .int .i64 l', .int .i64 p', .int .i64 q', .int .u8 k', .string d'], .string s] w fun e w' => e = .returned (.bool true) ∧ Kept w w' := by
  have hkn : ∀ W, Calls Try.prog 9 #[] W fun e w' => e = .returned (.bool true) ∧ Kept W w' := known_c
  obtain ⟨kx, hA, hB⟩ := two_boxes w b l p q k d b' l' p' q' k' d'
  obtain ⟨_, y0, y1, y2, y3, y4, y5⟩ := hB
  have hB := (two_boxes w b l p q k d b' l' p' q' k' d').2.2
  have ce1 := ce ((w.alloc (.cells #[.int .i64 b, .int .i64 l, .int .i64 p, .int .i64 q, .int .u8 k, .string d] 23)).alloc (.cells #[.int .i64 b', .int .i64 l', .int .i64 p', .int .i64 q', .int .u8 k', .string d'] 23))
  go_enter Try.func5, Try.ntmps5
  go_wp2_with (first
    | (go_at_call 10; (with_reducible refine ce1.mono ?_); rintro e u1 ⟨rfl, k1⟩; obtain ⟨_, c0, c1, c2, c3, c4, c5⟩ := hB.kept k1)
    | (go_at_call 10; (with_reducible refine (cg _).mono ?_); rintro e u2 ⟨rfl, k2⟩; have kq := (k1.trans k2))
    | (go_at_call 12; (with_reducible refine (cx _).mono ?_); rintro e u3 ⟨rfl, k3⟩; have kq := (kq.trans k3).alloc (.cells #[.int .i64 b, .int .i64 l, .int .i64 p, .int .i64 q, .int .u8 k, .string d] 23); obtain ⟨_, f0, f1, f2, f3, f4, f5⟩ := hA.kept kq; obtain ⟨_, g0, g1, g2, g3, g4, g5⟩ := hB.kept kq)
    | (go_at_call 12; (with_reducible refine (cd _).mono ?_); rintro e u4 ⟨rfl, k4⟩; have kq := (kq.trans k4).alloc (.cells #[.int .i64 bz, .int .i64 lz, .int .i64 pz, .int .i64 qz, .int .u8 kz, .string dz] 23))
    | (go_at_call 9; (with_reducible refine (hkn _).mono ?_); rintro e u6 ⟨rfl, k6⟩))
  all_goals
    go_ret
    exact ⟨rfl, (kx.trans kq).trans k6⟩
set_option maxHeartbeats 4000000 in
set_option maxRecDepth 100000 in
theorem sn (b l p q bz lz pz qz : Int) (k kz : Nat) (d dz s X : ByteArray) (w : World)
    (h1 : decide (200 < (s.size : Int)) = false)
    (h2 : decide (200 < (d.size : Int)) = false)
    (ce : ∀ w, Calls Try.prog 10 #[.agg #[.int .i64 b, .int .i64 l, .int .i64 p, .int .i64 q, .int .u8 k, .string d]] w fun e w' => e = .returned (.tuple #[.string X, .int .i64 0]) ∧ Kept w w')
    (cx : ∀ w, Calls Try.prog 12 #[.string X] w fun e w' => e = .returned (.tuple #[.agg #[.int .i64 b, .int .i64 l, .int .i64 p, .int .i64 q, .int .u8 k, .string d], .int .i64 0]) ∧ Kept w w')
    (cd : ∀ w, Calls Try.prog 12 #[.string s] w fun e w' => e = .returned (.tuple #[.agg #[.int .i64 bz, .int .i64 lz, .int .i64 pz, .int .i64 qz, .int .u8 kz, .string dz], .int .i64 12]) ∧ Kept w w') :
    Calls Try.prog 5 #[.agg #[.int .i64 b, .int .i64 l, .int .i64 p, .int .i64 q, .int .u8 k, .string d], .agg #[.int .i64 b, .int .i64 l, .int .i64 p, .int .i64 q, .int .u8 k, .string d], .string s] w fun e w' => e = .returned (.bool true) ∧ Kept w w' := by
  have hkn : ∀ W, Calls Try.prog 9 #[] W fun e w' => e = .returned (.bool true) ∧ Kept W w' := known_c
  obtain ⟨kx, hA, hB⟩ := two_boxes w b l p q k d b l p q k d
  obtain ⟨_, y0, y1, y2, y3, y4, y5⟩ := hB
  have hB := (two_boxes w b l p q k d b l p q k d).2.2
  have ce1 := ce ((w.alloc (.cells #[.int .i64 b, .int .i64 l, .int .i64 p, .int .i64 q, .int .u8 k, .string d] 23)).alloc (.cells #[.int .i64 b, .int .i64 l, .int .i64 p, .int .i64 q, .int .u8 k, .string d] 23))
  go_enter Try.func5, Try.ntmps5
  go_wp2_with (first
    | (go_at_call 10; (with_reducible refine ce1.mono ?_); rintro e u1 ⟨rfl, k1⟩; obtain ⟨_, c0, c1, c2, c3, c4, c5⟩ := hB.kept k1)
    | (go_at_call 10; (with_reducible refine (ce _).mono ?_); rintro e u2 ⟨rfl, k2⟩; have kq := (k1.trans k2))
    | (go_at_call 12; (with_reducible refine (cx _).mono ?_); rintro e u3 ⟨rfl, k3⟩; have kq := (kq.trans k3).alloc (.cells #[.int .i64 b, .int .i64 l, .int .i64 p, .int .i64 q, .int .u8 k, .string d] 23); obtain ⟨_, f0, f1, f2, f3, f4, f5⟩ := hA.kept kq; obtain ⟨_, g0, g1, g2, g3, g4, g5⟩ := hB.kept kq)
    | (go_at_call 12; (with_reducible refine (cd _).mono ?_); rintro e u4 ⟨rfl, k4⟩; have kq := (kq.trans k4).alloc (.cells #[.int .i64 bz, .int .i64 lz, .int .i64 pz, .int .i64 qz, .int .u8 kz, .string dz] 23))
    | (go_at_call 9; (with_reducible refine (hkn _).mono ?_); rintro e u6 ⟨rfl, k6⟩))
  all_goals
    go_ret
    exact ⟨rfl, (kx.trans kq).trans k6⟩
set_option maxHeartbeats 4000000 in
set_option maxRecDepth 100000 in
theorem ey (b b' l l' p p' q q' bz lz pz qz E G : Int) (k k' kz : Nat) (d d' dz s X Y : ByteArray) (w : World)
    (h1 : decide (200 < (s.size : Int)) = false)
    (h2 : decide (200 < (d.size : Int)) = false)
    (h3 : decide (200 < (d'.size : Int)) = false)
    (t1 : (E == 0) = false)
    (ce : ∀ w, Calls Try.prog 10 #[.agg #[.int .i64 b, .int .i64 l, .int .i64 p, .int .i64 q, .int .u8 k, .string d]] w fun e w' => e = .returned (.tuple #[.string X, .int .i64 E]) ∧ Kept w w')
    (cg : ∀ w, Calls Try.prog 10 #[.agg #[.int .i64 b', .int .i64 l', .int .i64 p', .int .i64 q', .int .u8 k', .string d']] w fun e w' => e = .returned (.tuple #[.string Y, .int .i64 G]) ∧ Kept w w')
    (cd : ∀ w, Calls Try.prog 12 #[.string s] w fun e w' => e = .returned (.tuple #[.agg #[.int .i64 bz, .int .i64 lz, .int .i64 pz, .int .i64 qz, .int .u8 kz, .string dz], .int .i64 0]) ∧ Kept w w')
    (ct : ∀ w, Calls Try.prog 10 #[.agg #[.int .i64 bz, .int .i64 lz, .int .i64 pz, .int .i64 qz, .int .u8 kz, .string dz]] w fun e w' => e = .returned (.tuple #[.string s, .int .i64 0]) ∧ Kept w w') :
    Calls Try.prog 5 #[.agg #[.int .i64 b, .int .i64 l, .int .i64 p, .int .i64 q, .int .u8 k, .string d], .agg #[.int .i64 b', .int .i64 l', .int .i64 p', .int .i64 q', .int .u8 k', .string d'], .string s] w fun e w' => e = .returned (.bool true) ∧ Kept w w' := by
  have hkn : ∀ W, Calls Try.prog 9 #[] W fun e w' => e = .returned (.bool true) ∧ Kept W w' := known_c
  obtain ⟨kx, hA, hB⟩ := two_boxes w b l p q k d b' l' p' q' k' d'
  obtain ⟨_, y0, y1, y2, y3, y4, y5⟩ := hB
  have hB := (two_boxes w b l p q k d b' l' p' q' k' d').2.2
  have ce1 := ce ((w.alloc (.cells #[.int .i64 b, .int .i64 l, .int .i64 p, .int .i64 q, .int .u8 k, .string d] 23)).alloc (.cells #[.int .i64 b', .int .i64 l', .int .i64 p', .int .i64 q', .int .u8 k', .string d'] 23))
  go_enter Try.func5, Try.ntmps5
  go_wp2_with (first
    | (go_at_call 10; (with_reducible refine ce1.mono ?_); rintro e u1 ⟨rfl, k1⟩; obtain ⟨_, c0, c1, c2, c3, c4, c5⟩ := hB.kept k1)
    | (go_at_call 10; (with_reducible refine (cg _).mono ?_); rintro e u2 ⟨rfl, k2⟩; have kq := (k1.trans k2))
    | (go_at_call 12; (with_reducible refine (cd _).mono ?_); rintro e u4 ⟨rfl, k4⟩; have kq := (kq.trans k4).alloc (.cells #[.int .i64 bz, .int .i64 lz, .int .i64 pz, .int .i64 qz, .int .u8 kz, .string dz] 23))
    | (go_at_call 10; (with_reducible refine (ct _).mono ?_); rintro e u5 ⟨rfl, k5⟩; have kq := kq.trans k5)
    | (go_at_call 9; (with_reducible refine (hkn _).mono ?_); rintro e u6 ⟨rfl, k6⟩))
  all_goals
    go_ret
    exact ⟨rfl, (kx.trans kq).trans k6⟩
set_option maxHeartbeats 4000000 in
set_option maxRecDepth 100000 in
theorem gy (b b' l l' p p' q q' bz lz pz qz G : Int) (k k' kz : Nat) (d d' dz s X Y : ByteArray) (w : World)
    (h1 : decide (200 < (s.size : Int)) = false)
    (h2 : decide (200 < (d.size : Int)) = false)
    (h3 : decide (200 < (d'.size : Int)) = false)
    (t1 : (G == 0) = false)
    (ce : ∀ w, Calls Try.prog 10 #[.agg #[.int .i64 b, .int .i64 l, .int .i64 p, .int .i64 q, .int .u8 k, .string d]] w fun e w' => e = .returned (.tuple #[.string X, .int .i64 0]) ∧ Kept w w')
    (cg : ∀ w, Calls Try.prog 10 #[.agg #[.int .i64 b', .int .i64 l', .int .i64 p', .int .i64 q', .int .u8 k', .string d']] w fun e w' => e = .returned (.tuple #[.string Y, .int .i64 G]) ∧ Kept w w')
    (cx : ∀ w, Calls Try.prog 12 #[.string X] w fun e w' => e = .returned (.tuple #[.agg #[.int .i64 b, .int .i64 l, .int .i64 p, .int .i64 q, .int .u8 k, .string d], .int .i64 0]) ∧ Kept w w')
    (cd : ∀ w, Calls Try.prog 12 #[.string s] w fun e w' => e = .returned (.tuple #[.agg #[.int .i64 bz, .int .i64 lz, .int .i64 pz, .int .i64 qz, .int .u8 kz, .string dz], .int .i64 0]) ∧ Kept w w')
    (ct : ∀ w, Calls Try.prog 10 #[.agg #[.int .i64 bz, .int .i64 lz, .int .i64 pz, .int .i64 qz, .int .u8 kz, .string dz]] w fun e w' => e = .returned (.tuple #[.string s, .int .i64 0]) ∧ Kept w w') :
    Calls Try.prog 5 #[.agg #[.int .i64 b, .int .i64 l, .int .i64 p, .int .i64 q, .int .u8 k, .string d], .agg #[.int .i64 b', .int .i64 l', .int .i64 p', .int .i64 q', .int .u8 k', .string d'], .string s] w fun e w' => e = .returned (.bool true) ∧ Kept w w' := by
  have hkn : ∀ W, Calls Try.prog 9 #[] W fun e w' => e = .returned (.bool true) ∧ Kept W w' := known_c
  obtain ⟨kx, hA, hB⟩ := two_boxes w b l p q k d b' l' p' q' k' d'
  obtain ⟨_, y0, y1, y2, y3, y4, y5⟩ := hB
  have hB := (two_boxes w b l p q k d b' l' p' q' k' d').2.2
  have ce1 := ce ((w.alloc (.cells #[.int .i64 b, .int .i64 l, .int .i64 p, .int .i64 q, .int .u8 k, .string d] 23)).alloc (.cells #[.int .i64 b', .int .i64 l', .int .i64 p', .int .i64 q', .int .u8 k', .string d'] 23))
  go_enter Try.func5, Try.ntmps5
  go_wp2_with (first
    | (go_at_call 10; (with_reducible refine ce1.mono ?_); rintro e u1 ⟨rfl, k1⟩; obtain ⟨_, c0, c1, c2, c3, c4, c5⟩ := hB.kept k1)
    | (go_at_call 10; (with_reducible refine (cg _).mono ?_); rintro e u2 ⟨rfl, k2⟩; have kq := (k1.trans k2))
    | (go_at_call 12; (with_reducible refine (cx _).mono ?_); rintro e u3 ⟨rfl, k3⟩; have kq := (kq.trans k3).alloc (.cells #[.int .i64 b, .int .i64 l, .int .i64 p, .int .i64 q, .int .u8 k, .string d] 23); obtain ⟨_, f0, f1, f2, f3, f4, f5⟩ := hA.kept kq; obtain ⟨_, g0, g1, g2, g3, g4, g5⟩ := hB.kept kq)
    | (go_at_call 12; (with_reducible refine (cd _).mono ?_); rintro e u4 ⟨rfl, k4⟩; have kq := (kq.trans k4).alloc (.cells #[.int .i64 bz, .int .i64 lz, .int .i64 pz, .int .i64 qz, .int .u8 kz, .string dz] 23))
    | (go_at_call 10; (with_reducible refine (ct _).mono ?_); rintro e u5 ⟨rfl, k5⟩; have kq := kq.trans k5)
    | (go_at_call 9; (with_reducible refine (hkn _).mono ?_); rintro e u6 ⟨rfl, k6⟩))
  all_goals
    go_ret
    exact ⟨rfl, (kx.trans kq).trans k6⟩
set_option maxHeartbeats 4000000 in
set_option maxRecDepth 100000 in
theorem dy (b b' l l' p p' q q' bz lz pz qz : Int) (k k' kz : Nat) (d d' dz s X Y : ByteArray) (w : World)
    (h1 : decide (200 < (s.size : Int)) = false)
    (h2 : decide (200 < (d.size : Int)) = false)
    (h3 : decide (200 < (d'.size : Int)) = false)
    (t2 : (X.toList == Y.toList) = false)
    (t3 : ∀ w, (binOp .eql 23 (.agg #[.int .i64 b, .int .i64 l, .int .i64 p, .int .i64 q, .int .u8 k, .string d]) (.agg #[.int .i64 b', .int .i64 l', .int .i64 p', .int .i64 q', .int .u8 k', .string d'])).run Try.prog w = .ok (.bool false) w)
    (ce : ∀ w, Calls Try.prog 10 #[.agg #[.int .i64 b, .int .i64 l, .int .i64 p, .int .i64 q, .int .u8 k, .string d]] w fun e w' => e = .returned (.tuple #[.string X, .int .i64 0]) ∧ Kept w w')
    (cg : ∀ w, Calls Try.prog 10 #[.agg #[.int .i64 b', .int .i64 l', .int .i64 p', .int .i64 q', .int .u8 k', .string d']] w fun e w' => e = .returned (.tuple #[.string Y, .int .i64 0]) ∧ Kept w w')
    (cx : ∀ w, Calls Try.prog 12 #[.string X] w fun e w' => e = .returned (.tuple #[.agg #[.int .i64 b, .int .i64 l, .int .i64 p, .int .i64 q, .int .u8 k, .string d], .int .i64 0]) ∧ Kept w w')
    (cd : ∀ w, Calls Try.prog 12 #[.string s] w fun e w' => e = .returned (.tuple #[.agg #[.int .i64 bz, .int .i64 lz, .int .i64 pz, .int .i64 qz, .int .u8 kz, .string dz], .int .i64 0]) ∧ Kept w w')
    (ct : ∀ w, Calls Try.prog 10 #[.agg #[.int .i64 bz, .int .i64 lz, .int .i64 pz, .int .i64 qz, .int .u8 kz, .string dz]] w fun e w' => e = .returned (.tuple #[.string s, .int .i64 0]) ∧ Kept w w') :
    Calls Try.prog 5 #[.agg #[.int .i64 b, .int .i64 l, .int .i64 p, .int .i64 q, .int .u8 k, .string d], .agg #[.int .i64 b', .int .i64 l', .int .i64 p', .int .i64 q', .int .u8 k', .string d'], .string s] w fun e w' => e = .returned (.bool true) ∧ Kept w w' := by
  have hkn : ∀ W, Calls Try.prog 9 #[] W fun e w' => e = .returned (.bool true) ∧ Kept W w' := known_c
  obtain ⟨kx, hA, hB⟩ := two_boxes w b l p q k d b' l' p' q' k' d'
  obtain ⟨_, y0, y1, y2, y3, y4, y5⟩ := hB
  have hB := (two_boxes w b l p q k d b' l' p' q' k' d').2.2
  have ce1 := ce ((w.alloc (.cells #[.int .i64 b, .int .i64 l, .int .i64 p, .int .i64 q, .int .u8 k, .string d] 23)).alloc (.cells #[.int .i64 b', .int .i64 l', .int .i64 p', .int .i64 q', .int .u8 k', .string d'] 23))
  go_enter Try.func5, Try.ntmps5
  go_wp2_with (first
    | (go_at_call 10; (with_reducible refine ce1.mono ?_); rintro e u1 ⟨rfl, k1⟩; obtain ⟨_, c0, c1, c2, c3, c4, c5⟩ := hB.kept k1)
    | (go_at_call 10; (with_reducible refine (cg _).mono ?_); rintro e u2 ⟨rfl, k2⟩; have kq := (k1.trans k2))
    | (go_at_call 12; (with_reducible refine (cx _).mono ?_); rintro e u3 ⟨rfl, k3⟩; have kq := (kq.trans k3).alloc (.cells #[.int .i64 b, .int .i64 l, .int .i64 p, .int .i64 q, .int .u8 k, .string d] 23); obtain ⟨_, f0, f1, f2, f3, f4, f5⟩ := hA.kept kq; obtain ⟨_, g0, g1, g2, g3, g4, g5⟩ := hB.kept kq)
    | (go_at_call 12; (with_reducible refine (cd _).mono ?_); rintro e u4 ⟨rfl, k4⟩; have kq := (kq.trans k4).alloc (.cells #[.int .i64 bz, .int .i64 lz, .int .i64 pz, .int .i64 qz, .int .u8 kz, .string dz] 23))
    | (go_at_call 10; (with_reducible refine (ct _).mono ?_); rintro e u5 ⟨rfl, k5⟩; have kq := kq.trans k5)
    | (go_at_call 9; (with_reducible refine (hkn _).mono ?_); rintro e u6 ⟨rfl, k6⟩))
  all_goals
    go_ret
    exact ⟨rfl, (kx.trans kq).trans k6⟩
set_option maxHeartbeats 4000000 in
set_option maxRecDepth 100000 in
theorem sy (b l p q bz lz pz qz : Int) (k kz : Nat) (d dz s X : ByteArray) (w : World)
    (h1 : decide (200 < (s.size : Int)) = false)
    (h2 : decide (200 < (d.size : Int)) = false)
    (ce : ∀ w, Calls Try.prog 10 #[.agg #[.int .i64 b, .int .i64 l, .int .i64 p, .int .i64 q, .int .u8 k, .string d]] w fun e w' => e = .returned (.tuple #[.string X, .int .i64 0]) ∧ Kept w w')
    (cx : ∀ w, Calls Try.prog 12 #[.string X] w fun e w' => e = .returned (.tuple #[.agg #[.int .i64 b, .int .i64 l, .int .i64 p, .int .i64 q, .int .u8 k, .string d], .int .i64 0]) ∧ Kept w w')
    (cd : ∀ w, Calls Try.prog 12 #[.string s] w fun e w' => e = .returned (.tuple #[.agg #[.int .i64 bz, .int .i64 lz, .int .i64 pz, .int .i64 qz, .int .u8 kz, .string dz], .int .i64 0]) ∧ Kept w w')
    (ct : ∀ w, Calls Try.prog 10 #[.agg #[.int .i64 bz, .int .i64 lz, .int .i64 pz, .int .i64 qz, .int .u8 kz, .string dz]] w fun e w' => e = .returned (.tuple #[.string s, .int .i64 0]) ∧ Kept w w') :
    Calls Try.prog 5 #[.agg #[.int .i64 b, .int .i64 l, .int .i64 p, .int .i64 q, .int .u8 k, .string d], .agg #[.int .i64 b, .int .i64 l, .int .i64 p, .int .i64 q, .int .u8 k, .string d], .string s] w fun e w' => e = .returned (.bool true) ∧ Kept w w' := by
  have hkn : ∀ W, Calls Try.prog 9 #[] W fun e w' => e = .returned (.bool true) ∧ Kept W w' := known_c
  obtain ⟨kx, hA, hB⟩ := two_boxes w b l p q k d b l p q k d
  obtain ⟨_, y0, y1, y2, y3, y4, y5⟩ := hB
  have hB := (two_boxes w b l p q k d b l p q k d).2.2
  have ce1 := ce ((w.alloc (.cells #[.int .i64 b, .int .i64 l, .int .i64 p, .int .i64 q, .int .u8 k, .string d] 23)).alloc (.cells #[.int .i64 b, .int .i64 l, .int .i64 p, .int .i64 q, .int .u8 k, .string d] 23))
  go_enter Try.func5, Try.ntmps5
  go_wp2_with (first
    | (go_at_call 10; (with_reducible refine ce1.mono ?_); rintro e u1 ⟨rfl, k1⟩; obtain ⟨_, c0, c1, c2, c3, c4, c5⟩ := hB.kept k1)
    | (go_at_call 10; (with_reducible refine (ce _).mono ?_); rintro e u2 ⟨rfl, k2⟩; have kq := (k1.trans k2))
    | (go_at_call 12; (with_reducible refine (cx _).mono ?_); rintro e u3 ⟨rfl, k3⟩; have kq := (kq.trans k3).alloc (.cells #[.int .i64 b, .int .i64 l, .int .i64 p, .int .i64 q, .int .u8 k, .string d] 23); obtain ⟨_, f0, f1, f2, f3, f4, f5⟩ := hA.kept kq; obtain ⟨_, g0, g1, g2, g3, g4, g5⟩ := hB.kept kq)
    | (go_at_call 12; (with_reducible refine (cd _).mono ?_); rintro e u4 ⟨rfl, k4⟩; have kq := (kq.trans k4).alloc (.cells #[.int .i64 bz, .int .i64 lz, .int .i64 pz, .int .i64 qz, .int .u8 kz, .string dz] 23))
    | (go_at_call 10; (with_reducible refine (ct _).mono ?_); rintro e u5 ⟨rfl, k5⟩; have kq := kq.trans k5)
    | (go_at_call 9; (with_reducible refine (hkn _).mono ?_); rintro e u6 ⟨rfl, k6⟩))
  all_goals
    go_ret
    exact ⟨rfl, (kx.trans kq).trans k6⟩
theorem dA {a : Fr} (ga : a.good) (ka : a.kind < 256) (w : World) :
    Calls Try.prog 12 #[.string a.enc] w fun e w' => e = .returned (.tuple #[.agg #[.int .i64 a.boot, .int .i64 a.lsn, .int .i64 a.part, .int .i64 a.parts, .int .u8 a.kind, .string a.data], .int .i64 0]) ∧ Kept w w' := by
  have h := decode_c a.enc w
  rw [(decF_enc ga ka).1, (decF_enc ga ka).2] at h
  exact h
theorem walk (w : World) (a : Fr) (ha : a.ok) (c : Fr) (hc : c.ok) (s : ByteArray) (hs : s.size ≤ maxLen) :
    Calls Try.prog 5 #[.agg #[.int .i64 a.boot, .int .i64 a.lsn, .int .i64 a.part, .int .i64 a.parts, .int .u8 a.kind, .string a.data], .agg #[.int .i64 c.boot, .int .i64 c.lsn, .int .i64 c.part, .int .i64 c.parts, .int .u8 c.kind, .string c.data], .string s] w fun e w' => e = .returned (.bool true) ∧ Kept w w' := by
  have ce := encode_c a ha.k ha.d
  have cg := encode_c c hc.k hc.d
  by_cases b1 : 200 < s.size
  · exact r1 _ _ _ _ _ _ _ _ _ _ _ _ s (by simp; omega) w
  have h1 : decide (200 < (s.size : Int)) = false := by simp; omega
  by_cases b2 : 200 < a.data.size
  · exact r2 _ _ _ _ _ _ _ _ _ _ _ _ s h1 (by simp; omega) w
  have h2 : decide (200 < (a.data.size : Int)) = false := by simp; omega
  by_cases b3 : 200 < c.data.size
  · exact r3 _ _ _ _ _ _ _ _ _ _ _ _ s h1 h2 (by simp; omega) w
  have h3 : decide (200 < (c.data.size : Int)) = false := by simp; omega
  clear b1 b2 b3
  have cd := decode_c s
  rcases decE_or s with ⟨de, _⟩ | ⟨de, _⟩
  · have ct := encode_c (decF s) (dec_some (by assumption)).2.1 (Nat.le_trans (dec_some (by assumption)).1.short (by decide))
    rw [(enc_dec de).1, (enc_dec de).2] at ct
    rw [de] at cd
    by_cases g1 : a.err = 0
    · have ga := a.err_zero.mp g1
      rw [g1] at ce
      have cx := dA ga ha.k
      by_cases g2 : c.err = 0
      · have gc := c.err_zero.mp g2
        rw [g2] at cg
        by_cases hq : a = c
        · subst hq
          exact sy _ _ _ _ _ _ _ _ _ _ _ _ _ _ w h1 h2 ce cx cd ct
        · have t2 : (a.enc.toList == c.enc.toList) = false := by
            refine beq_eq_false_iff_ne.mpr fun h => hq (sec_inj ga gc ha.k hc.k (str_inj ?_))
            rw [← Lib.toList_data, ← Lib.toList_data]; exact h
          have t3 : ∀ w, _ := eqlF a.boot a.lsn a.part a.parts a.kind a.data c.boot c.lsn c.part c.parts c.kind c.data
          rw [show same a.boot a.lsn a.part a.parts a.kind a.data c.boot c.lsn c.part c.parts c.kind c.data = false from Bool.eq_false_iff.mpr fun h => hq (same_iff.mp h)] at t3
          exact dy _ _ _ _ _ _ _ _ _ _ _ _ _ _ _ _ _ _ _ _ _ w h1 h2 h3 t2 t3 ce cg cx cd ct
      · exact gy _ _ _ _ _ _ _ _ _ _ _ _ _ _ _ _ _ _ _ _ _ _ w h1 h2 h3 (beq_eq_false_iff_ne.mpr g2) ce cg cx cd ct
    · exact ey _ _ _ _ _ _ _ _ _ _ _ _ _ _ _ _ _ _ _ _ _ _ _ w h1 h2 h3 (beq_eq_false_iff_ne.mpr g1) ce cg cd ct
  · rw [de] at cd
    by_cases g1 : a.err = 0
    · have ga := a.err_zero.mp g1
      rw [g1] at ce
      have cx := dA ga ha.k
      by_cases g2 : c.err = 0
      · have gc := c.err_zero.mp g2
        rw [g2] at cg
        by_cases hq : a = c
        · subst hq
          exact sn _ _ _ _ _ _ _ _ _ _ _ _ _ _ w h1 h2 ce cx cd
        · have t2 : (a.enc.toList == c.enc.toList) = false := by
            refine beq_eq_false_iff_ne.mpr fun h => hq (sec_inj ga gc ha.k hc.k (str_inj ?_))
            rw [← Lib.toList_data, ← Lib.toList_data]; exact h
          have t3 : ∀ w, _ := eqlF a.boot a.lsn a.part a.parts a.kind a.data c.boot c.lsn c.part c.parts c.kind c.data
          rw [show same a.boot a.lsn a.part a.parts a.kind a.data c.boot c.lsn c.part c.parts c.kind c.data = false from Bool.eq_false_iff.mpr fun h => hq (same_iff.mp h)] at t3
          exact dn _ _ _ _ _ _ _ _ _ _ _ _ _ _ _ _ _ _ _ _ _ w h1 h2 h3 t2 t3 ce cg cx cd
      · exact gn _ _ _ _ _ _ _ _ _ _ _ _ _ _ _ _ _ _ _ _ _ _ w h1 h2 h3 (beq_eq_false_iff_ne.mpr g2) ce cg cx cd
    · exact en _ _ _ _ _ _ _ _ _ _ _ _ _ _ _ _ _ _ _ _ _ _ _ w h1 h2 h3 (beq_eq_false_iff_ne.mpr g1) ce cg cd

set_option maxRecDepth 100000 in
theorem lifted (os : Os) (started : os.Started) (H : Type) (enc : TypeId × Value → H) :
    ReturnsInHanded {} Try.checked os 5 .any (Rows.frameBackSpec.pre6 enc Try.prog Try.f5 Rows.frameBackRow.domain false) (Rows.frameBackSpec.post enc Try.prog Try.f5 false true false false) := by
  refine returnsInHanded_of_change (C := Try.checked) own started (by kernel_rfl) Try.func5
    (ChangeSpec.witness6 (enc := enc) (C := Try.checked) false ⟨#[], #[.agg #[.int .i64 0, .int .i64 0, .int .i64 0, .int .i64 0, .int .u8 0, .string ByteArray.empty], .agg #[.int .i64 0, .int .i64 0, .int .i64 0, .int .i64 0, .int .u8 0, .string ByteArray.empty], .string ByteArray.empty], []⟩ 8 (by kernel_rfl) (by kernel_rfl) (by kernel_rfl) (by kernel_rfl)) ?_
  intro W base args ds gs before hval0 hW hcnd _
  have hval : ∀ (j : Nat) t v, Try.f5.params[j]? = some t → args[j]? = some v → Value.okWide Try.prog W .any base t v := hval0
  have hW' := hW
  obtain ⟨p, q, hA0, hV, rfl, hfz, hnd⟩ := hW
  have hA : DataW.TrodAll enc Try.prog W 0 (fun _ => true) true Try.f5.params.toList args.toList ds p := hA0
  rw [Try.params5] at hA hval
  obtain ⟨v0, vs0, d0, ds0, p0, q0, hargs0, rfl, rfl, h0, r0⟩ := trodAll_cons hA
  obtain ⟨v1, vs1, d1, ds1, p1, q1, hargs1, rfl, rfl, h1, r1⟩ := trodAll_cons r0
  obtain ⟨v2, vs2, d2, ds2, p2, q2, hargs2, rfl, rfl, h2, r2⟩ := trodAll_cons r1
  obtain ⟨rfl, rfl, rfl⟩ := trodAll_nil r2
  obtain rfl : args = #[v0, v1, v2] := by cases args; simp_all
  obtain ⟨rfl, rfl⟩ := trodVars_none hV
  obtain ⟨n0, b0, e0⟩ := open_frame (hval 0 23 v0 rfl rfl) h0
  obtain ⟨n1, b1, e1⟩ := open_frame (hval 1 23 v1 rfl rfl) h1
  obtain ⟨n2, b2, e2⟩ := open_str (hval 2 9 v2 rfl rfl) h2
  clear hA0 hval0
  simp only [List.append_nil] at hW'
  have hlt0 : ∀ x ∈ p0, x.block < W.heap.size := fun x hx => hW'.lt x (by simp [hx])
  have hlt1 : ∀ x ∈ p1, x.block < W.heap.size := fun x hx => hW'.lt x (by simp [hx])
  have hlt2 : ∀ x ∈ p2, x.block < W.heap.size := fun x hx => hW'.lt x (by simp [hx])
  have hwalk := walk W n0 b0 n1 b1 n2 b2
  rw [← e0, ← e1, ← e2] at hwalk
  refine hwalk.mono fun e W' ⟨he, hg⟩ => ?_
  subst he
  exact ⟨_, rfl, _, _, _, [], _, [], hW', (trodAll_cons_mk (shut_bool Try.underlying4 _) trodAll_mk0), (trodAll_cons_mk (Below.trod laidOut (by kernel_rfl) (of_decide_eq_true (by kernel_rfl)) h0 hg hlt0) (trodAll_cons_mk (Below.trod laidOut (by kernel_rfl) (of_decide_eq_true (by kernel_rfl)) h1 hg hlt1) (trodAll_cons_mk (Below.trod laidOut (by kernel_rfl) (of_decide_eq_true (by kernel_rfl)) h2 hg hlt2) trodAll_mk0))), rfl, Below.frame hg _, fun h => by cases h⟩

theorem over : Rows.frameBackRow.holds Try.pinned (OpenSpec.ofChange Rows.frameBackSpec) :=
  OpenClaim.holds_of_wide 5 Try.f5 rfl rfl rfl rfl rfl rfl rfl ⟨rfl, rfl, rfl, rfl, rfl⟩ rfl rfl rfl rfl rfl (by kernel_rfl) Try.func5 (by kernel_rfl)
    (of_decide_eq_true (by kernel_rfl)) (by unfold Func.isWrapper; first | (rw [if_pos (by decide +kernel)]; kernel_rfl) | (rw [if_neg (by decide +kernel)]; exact ⟨rfl, rfl⟩))
    (fun os started H enc _ => lifted os started H enc)

/-- ████ THE STATEMENT ████ -/
theorem proved : Rows.FrameBackSaid :=
  over
#print axioms proved
end Go.Proofs.Ytnpjmjnekakgeaa.frameBack
