/-
  PROVED: the statement 'SlotsBackSaid': for every input the law SlotsBack returns true, and each argument reads afterwards as it read before. No condition.
-/
import Derived.Test.YtmmlgnoicecgfaaKi
import Derived.Test.YtmmlgnoicecgfaaRows
import Derived.WalkKit
import Derived.Deep.RegionHeld3
import Derived.BigQuiet
import Derived.ProofKit
import Derived.OpenShut
import Derived.ShutString
namespace Go.Proofs.Ytmmlgnoicecgfaa.slotsBack
open Go.ChangeShapes Go.WideShapes Go.ChangeAt Go.RowKit
open Go.Proofs.Ytmmlgnoicecgfaa.Mem Go.Proofs.Ytmmlgnoicecgfaa.Hk Go.Proofs.Ytmmlgnoicecgfaa.Pk
set_option linter.unusedVariables false

theorem own : ownKnob Try.prog.godebug = none := by kernel_rfl
theorem laidOut : laidOutB Try.prog = true := by kernel_rfl

set_option maxRecDepth 100000 in
theorem long (q b a f n q2 b2 a2 f2 n2 : Int) (s : ByteArray) (h1 : decide (200 < (s.size : Int)) = true) (w : World) :
    Calls Try.prog 7 #[.agg #[.int .i64 q, .int .i64 b, .int .i64 a, .int .i64 f, .int .i64 n], .agg #[.int .i64 q2, .int .i64 b2, .int .i64 a2, .int .i64 f2, .int .i64 n2], .string s] w fun e w' => e = .returned (.bool true) ∧ Kept w w' := by
  have hkn : ∀ W, Calls Try.prog 18 #[] W fun e w' => e = .returned (.bool true) ∧ Kept W w' := known_c
  have hk0 := ((Kept.refl w).alloc (.cells #[.int .i64 q, .int .i64 b, .int .i64 a, .int .i64 f, .int .i64 n] 50)).alloc (.cells #[.int .i64 q2, .int .i64 b2, .int .i64 a2, .int .i64 f2, .int .i64 n2] 50)
  go_enter Try.func7, Try.ntmps7
  go_wp2_with (go_at_call 18; (with_reducible refine (hkn _).mono ?_); rintro e u4 ⟨rfl, k4⟩)
  go_ret
  exact ⟨rfl, hk0.trans k4⟩
theorem neqH (q b a f n q' b' a' f' n' : Int) (w : World) :
    (binOp .neq 50 (.agg #[.int .i64 q, .int .i64 b, .int .i64 a, .int .i64 f, .int .i64 n]) (.agg #[.int .i64 q', .int .i64 b', .int .i64 a', .int .i64 f', .int .i64 n'])).run Try.prog w = .ok (.bool (!sameH q b a f n q' b' a' f' n')) w := by
  unfold sameH
  simp [go_sem, Try.underlying50]
  (repeat' split) <;> simp_all
set_option maxHeartbeats 4000000 in
set_option maxRecDepth 100000 in
theorem m11 (q b a f n q2 b2 a2 f2 n2 q3 b3 a3 f3 n3 F : Int) (s X Y : ByteArray) (w : World) (h1 : decide (200 < (s.size : Int)) = false)
    (ca : ∀ w, Calls Try.prog 19 #[.agg #[.int .i64 q, .int .i64 b, .int .i64 a, .int .i64 f, .int .i64 n]] w fun e w' => e = .returned (.tuple #[.string X, .int .i64 0]) ∧ Kept w w')
    (cb : ∀ w, Calls Try.prog 19 #[.agg #[.int .i64 q2, .int .i64 b2, .int .i64 a2, .int .i64 f2, .int .i64 n2]] w fun e w' => e = .returned (.tuple #[.string Y, .int .i64 F]) ∧ Kept w w')
    (cd : ∀ w, Calls Try.prog 21 #[.string s] w fun e w' => e = .returned (.tuple #[.agg #[.int .i64 q3, .int .i64 b3, .int .i64 a3, .int .i64 f3, .int .i64 n3], .int .i64 0]) ∧ Kept w w')
    (cx : ∀ w, Calls Try.prog 21 #[.string X] w fun e w' => e = .returned (.tuple #[.agg #[.int .i64 q, .int .i64 b, .int .i64 a, .int .i64 f, .int .i64 n], .int .i64 0]) ∧ Kept w w')
    (hx : ((X.size : Int) != 80) = false)
    (Q : Bool) (hF : (F == 0) = true → (X.toList == Y.toList) = Q ∧ sameH q b a f n q2 b2 a2 f2 n2 = Q)
    (cz : ∀ w, Calls Try.prog 19 #[.agg #[.int .i64 q3, .int .i64 b3, .int .i64 a3, .int .i64 f3, .int .i64 n3]] w fun e w' => e = .returned (.tuple #[.string s, .int .i64 0]) ∧ Kept w w') :
    Calls Try.prog 7 #[.agg #[.int .i64 q, .int .i64 b, .int .i64 a, .int .i64 f, .int .i64 n], .agg #[.int .i64 q2, .int .i64 b2, .int .i64 a2, .int .i64 f2, .int .i64 n2], .string s] w fun e w' => e = .returned (.bool true) ∧ Kept w w' := by
  have hkn : ∀ W, Calls Try.prog 18 #[] W fun e w' => e = .returned (.bool true) ∧ Kept W w' := known_c
  have hk0 := ((Kept.refl w).alloc (.cells #[.int .i64 q, .int .i64 b, .int .i64 a, .int .i64 f, .int .i64 n] 50)).alloc (.cells #[.int .i64 q2, .int .i64 b2, .int .i64 a2, .int .i64 f2, .int .i64 n2] 50)
  have hA := (Box.start w 50 q b a f n).kept ((Kept.refl _).alloc (.cells #[.int .i64 q2, .int .i64 b2, .int .i64 a2, .int .i64 f2, .int .i64 n2] 50))
  have hB := Box.start (w.alloc (.cells #[.int .i64 q, .int .i64 b, .int .i64 a, .int .i64 f, .int .i64 n] 50)) 50 q2 b2 a2 f2 n2
  obtain ⟨x, hx0⟩ : ∃ x, x = (w.alloc (.cells #[.int .i64 q, .int .i64 b, .int .i64 a, .int .i64 f, .int .i64 n] 50)).alloc (.cells #[.int .i64 q2, .int .i64 b2, .int .i64 a2, .int .i64 f2, .int .i64 n2] 50) := ⟨_, rfl⟩
  rw [← hx0] at hk0 hA hB
  rw [show (w.alloc (.cells #[.int .i64 q, .int .i64 b, .int .i64 a, .int .i64 f, .int .i64 n] 50)).heap.size = w.heap.size + 1 from by simp] at hB
  have HA := Lib.hid (fun W (hW : Kept x W) => (hA.kept hW).all)
  have HB := Lib.hid (fun W (hW : Kept x W) => (hB.kept hW).all)
  have HK := Lib.hid hk0
  have K0 := Kept.refl x
  have S1 := HA.out _ K0
  have S2 := HB.out _ K0
  obtain ⟨_, _, _, _, _⟩ := S1
  obtain ⟨_, _, _, _, _⟩ := S2
  clear hk0 hA hB
  have hqa := neqH q b a f n q b a f n
  rw [show sameH q b a f n q b a f n = true from (sameH_iff (x := ⟨q, b, a, f, n⟩) (y := ⟨q, b, a, f, n⟩)).mpr rfl] at hqa
  have hqb := eqlH q b a f n q2 b2 a2 f2 n2
  generalize sameH q b a f n q2 b2 a2 f2 n2 = S at hqb hF
  cases hf : (F == 0) with
  | false =>
    clear hF
    go_enter Try.func7, Try.ntmps7
    go_wp2_with fail
    rw [← hx0]
    clear hx0
    go_wp2_with (first
      | (go_at_call 19; (with_reducible refine (ca _).mono ?_); rintro e u1 ⟨rfl, k1⟩; have k1 := Kept.trans K0 k1; obtain ⟨_, _, _, _, _⟩ := HA.out _ k1; obtain ⟨_, _, _, _, _⟩ := HB.out _ k1)
      | (go_at_call 19; (with_reducible refine (cb _).mono ?_); rintro e u2 ⟨rfl, k2⟩; have k2 := Kept.trans k1 k2; obtain ⟨_, _, _, _, _⟩ := HA.out _ k2; obtain ⟨_, _, _, _, _⟩ := HB.out _ k2)
      | (go_at_call 21; (with_reducible refine (cx _).mono ?_); rintro e u3 ⟨rfl, k3⟩; have k3 := (Kept.trans k2 k3).alloc (.cells #[.int .i64 q, .int .i64 b, .int .i64 a, .int .i64 f, .int .i64 n] 50); obtain ⟨_, _, _, _, _⟩ := HA.out _ k3; obtain ⟨_, _, _, _, _⟩ := HB.out _ k3; obtain ⟨_, _, _, _, _, _⟩ := Box.start u3 50 q b a f n)
      | (go_at_call 21; (with_reducible refine (cd _).mono ?_); rintro e u4 ⟨rfl, k4⟩; have k4 := (Kept.trans k3 k4).alloc (.cells #[.int .i64 q3, .int .i64 b3, .int .i64 a3, .int .i64 f3, .int .i64 n3] 50); obtain ⟨_, _, _, _, _, _⟩ := Box.start u4 50 q3 b3 a3 f3 n3)
      | (go_at_call 19; (with_reducible refine (cz _).mono ?_); rintro e u5 ⟨rfl, k5⟩; have k5 := Kept.trans k4 k5)
      | (go_at_call 18; (with_reducible refine (hkn _).mono ?_); rintro e u6 ⟨rfl, k6⟩; have k6 := Kept.trans k5 k6))
    go_ret
    exact ⟨rfl, HK.out.trans k6⟩
  | true =>
    obtain ⟨hxy, rfl⟩ := hF hf
    cases S
    all_goals
      go_enter Try.func7, Try.ntmps7
      go_wp2_with fail
      rw [← hx0]
      clear hx0
      go_wp2_with (first
        | (go_at_call 19; (with_reducible refine (ca _).mono ?_); rintro e u1 ⟨rfl, k1⟩; have k1 := Kept.trans K0 k1; obtain ⟨_, _, _, _, _⟩ := HA.out _ k1; obtain ⟨_, _, _, _, _⟩ := HB.out _ k1)
        | (go_at_call 19; (with_reducible refine (cb _).mono ?_); rintro e u2 ⟨rfl, k2⟩; have k2 := Kept.trans k1 k2; obtain ⟨_, _, _, _, _⟩ := HA.out _ k2; obtain ⟨_, _, _, _, _⟩ := HB.out _ k2)
        | (go_at_call 21; (with_reducible refine (cx _).mono ?_); rintro e u3 ⟨rfl, k3⟩; have k3 := (Kept.trans k2 k3).alloc (.cells #[.int .i64 q, .int .i64 b, .int .i64 a, .int .i64 f, .int .i64 n] 50); obtain ⟨_, _, _, _, _⟩ := HA.out _ k3; obtain ⟨_, _, _, _, _⟩ := HB.out _ k3; obtain ⟨_, _, _, _, _, _⟩ := Box.start u3 50 q b a f n)
        | (go_at_call 21; (with_reducible refine (cd _).mono ?_); rintro e u4 ⟨rfl, k4⟩; have k4 := (Kept.trans k3 k4).alloc (.cells #[.int .i64 q3, .int .i64 b3, .int .i64 a3, .int .i64 f3, .int .i64 n3] 50); obtain ⟨_, _, _, _, _, _⟩ := Box.start u4 50 q3 b3 a3 f3 n3)
        | (go_at_call 19; (with_reducible refine (cz _).mono ?_); rintro e u5 ⟨rfl, k5⟩; have k5 := Kept.trans k4 k5)
        | (go_at_call 18; (with_reducible refine (hkn _).mono ?_); rintro e u6 ⟨rfl, k6⟩; have k6 := Kept.trans k5 k6))
      go_ret
      exact ⟨rfl, HK.out.trans k6⟩
set_option maxHeartbeats 4000000 in
set_option maxRecDepth 100000 in
theorem m10 (q b a f n q2 b2 a2 f2 n2 q3 b3 a3 f3 n3 F H : Int) (s X Y : ByteArray) (w : World) (h1 : decide (200 < (s.size : Int)) = false)
    (ca : ∀ w, Calls Try.prog 19 #[.agg #[.int .i64 q, .int .i64 b, .int .i64 a, .int .i64 f, .int .i64 n]] w fun e w' => e = .returned (.tuple #[.string X, .int .i64 0]) ∧ Kept w w')
    (cb : ∀ w, Calls Try.prog 19 #[.agg #[.int .i64 q2, .int .i64 b2, .int .i64 a2, .int .i64 f2, .int .i64 n2]] w fun e w' => e = .returned (.tuple #[.string Y, .int .i64 F]) ∧ Kept w w')
    (cd : ∀ w, Calls Try.prog 21 #[.string s] w fun e w' => e = .returned (.tuple #[.agg #[.int .i64 q3, .int .i64 b3, .int .i64 a3, .int .i64 f3, .int .i64 n3], .int .i64 H]) ∧ Kept w w')
    (cx : ∀ w, Calls Try.prog 21 #[.string X] w fun e w' => e = .returned (.tuple #[.agg #[.int .i64 q, .int .i64 b, .int .i64 a, .int .i64 f, .int .i64 n], .int .i64 0]) ∧ Kept w w')
    (hx : ((X.size : Int) != 80) = false)
    (Q : Bool) (hF : (F == 0) = true → (X.toList == Y.toList) = Q ∧ sameH q b a f n q2 b2 a2 f2 n2 = Q)
    (hH : (H == 0) = false) :
    Calls Try.prog 7 #[.agg #[.int .i64 q, .int .i64 b, .int .i64 a, .int .i64 f, .int .i64 n], .agg #[.int .i64 q2, .int .i64 b2, .int .i64 a2, .int .i64 f2, .int .i64 n2], .string s] w fun e w' => e = .returned (.bool true) ∧ Kept w w' := by
  have hkn : ∀ W, Calls Try.prog 18 #[] W fun e w' => e = .returned (.bool true) ∧ Kept W w' := known_c
  have hk0 := ((Kept.refl w).alloc (.cells #[.int .i64 q, .int .i64 b, .int .i64 a, .int .i64 f, .int .i64 n] 50)).alloc (.cells #[.int .i64 q2, .int .i64 b2, .int .i64 a2, .int .i64 f2, .int .i64 n2] 50)
  have hA := (Box.start w 50 q b a f n).kept ((Kept.refl _).alloc (.cells #[.int .i64 q2, .int .i64 b2, .int .i64 a2, .int .i64 f2, .int .i64 n2] 50))
  have hB := Box.start (w.alloc (.cells #[.int .i64 q, .int .i64 b, .int .i64 a, .int .i64 f, .int .i64 n] 50)) 50 q2 b2 a2 f2 n2
  obtain ⟨x, hx0⟩ : ∃ x, x = (w.alloc (.cells #[.int .i64 q, .int .i64 b, .int .i64 a, .int .i64 f, .int .i64 n] 50)).alloc (.cells #[.int .i64 q2, .int .i64 b2, .int .i64 a2, .int .i64 f2, .int .i64 n2] 50) := ⟨_, rfl⟩
  rw [← hx0] at hk0 hA hB
  rw [show (w.alloc (.cells #[.int .i64 q, .int .i64 b, .int .i64 a, .int .i64 f, .int .i64 n] 50)).heap.size = w.heap.size + 1 from by simp] at hB
  have HA := Lib.hid (fun W (hW : Kept x W) => (hA.kept hW).all)
  have HB := Lib.hid (fun W (hW : Kept x W) => (hB.kept hW).all)
  have HK := Lib.hid hk0
  have K0 := Kept.refl x
  have S1 := HA.out _ K0
  have S2 := HB.out _ K0
  obtain ⟨_, _, _, _, _⟩ := S1
  obtain ⟨_, _, _, _, _⟩ := S2
  clear hk0 hA hB
  have hqa := neqH q b a f n q b a f n
  rw [show sameH q b a f n q b a f n = true from (sameH_iff (x := ⟨q, b, a, f, n⟩) (y := ⟨q, b, a, f, n⟩)).mpr rfl] at hqa
  have hqb := eqlH q b a f n q2 b2 a2 f2 n2
  generalize sameH q b a f n q2 b2 a2 f2 n2 = S at hqb hF
  cases hf : (F == 0) with
  | false =>
    clear hF
    go_enter Try.func7, Try.ntmps7
    go_wp2_with fail
    rw [← hx0]
    clear hx0
    go_wp2_with (first
      | (go_at_call 19; (with_reducible refine (ca _).mono ?_); rintro e u1 ⟨rfl, k1⟩; have k1 := Kept.trans K0 k1; obtain ⟨_, _, _, _, _⟩ := HA.out _ k1; obtain ⟨_, _, _, _, _⟩ := HB.out _ k1)
      | (go_at_call 19; (with_reducible refine (cb _).mono ?_); rintro e u2 ⟨rfl, k2⟩; have k2 := Kept.trans k1 k2; obtain ⟨_, _, _, _, _⟩ := HA.out _ k2; obtain ⟨_, _, _, _, _⟩ := HB.out _ k2)
      | (go_at_call 21; (with_reducible refine (cx _).mono ?_); rintro e u3 ⟨rfl, k3⟩; have k3 := (Kept.trans k2 k3).alloc (.cells #[.int .i64 q, .int .i64 b, .int .i64 a, .int .i64 f, .int .i64 n] 50); obtain ⟨_, _, _, _, _⟩ := HA.out _ k3; obtain ⟨_, _, _, _, _⟩ := HB.out _ k3; obtain ⟨_, _, _, _, _, _⟩ := Box.start u3 50 q b a f n)
      | (go_at_call 21; (with_reducible refine (cd _).mono ?_); rintro e u4 ⟨rfl, k4⟩; have k4 := (Kept.trans k3 k4).alloc (.cells #[.int .i64 q3, .int .i64 b3, .int .i64 a3, .int .i64 f3, .int .i64 n3] 50); obtain ⟨_, _, _, _, _, _⟩ := Box.start u4 50 q3 b3 a3 f3 n3)
      | (go_at_call 18; (with_reducible refine (hkn _).mono ?_); rintro e u6 ⟨rfl, k6⟩; have k6 := Kept.trans k4 k6))
    go_ret
    exact ⟨rfl, HK.out.trans k6⟩
  | true =>
    obtain ⟨hxy, rfl⟩ := hF hf
    cases S
    all_goals
      go_enter Try.func7, Try.ntmps7
      go_wp2_with fail
      rw [← hx0]
      clear hx0
      go_wp2_with (first
        | (go_at_call 19; (with_reducible refine (ca _).mono ?_); rintro e u1 ⟨rfl, k1⟩; have k1 := Kept.trans K0 k1; obtain ⟨_, _, _, _, _⟩ := HA.out _ k1; obtain ⟨_, _, _, _, _⟩ := HB.out _ k1)
        | (go_at_call 19; (with_reducible refine (cb _).mono ?_); rintro e u2 ⟨rfl, k2⟩; have k2 := Kept.trans k1 k2; obtain ⟨_, _, _, _, _⟩ := HA.out _ k2; obtain ⟨_, _, _, _, _⟩ := HB.out _ k2)
        | (go_at_call 21; (with_reducible refine (cx _).mono ?_); rintro e u3 ⟨rfl, k3⟩; have k3 := (Kept.trans k2 k3).alloc (.cells #[.int .i64 q, .int .i64 b, .int .i64 a, .int .i64 f, .int .i64 n] 50); obtain ⟨_, _, _, _, _⟩ := HA.out _ k3; obtain ⟨_, _, _, _, _⟩ := HB.out _ k3; obtain ⟨_, _, _, _, _, _⟩ := Box.start u3 50 q b a f n)
        | (go_at_call 21; (with_reducible refine (cd _).mono ?_); rintro e u4 ⟨rfl, k4⟩; have k4 := (Kept.trans k3 k4).alloc (.cells #[.int .i64 q3, .int .i64 b3, .int .i64 a3, .int .i64 f3, .int .i64 n3] 50); obtain ⟨_, _, _, _, _, _⟩ := Box.start u4 50 q3 b3 a3 f3 n3)
        | (go_at_call 18; (with_reducible refine (hkn _).mono ?_); rintro e u6 ⟨rfl, k6⟩; have k6 := Kept.trans k4 k6))
      go_ret
      exact ⟨rfl, HK.out.trans k6⟩
set_option maxHeartbeats 4000000 in
set_option maxRecDepth 100000 in
theorem m01 (q b a f n q2 b2 a2 f2 n2 q3 b3 a3 f3 n3 E F : Int) (s X Y : ByteArray) (w : World) (h1 : decide (200 < (s.size : Int)) = false)
    (ca : ∀ w, Calls Try.prog 19 #[.agg #[.int .i64 q, .int .i64 b, .int .i64 a, .int .i64 f, .int .i64 n]] w fun e w' => e = .returned (.tuple #[.string X, .int .i64 E]) ∧ Kept w w')
    (cb : ∀ w, Calls Try.prog 19 #[.agg #[.int .i64 q2, .int .i64 b2, .int .i64 a2, .int .i64 f2, .int .i64 n2]] w fun e w' => e = .returned (.tuple #[.string Y, .int .i64 F]) ∧ Kept w w')
    (cd : ∀ w, Calls Try.prog 21 #[.string s] w fun e w' => e = .returned (.tuple #[.agg #[.int .i64 q3, .int .i64 b3, .int .i64 a3, .int .i64 f3, .int .i64 n3], .int .i64 0]) ∧ Kept w w')
    (hE : (E == 0) = false)
    (cz : ∀ w, Calls Try.prog 19 #[.agg #[.int .i64 q3, .int .i64 b3, .int .i64 a3, .int .i64 f3, .int .i64 n3]] w fun e w' => e = .returned (.tuple #[.string s, .int .i64 0]) ∧ Kept w w') :
    Calls Try.prog 7 #[.agg #[.int .i64 q, .int .i64 b, .int .i64 a, .int .i64 f, .int .i64 n], .agg #[.int .i64 q2, .int .i64 b2, .int .i64 a2, .int .i64 f2, .int .i64 n2], .string s] w fun e w' => e = .returned (.bool true) ∧ Kept w w' := by
  have hkn : ∀ W, Calls Try.prog 18 #[] W fun e w' => e = .returned (.bool true) ∧ Kept W w' := known_c
  have hk0 := ((Kept.refl w).alloc (.cells #[.int .i64 q, .int .i64 b, .int .i64 a, .int .i64 f, .int .i64 n] 50)).alloc (.cells #[.int .i64 q2, .int .i64 b2, .int .i64 a2, .int .i64 f2, .int .i64 n2] 50)
  have hA := (Box.start w 50 q b a f n).kept ((Kept.refl _).alloc (.cells #[.int .i64 q2, .int .i64 b2, .int .i64 a2, .int .i64 f2, .int .i64 n2] 50))
  have hB := Box.start (w.alloc (.cells #[.int .i64 q, .int .i64 b, .int .i64 a, .int .i64 f, .int .i64 n] 50)) 50 q2 b2 a2 f2 n2
  obtain ⟨x, hx0⟩ : ∃ x, x = (w.alloc (.cells #[.int .i64 q, .int .i64 b, .int .i64 a, .int .i64 f, .int .i64 n] 50)).alloc (.cells #[.int .i64 q2, .int .i64 b2, .int .i64 a2, .int .i64 f2, .int .i64 n2] 50) := ⟨_, rfl⟩
  rw [← hx0] at hk0 hA hB
  rw [show (w.alloc (.cells #[.int .i64 q, .int .i64 b, .int .i64 a, .int .i64 f, .int .i64 n] 50)).heap.size = w.heap.size + 1 from by simp] at hB
  have HA := Lib.hid (fun W (hW : Kept x W) => (hA.kept hW).all)
  have HB := Lib.hid (fun W (hW : Kept x W) => (hB.kept hW).all)
  have HK := Lib.hid hk0
  have K0 := Kept.refl x
  have S1 := HA.out _ K0
  have S2 := HB.out _ K0
  obtain ⟨_, _, _, _, _⟩ := S1
  obtain ⟨_, _, _, _, _⟩ := S2
  clear hk0 hA hB
  cases hf : (F == 0)
  all_goals
    go_enter Try.func7, Try.ntmps7
    go_wp2_with fail
    rw [← hx0]
    clear hx0
    go_wp2_with (first
      | (go_at_call 19; (with_reducible refine (ca _).mono ?_); rintro e u1 ⟨rfl, k1⟩; have k1 := Kept.trans K0 k1; obtain ⟨_, _, _, _, _⟩ := HA.out _ k1; obtain ⟨_, _, _, _, _⟩ := HB.out _ k1)
      | (go_at_call 19; (with_reducible refine (cb _).mono ?_); rintro e u2 ⟨rfl, k2⟩; have k2 := Kept.trans k1 k2; obtain ⟨_, _, _, _, _⟩ := HA.out _ k2; obtain ⟨_, _, _, _, _⟩ := HB.out _ k2)
      | (go_at_call 21; (with_reducible refine (cd _).mono ?_); rintro e u4 ⟨rfl, k4⟩; have k4 := (Kept.trans k2 k4).alloc (.cells #[.int .i64 q3, .int .i64 b3, .int .i64 a3, .int .i64 f3, .int .i64 n3] 50); obtain ⟨_, _, _, _, _, _⟩ := Box.start u4 50 q3 b3 a3 f3 n3)
      | (go_at_call 19; (with_reducible refine (cz _).mono ?_); rintro e u5 ⟨rfl, k5⟩; have k5 := Kept.trans k4 k5)
      | (go_at_call 18; (with_reducible refine (hkn _).mono ?_); rintro e u6 ⟨rfl, k6⟩; have k6 := Kept.trans k5 k6))
    go_ret
    exact ⟨rfl, HK.out.trans k6⟩
set_option maxHeartbeats 4000000 in
set_option maxRecDepth 100000 in
theorem m00 (q b a f n q2 b2 a2 f2 n2 q3 b3 a3 f3 n3 E F H : Int) (s X Y : ByteArray) (w : World) (h1 : decide (200 < (s.size : Int)) = false)
    (ca : ∀ w, Calls Try.prog 19 #[.agg #[.int .i64 q, .int .i64 b, .int .i64 a, .int .i64 f, .int .i64 n]] w fun e w' => e = .returned (.tuple #[.string X, .int .i64 E]) ∧ Kept w w')
    (cb : ∀ w, Calls Try.prog 19 #[.agg #[.int .i64 q2, .int .i64 b2, .int .i64 a2, .int .i64 f2, .int .i64 n2]] w fun e w' => e = .returned (.tuple #[.string Y, .int .i64 F]) ∧ Kept w w')
    (cd : ∀ w, Calls Try.prog 21 #[.string s] w fun e w' => e = .returned (.tuple #[.agg #[.int .i64 q3, .int .i64 b3, .int .i64 a3, .int .i64 f3, .int .i64 n3], .int .i64 H]) ∧ Kept w w')
    (hE : (E == 0) = false)
    (hH : (H == 0) = false) :
    Calls Try.prog 7 #[.agg #[.int .i64 q, .int .i64 b, .int .i64 a, .int .i64 f, .int .i64 n], .agg #[.int .i64 q2, .int .i64 b2, .int .i64 a2, .int .i64 f2, .int .i64 n2], .string s] w fun e w' => e = .returned (.bool true) ∧ Kept w w' := by
  have hkn : ∀ W, Calls Try.prog 18 #[] W fun e w' => e = .returned (.bool true) ∧ Kept W w' := known_c
  have hk0 := ((Kept.refl w).alloc (.cells #[.int .i64 q, .int .i64 b, .int .i64 a, .int .i64 f, .int .i64 n] 50)).alloc (.cells #[.int .i64 q2, .int .i64 b2, .int .i64 a2, .int .i64 f2, .int .i64 n2] 50)
  have hA := (Box.start w 50 q b a f n).kept ((Kept.refl _).alloc (.cells #[.int .i64 q2, .int .i64 b2, .int .i64 a2, .int .i64 f2, .int .i64 n2] 50))
  have hB := Box.start (w.alloc (.cells #[.int .i64 q, .int .i64 b, .int .i64 a, .int .i64 f, .int .i64 n] 50)) 50 q2 b2 a2 f2 n2
  obtain ⟨x, hx0⟩ : ∃ x, x = (w.alloc (.cells #[.int .i64 q, .int .i64 b, .int .i64 a, .int .i64 f, .int .i64 n] 50)).alloc (.cells #[.int .i64 q2, .int .i64 b2, .int .i64 a2, .int .i64 f2, .int .i64 n2] 50) := ⟨_, rfl⟩
  rw [← hx0] at hk0 hA hB
  rw [show (w.alloc (.cells #[.int .i64 q, .int .i64 b, .int .i64 a, .int .i64 f, .int .i64 n] 50)).heap.size = w.heap.size + 1 from by simp] at hB
  have HA := Lib.hid (fun W (hW : Kept x W) => (hA.kept hW).all)
  have HB := Lib.hid (fun W (hW : Kept x W) => (hB.kept hW).all)
  have HK := Lib.hid hk0
  have K0 := Kept.refl x
  have S1 := HA.out _ K0
  have S2 := HB.out _ K0
  obtain ⟨_, _, _, _, _⟩ := S1
  obtain ⟨_, _, _, _, _⟩ := S2
  clear hk0 hA hB
  cases hf : (F == 0)
  all_goals
    go_enter Try.func7, Try.ntmps7
    go_wp2_with fail
    rw [← hx0]
    clear hx0
    go_wp2_with (first
      | (go_at_call 19; (with_reducible refine (ca _).mono ?_); rintro e u1 ⟨rfl, k1⟩; have k1 := Kept.trans K0 k1; obtain ⟨_, _, _, _, _⟩ := HA.out _ k1; obtain ⟨_, _, _, _, _⟩ := HB.out _ k1)
      | (go_at_call 19; (with_reducible refine (cb _).mono ?_); rintro e u2 ⟨rfl, k2⟩; have k2 := Kept.trans k1 k2; obtain ⟨_, _, _, _, _⟩ := HA.out _ k2; obtain ⟨_, _, _, _, _⟩ := HB.out _ k2)
      | (go_at_call 21; (with_reducible refine (cd _).mono ?_); rintro e u4 ⟨rfl, k4⟩; have k4 := (Kept.trans k2 k4).alloc (.cells #[.int .i64 q3, .int .i64 b3, .int .i64 a3, .int .i64 f3, .int .i64 n3] 50); obtain ⟨_, _, _, _, _, _⟩ := Box.start u4 50 q3 b3 a3 f3 n3)
      | (go_at_call 18; (with_reducible refine (hkn _).mono ?_); rintro e u6 ⟨rfl, k6⟩; have k6 := Kept.trans k4 k6))
    go_ret
    exact ⟨rfl, HK.out.trans k6⟩
theorem walk (w : World) (x : Hd) (_ : x.fits) (y : Hd) (_ : y.fits) (s : ByteArray) (_ : s.size ≤ maxLen) :
    Calls Try.prog 7 #[.agg #[.int .i64 x.seq, .int .i64 x.boot, .int .i64 x.area, .int .i64 x.first, .int .i64 x.snaps], .agg #[.int .i64 y.seq, .int .i64 y.boot, .int .i64 y.area, .int .i64 y.first, .int .i64 y.snaps], .string s] w fun e w' => e = .returned (.bool true) ∧ Kept w w' := by
  by_cases b2 : 200 < s.size
  · exact long _ _ _ _ _ _ _ _ _ _ _ (by simp; omega) w
  have h1 : decide (200 < (s.size : Int)) = false := by simp; omega
  have ca := encode_c x
  have cb := encode_c y
  have cd := decode_c s
  by_cases hE : x.err = 0
  · have gx := x.err_zero.mp hE
    rw [hE] at ca
    have cx := decode_c x.enc
    rw [(decF_enc gx).1, (decF_enc gx).2] at cx
    have hx : ((x.enc.size : Int) != 80) = false := by rw [enc_size gx]; rfl
    have hF : (y.err == 0) = true → (x.enc.toList == y.enc.toList) = sameH x.seq x.boot x.area x.first x.snaps y.seq y.boot y.area y.first y.snaps ∧ sameH x.seq x.boot x.area x.first x.snaps y.seq y.boot y.area y.first y.snaps = sameH x.seq x.boot x.area x.first x.snaps y.seq y.boot y.area y.first y.snaps := fun h => by
      have gy := y.err_zero.mp (by simpa using h)
      refine ⟨?_, rfl⟩
      rw [Bool.eq_iff_iff, sameH_iff, beq_iff_eq]
      constructor
      · intro e; exact enc_inj gx gy (str_inj (by rw [← Lib.toList_data, ← Lib.toList_data]; exact e))
      · intro e; rw [e]
    rcases decE_or s with ⟨hH, _⟩ | ⟨hH, _⟩
    · have cz := encode_c (decF s)
      rw [(enc_dec hH).1, (enc_dec hH).2] at cz
      rw [hH] at cd
      exact m11 _ _ _ _ _ _ _ _ _ _ _ _ _ _ _ _ _ _ _ w h1 ca cb cd cx hx _ hF cz
    · exact m10 _ _ _ _ _ _ _ _ _ _ _ _ _ _ _ _ _ _ _ _ w h1 ca cb cd cx hx _ hF (by rw [hH]; rfl)
  · have hE' : (x.err == 0) = false := by simpa using hE
    rcases decE_or s with ⟨hH, _⟩ | ⟨hH, _⟩
    · have cz := encode_c (decF s)
      rw [(enc_dec hH).1, (enc_dec hH).2] at cz
      rw [hH] at cd
      exact m01 _ _ _ _ _ _ _ _ _ _ _ _ _ _ _ _ _ _ _ _ w h1 ca cb cd hE' cz
    · exact m00 _ _ _ _ _ _ _ _ _ _ _ _ _ _ _ _ _ _ _ _ _ w h1 ca cb cd hE' (by rw [hH]; rfl)

set_option maxRecDepth 100000 in
theorem lifted (os : Os) (started : os.Started) (H : Type) (enc : TypeId × Value → H) :
    ReturnsInHanded {} Try.checked os 7 .any (Rows.slotsBackSpec.pre6 enc Try.prog Try.f7 Rows.slotsBackRow.domain false) (Rows.slotsBackSpec.post enc Try.prog Try.f7 false true false false) := by
  refine returnsInHanded_of_change (C := Try.checked) own started (by kernel_rfl) Try.func7
    (ChangeSpec.witness6 (enc := enc) (C := Try.checked) false ⟨#[], #[.agg #[.int .i64 0, .int .i64 0, .int .i64 0, .int .i64 0, .int .i64 0], .agg #[.int .i64 0, .int .i64 0, .int .i64 0, .int .i64 0, .int .i64 0], .string ByteArray.empty], []⟩ 8 (by kernel_rfl) (by kernel_rfl) (by kernel_rfl) (by kernel_rfl)) ?_
  intro W base args ds gs before hval0 hW hcnd _
  have hval : ∀ (j : Nat) t v, Try.f7.params[j]? = some t → args[j]? = some v → Value.okWide Try.prog W .any base t v := hval0
  have hW' := hW
  obtain ⟨p, q, hA0, hV, rfl, hfz, hnd⟩ := hW
  have hA : DataW.TrodAll enc Try.prog W 0 (fun _ => true) true Try.f7.params.toList args.toList ds p := hA0
  rw [Try.params7] at hA hval
  obtain ⟨v0, vs0, d0, ds0, p0, q0, hargs0, rfl, rfl, h0, r0⟩ := trodAll_cons hA
  obtain ⟨v1, vs1, d1, ds1, p1, q1, hargs1, rfl, rfl, h1, r1⟩ := trodAll_cons r0
  obtain ⟨v2, vs2, d2, ds2, p2, q2, hargs2, rfl, rfl, h2, r2⟩ := trodAll_cons r1
  obtain ⟨rfl, rfl, rfl⟩ := trodAll_nil r2
  obtain rfl : args = #[v0, v1, v2] := by cases args; simp_all
  obtain ⟨rfl, rfl⟩ := trodVars_none hV
  obtain ⟨n0, b0, e0⟩ := open_head (hval 0 50 v0 rfl rfl) h0
  obtain ⟨n1, b1, e1⟩ := open_head (hval 1 50 v1 rfl rfl) h1
  obtain ⟨n2, b2, e2⟩ := open_str (hval 2 9 v2 rfl rfl) h2
  clear hA0 hval0
  simp only [List.append_nil] at hW'
  have hlt0 : ∀ x ∈ p0, x.block < W.heap.size := fun x hx => hW'.lt x (by simp [hx])
  have hlt1 : ∀ x ∈ p1, x.block < W.heap.size := fun x hx => hW'.lt x (by simp [hx])
  have hlt2 : ∀ x ∈ p2, x.block < W.heap.size := fun x hx => hW'.lt x (by simp [hx])
  have hwalk := walk W n0 b0 n1 b1 n2 b2
  rw [← e0, ← e1, ← e2] at hwalk
  refine hwalk.mono fun e W' ⟨he, hg⟩ => ?_
  subst he
  exact ⟨_, rfl, _, _, _, [], _, [], hW', (trodAll_cons_mk (shut_bool Try.underlying4 _) trodAll_mk0), (trodAll_cons_mk (Below.trod laidOut (by kernel_rfl) (of_decide_eq_true (by kernel_rfl)) h0 hg hlt0) (trodAll_cons_mk (Below.trod laidOut (by kernel_rfl) (of_decide_eq_true (by kernel_rfl)) h1 hg hlt1) (trodAll_cons_mk (Below.trod laidOut (by kernel_rfl) (of_decide_eq_true (by kernel_rfl)) h2 hg hlt2) trodAll_mk0))), rfl, Below.frame hg _, fun h => by cases h⟩

theorem over : Rows.slotsBackRow.holds Try.pinned (OpenSpec.ofChange Rows.slotsBackSpec) :=
  OpenClaim.holds_of_wide 7 Try.f7 rfl rfl rfl rfl rfl rfl rfl ⟨rfl, rfl, rfl, rfl, rfl⟩ rfl rfl rfl rfl rfl (by kernel_rfl) Try.func7 (by kernel_rfl)
    (of_decide_eq_true (by kernel_rfl)) (by unfold Func.isWrapper; first | (rw [if_pos (by decide +kernel)]; kernel_rfl) | (rw [if_neg (by decide +kernel)]; exact ⟨rfl, rfl⟩))
    (fun os started H enc _ => lifted os started H enc)

/-- ████ THE STATEMENT ████ -/
theorem proved : Rows.SlotsBackSaid :=
  over
#print axioms proved
end Go.Proofs.Ytmmlgnoicecgfaa.slotsBack
