/-
  What the calls of package crc, and of its specification, do.
-/
import Derived.Test.YtibpocemjdcgaaaMath
import Derived.Test.YtibpocemjdcgaaaRows
import Derived.WalkKit
import Derived.RegionTactic
import Derived.Deep.QuietTactic
import Derived.BigQuiet
import Derived.Lib.Hide
namespace Go.Proofs.Ytibpocemjdcgaaa
open Go.RowKit

/-- The closure's variable: block B holds r; every other block is as it was. -/
structure Reg (B : Nat) (w : World) (r : BitVec 32) (w' : World) : Prop where
  here : w'.heap[B]? = some (.cells #[.int .u32 (num r)] 22 (0, 0))
  os : w'.os = w.os
  tape : w'.tape = w.tape
  output : w'.output = w.output
  size : w'.heap.size = w.heap.size
  block : ∀ k, k ≠ B → w'.heap[k]? = w.heap[k]?

theorem Reg.drewN {B : Nat} {w w' : World} {r : BitVec 32} (h : Reg B w r w') (n : Nat) : Reg B w r (w'.drewN n) := by
  induction n with
  | zero => exact h
  | succ n ih => exact ⟨ih.here, ih.os, ih.tape, ih.output, ih.size, ih.block⟩
theorem Reg.set {B : Nat} {w w' : World} {r q : BitVec 32} {v : Int} (h : Reg B w r w') (hv : v = num q) : Reg B w q (w'.setCell ⟨B, 0, none⟩ (.int .u32 v)) := by
  subst hv
  refine ⟨one_setCell h.here, h.os, h.tape, h.output, by simpa [World.setCell] using h.size, fun k hk => ?_⟩
  rw [Below.heap_setCell _ _ _ _ hk]; exact h.block k hk

set_option maxHeartbeats 400000 in
theorem shift_any (c : UInt8) (B : Nat) (r : BitVec 32) (w : World) (hB : w.heap[B]? = some (.cells #[.int .u32 (num r)] 22 (0, 0))) :
    Calls Try.prog 15 #[.int .u8 (c.toNat : Int), .pointer (some ⟨B, 0, none⟩)] w fun e w' => e = .returned (.tuple #[]) ∧ Reg B w (byte r c) w' := by
  have h0 : Reg B w r w := ⟨hB, rfl, rfl, rfl, rfl, fun _ _ => rfl⟩
  clear hB
  go_enter Try.func15, Try.ntmps15
  go_wp2
  go_loopw [5] (fun i wr => ∃ k : Nat, k ≤ 8 ∧ i = .int .i64 k ∧ Reg B w (shiftN r c k) wr) (fun i _ => 8 - (intOf i).toNat)
  case atStart => exact ⟨0, by omega, rfl, h0⟩
  case round =>
    obtain ⟨k, hk, rfl, hr⟩ := hrel
    clear h0
    have hc := cell_of_one hr.here
    have hf := free_of_one hr.here
    by_cases hlt : k < 8
    · go_wp2
      go_quiet (fail)
      go_wp2
      all_goals
        go_roundw
        case rel => first | exact ⟨k + 1, by omega, by go_num, ((hr.drewN _).set (num_shr _)).set (step_true (shiftN r c k) c k (by assumption))⟩ | exact ⟨k + 1, by omega, by go_num, (hr.drewN _).set (step_false (shiftN r c k) c k (by assumption))⟩
        case measure => simp [intOf]; omega
    · obtain rfl : k = 8 := by omega
      go_wp2
      go_end0
      exact ⟨rfl, hr⟩

theorem not_max (a : BitVec 32) : bits .xor .u32 IntKind.u32.max (num a) = num (~~~ a) := num_not a
theorem ret_u32 {a b : BitVec 32} (h : a = b) : Ending.returned (.int .u32 (num a)) = .returned (.int .u32 (num b)) := by rw [h]
theorem take_snoc (s : ByteArray) (k : Nat) (h : k < s.size) : s.data.toList.take (k + 1) = s.data.toList.take k ++ [s[k]] := by
  rw [List.take_succ_eq_append_getElem (by simpa using h)]; rfl
theorem run_snoc (r : BitVec 32) (s : ByteArray) (k : Nat) (h : k < s.size) : run r (s.data.toList.take (k + 1)) = byte (run r (s.data.toList.take k)) s[k] := by
  rw [take_snoc s k h]; simp [run]
theorem take_all (s : ByteArray) : s.data.toList.take s.size = s.data.toList := List.take_of_length_le (by show s.data.toList.length ≤ s.data.size; simp)
theorem Reg.trans {B : Nat} {a b c : World} {r q : BitVec 32} (h : Reg B a r b) (k : Reg B b q c) : Reg B a q c :=
  ⟨k.here, k.os.trans h.os, k.tape.trans h.tape, k.output.trans h.output, k.size.trans h.size, fun i hi => (k.block i hi).trans (h.block i hi)⟩
theorem Reg.start (w : World) (r : BitVec 32) : Reg w.heap.size (w.alloc (.cells #[.int .u32 (num r)] 22)) r (w.alloc (.cells #[.int .u32 (num r)] 22)) :=
  ⟨(MapKept.heap_alloc w _).1, rfl, rfl, rfl, rfl, fun _ _ => rfl⟩
theorem Reg.below {w w' : World} {v : Value} {r : BitVec 32} (h : Reg w.heap.size (w.alloc (.cells #[v] 22)) r w') : Below w.heap.size w w' :=
  ⟨h.os, h.tape, h.output, by rw [h.size]; simp, fun k hk => by rw [h.block k (by omega)]; exact Below.heap_alloc _ _ _ hk⟩
theorem Reg.grown {w w' : World} {v : Value} {r : BitVec 32} (h : Reg w.heap.size (w.alloc (.cells #[v] 22)) r w') : Grown w w' := by
  refine ⟨h.below.frame _, fun a => ?_, h.below.size⟩
  rcases Nat.lt_trichotomy a.block w.heap.size with hl | he | hg
  · exact h.below.frozen hl
  · have e1 : w'.heap[a.block]? = some (.cells #[.int .u32 (num r)] 22 (0, 0)) := by rw [he]; exact h.here
    have e2 : w.heap[a.block]? = none := by rw [he]; simp
    simp [World.frozen?, e1, e2]
  · have e2 : w.heap[a.block]? = none := by simp; omega
    have e3 : w'.heap[a.block]? = none := by simp [h.size]; omega
    simp [World.frozen?, e2, e3]

set_option maxHeartbeats 400000 in
theorem more_any (c : BitVec 32) (s : ByteArray) (w : World) (hs : s.size ≤ maxLen) :
    Calls Try.prog 12 #[.int .u32 (num c), .string s] w fun e w' => e = .returned (.int .u32 (num (moreB c s.data.toList))) ∧ Grown w w' := by
  unfold maxLen at hs
  go_enter Try.func12, Try.ntmps12
  go_wp2
  rw [not_max]
  go_loopw [13] (fun i wr => ∃ k : Nat, k ≤ s.size ∧ i = .int .i64 k ∧ Reg w.heap.size (w.alloc (.cells #[.int .u32 (num (~~~ c))] 22)) (run (~~~ c) (s.data.toList.take k)) wr) (fun i _ => s.size - (intOf i).toNat)
  case atStart => exact ⟨0, by omega, rfl, Reg.start w (~~~ c)⟩
  case round =>
    obtain ⟨k, hk, rfl, hr⟩ := hrel
    by_cases hlt : k < s.size
    · have H := Lib.hid (run_snoc (~~~ c) s k hlt)
      go_wp2_with (go_at_call 15; refine (shift_any s[k] _ _ _ hr.here).mono ?_; rintro e w' ⟨rfl, hr'⟩)
      go_roundw
      case rel => exact ⟨k + 1, by omega, by go_num, by rw [H.out]; exact hr.trans hr'⟩
      case measure => simp [intOf]; omega
    · obtain rfl : k = s.size := by omega
      have hc := cell_of_one hr.here
      go_wp2
      go_ret
      exact ⟨by rw [not_max, take_all]; rfl, hr.grown⟩

set_option maxHeartbeats 400000 in
theorem sum_any (s : ByteArray) (w : World) (hs : s.size ≤ maxLen) :
    Calls Try.prog 10 #[.string s] w fun e w' => e = .returned (.int .u32 (num (moreB 0 s.data.toList))) ∧ Grown w w' := by
  go_enter Try.func10, Try.ntmps10
  go_wp2_with (go_at_call 12; refine (more_any 0 s _ hs).mono ?_; rintro e w' ⟨rfl, hg⟩)
  go_ret
  exact ⟨rfl, hg⟩

set_option maxHeartbeats 800000 in
theorem ref_more (c : BitVec 32) (s : ByteArray) (w : World) (hs : s.size ≤ maxLen) :
    Calls Try.prog 13 #[.int .u32 (num c), .string s] w fun e w' => e = .returned (.int .u32 (num (moreB c s.data.toList))) ∧ w = w' := by
  unfold maxLen at hs
  go_enter Try.func13, Try.ntmps13
  go_wp2
  rw [not_max]
  go_loop [5, 6] (fun r i => ∃ k : Nat, k ≤ s.size ∧ i = .int .i64 k ∧ r = .int .u32 (num (run (~~~ c) (s.data.toList.take k)))) (fun _ i => s.size - (intOf i).toNat)
  case atStart => exact ⟨0, by omega, rfl, rfl⟩
  case round =>
    obtain ⟨k, hk, rfl, rfl⟩ := hrel
    by_cases hlt : k < s.size
    · have H := Lib.hid (run_snoc (~~~ c) s k hlt)
      obtain ⟨q, hq⟩ : ∃ q, q = run (~~~ c) (s.data.toList.take k) := ⟨_, rfl⟩
      rw [← hq] at H ⊢
      clear hq
      go_wp2
      go_loop [5, 7] (fun r i => ∃ j : Nat, j ≤ 8 ∧ i = .int .i64 j ∧ r = .int .u32 (num (shiftN q s[k] j))) (fun _ i => 8 - (intOf i).toNat)
      case atStart => exact ⟨0, by omega, rfl, rfl⟩
      case round =>
        obtain ⟨j, hj, rfl, rfl⟩ := hrel
        by_cases hlt2 : j < 8
        · go_wp2
          all_goals
            go_round
            case rel => first | exact ⟨j + 1, by omega, by go_num, val_int (ref_true (shiftN q s[k] j) s[k] j (by assumption))⟩ | exact ⟨j + 1, by omega, by go_num, val_int (ref_false (shiftN q s[k] j) s[k] j (by assumption))⟩
            case measure => simp [intOf]; omega
        · obtain rfl : j = 8 := by omega
          go_wp2
          go_round
          case rel => exact ⟨k + 1, by omega, by go_num, by rw [H.out]; rfl⟩
          case measure => simp [intOf]; omega
    · obtain rfl : k = s.size := by omega
      go_wp2
      go_ret
      exact ⟨by rw [not_max, take_all]; rfl, rfl⟩

set_option maxHeartbeats 400000 in
theorem ref_sum (s : ByteArray) (w : World) (hs : s.size ≤ maxLen) :
    Calls Try.prog 11 #[.string s] w fun e w' => e = .returned (.int .u32 (num (moreB 0 s.data.toList))) ∧ w = w' := by
  go_enter Try.func11, Try.ntmps11
  go_wp2_with (go_at_call 13; refine (ref_more 0 s _ hs).mono ?_; rintro e w' ⟨rfl, rfl⟩)
  go_ret
  exact ⟨rfl, rfl⟩

theorem Grown.trans {a b c : World} (h : Grown a b) (k : Grown b c) : Grown a c :=
  ⟨World.keptBut_trans h.1 k.1, fun x => (k.2.1 x).trans (h.2.1 x), Nat.le_trans h.2.2 k.2.2⟩

/-- Sum and More of given strings, with the numbers that come out. -/
theorem sum_is (s : ByteArray) (n : Int) (w : World) (hs : s.size ≤ maxLen) (h : num (moreB 0 s.data.toList) = n) :
    Calls Try.prog 10 #[.string s] w fun e w' => e = .returned (.int .u32 n) ∧ Grown w w' := by
  subst h; exact sum_any s w hs
theorem more_is (c : BitVec 32) (m : Int) (s : ByteArray) (n : Int) (w : World) (hs : s.size ≤ maxLen) (hm : num c = m) (h : num (moreB c s.data.toList) = n) :
    Calls Try.prog 12 #[.int .u32 m, .string s] w fun e w' => e = .returned (.int .u32 n) ∧ Grown w w' := by
  subst hm h; exact more_any c s w hs

set_option maxHeartbeats 400000 in
theorem known_any (w : World) : Calls Try.prog 9 #[] w fun e w' => e = .returned (.bool true) ∧ Grown w w' := by
  go_enter Try.func9, Try.ntmps9
  go_wp2_with (first
    | (go_at_call 10; refine (sum_is _ 3421780262 _ (by decide) known1).mono ?_; rintro e w1 ⟨rfl, hg1⟩)
    | (go_at_call 12; refine (more_is 0 0 _ 3904355907 _ (by decide) rfl known2).mono ?_; rintro e w2 ⟨rfl, hg2⟩))
  go_ret
  exact ⟨rfl, Grown.trans (by assumption) (by assumption)⟩
end Go.Proofs.Ytibpocemjdcgaaa
