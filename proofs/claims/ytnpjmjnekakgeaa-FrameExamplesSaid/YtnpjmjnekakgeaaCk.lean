/-
  What crc.Sum and crc.More do (for a seat of any later stage): the number that comes out, and every block that was there is as it was.
-/
import Derived.Test.YtnpjmjnekakgeaaCm
import Derived.Test.YtnpjmjnekakgeaaCf
import Derived.Test.YtnpjmjnekakgeaaMem
import Derived.WalkKit
import Derived.RegionTactic
import Derived.Deep.QuietTactic
import Derived.BigQuiet
import Derived.Lib.Hide
namespace Go.Proofs.Ytnpjmjnekakgeaa.Crc
open Go.RowKit Go.Proofs.Ytnpjmjnekakgeaa.Mem

/-- The closure's variable: block B holds r; every other block is as it was. -/
structure Reg (B : Nat) (w : World) (r : BitVec 32) (w' : World) : Prop where
  here : w'.heap[B]? = some (.cells #[.int .u32 (num r)] 34 (0, 0))
  os : w'.os = w.os
  tape : w'.tape = w.tape
  output : w'.output = w.output
  size : w'.heap.size = w.heap.size
  block : ∀ k, k ≠ B → w'.heap[k]? = w.heap[k]?

theorem Reg.drewN {B : Nat} {w w' : World} {r : BitVec 32} (h : Reg B w r w') (n : Nat) : Reg B w r (w'.drewN n) := by
  induction n with
  | zero => exact h
  | succ n ih => exact ⟨ih.here, ih.os, ih.tape, ih.output, ih.size, ih.block⟩
theorem Reg.set {B : Nat} {w w' : World} {r q : BitVec 32} {v : Int} (h : Reg B w r w') (hv : v = num q) : Reg B w q (w'.setCell ⟨B, 0, none⟩ (.int .u32 v)) := by
  subst hv
  refine ⟨one_setCell h.here, h.os, h.tape, h.output, by simpa [World.setCell] using h.size, fun k hk => ?_⟩
  rw [Below.heap_setCell _ _ _ _ hk]; exact h.block k hk

set_option maxHeartbeats 400000 in
theorem shift_any (c : UInt8) (B : Nat) (r : BitVec 32) (w : World) (hB : w.heap[B]? = some (.cells #[.int .u32 (num r)] 34 (0, 0))) :
    Calls Try.prog 36 #[.int .u8 (c.toNat : Int), .pointer (some ⟨B, 0, none⟩)] w fun e w' => e = .returned (.tuple #[]) ∧ Reg B w (byte r c) w' := by
  have h0 : Reg B w r w := ⟨hB, rfl, rfl, rfl, rfl, fun _ _ => rfl⟩
  clear hB
  go_enter Try.func36, Try.ntmps36
  go_wp2
  go_loopw [5] (fun i wr => ∃ k : Nat, k ≤ 8 ∧ i = .int .i64 k ∧ Reg B w (shiftN r c k) wr) (fun i _ => 8 - (intOf i).toNat)
  case atStart => exact ⟨0, by omega, rfl, h0⟩
  case round =>
    obtain ⟨k, hk, rfl, hr⟩ := hrel
    clear h0
    have hc := cell_of_one hr.here
    have hf := free_of_one hr.here
    by_cases hlt : k < 8
    · go_wp2
      go_quiet (fail)
      go_wp2
      all_goals
        go_roundw
        case rel => first | exact ⟨k + 1, by omega, by go_num, ((hr.drewN _).set (num_shr _)).set (step_true (shiftN r c k) c k (by assumption))⟩ | exact ⟨k + 1, by omega, by go_num, (hr.drewN _).set (step_false (shiftN r c k) c k (by assumption))⟩
        case measure => simp [intOf]; omega
    · obtain rfl : k = 8 := by omega
      go_wp2
      go_end0
      exact ⟨rfl, hr⟩

theorem not_max (a : BitVec 32) : bits .xor .u32 IntKind.u32.max (num a) = num (~~~ a) := num_not a
theorem ret_u32 {a b : BitVec 32} (h : a = b) : Ending.returned (.int .u32 (num a)) = .returned (.int .u32 (num b)) := by rw [h]
theorem take_snoc (s : ByteArray) (k : Nat) (h : k < s.size) : s.data.toList.take (k + 1) = s.data.toList.take k ++ [s[k]] := by
  rw [List.take_succ_eq_append_getElem (by simpa using h)]; rfl
theorem run_snoc (r : BitVec 32) (s : ByteArray) (k : Nat) (h : k < s.size) : run r (s.data.toList.take (k + 1)) = byte (run r (s.data.toList.take k)) s[k] := by
  rw [take_snoc s k h]; simp [run]
theorem take_all (s : ByteArray) : s.data.toList.take s.size = s.data.toList := List.take_of_length_le (by show s.data.toList.length ≤ s.data.size; simp)
theorem Reg.trans {B : Nat} {a b c : World} {r q : BitVec 32} (h : Reg B a r b) (k : Reg B b q c) : Reg B a q c :=
  ⟨k.here, k.os.trans h.os, k.tape.trans h.tape, k.output.trans h.output, k.size.trans h.size, fun i hi => (k.block i hi).trans (h.block i hi)⟩
theorem Reg.start (w : World) (r : BitVec 32) : Reg w.heap.size (w.alloc (.cells #[.int .u32 (num r)] 34)) r (w.alloc (.cells #[.int .u32 (num r)] 34)) :=
  ⟨(MapKept.heap_alloc w _).1, rfl, rfl, rfl, rfl, fun _ _ => rfl⟩
theorem Reg.below {w w' : World} {v : Value} {r : BitVec 32} (h : Reg w.heap.size (w.alloc (.cells #[v] 34)) r w') : Below w.heap.size w w' :=
  ⟨h.os, h.tape, h.output, by rw [h.size]; simp, fun k hk => by rw [h.block k (by omega)]; exact Below.heap_alloc _ _ _ hk⟩
theorem Reg.grown {w w' : World} {v : Value} {r : BitVec 32} (h : Reg w.heap.size (w.alloc (.cells #[v] 34)) r w') : Grown w w' := by
  refine ⟨h.below.frame _, fun a => ?_, h.below.size⟩
  rcases Nat.lt_trichotomy a.block w.heap.size with hl | he | hg
  · exact h.below.frozen hl
  · have e1 : w'.heap[a.block]? = some (.cells #[.int .u32 (num r)] 34 (0, 0)) := by rw [he]; exact h.here
    have e2 : w.heap[a.block]? = none := by rw [he]; simp
    simp [World.frozen?, e1, e2]
  · have e2 : w.heap[a.block]? = none := by simp; omega
    have e3 : w'.heap[a.block]? = none := by simp [h.size]; omega
    simp [World.frozen?, e2, e3]

set_option maxHeartbeats 400000 in
theorem more_k (c : BitVec 32) (s : ByteArray) (w : World) (hs : s.size ≤ maxLen) :
    Calls Try.prog 27 #[.int .u32 (num c), .string s] w fun e w' => e = .returned (.int .u32 (num (moreB c s.data.toList))) ∧ Kept w w' := by
  unfold maxLen at hs
  go_enter Try.func27, Try.ntmps27
  go_wp2
  rw [not_max]
  go_loopw [13] (fun i wr => ∃ k : Nat, k ≤ s.size ∧ i = .int .i64 k ∧ Reg w.heap.size (w.alloc (.cells #[.int .u32 (num (~~~ c))] 34)) (run (~~~ c) (s.data.toList.take k)) wr) (fun i _ => s.size - (intOf i).toNat)
  case atStart => exact ⟨0, by omega, rfl, Reg.start w (~~~ c)⟩
  case round =>
    obtain ⟨k, hk, rfl, hr⟩ := hrel
    by_cases hlt : k < s.size
    · have H := Lib.hid (run_snoc (~~~ c) s k hlt)
      go_wp2_with (go_at_call 36; refine (shift_any s[k] _ _ _ hr.here).mono ?_; rintro e w' ⟨rfl, hr'⟩)
      go_roundw
      case rel => exact ⟨k + 1, by omega, by go_num, by rw [H.out]; exact hr.trans hr'⟩
      case measure => simp [intOf]; omega
    · obtain rfl : k = s.size := by omega
      have hc := cell_of_one hr.here
      go_wp2
      go_ret
      exact ⟨by rw [not_max, take_all]; rfl, hr.below⟩

set_option maxHeartbeats 400000 in
theorem sum_k (s : ByteArray) (w : World) (hs : s.size ≤ maxLen) :
    Calls Try.prog 16 #[.string s] w fun e w' => e = .returned (.int .u32 (num (moreB 0 s.data.toList))) ∧ Kept w w' := by
  go_enter Try.func16, Try.ntmps16
  go_wp2_with (go_at_call 27; refine (more_k 0 s _ hs).mono ?_; rintro e w' ⟨rfl, hg⟩)
  go_ret
  exact ⟨rfl, hg⟩
theorem sum_kis (s : ByteArray) (n : Int) (w : World) (hs : s.size ≤ maxLen) (h : num (moreB 0 s.data.toList) = n) :
    Calls Try.prog 16 #[.string s] w fun e w' => e = .returned (.int .u32 n) ∧ Kept w w' := by
  subst h; exact sum_k s w hs
theorem more_kis (c : BitVec 32) (m : Int) (s : ByteArray) (n : Int) (w : World) (hs : s.size ≤ maxLen) (hm : num c = m) (h : num (moreB c s.data.toList) = n) :
    Calls Try.prog 27 #[.int .u32 m, .string s] w fun e w' => e = .returned (.int .u32 n) ∧ Kept w w' := by
  subst hm h; exact more_k c s w hs
/-! The bits of a string. -/
theorem shiftN_feed (r : BitVec 32) (c : UInt8) (k : Nat) : shiftN r c k = feed (bitOf c) r k := by
  induction k with
  | zero => rfl
  | succ k ih => show step _ _ = step _ _; rw [ih]
theorem feed_add (f : Nat → Bool) (r : BitVec 32) (a b : Nat) : feed f r (a + b) = feed (fun p => f (a + p)) (feed f r a) b := by
  induction b with
  | zero => rfl
  | succ b ih => show step _ _ = step _ _; rw [← ih]; rfl
def bitAt (l : List UInt8) (p : Nat) : Bool := bitOf (l.getD (p / 8) 0) (p % 8)
theorem run_feed (l : List UInt8) : ∀ (r : BitVec 32), run r l = feed (bitAt l) r (8 * l.length) := by
  induction l with
  | nil => intro r; rfl
  | cons c l ih =>
    intro r
    have e : 8 * (c :: l).length = 8 + 8 * l.length := by simp; omega
    rw [e, feed_add]
    have h1 : feed (bitAt (c :: l)) r 8 = byte r c := by
      unfold byte; rw [shiftN_feed]
      apply feed_congr; intro p hp
      unfold bitAt; rw [Nat.div_eq_of_lt hp, Nat.mod_eq_of_lt hp]; rfl
    rw [h1]
    show run (byte r c) l = _
    rw [ih]
    apply feed_congr; intro p _
    unfold bitAt
    rw [show (8 + p) / 8 = p / 8 + 1 by omega, show (8 + p) % 8 = p % 8 by omega]; rfl

/-! The bytes of a number, the lowest first. -/
def tailOf (x : BitVec 32) : List UInt8 := [UInt8.ofNat (x.toNat % 256), UInt8.ofNat (x.toNat / 256 % 256), UInt8.ofNat (x.toNat / 65536 % 256), UInt8.ofNat (x.toNat / 16777216 % 256)]
theorem bit_low (x : BitVec 32) (p : Nat) : x.getLsbD p = decide (x.toNat / 2 ^ p % 2 = 1) := by
  rw [BitVec.getLsbD, Nat.testBit_eq_decide_div_mod_eq]
theorem tail_bit (x : Nat) (i j : Nat) (hj : j < 8) : x / 256 ^ i % 256 / 2 ^ j % 2 = x / 2 ^ (8 * i + j) % 2 := by
  rw [Nat.pow_add, Nat.pow_mul, show (2 : Nat) ^ 8 = 256 from rfl, ← Nat.div_div_eq_div_mul]
  generalize x / 256 ^ i = y
  have h : j = 0 ∨ j = 1 ∨ j = 2 ∨ j = 3 ∨ j = 4 ∨ j = 5 ∨ j = 6 ∨ j = 7 := by omega
  rcases h with rfl | rfl | rfl | rfl | rfl | rfl | rfl | rfl <;> omega
theorem tail_feed (x r : BitVec 32) : run r (tailOf x) = feed (fun p => x.getLsbD p) r 32 := by
  rw [run_feed]
  show feed _ r 32 = _
  apply feed_congr
  intro p hp
  have key : ∀ i j, j < 8 → bitOf (UInt8.ofNat (x.toNat / 256 ^ i % 256)) j = x.getLsbD (8 * i + j) := by
    intro i j hj
    rw [bitOf_eq, bit_low, ← tail_bit _ i j hj]
    have : (UInt8.ofNat (x.toNat / 256 ^ i % 256)).toNat = x.toNat / 256 ^ i % 256 := by
      rw [UInt8.toNat_ofNat']; exact Nat.mod_eq_of_lt (Nat.mod_lt _ (by decide))
    rw [this]
  have hq : p / 8 = 0 ∨ p / 8 = 1 ∨ p / 8 = 2 ∨ p / 8 = 3 := by omega
  have hm : p % 8 < 8 := Nat.mod_lt _ (by decide)
  unfold bitAt
  rcases hq with h | h | h | h <;> rw [h]
  · have := key 0 _ hm; rw [show 8 * 0 + p % 8 = p by omega] at this; simpa [tailOf] using this
  · have := key 1 _ hm; rw [show 8 * 1 + p % 8 = p by omega] at this; simpa [tailOf] using this
  · have := key 2 _ hm; rw [show 8 * 2 + p % 8 = p by omega] at this; simpa [tailOf] using this
  · have := key 3 _ hm; rw [show 8 * 3 + p % 8 = p by omega] at this; simpa [tailOf] using this
theorem sum_tail (l : List UInt8) : moreB 0 (l ++ tailOf (moreB 0 l)) = 0x2144DF1C#32 := by
  rw [more_append]
  have h := residue (run (~~~ 0) l)
  rw [← tail_feed] at h
  have e : moreB (moreB 0 l) (tailOf (moreB 0 l)) = ~~~ run (run (~~~ 0) l) (tailOf (~~~ run (~~~ 0) l)) := by unfold moreB; rw [BitVec.not_not]
  rw [e, h]
theorem sum_other (l : List UInt8) (o : BitVec 32) (ho : o ≠ 0) : moreB 0 (l ++ tailOf (moreB 0 l ^^^ o)) ≠ 0x2144DF1C#32 := by
  rw [more_append]
  have h := residue_only (run (~~~ 0) l) o ho
  rw [← tail_feed] at h
  have e : moreB (moreB 0 l) (tailOf (moreB 0 l ^^^ o)) = ~~~ run (run (~~~ 0) l) (tailOf (~~~ run (~~~ 0) l ^^^ o)) := by unfold moreB; rw [BitVec.not_not]
  rw [e]; exact h
end Go.Proofs.Ytnpjmjnekakgeaa.Crc
