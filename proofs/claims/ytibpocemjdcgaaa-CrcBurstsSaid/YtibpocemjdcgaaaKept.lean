/-
  What the calls of package crc do, said so that every block that was there is as it was ('Kept'): for callers that hold memory of their own.
-/
import Derived.Test.YtibpocemjdcgaaaMore
import Derived.Test.YtibpocemjdcgaaaFeed
namespace Go.Proofs.Ytibpocemjdcgaaa
open Go.RowKit

def Kept (w w' : World) : Prop := Below w.heap.size w w'
theorem Kept.refl (w : World) : Kept w w := Below.refl _ _
theorem Kept.trans {a b c : World} (h : Kept a b) (k : Kept b c) : Kept a c := Below.trans h (Below.mono k h.size)
theorem Kept.block {a b : World} (h : Kept a b) {k : Nat} {o : Obj} (hb : a.heap[k]? = some o) : b.heap[k]? = some o := by
  rw [Below.block h k (lt_of_block hb)]; exact hb
theorem Kept.cell {a b : World} (h : Kept a b) {p : Addr} (hp : p.block < a.heap.size) : b.cell? p = a.cell? p := Below.cell h hp

set_option maxHeartbeats 400000 in
theorem more_k (c : BitVec 32) (s : ByteArray) (w : World) (hs : s.size ≤ maxLen) :
    Calls Try.prog 12 #[.int .u32 (num c), .string s] w fun e w' => e = .returned (.int .u32 (num (moreB c s.data.toList))) ∧ Kept w w' := by
  unfold maxLen at hs
  go_enter Try.func12, Try.ntmps12
  go_wp2
  rw [not_max]
  go_loopw [13] (fun i wr => ∃ k : Nat, k ≤ s.size ∧ i = .int .i64 k ∧ Reg w.heap.size (w.alloc (.cells #[.int .u32 (num (~~~ c))] 22)) (run (~~~ c) (s.data.toList.take k)) wr) (fun i _ => s.size - (intOf i).toNat)
  case atStart => exact ⟨0, by omega, rfl, Reg.start w (~~~ c)⟩
  case round =>
    obtain ⟨k, hk, rfl, hr⟩ := hrel
    by_cases hlt : k < s.size
    · have H := Lib.hid (run_snoc (~~~ c) s k hlt)
      go_wp2_with (go_at_call 15; refine (shift_any s[k] _ _ _ hr.here).mono ?_; rintro e w' ⟨rfl, hr'⟩)
      go_roundw
      case rel => exact ⟨k + 1, by omega, by go_num, by rw [H.out]; exact hr.trans hr'⟩
      case measure => simp [intOf]; omega
    · obtain rfl : k = s.size := by omega
      have hc := cell_of_one hr.here
      go_wp2
      go_ret
      exact ⟨by rw [not_max, take_all]; rfl, hr.below⟩

set_option maxHeartbeats 400000 in
theorem sum_k (s : ByteArray) (w : World) (hs : s.size ≤ maxLen) :
    Calls Try.prog 10 #[.string s] w fun e w' => e = .returned (.int .u32 (num (moreB 0 s.data.toList))) ∧ Kept w w' := by
  go_enter Try.func10, Try.ntmps10
  go_wp2_with (go_at_call 12; refine (more_k 0 s _ hs).mono ?_; rintro e w' ⟨rfl, hg⟩)
  go_ret
  exact ⟨rfl, hg⟩
theorem sum_kis (s : ByteArray) (n : Int) (w : World) (hs : s.size ≤ maxLen) (h : num (moreB 0 s.data.toList) = n) :
    Calls Try.prog 10 #[.string s] w fun e w' => e = .returned (.int .u32 n) ∧ Kept w w' := by
  subst h; exact sum_k s w hs
theorem more_kis (c : BitVec 32) (m : Int) (s : ByteArray) (n : Int) (w : World) (hs : s.size ≤ maxLen) (hm : num c = m) (h : num (moreB c s.data.toList) = n) :
    Calls Try.prog 12 #[.int .u32 m, .string s] w fun e w' => e = .returned (.int .u32 n) ∧ Kept w w' := by
  subst hm h; exact more_k c s w hs
set_option maxHeartbeats 400000 in
theorem known_k (w : World) : Calls Try.prog 9 #[] w fun e w' => e = .returned (.bool true) ∧ Kept w w' := by
  go_enter Try.func9, Try.ntmps9
  go_wp2_with (first
    | (go_at_call 10; refine (sum_kis _ 3421780262 _ (by decide) known1).mono ?_; rintro e w1 ⟨rfl, hg1⟩)
    | (go_at_call 12; refine (more_kis 0 0 _ 3904355907 _ (by decide) rfl known2).mono ?_; rintro e w2 ⟨rfl, hg2⟩))
  go_ret
  exact ⟨rfl, Kept.trans (by assumption) (by assumption)⟩

/-! The bits of a string. -/
theorem shiftN_feed (r : BitVec 32) (c : UInt8) (k : Nat) : shiftN r c k = feed (bitOf c) r k := by
  induction k with
  | zero => rfl
  | succ k ih => show step _ _ = step _ _; rw [ih]
theorem feed_add (f : Nat → Bool) (r : BitVec 32) (a b : Nat) : feed f r (a + b) = feed (fun p => f (a + p)) (feed f r a) b := by
  induction b with
  | zero => rfl
  | succ b ih => show step _ _ = step _ _; rw [← ih]; rfl
def bitAt (l : List UInt8) (p : Nat) : Bool := bitOf (l.getD (p / 8) 0) (p % 8)
theorem run_feed (l : List UInt8) : ∀ (r : BitVec 32), run r l = feed (bitAt l) r (8 * l.length) := by
  induction l with
  | nil => intro r; rfl
  | cons c l ih =>
    intro r
    have e : 8 * (c :: l).length = 8 + 8 * l.length := by simp; omega
    rw [e, feed_add]
    have h1 : feed (bitAt (c :: l)) r 8 = byte r c := by
      unfold byte; rw [shiftN_feed]
      apply feed_congr; intro p hp
      unfold bitAt; rw [Nat.div_eq_of_lt hp, Nat.mod_eq_of_lt hp]; rfl
    rw [h1]
    show run (byte r c) l = _
    rw [ih]
    apply feed_congr; intro p _
    unfold bitAt
    rw [show (8 + p) / 8 = p / 8 + 1 by omega, show (8 + p) % 8 = p % 8 by omega]; rfl

/-! The bytes of a number, the lowest first. -/
def tailOf (x : BitVec 32) : List UInt8 := [UInt8.ofNat (x.toNat % 256), UInt8.ofNat (x.toNat / 256 % 256), UInt8.ofNat (x.toNat / 65536 % 256), UInt8.ofNat (x.toNat / 16777216 % 256)]
theorem bit_low (x : BitVec 32) (p : Nat) : x.getLsbD p = decide (x.toNat / 2 ^ p % 2 = 1) := by
  rw [BitVec.getLsbD, Nat.testBit_eq_decide_div_mod_eq]
theorem tail_bit (x : Nat) (i j : Nat) (hj : j < 8) : x / 256 ^ i % 256 / 2 ^ j % 2 = x / 2 ^ (8 * i + j) % 2 := by
  rw [Nat.pow_add, Nat.pow_mul, show (2 : Nat) ^ 8 = 256 from rfl, ← Nat.div_div_eq_div_mul]
  generalize x / 256 ^ i = y
  have h : j = 0 ∨ j = 1 ∨ j = 2 ∨ j = 3 ∨ j = 4 ∨ j = 5 ∨ j = 6 ∨ j = 7 := by omega
  rcases h with rfl | rfl | rfl | rfl | rfl | rfl | rfl | rfl <;> omega
theorem tail_feed (x r : BitVec 32) : run r (tailOf x) = feed (fun p => x.getLsbD p) r 32 := by
  rw [run_feed]
  show feed _ r 32 = _
  apply feed_congr
  intro p hp
  have key : ∀ i j, j < 8 → bitOf (UInt8.ofNat (x.toNat / 256 ^ i % 256)) j = x.getLsbD (8 * i + j) := by
    intro i j hj
    rw [bitOf_eq, bit_low, ← tail_bit _ i j hj]
    have : (UInt8.ofNat (x.toNat / 256 ^ i % 256)).toNat = x.toNat / 256 ^ i % 256 := by
      rw [UInt8.toNat_ofNat']; exact Nat.mod_eq_of_lt (Nat.mod_lt _ (by decide))
    rw [this]
  have hq : p / 8 = 0 ∨ p / 8 = 1 ∨ p / 8 = 2 ∨ p / 8 = 3 := by omega
  have hm : p % 8 < 8 := Nat.mod_lt _ (by decide)
  unfold bitAt
  rcases hq with h | h | h | h <;> rw [h]
  · have := key 0 _ hm; rw [show 8 * 0 + p % 8 = p by omega] at this; simpa [tailOf] using this
  · have := key 1 _ hm; rw [show 8 * 1 + p % 8 = p by omega] at this; simpa [tailOf] using this
  · have := key 2 _ hm; rw [show 8 * 2 + p % 8 = p by omega] at this; simpa [tailOf] using this
  · have := key 3 _ hm; rw [show 8 * 3 + p % 8 = p by omega] at this; simpa [tailOf] using this
theorem sum_tail (l : List UInt8) : moreB 0 (l ++ tailOf (moreB 0 l)) = 0x2144DF1C#32 := by
  rw [more_append]
  have h := residue (run (~~~ 0) l)
  rw [← tail_feed] at h
  have e : moreB (moreB 0 l) (tailOf (moreB 0 l)) = ~~~ run (run (~~~ 0) l) (tailOf (~~~ run (~~~ 0) l)) := by unfold moreB; rw [BitVec.not_not]
  rw [e, h]
theorem sum_other (l : List UInt8) (o : BitVec 32) (ho : o ≠ 0) : moreB 0 (l ++ tailOf (moreB 0 l ^^^ o)) ≠ 0x2144DF1C#32 := by
  rw [more_append]
  have h := residue_only (run (~~~ 0) l) o ho
  rw [← tail_feed] at h
  have e : moreB (moreB 0 l) (tailOf (moreB 0 l ^^^ o)) = ~~~ run (run (~~~ 0) l) (tailOf (~~~ run (~~~ 0) l ^^^ o)) := by unfold moreB; rw [BitVec.not_not]
  rw [e]; exact h
end Go.Proofs.Ytibpocemjdcgaaa
