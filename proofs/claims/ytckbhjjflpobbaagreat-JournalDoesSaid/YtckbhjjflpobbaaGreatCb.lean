/-
  The checksum register as a function on bit vectors, and the integer forms in which the walk meets its operations. Plain mathematics: nothing here speaks of the program.
  The checksum register fed bit by bit: it is linear, a burst of at most 32 bits never leaves it at 0, and feeding a number's own bits ends at 0. Plain mathematics: nothing here speaks of the program.
  What crc.Sum and crc.More do (for a seat of any later stage): the number that comes out, and every block that was there is as it was.
  What the specification's Sum and More return.
-/
import Derived.Laws.BitsAllLaws
import Derived.Test.YtckbhjjflpobbaaGreatBa
import Derived.WalkKit
import Derived.RegionTactic
import Derived.Deep.QuietTactic
import Derived.BigQuiet
import Derived.Lib.Hide
namespace Go.Proofs.YtckbhjjflpobbaaGreat.Crc

def poly : BitVec 32 := 0xEDB88320#32
/-- One bit goes through the register. -/
def step (r : BitVec 32) (b : Bool) : BitVec 32 := if (r.getLsbD 0 != b) = true then (r >>> 1) ^^^ poly else r >>> 1
def bitOf (c : UInt8) (i : Nat) : Bool := c.toNat.testBit i
/-- The first k bits of a byte. -/
def shiftN (r : BitVec 32) (c : UInt8) : Nat → BitVec 32
  | 0 => r
  | k + 1 => step (shiftN r c k) (bitOf c k)
def byte (r : BitVec 32) (c : UInt8) : BitVec 32 := shiftN r c 8
def run (r : BitVec 32) (l : List UInt8) : BitVec 32 := l.foldl byte r
def moreB (c : BitVec 32) (l : List UInt8) : BitVec 32 := ~~~ run (~~~ c) l

/-- The value of a register as Go's uint32. -/
def num (r : BitVec 32) : Int := (r.toNat : Int)
theorem num_lo (r : BitVec 32) : 0 ≤ num r := Int.natCast_nonneg _
theorem num_hi (r : BitVec 32) : num r < 4294967296 := by have := r.isLt; unfold num; omega
theorem num_inj {a b : BitVec 32} : num a = num b ↔ a = b := by
  unfold num
  constructor
  · intro h; exact BitVec.eq_of_toNat_eq (by omega)
  · intro h; rw [h]
theorem of_num (n : Int) (h0 : 0 ≤ n) (h1 : n < 4294967296) : num (BitVec.ofInt 32 n) = n := by
  unfold num; rw [BitVec.toNat_ofInt]; omega
theorem num_shr (r : BitVec 32) : (num r) / (2 : Int) = num (r >>> (1 : Nat)) := by
  unfold num; rw [BitVec.toNat_ushiftRight, Nat.shiftRight_eq_div_pow]; simp
theorem num_xor (a b : BitVec 32) : bits .xor .u32 (num a) (num b) = num (a ^^^ b) := by
  unfold num; rw [u32_xor_nat _ _ a.isLt b.isLt, BitVec.toNat_xor]
theorem num_poly (a : BitVec 32) : bits .xor .u32 (num a) 3988292384 = num (a ^^^ poly) := num_xor a poly
theorem num_not (a : BitVec 32) : bits .xor .u32 4294967295 (num a) = num (~~~ a) := by
  have e : ~~~ a = BitVec.allOnes 32 ^^^ a := rfl
  rw [e]; exact num_xor (BitVec.allOnes 32) a
theorem low (a : BitVec 32) : a.getLsbD 0 = decide (a.toNat % 2 = 1) := by
  rw [BitVec.getLsbD, Nat.testBit_zero]
theorem bitOf_eq (c : UInt8) (k : Nat) : bitOf c k = decide (c.toNat / 2 ^ k % 2 = 1) := by
  unfold bitOf; rw [Nat.testBit_eq_decide_div_mod_eq]
theorem u8_lt (c : UInt8) : c.toNat < 256 := c.toNat_lt
theorem div_pow_lt (c : UInt8) (k : Nat) : c.toNat / 2 ^ k < 256 := Nat.lt_of_le_of_lt (Nat.div_le_self _ _) (u8_lt c)
theorem xor_mod (a b : Nat) : (a ^^^ b) % 2 = (a % 2 + b % 2) % 2 := by
  have h := Nat.testBit_xor a b 0
  simp only [Nat.testBit_zero] at h
  have h1 := Nat.mod_two_eq_zero_or_one a
  have h2 := Nat.mod_two_eq_zero_or_one b
  have h3 := Nat.mod_two_eq_zero_or_one (a ^^^ b)
  rcases h1 with h1 | h1 <;> rcases h2 with h2 | h2 <;> rcases h3 with h3 | h3 <;> simp_all
/-- The program's test. -/
theorem test_code (r : BitVec 32) (c : UInt8) (k : Nat) :
    (bits .and .u32 (bits .xor .u32 (num r) ((c.toNat / 2 ^ k : Nat) : Int)) 1 != 0) = (r.getLsbD 0 != bitOf c k) := by
  have hc := div_pow_lt c k
  have hr := r.isLt
  have hx : r.toNat ^^^ c.toNat / 2 ^ k < 2 ^ 32 := Nat.xor_lt_two_pow (by omega) (by omega)
  unfold num
  rw [u32_xor_nat _ _ (by omega) (by omega)]
  have h1 : (1 : Int) = ((1 : Nat) : Int) := rfl
  rw [h1, u32_and_nat _ _ (by omega) (by omega), Nat.and_one_is_mod, xor_mod, low, bitOf_eq]
  have a1 := Nat.mod_two_eq_zero_or_one r.toNat
  have a2 := Nat.mod_two_eq_zero_or_one (c.toNat / 2 ^ k)
  rcases a1 with a1 | a1 <;> rcases a2 with a2 | a2 <;> rw [a1, a2] <;> decide
/-- The specification's test. -/
theorem test_ref (r : BitVec 32) (c : UInt8) (k : Nat) :
    (bits .and .u32 (num r) 1 != bits .and .u32 ((c.toNat / 2 ^ k : Nat) : Int) 1) = (r.getLsbD 0 != bitOf c k) := by
  have hc := div_pow_lt c k
  have hr := r.isLt
  unfold num
  have h1 : (1 : Int) = ((1 : Nat) : Int) := rfl
  rw [h1, u32_and_nat _ _ (by omega) (by omega), u32_and_nat _ _ (by omega) (by omega), Nat.and_one_is_mod, Nat.and_one_is_mod, low, bitOf_eq]
  have a1 := Nat.mod_two_eq_zero_or_one r.toNat
  have a2 := Nat.mod_two_eq_zero_or_one (c.toNat / 2 ^ k)
  rcases a1 with a1 | a1 <;> rcases a2 with a2 | a2 <;> rw [a1, a2] <;> decide
theorem cast_bit (c : UInt8) (k : Nat) : (c.toNat : Int) / 2 ^ k % 4294967296 = ((c.toNat / 2 ^ k : Nat) : Int) := by
  have h := div_pow_lt c k
  have e : (c.toNat : Int) / 2 ^ k = ((c.toNat / 2 ^ k : Nat) : Int) := by simp
  rw [e]; exact Int.emod_eq_of_lt (Int.natCast_nonneg _) (by omega)
theorem step_true (r : BitVec 32) (c : UInt8) (k : Nat) (h : (bits .and .u32 (bits .xor .u32 (num r) ((c.toNat : Int) / 2 ^ k % 4294967296)) 1 != 0) = true) :
    bits .xor .u32 (num r / 2) 3988292384 = num (step r (bitOf c k)) := by
  rw [cast_bit, test_code] at h
  rw [num_shr, num_poly, step, if_pos h]
theorem step_false (r : BitVec 32) (c : UInt8) (k : Nat) (h : (bits .and .u32 (bits .xor .u32 (num r) ((c.toNat : Int) / 2 ^ k % 4294967296)) 1 != 0) = false) :
    num r / 2 = num (step r (bitOf c k)) := by
  rw [cast_bit, test_code] at h
  rw [num_shr, step, if_neg (by rw [h]; decide)]
theorem cast_bit' (c : UInt8) (k : Nat) : (c.toNat : Int) % 4294967296 / 2 ^ k = ((c.toNat / 2 ^ k : Nat) : Int) := by
  have h := u8_lt c
  rw [Int.emod_eq_of_lt (Int.natCast_nonneg _) (by omega)]; simp
theorem ref_true (r : BitVec 32) (c : UInt8) (k : Nat) (h : (bits .and .u32 (num r) 1 != bits .and .u32 ((c.toNat : Int) % 4294967296 / 2 ^ k) 1) = true) :
    bits .xor .u32 (num r / 2) 3988292384 = num (step r (bitOf c k)) := by
  rw [cast_bit', test_ref] at h
  rw [num_shr, num_poly, step, if_pos h]
theorem ref_false (r : BitVec 32) (c : UInt8) (k : Nat) (h : (bits .and .u32 (num r) 1 != bits .and .u32 ((c.toNat : Int) % 4294967296 / 2 ^ k) 1) = false) :
    num r / 2 = num (step r (bitOf c k)) := by
  rw [cast_bit', test_ref] at h
  rw [num_shr, step, if_neg (by rw [h]; decide)]
theorem val_int {k : IntKind} {a b : Int} (h : a = b) : Value.int k a = .int k b := by rw [h]
theorem ret_int {k : IntKind} {a b : Int} (h : a = b) : Ending.returned (.int k a) = .returned (.int k b) := by rw [h]
theorem run_append (r : BitVec 32) (a b : List UInt8) : run r (a ++ b) = run (run r a) b := List.foldl_append
theorem more_append (c : BitVec 32) (a b : List UInt8) : moreB c (a ++ b) = moreB (moreB c a) b := by
  unfold moreB; rw [run_append, BitVec.not_not]
theorem more_nil (c : BitVec 32) : moreB c [] = c := by unfold moreB run; simp
theorem known1 : num (moreB 0 [49, 50, 51, 52, 53, 54, 55, 56, 57]) = 3421780262 := by decide +kernel
theorem known2 : num (moreB 0 [97]) = 3904355907 := by decide +kernel
theorem known3 : num (moreB 0 [0]) = 3523407757 := by decide +kernel
theorem known4 : num (moreB (moreB 0 [49, 50, 51, 52]) [53, 54, 55, 56, 57]) = 3421780262 := by decide +kernel
theorem known5 : num (moreB 3904355907#32 []) = 3904355907 := by decide +kernel
theorem known6 : num (moreB 0 []) = 0 := by decide +kernel
end Go.Proofs.YtckbhjjflpobbaaGreat.Crc

namespace Go.Proofs.YtckbhjjflpobbaaGreat.Crc

def feed (f : Nat → Bool) (r : BitVec 32) : Nat → BitVec 32
  | 0 => r
  | k + 1 => step (feed f r k) (f k)

theorem xz (a : BitVec 32) : a ^^^ 0 = a := BitVec.xor_zero
theorem zx (a : BitVec 32) : 0 ^^^ a = a := BitVec.zero_xor
theorem step_eq (r : BitVec 32) (b : Bool) : step r b = (r >>> (1 : Nat)) ^^^ (if (r.getLsbD 0 ^^ b) = true then poly else 0#32) := by
  unfold step
  cases r.getLsbD 0 <;> cases b <;> simp
theorem shr_xor (a b : BitVec 32) : (a ^^^ b) >>> (1 : Nat) = (a >>> (1 : Nat)) ^^^ (b >>> (1 : Nat)) := BitVec.ushiftRight_xor_distrib a b 1
theorem step_xor (r q : BitVec 32) (a b : Bool) : step (r ^^^ q) (a ^^ b) = step r a ^^^ step q b := by
  rw [step_eq, step_eq r, step_eq q, shr_xor, BitVec.getLsbD_xor]
  generalize r >>> (1 : Nat) = x
  generalize q >>> (1 : Nat) = y
  cases r.getLsbD 0 <;> cases q.getLsbD 0 <;> cases a <;> cases b <;> simp <;>
    first
      | ac_rfl
      | (have e : x ^^^ poly ^^^ (y ^^^ poly) = x ^^^ y ^^^ (poly ^^^ poly) := by ac_rfl
         rw [e, BitVec.xor_self, BitVec.xor_zero])
theorem feed_xor (f g : Nat → Bool) (r q : BitVec 32) (k : Nat) : feed (fun p => f p ^^ g p) (r ^^^ q) k = feed f r k ^^^ feed g q k := by
  induction k with
  | zero => rfl
  | succ k ih => show step _ _ = step _ _ ^^^ step _ _; rw [ih, step_xor]
theorem feed_congr {f g : Nat → Bool} (r : BitVec 32) (k : Nat) (h : ∀ p, p < k → f p = g p) : feed f r k = feed g r k := by
  induction k with
  | zero => rfl
  | succ k ih => show step _ _ = step _ _; rw [ih (fun p hp => h p (by omega)), h k (by omega)]
theorem step_zero : step 0 false = 0 := by decide
theorem step_one : step 0 true = poly := by decide
theorem feed_zeros (f : Nat → Bool) (k : Nat) (h : ∀ p, p < k → f p = false) : feed f 0 k = 0 := by
  induction k with
  | zero => rfl
  | succ k ih => show step _ _ = _; rw [ih (fun p hp => h p (by omega)), h k (by omega), step_zero]
theorem poly_top : poly.getLsbD 31 = true := by decide
/-- What a small register came from. -/
theorem back (r : BitVec 32) (b : Bool) (k : Nat) (hk : k ≤ 31) (h : (step r b).toNat < 2 ^ k) : r.toNat < 2 ^ (k + 1) ∧ r.getLsbD 0 = b := by
  rw [step_eq] at h
  by_cases e : (r.getLsbD 0 ^^ b) = true
  · exfalso
    rw [if_pos e] at h
    have ht : ((r >>> (1 : Nat)) ^^^ poly).getLsbD 31 = true := by
      rw [BitVec.getLsbD_xor, BitVec.getLsbD_ushiftRight, poly_top, BitVec.getLsbD_of_ge r (1 + 31) (by omega)]; rfl
    have hg : 2 ^ 31 ≤ ((r >>> (1 : Nat)) ^^^ poly).toNat := Nat.ge_two_pow_of_testBit ht
    have hp : 2 ^ k ≤ 2 ^ 31 := Nat.pow_le_pow_right (by omega) hk
    omega
  · rw [if_neg e, BitVec.xor_zero, BitVec.toNat_ushiftRight, Nat.shiftRight_eq_div_pow] at h
    refine ⟨?_, ?_⟩
    · rw [Nat.pow_succ]; omega
    · revert e; cases r.getLsbD 0 <;> cases b <;> simp
theorem step_back_zero (r : BitVec 32) (h : step r false = 0) : r = 0 := by
  have hb := back r false 0 (by omega) (by rw [h]; decide)
  rw [low] at hb
  apply BitVec.eq_of_toNat_eq
  have h2 := hb.2
  simp only [decide_eq_false_iff_not] at h2
  have h1 := hb.1
  simp only [Nat.zero_add, Nat.pow_one] at h1
  show r.toNat = 0
  omega
/-- A burst: the bits before a are 0, bit a is 1, and from a + 32 on they are 0 again. -/
theorem burst (f : Nat → Bool) (a n : Nat) (h0 : ∀ p, p < a → f p = false) (h1 : f a = true) (h2 : ∀ p, a + 32 ≤ p → f p = false) (hn : a < n) : feed f 0 n ≠ 0 := by
  have hz := feed_zeros f a h0
  have hp : feed f 0 (a + 1) = poly := by show step _ _ = _; rw [hz, h1, step_one]
  have hw : ∀ m, 1 ≤ m → m ≤ 32 → feed f 0 (a + m) ≠ 0 := by
    intro m hm1 hm2 h
    have hb : ∀ j, j + 1 ≤ m → (feed f 0 (a + m - j)).toNat < 2 ^ j := by
      intro j
      induction j with
      | zero => intro _; rw [Nat.sub_zero, h]; decide
      | succ j ih =>
        intro hj
        have hi := ih (by omega)
        have e : a + m - j = (a + m - (j + 1)) + 1 := by omega
        rw [e] at hi
        exact (back _ _ j (by omega) hi).1
    have hl := hb (m - 1) (by omega)
    rw [show a + m - (m - 1) = a + 1 by omega, hp] at hl
    have hq : 2 ^ (m - 1) ≤ 2 ^ 31 := Nat.pow_le_pow_right (by omega) (by omega)
    have hpn : 2 ^ 31 ≤ poly.toNat := by decide
    omega
  have hl : ∀ j, feed f 0 (a + 32 + j) ≠ 0 := by
    intro j
    induction j with
    | zero => exact hw 32 (by omega) (by omega)
    | succ j ih =>
      intro h
      apply ih
      have hs : step (feed f 0 (a + 32 + j)) (f (a + 32 + j)) = 0 := h
      rw [h2 _ (by omega)] at hs
      exact step_back_zero _ hs
  by_cases hle : n ≤ a + 32
  · have := hw (n - a) (by omega) (by omega)
    rwa [show a + (n - a) = n by omega] at this
  · have := hl (n - (a + 32))
    rwa [show a + 32 + (n - (a + 32)) = n by omega] at this
/-- A number's own bits. -/
theorem feed_self (y : BitVec 32) (k : Nat) : feed (fun p => y.getLsbD p) y k = y >>> k := by
  induction k with
  | zero => simp [feed]
  | succ k ih =>
    show step _ _ = _
    rw [ih]
    have e : (y >>> k).getLsbD 0 = y.getLsbD k := by simp
    unfold step
    rw [e]
    simp [BitVec.shiftRight_add]
theorem feed_own (y : BitVec 32) : feed (fun p => y.getLsbD p) y 32 = 0 := by
  rw [feed_self]
  apply BitVec.eq_of_toNat_eq
  rw [BitVec.toNat_ushiftRight, Nat.shiftRight_eq_div_pow]
  have := y.isLt
  show y.toNat / 2 ^ 32 = 0
  omega
theorem feed_false (y : BitVec 32) (k : Nat) (h : feed (fun _ => false) y k = 0) : y = 0 := by
  induction k with
  | zero => exact h
  | succ k ih => exact ih (step_back_zero _ h)
/-- 32 bits fed into a register: only their difference from it counts. -/
theorem feed_diff (x r : BitVec 32) : feed (fun p => x.getLsbD p) r 32 = feed (fun p => (x ^^^ r).getLsbD p) 0 32 := by
  have h := feed_xor (fun p => (x ^^^ r).getLsbD p) (fun p => r.getLsbD p) 0 r 32
  rw [feed_own, xz, zx] at h
  rw [← h]
  apply feed_congr
  intro p _
  rw [BitVec.getLsbD_xor]; cases x.getLsbD p <;> cases r.getLsbD p <;> rfl
theorem feed_nonzero (o : BitVec 32) (ho : o ≠ 0) : feed (fun p => o.getLsbD p) 0 32 ≠ 0 := by
  intro h
  have k := feed_xor (fun p => o.getLsbD p) (fun p => o.getLsbD p) 0 o 32
  rw [feed_own, h, zx, xz] at k
  refine ho (feed_false o 32 ?_)
  rw [← k]
  apply feed_congr
  intro p _
  cases o.getLsbD p <;> rfl
theorem feed_ones : ~~~ feed (fun p => (BitVec.allOnes 32).getLsbD p) 0 32 = 0x2144DF1C#32 := by decide +kernel
/-- The bytes of the register's own complement lead to the residue, and no others do. -/
theorem residue (r : BitVec 32) : ~~~ feed (fun p => (~~~ r).getLsbD p) r 32 = 0x2144DF1C#32 := by
  have e : ~~~ r ^^^ r = BitVec.allOnes 32 := by
    apply BitVec.eq_of_getLsbD_eq; intro i hi; rw [BitVec.getLsbD_xor, BitVec.getLsbD_not, BitVec.getLsbD_allOnes]; cases r.getLsbD i <;> simp [hi]
  rw [feed_diff, e, feed_ones]
theorem residue_only (r o : BitVec 32) (ho : o ≠ 0) : ~~~ feed (fun p => (~~~ r ^^^ o).getLsbD p) r 32 ≠ 0x2144DF1C#32 := by
  intro h
  rw [← residue r] at h
  have h' := BitVec.not_inj.mp h
  have k := feed_xor (fun p => (~~~ r).getLsbD p) (fun p => o.getLsbD p) r 0 32
  rw [xz] at k
  have k2 : feed (fun p => (~~~ r ^^^ o).getLsbD p) r 32 = feed (fun p => (~~~ r).getLsbD p ^^ o.getLsbD p) r 32 := by
    apply feed_congr; intro p _; rw [BitVec.getLsbD_xor]
  rw [k2, k] at h'
  refine feed_nonzero o ho ?_
  have := congrArg (fun z => feed (fun p => (~~~ r).getLsbD p) r 32 ^^^ z) h'
  simp only [← BitVec.xor_assoc, BitVec.xor_self, BitVec.zero_xor] at this
  exact this
end Go.Proofs.YtckbhjjflpobbaaGreat.Crc

namespace Go.Proofs.YtckbhjjflpobbaaGreat.Crc
open Go.RowKit Go.Proofs.YtckbhjjflpobbaaGreat.Mem

/-- The closure's variable: block B holds r; every other block is as it was. -/
structure Reg (B : Nat) (w : World) (r : BitVec 32) (w' : World) : Prop where
  here : w'.heap[B]? = some (.cells #[.int .u32 (num r)] 138 (0, 0))
  os : w'.os = w.os
  tape : w'.tape = w.tape
  output : w'.output = w.output
  size : w'.heap.size = w.heap.size
  block : ∀ k, k ≠ B → w'.heap[k]? = w.heap[k]?

theorem Reg.drewN {B : Nat} {w w' : World} {r : BitVec 32} (h : Reg B w r w') (n : Nat) : Reg B w r (w'.drewN n) := by
  induction n with
  | zero => exact h
  | succ n ih => exact ⟨ih.here, ih.os, ih.tape, ih.output, ih.size, ih.block⟩
theorem Reg.set {B : Nat} {w w' : World} {r q : BitVec 32} {v : Int} (h : Reg B w r w') (hv : v = num q) : Reg B w q (w'.setCell ⟨B, 0, none⟩ (.int .u32 v)) := by
  subst hv
  refine ⟨one_setCell h.here, h.os, h.tape, h.output, by simpa [World.setCell] using h.size, fun k hk => ?_⟩
  rw [Below.heap_setCell _ _ _ _ hk]; exact h.block k hk

set_option maxHeartbeats 400000 in
theorem shift_any (c : UInt8) (B : Nat) (r : BitVec 32) (w : World) (hB : w.heap[B]? = some (.cells #[.int .u32 (num r)] 138 (0, 0))) :
    Calls Tryz.prog 125 #[.int .u8 (c.toNat : Int), .pointer (some ⟨B, 0, none⟩)] w fun e w' => e = .returned (.tuple #[]) ∧ Reg B w (byte r c) w' := by
  have h0 : Reg B w r w := ⟨hB, rfl, rfl, rfl, rfl, fun _ _ => rfl⟩
  clear hB
  go_enter Tryz.func125, Tryz.ntmps125
  go_wp2
  go_loopw [5] (fun i wr => ∃ k : Nat, k ≤ 8 ∧ i = .int .i64 k ∧ Reg B w (shiftN r c k) wr) (fun i _ => 8 - (intOf i).toNat)
  case atStart => exact ⟨0, by omega, rfl, h0⟩
  case round =>
    obtain ⟨k, hk, rfl, hr⟩ := hrel
    clear h0
    have hc := cell_of_one hr.here
    have hf := free_of_one hr.here
    by_cases hlt : k < 8
    · go_wp2
      go_quiet (fail)
      go_wp2
      all_goals
        go_roundw
        case rel => first | exact ⟨k + 1, by omega, by go_num, ((hr.drewN _).set (num_shr _)).set (step_true (shiftN r c k) c k (by assumption))⟩ | exact ⟨k + 1, by omega, by go_num, (hr.drewN _).set (step_false (shiftN r c k) c k (by assumption))⟩
        case measure => simp [intOf]; omega
    · obtain rfl : k = 8 := by omega
      go_wp2
      go_end0
      exact ⟨rfl, hr⟩

theorem not_max (a : BitVec 32) : bits .xor .u32 IntKind.u32.max (num a) = num (~~~ a) := num_not a
theorem ret_u32 {a b : BitVec 32} (h : a = b) : Ending.returned (.int .u32 (num a)) = .returned (.int .u32 (num b)) := by rw [h]
theorem take_snoc (s : ByteArray) (k : Nat) (h : k < s.size) : s.data.toList.take (k + 1) = s.data.toList.take k ++ [s[k]] := by
  rw [List.take_succ_eq_append_getElem (by simpa using h)]; rfl
theorem run_snoc (r : BitVec 32) (s : ByteArray) (k : Nat) (h : k < s.size) : run r (s.data.toList.take (k + 1)) = byte (run r (s.data.toList.take k)) s[k] := by
  rw [take_snoc s k h]; simp [run]
theorem take_all (s : ByteArray) : s.data.toList.take s.size = s.data.toList := List.take_of_length_le (by show s.data.toList.length ≤ s.data.size; simp)
theorem Reg.trans {B : Nat} {a b c : World} {r q : BitVec 32} (h : Reg B a r b) (k : Reg B b q c) : Reg B a q c :=
  ⟨k.here, k.os.trans h.os, k.tape.trans h.tape, k.output.trans h.output, k.size.trans h.size, fun i hi => (k.block i hi).trans (h.block i hi)⟩
theorem Reg.start (w : World) (r : BitVec 32) : Reg w.heap.size (w.alloc (.cells #[.int .u32 (num r)] 138)) r (w.alloc (.cells #[.int .u32 (num r)] 138)) :=
  ⟨(MapKept.heap_alloc w _).1, rfl, rfl, rfl, rfl, fun _ _ => rfl⟩
theorem Reg.below {w w' : World} {v : Value} {r : BitVec 32} (h : Reg w.heap.size (w.alloc (.cells #[v] 138)) r w') : Below w.heap.size w w' :=
  ⟨h.os, h.tape, h.output, by rw [h.size]; simp, fun k hk => by rw [h.block k (by omega)]; exact Below.heap_alloc _ _ _ hk⟩
theorem Reg.grown {w w' : World} {v : Value} {r : BitVec 32} (h : Reg w.heap.size (w.alloc (.cells #[v] 138)) r w') : Grown w w' := by
  refine ⟨h.below.frame _, fun a => ?_, h.below.size⟩
  rcases Nat.lt_trichotomy a.block w.heap.size with hl | he | hg
  · exact h.below.frozen hl
  · have e1 : w'.heap[a.block]? = some (.cells #[.int .u32 (num r)] 138 (0, 0)) := by rw [he]; exact h.here
    have e2 : w.heap[a.block]? = none := by rw [he]; simp
    simp [World.frozen?, e1, e2]
  · have e2 : w.heap[a.block]? = none := by simp; omega
    have e3 : w'.heap[a.block]? = none := by simp [h.size]; omega
    simp [World.frozen?, e2, e3]

set_option maxHeartbeats 400000 in
theorem more_k (c : BitVec 32) (s : ByteArray) (w : World) (hs : s.size ≤ maxLen) :
    Calls Tryz.prog 113 #[.int .u32 (num c), .string s] w fun e w' => e = .returned (.int .u32 (num (moreB c s.data.toList))) ∧ Kept w w' := by
  unfold maxLen at hs
  go_enter Tryz.func113, Tryz.ntmps113
  go_wp2
  rw [not_max]
  go_loopw [13] (fun i wr => ∃ k : Nat, k ≤ s.size ∧ i = .int .i64 k ∧ Reg w.heap.size (w.alloc (.cells #[.int .u32 (num (~~~ c))] 138)) (run (~~~ c) (s.data.toList.take k)) wr) (fun i _ => s.size - (intOf i).toNat)
  case atStart => exact ⟨0, by omega, rfl, Reg.start w (~~~ c)⟩
  case round =>
    obtain ⟨k, hk, rfl, hr⟩ := hrel
    by_cases hlt : k < s.size
    · have H := Lib.hid (run_snoc (~~~ c) s k hlt)
      go_wp2_with (go_at_call 125; refine (shift_any s[k] _ _ _ hr.here).mono ?_; rintro e w' ⟨rfl, hr'⟩)
      go_roundw
      case rel => exact ⟨k + 1, by omega, by go_num, by rw [H.out]; exact hr.trans hr'⟩
      case measure => simp [intOf]; omega
    · obtain rfl : k = s.size := by omega
      have hc := cell_of_one hr.here
      go_wp2
      go_ret
      exact ⟨by rw [not_max, take_all]; rfl, hr.below⟩

set_option maxHeartbeats 400000 in
theorem sum_k (s : ByteArray) (w : World) (hs : s.size ≤ maxLen) :
    Calls Tryz.prog 114 #[.string s] w fun e w' => e = .returned (.int .u32 (num (moreB 0 s.data.toList))) ∧ Kept w w' := by
  go_enter Tryz.func114, Tryz.ntmps114
  go_wp2_with (go_at_call 113; refine (more_k 0 s _ hs).mono ?_; rintro e w' ⟨rfl, hg⟩)
  go_ret
  exact ⟨rfl, hg⟩
theorem sum_kis (s : ByteArray) (n : Int) (w : World) (hs : s.size ≤ maxLen) (h : num (moreB 0 s.data.toList) = n) :
    Calls Tryz.prog 114 #[.string s] w fun e w' => e = .returned (.int .u32 n) ∧ Kept w w' := by
  subst h; exact sum_k s w hs
theorem more_kis (c : BitVec 32) (m : Int) (s : ByteArray) (n : Int) (w : World) (hs : s.size ≤ maxLen) (hm : num c = m) (h : num (moreB c s.data.toList) = n) :
    Calls Tryz.prog 113 #[.int .u32 m, .string s] w fun e w' => e = .returned (.int .u32 n) ∧ Kept w w' := by
  subst hm h; exact more_k c s w hs
/-! The bits of a string. -/
theorem shiftN_feed (r : BitVec 32) (c : UInt8) (k : Nat) : shiftN r c k = feed (bitOf c) r k := by
  induction k with
  | zero => rfl
  | succ k ih => show step _ _ = step _ _; rw [ih]
theorem feed_add (f : Nat → Bool) (r : BitVec 32) (a b : Nat) : feed f r (a + b) = feed (fun p => f (a + p)) (feed f r a) b := by
  induction b with
  | zero => rfl
  | succ b ih => show step _ _ = step _ _; rw [← ih]; rfl
def bitAt (l : List UInt8) (p : Nat) : Bool := bitOf (l.getD (p / 8) 0) (p % 8)
theorem run_feed (l : List UInt8) : ∀ (r : BitVec 32), run r l = feed (bitAt l) r (8 * l.length) := by
  induction l with
  | nil => intro r; rfl
  | cons c l ih =>
    intro r
    have e : 8 * (c :: l).length = 8 + 8 * l.length := by simp; omega
    rw [e, feed_add]
    have h1 : feed (bitAt (c :: l)) r 8 = byte r c := by
      unfold byte; rw [shiftN_feed]
      apply feed_congr; intro p hp
      unfold bitAt; rw [Nat.div_eq_of_lt hp, Nat.mod_eq_of_lt hp]; rfl
    rw [h1]
    show run (byte r c) l = _
    rw [ih]
    apply feed_congr; intro p _
    unfold bitAt
    rw [show (8 + p) / 8 = p / 8 + 1 by omega, show (8 + p) % 8 = p % 8 by omega]; rfl

/-! The bytes of a number, the lowest first. -/
def tailOf (x : BitVec 32) : List UInt8 := [UInt8.ofNat (x.toNat % 256), UInt8.ofNat (x.toNat / 256 % 256), UInt8.ofNat (x.toNat / 65536 % 256), UInt8.ofNat (x.toNat / 16777216 % 256)]
theorem bit_low (x : BitVec 32) (p : Nat) : x.getLsbD p = decide (x.toNat / 2 ^ p % 2 = 1) := by
  rw [BitVec.getLsbD, Nat.testBit_eq_decide_div_mod_eq]
theorem tail_bit (x : Nat) (i j : Nat) (hj : j < 8) : x / 256 ^ i % 256 / 2 ^ j % 2 = x / 2 ^ (8 * i + j) % 2 := by
  rw [Nat.pow_add, Nat.pow_mul, show (2 : Nat) ^ 8 = 256 from rfl, ← Nat.div_div_eq_div_mul]
  generalize x / 256 ^ i = y
  have h : j = 0 ∨ j = 1 ∨ j = 2 ∨ j = 3 ∨ j = 4 ∨ j = 5 ∨ j = 6 ∨ j = 7 := by omega
  rcases h with rfl | rfl | rfl | rfl | rfl | rfl | rfl | rfl <;> omega
theorem tail_feed (x r : BitVec 32) : run r (tailOf x) = feed (fun p => x.getLsbD p) r 32 := by
  rw [run_feed]
  show feed _ r 32 = _
  apply feed_congr
  intro p hp
  have key : ∀ i j, j < 8 → bitOf (UInt8.ofNat (x.toNat / 256 ^ i % 256)) j = x.getLsbD (8 * i + j) := by
    intro i j hj
    rw [bitOf_eq, bit_low, ← tail_bit _ i j hj]
    have : (UInt8.ofNat (x.toNat / 256 ^ i % 256)).toNat = x.toNat / 256 ^ i % 256 := by
      rw [UInt8.toNat_ofNat']; exact Nat.mod_eq_of_lt (Nat.mod_lt _ (by decide))
    rw [this]
  have hq : p / 8 = 0 ∨ p / 8 = 1 ∨ p / 8 = 2 ∨ p / 8 = 3 := by omega
  have hm : p % 8 < 8 := Nat.mod_lt _ (by decide)
  unfold bitAt
  rcases hq with h | h | h | h <;> rw [h]
  · have := key 0 _ hm; rw [show 8 * 0 + p % 8 = p by omega] at this; simpa [tailOf] using this
  · have := key 1 _ hm; rw [show 8 * 1 + p % 8 = p by omega] at this; simpa [tailOf] using this
  · have := key 2 _ hm; rw [show 8 * 2 + p % 8 = p by omega] at this; simpa [tailOf] using this
  · have := key 3 _ hm; rw [show 8 * 3 + p % 8 = p by omega] at this; simpa [tailOf] using this
theorem sum_tail (l : List UInt8) : moreB 0 (l ++ tailOf (moreB 0 l)) = 0x2144DF1C#32 := by
  rw [more_append]
  have h := residue (run (~~~ 0) l)
  rw [← tail_feed] at h
  have e : moreB (moreB 0 l) (tailOf (moreB 0 l)) = ~~~ run (run (~~~ 0) l) (tailOf (~~~ run (~~~ 0) l)) := by unfold moreB; rw [BitVec.not_not]
  rw [e, h]
theorem sum_other (l : List UInt8) (o : BitVec 32) (ho : o ≠ 0) : moreB 0 (l ++ tailOf (moreB 0 l ^^^ o)) ≠ 0x2144DF1C#32 := by
  rw [more_append]
  have h := residue_only (run (~~~ 0) l) o ho
  rw [← tail_feed] at h
  have e : moreB (moreB 0 l) (tailOf (moreB 0 l ^^^ o)) = ~~~ run (run (~~~ 0) l) (tailOf (~~~ run (~~~ 0) l ^^^ o)) := by unfold moreB; rw [BitVec.not_not]
  rw [e]; exact h
end Go.Proofs.YtckbhjjflpobbaaGreat.Crc

namespace Go.Proofs.YtckbhjjflpobbaaGreat.Crc
open Go.RowKit Go.Proofs.YtckbhjjflpobbaaGreat.Mem

set_option maxHeartbeats 800000 in
theorem ref_more (c : BitVec 32) (s : ByteArray) (w : World) (hs : s.size ≤ maxLen) :
    Calls Tryz.prog 104 #[.int .u32 (num c), .string s] w fun e w' => e = .returned (.int .u32 (num (moreB c s.data.toList))) ∧ w = w' := by
  unfold maxLen at hs
  go_enter Tryz.func104, Tryz.ntmps104
  go_wp2
  rw [not_max]
  go_loop [5, 6] (fun r i => ∃ k : Nat, k ≤ s.size ∧ i = .int .i64 k ∧ r = .int .u32 (num (run (~~~ c) (s.data.toList.take k)))) (fun _ i => s.size - (intOf i).toNat)
  case atStart => exact ⟨0, by omega, rfl, rfl⟩
  case round =>
    obtain ⟨k, hk, rfl, rfl⟩ := hrel
    by_cases hlt : k < s.size
    · have H := Lib.hid (run_snoc (~~~ c) s k hlt)
      obtain ⟨q, hq⟩ : ∃ q, q = run (~~~ c) (s.data.toList.take k) := ⟨_, rfl⟩
      rw [← hq] at H ⊢
      clear hq
      go_wp2
      go_loop [5, 7] (fun r i => ∃ j : Nat, j ≤ 8 ∧ i = .int .i64 j ∧ r = .int .u32 (num (shiftN q s[k] j))) (fun _ i => 8 - (intOf i).toNat)
      case atStart => exact ⟨0, by omega, rfl, rfl⟩
      case round =>
        obtain ⟨j, hj, rfl, rfl⟩ := hrel
        by_cases hlt2 : j < 8
        · go_wp2
          all_goals
            go_round
            case rel => first | exact ⟨j + 1, by omega, by go_num, val_int (ref_true (shiftN q s[k] j) s[k] j (by assumption))⟩ | exact ⟨j + 1, by omega, by go_num, val_int (ref_false (shiftN q s[k] j) s[k] j (by assumption))⟩
            case measure => simp [intOf]; omega
        · obtain rfl : j = 8 := by omega
          go_wp2
          go_round
          case rel => exact ⟨k + 1, by omega, by go_num, by rw [H.out]; rfl⟩
          case measure => simp [intOf]; omega
    · obtain rfl : k = s.size := by omega
      go_wp2
      go_ret
      exact ⟨by rw [not_max, take_all]; rfl, rfl⟩

set_option maxHeartbeats 400000 in
theorem ref_sum (s : ByteArray) (w : World) (hs : s.size ≤ maxLen) :
    Calls Tryz.prog 87 #[.string s] w fun e w' => e = .returned (.int .u32 (num (moreB 0 s.data.toList))) ∧ w = w' := by
  go_enter Tryz.func87, Tryz.ntmps87
  go_wp2_with (go_at_call 104; refine (ref_more 0 s _ hs).mono ?_; rintro e w' ⟨rfl, rfl⟩)
  go_ret
  exact ⟨rfl, rfl⟩

end Go.Proofs.YtckbhjjflpobbaaGreat.Crc
