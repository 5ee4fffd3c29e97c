/-
  The checksum register as a function on bit vectors, and the integer forms in which the walk meets its operations. Plain mathematics: nothing here speaks of the program.
-/
import Derived.Laws.BitsAllLaws
namespace Go.Proofs.Ytnpjmjnekakgeaa.Crc

def poly : BitVec 32 := 0xEDB88320#32
/-- One bit goes through the register. -/
def step (r : BitVec 32) (b : Bool) : BitVec 32 := if (r.getLsbD 0 != b) = true then (r >>> 1) ^^^ poly else r >>> 1
def bitOf (c : UInt8) (i : Nat) : Bool := c.toNat.testBit i
/-- The first k bits of a byte. -/
def shiftN (r : BitVec 32) (c : UInt8) : Nat → BitVec 32
  | 0 => r
  | k + 1 => step (shiftN r c k) (bitOf c k)
def byte (r : BitVec 32) (c : UInt8) : BitVec 32 := shiftN r c 8
def run (r : BitVec 32) (l : List UInt8) : BitVec 32 := l.foldl byte r
def moreB (c : BitVec 32) (l : List UInt8) : BitVec 32 := ~~~ run (~~~ c) l

/-- The value of a register as Go's uint32. -/
def num (r : BitVec 32) : Int := (r.toNat : Int)
theorem num_lo (r : BitVec 32) : 0 ≤ num r := Int.natCast_nonneg _
theorem num_hi (r : BitVec 32) : num r < 4294967296 := by have := r.isLt; unfold num; omega
theorem num_inj {a b : BitVec 32} : num a = num b ↔ a = b := by
  unfold num
  constructor
  · intro h; exact BitVec.eq_of_toNat_eq (by omega)
  · intro h; rw [h]
theorem of_num (n : Int) (h0 : 0 ≤ n) (h1 : n < 4294967296) : num (BitVec.ofInt 32 n) = n := by
  unfold num; rw [BitVec.toNat_ofInt]; omega
theorem num_shr (r : BitVec 32) : (num r) / (2 : Int) = num (r >>> (1 : Nat)) := by
  unfold num; rw [BitVec.toNat_ushiftRight, Nat.shiftRight_eq_div_pow]; simp
theorem num_xor (a b : BitVec 32) : bits .xor .u32 (num a) (num b) = num (a ^^^ b) := by
  unfold num; rw [u32_xor_nat _ _ a.isLt b.isLt, BitVec.toNat_xor]
theorem num_poly (a : BitVec 32) : bits .xor .u32 (num a) 3988292384 = num (a ^^^ poly) := num_xor a poly
theorem num_not (a : BitVec 32) : bits .xor .u32 4294967295 (num a) = num (~~~ a) := by
  have e : ~~~ a = BitVec.allOnes 32 ^^^ a := rfl
  rw [e]; exact num_xor (BitVec.allOnes 32) a
theorem low (a : BitVec 32) : a.getLsbD 0 = decide (a.toNat % 2 = 1) := by
  rw [BitVec.getLsbD, Nat.testBit_zero]
theorem bitOf_eq (c : UInt8) (k : Nat) : bitOf c k = decide (c.toNat / 2 ^ k % 2 = 1) := by
  unfold bitOf; rw [Nat.testBit_eq_decide_div_mod_eq]
theorem u8_lt (c : UInt8) : c.toNat < 256 := c.toNat_lt
theorem div_pow_lt (c : UInt8) (k : Nat) : c.toNat / 2 ^ k < 256 := Nat.lt_of_le_of_lt (Nat.div_le_self _ _) (u8_lt c)
theorem xor_mod (a b : Nat) : (a ^^^ b) % 2 = (a % 2 + b % 2) % 2 := by
  have h := Nat.testBit_xor a b 0
  simp only [Nat.testBit_zero] at h
  have h1 := Nat.mod_two_eq_zero_or_one a
  have h2 := Nat.mod_two_eq_zero_or_one b
  have h3 := Nat.mod_two_eq_zero_or_one (a ^^^ b)
  rcases h1 with h1 | h1 <;> rcases h2 with h2 | h2 <;> rcases h3 with h3 | h3 <;> simp_all
/-- The program's test. -/
theorem test_code (r : BitVec 32) (c : UInt8) (k : Nat) :
    (bits .and .u32 (bits .xor .u32 (num r) ((c.toNat / 2 ^ k : Nat) : Int)) 1 != 0) = (r.getLsbD 0 != bitOf c k) := by
  have hc := div_pow_lt c k
  have hr := r.isLt
  have hx : r.toNat ^^^ c.toNat / 2 ^ k < 2 ^ 32 := Nat.xor_lt_two_pow (by omega) (by omega)
  unfold num
  rw [u32_xor_nat _ _ (by omega) (by omega)]
  have h1 : (1 : Int) = ((1 : Nat) : Int) := rfl
  rw [h1, u32_and_nat _ _ (by omega) (by omega), Nat.and_one_is_mod, xor_mod, low, bitOf_eq]
  have a1 := Nat.mod_two_eq_zero_or_one r.toNat
  have a2 := Nat.mod_two_eq_zero_or_one (c.toNat / 2 ^ k)
  rcases a1 with a1 | a1 <;> rcases a2 with a2 | a2 <;> rw [a1, a2] <;> decide
/-- The specification's test. -/
theorem test_ref (r : BitVec 32) (c : UInt8) (k : Nat) :
    (bits .and .u32 (num r) 1 != bits .and .u32 ((c.toNat / 2 ^ k : Nat) : Int) 1) = (r.getLsbD 0 != bitOf c k) := by
  have hc := div_pow_lt c k
  have hr := r.isLt
  unfold num
  have h1 : (1 : Int) = ((1 : Nat) : Int) := rfl
  rw [h1, u32_and_nat _ _ (by omega) (by omega), u32_and_nat _ _ (by omega) (by omega), Nat.and_one_is_mod, Nat.and_one_is_mod, low, bitOf_eq]
  have a1 := Nat.mod_two_eq_zero_or_one r.toNat
  have a2 := Nat.mod_two_eq_zero_or_one (c.toNat / 2 ^ k)
  rcases a1 with a1 | a1 <;> rcases a2 with a2 | a2 <;> rw [a1, a2] <;> decide
theorem cast_bit (c : UInt8) (k : Nat) : (c.toNat : Int) / 2 ^ k % 4294967296 = ((c.toNat / 2 ^ k : Nat) : Int) := by
  have h := div_pow_lt c k
  have e : (c.toNat : Int) / 2 ^ k = ((c.toNat / 2 ^ k : Nat) : Int) := by simp
  rw [e]; exact Int.emod_eq_of_lt (Int.natCast_nonneg _) (by omega)
theorem step_true (r : BitVec 32) (c : UInt8) (k : Nat) (h : (bits .and .u32 (bits .xor .u32 (num r) ((c.toNat : Int) / 2 ^ k % 4294967296)) 1 != 0) = true) :
    bits .xor .u32 (num r / 2) 3988292384 = num (step r (bitOf c k)) := by
  rw [cast_bit, test_code] at h
  rw [num_shr, num_poly, step, if_pos h]
theorem step_false (r : BitVec 32) (c : UInt8) (k : Nat) (h : (bits .and .u32 (bits .xor .u32 (num r) ((c.toNat : Int) / 2 ^ k % 4294967296)) 1 != 0) = false) :
    num r / 2 = num (step r (bitOf c k)) := by
  rw [cast_bit, test_code] at h
  rw [num_shr, step, if_neg (by rw [h]; decide)]
theorem cast_bit' (c : UInt8) (k : Nat) : (c.toNat : Int) % 4294967296 / 2 ^ k = ((c.toNat / 2 ^ k : Nat) : Int) := by
  have h := u8_lt c
  rw [Int.emod_eq_of_lt (Int.natCast_nonneg _) (by omega)]; simp
theorem ref_true (r : BitVec 32) (c : UInt8) (k : Nat) (h : (bits .and .u32 (num r) 1 != bits .and .u32 ((c.toNat : Int) % 4294967296 / 2 ^ k) 1) = true) :
    bits .xor .u32 (num r / 2) 3988292384 = num (step r (bitOf c k)) := by
  rw [cast_bit', test_ref] at h
  rw [num_shr, num_poly, step, if_pos h]
theorem ref_false (r : BitVec 32) (c : UInt8) (k : Nat) (h : (bits .and .u32 (num r) 1 != bits .and .u32 ((c.toNat : Int) % 4294967296 / 2 ^ k) 1) = false) :
    num r / 2 = num (step r (bitOf c k)) := by
  rw [cast_bit', test_ref] at h
  rw [num_shr, step, if_neg (by rw [h]; decide)]
theorem val_int {k : IntKind} {a b : Int} (h : a = b) : Value.int k a = .int k b := by rw [h]
theorem ret_int {k : IntKind} {a b : Int} (h : a = b) : Ending.returned (.int k a) = .returned (.int k b) := by rw [h]
theorem run_append (r : BitVec 32) (a b : List UInt8) : run r (a ++ b) = run (run r a) b := List.foldl_append
theorem more_append (c : BitVec 32) (a b : List UInt8) : moreB c (a ++ b) = moreB (moreB c a) b := by
  unfold moreB; rw [run_append, BitVec.not_not]
theorem more_nil (c : BitVec 32) : moreB c [] = c := by unfold moreB run; simp
theorem known1 : num (moreB 0 [49, 50, 51, 52, 53, 54, 55, 56, 57]) = 3421780262 := by decide +kernel
theorem known2 : num (moreB 0 [97]) = 3904355907 := by decide +kernel
theorem known3 : num (moreB 0 [0]) = 3523407757 := by decide +kernel
theorem known4 : num (moreB (moreB 0 [49, 50, 51, 52]) [53, 54, 55, 56, 57]) = 3421780262 := by decide +kernel
theorem known5 : num (moreB 3904355907#32 []) = 3904355907 := by decide +kernel
theorem known6 : num (moreB 0 []) = 0 := by decide +kernel
end Go.Proofs.Ytnpjmjnekakgeaa.Crc
