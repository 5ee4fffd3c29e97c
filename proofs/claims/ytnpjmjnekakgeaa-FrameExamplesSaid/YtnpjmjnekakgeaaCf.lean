/-
  The checksum register fed bit by bit: it is linear, a burst of at most 32 bits never leaves it at 0, and feeding a number's own bits ends at 0. Plain mathematics: nothing here speaks of the program.
-/
import Derived.Test.YtnpjmjnekakgeaaCm
namespace Go.Proofs.Ytnpjmjnekakgeaa.Crc

def feed (f : Nat → Bool) (r : BitVec 32) : Nat → BitVec 32
  | 0 => r
  | k + 1 => step (feed f r k) (f k)

theorem xz (a : BitVec 32) : a ^^^ 0 = a := BitVec.xor_zero
theorem zx (a : BitVec 32) : 0 ^^^ a = a := BitVec.zero_xor
theorem step_eq (r : BitVec 32) (b : Bool) : step r b = (r >>> (1 : Nat)) ^^^ (if (r.getLsbD 0 ^^ b) = true then poly else 0#32) := by
  unfold step
  cases r.getLsbD 0 <;> cases b <;> simp
theorem shr_xor (a b : BitVec 32) : (a ^^^ b) >>> (1 : Nat) = (a >>> (1 : Nat)) ^^^ (b >>> (1 : Nat)) := BitVec.ushiftRight_xor_distrib a b 1
theorem step_xor (r q : BitVec 32) (a b : Bool) : step (r ^^^ q) (a ^^ b) = step r a ^^^ step q b := by
  rw [step_eq, step_eq r, step_eq q, shr_xor, BitVec.getLsbD_xor]
  generalize r >>> (1 : Nat) = x
  generalize q >>> (1 : Nat) = y
  cases r.getLsbD 0 <;> cases q.getLsbD 0 <;> cases a <;> cases b <;> simp <;>
    first
      | ac_rfl
      | (have e : x ^^^ poly ^^^ (y ^^^ poly) = x ^^^ y ^^^ (poly ^^^ poly) := by ac_rfl
         rw [e, BitVec.xor_self, BitVec.xor_zero])
theorem feed_xor (f g : Nat → Bool) (r q : BitVec 32) (k : Nat) : feed (fun p => f p ^^ g p) (r ^^^ q) k = feed f r k ^^^ feed g q k := by
  induction k with
  | zero => rfl
  | succ k ih => show step _ _ = step _ _ ^^^ step _ _; rw [ih, step_xor]
theorem feed_congr {f g : Nat → Bool} (r : BitVec 32) (k : Nat) (h : ∀ p, p < k → f p = g p) : feed f r k = feed g r k := by
  induction k with
  | zero => rfl
  | succ k ih => show step _ _ = step _ _; rw [ih (fun p hp => h p (by omega)), h k (by omega)]
theorem step_zero : step 0 false = 0 := by decide
theorem step_one : step 0 true = poly := by decide
theorem feed_zeros (f : Nat → Bool) (k : Nat) (h : ∀ p, p < k → f p = false) : feed f 0 k = 0 := by
  induction k with
  | zero => rfl
  | succ k ih => show step _ _ = _; rw [ih (fun p hp => h p (by omega)), h k (by omega), step_zero]
theorem poly_top : poly.getLsbD 31 = true := by decide
/-- What a small register came from. -/
theorem back (r : BitVec 32) (b : Bool) (k : Nat) (hk : k ≤ 31) (h : (step r b).toNat < 2 ^ k) : r.toNat < 2 ^ (k + 1) ∧ r.getLsbD 0 = b := by
  rw [step_eq] at h
  by_cases e : (r.getLsbD 0 ^^ b) = true
  · exfalso
    rw [if_pos e] at h
    have ht : ((r >>> (1 : Nat)) ^^^ poly).getLsbD 31 = true := by
      rw [BitVec.getLsbD_xor, BitVec.getLsbD_ushiftRight, poly_top, BitVec.getLsbD_of_ge r (1 + 31) (by omega)]; rfl
    have hg : 2 ^ 31 ≤ ((r >>> (1 : Nat)) ^^^ poly).toNat := Nat.ge_two_pow_of_testBit ht
    have hp : 2 ^ k ≤ 2 ^ 31 := Nat.pow_le_pow_right (by omega) hk
    omega
  · rw [if_neg e, BitVec.xor_zero, BitVec.toNat_ushiftRight, Nat.shiftRight_eq_div_pow] at h
    refine ⟨?_, ?_⟩
    · rw [Nat.pow_succ]; omega
    · revert e; cases r.getLsbD 0 <;> cases b <;> simp
theorem step_back_zero (r : BitVec 32) (h : step r false = 0) : r = 0 := by
  have hb := back r false 0 (by omega) (by rw [h]; decide)
  rw [low] at hb
  apply BitVec.eq_of_toNat_eq
  have h2 := hb.2
  simp only [decide_eq_false_iff_not] at h2
  have h1 := hb.1
  simp only [Nat.zero_add, Nat.pow_one] at h1
  show r.toNat = 0
  omega
/-- A burst: the bits before a are 0, bit a is 1, and from a + 32 on they are 0 again. -/
theorem burst (f : Nat → Bool) (a n : Nat) (h0 : ∀ p, p < a → f p = false) (h1 : f a = true) (h2 : ∀ p, a + 32 ≤ p → f p = false) (hn : a < n) : feed f 0 n ≠ 0 := by
  have hz := feed_zeros f a h0
  have hp : feed f 0 (a + 1) = poly := by show step _ _ = _; rw [hz, h1, step_one]
  have hw : ∀ m, 1 ≤ m → m ≤ 32 → feed f 0 (a + m) ≠ 0 := by
    intro m hm1 hm2 h
    have hb : ∀ j, j + 1 ≤ m → (feed f 0 (a + m - j)).toNat < 2 ^ j := by
      intro j
      induction j with
      | zero => intro _; rw [Nat.sub_zero, h]; decide
      | succ j ih =>
        intro hj
        have hi := ih (by omega)
        have e : a + m - j = (a + m - (j + 1)) + 1 := by omega
        rw [e] at hi
        exact (back _ _ j (by omega) hi).1
    have hl := hb (m - 1) (by omega)
    rw [show a + m - (m - 1) = a + 1 by omega, hp] at hl
    have hq : 2 ^ (m - 1) ≤ 2 ^ 31 := Nat.pow_le_pow_right (by omega) (by omega)
    have hpn : 2 ^ 31 ≤ poly.toNat := by decide
    omega
  have hl : ∀ j, feed f 0 (a + 32 + j) ≠ 0 := by
    intro j
    induction j with
    | zero => exact hw 32 (by omega) (by omega)
    | succ j ih =>
      intro h
      apply ih
      have hs : step (feed f 0 (a + 32 + j)) (f (a + 32 + j)) = 0 := h
      rw [h2 _ (by omega)] at hs
      exact step_back_zero _ hs
  by_cases hle : n ≤ a + 32
  · have := hw (n - a) (by omega) (by omega)
    rwa [show a + (n - a) = n by omega] at this
  · have := hl (n - (a + 32))
    rwa [show a + 32 + (n - (a + 32)) = n by omega] at this
/-- A number's own bits. -/
theorem feed_self (y : BitVec 32) (k : Nat) : feed (fun p => y.getLsbD p) y k = y >>> k := by
  induction k with
  | zero => simp [feed]
  | succ k ih =>
    show step _ _ = _
    rw [ih]
    have e : (y >>> k).getLsbD 0 = y.getLsbD k := by simp
    unfold step
    rw [e]
    simp [BitVec.shiftRight_add]
theorem feed_own (y : BitVec 32) : feed (fun p => y.getLsbD p) y 32 = 0 := by
  rw [feed_self]
  apply BitVec.eq_of_toNat_eq
  rw [BitVec.toNat_ushiftRight, Nat.shiftRight_eq_div_pow]
  have := y.isLt
  show y.toNat / 2 ^ 32 = 0
  omega
theorem feed_false (y : BitVec 32) (k : Nat) (h : feed (fun _ => false) y k = 0) : y = 0 := by
  induction k with
  | zero => exact h
  | succ k ih => exact ih (step_back_zero _ h)
/-- 32 bits fed into a register: only their difference from it counts. -/
theorem feed_diff (x r : BitVec 32) : feed (fun p => x.getLsbD p) r 32 = feed (fun p => (x ^^^ r).getLsbD p) 0 32 := by
  have h := feed_xor (fun p => (x ^^^ r).getLsbD p) (fun p => r.getLsbD p) 0 r 32
  rw [feed_own, xz, zx] at h
  rw [← h]
  apply feed_congr
  intro p _
  rw [BitVec.getLsbD_xor]; cases x.getLsbD p <;> cases r.getLsbD p <;> rfl
theorem feed_nonzero (o : BitVec 32) (ho : o ≠ 0) : feed (fun p => o.getLsbD p) 0 32 ≠ 0 := by
  intro h
  have k := feed_xor (fun p => o.getLsbD p) (fun p => o.getLsbD p) 0 o 32
  rw [feed_own, h, zx, xz] at k
  refine ho (feed_false o 32 ?_)
  rw [← k]
  apply feed_congr
  intro p _
  cases o.getLsbD p <;> rfl
theorem feed_ones : ~~~ feed (fun p => (BitVec.allOnes 32).getLsbD p) 0 32 = 0x2144DF1C#32 := by decide +kernel
/-- The bytes of the register's own complement lead to the residue, and no others do. -/
theorem residue (r : BitVec 32) : ~~~ feed (fun p => (~~~ r).getLsbD p) r 32 = 0x2144DF1C#32 := by
  have e : ~~~ r ^^^ r = BitVec.allOnes 32 := by
    apply BitVec.eq_of_getLsbD_eq; intro i hi; rw [BitVec.getLsbD_xor, BitVec.getLsbD_not, BitVec.getLsbD_allOnes]; cases r.getLsbD i <;> simp [hi]
  rw [feed_diff, e, feed_ones]
theorem residue_only (r o : BitVec 32) (ho : o ≠ 0) : ~~~ feed (fun p => (~~~ r ^^^ o).getLsbD p) r 32 ≠ 0x2144DF1C#32 := by
  intro h
  rw [← residue r] at h
  have h' := BitVec.not_inj.mp h
  have k := feed_xor (fun p => (~~~ r).getLsbD p) (fun p => o.getLsbD p) r 0 32
  rw [xz] at k
  have k2 : feed (fun p => (~~~ r ^^^ o).getLsbD p) r 32 = feed (fun p => (~~~ r).getLsbD p ^^ o.getLsbD p) r 32 := by
    apply feed_congr; intro p _; rw [BitVec.getLsbD_xor]
  rw [k2, k] at h'
  refine feed_nonzero o ho ?_
  have := congrArg (fun z => feed (fun p => (~~~ r).getLsbD p) r 32 ^^^ z) h'
  simp only [← BitVec.xor_assoc, BitVec.xor_self, BitVec.zero_xor] at this
  exact this
end Go.Proofs.Ytnpjmjnekakgeaa.Crc
