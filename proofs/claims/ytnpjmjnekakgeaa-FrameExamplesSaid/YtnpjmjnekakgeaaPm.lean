/-
  Plain mathematics of package pack: the bytes of numbers, the least width, and how they are read.
-/
namespace Go.Proofs.Ytnpjmjnekakgeaa.Pk

/-- The bytes of n with a width, the greatest place first. -/
def be : Nat → Nat → List UInt8
  | _, 0 => []
  | n, w + 1 => be (n / 256) w ++ [UInt8.ofNat n]
/-- The number whose bytes they are. -/
def val (l : List UInt8) : Nat := l.foldl (fun a b => a * 256 + b.toNat) 0
/-- The least width, at least 1. -/
def wd (n : Nat) : Nat :=
  if n < 256 then 1 else if n < 65536 then 2 else if n < 16777216 then 3 else if n < 4294967296 then 4
  else if n < 1099511627776 then 5 else if n < 281474976710656 then 6 else if n < 72057594037927936 then 7 else 8
/-- The bytes of a number. -/
def num (n : Nat) : List UInt8 := if n < 248 then be n 1 else be (247 + wd n) 1 ++ be n (wd n)

theorem be_length (w : Nat) : ∀ n, (be n w).length = w := by
  induction w with
  | zero => intro n; rfl
  | succ w ih => intro n; simp [be, ih]
theorem val_snoc (l : List UInt8) (b : UInt8) : val (l ++ [b]) = val l * 256 + b.toNat := by simp [val]
theorem val_nil : val [] = 0 := rfl
theorem val_be (w : Nat) : ∀ n, val (be n w) = n % 256 ^ w := by
  induction w with
  | zero => intro n; simp [be, val, Nat.mod_one]
  | succ w ih =>
    intro n
    have e : (UInt8.ofNat n).toNat = n % 256 := UInt8.toNat_ofNat'
    rw [be, val_snoc, ih, e, Nat.pow_succ', Nat.mod_mul]
    omega
theorem val_be_lt {n w : Nat} (h : n < 256 ^ w) : val (be n w) = n := by rw [val_be, Nat.mod_eq_of_lt h]
theorem snoc_cases (l : List UInt8) : l = [] ∨ ∃ m b, l = m ++ [b] := by
  rcases List.eq_nil_or_concat l with h | ⟨m, b, h⟩
  · exact .inl h
  · exact .inr ⟨m, b, by rw [h, List.concat_eq_append]⟩
theorem be_val (k : Nat) : ∀ l : List UInt8, l.length = k → be (val l) k = l := by
  induction k with
  | zero => intro l hl; rw [List.length_eq_zero_iff.1 hl]; rfl
  | succ k ih =>
    intro l hl
    rcases snoc_cases l with rfl | ⟨m, b, rfl⟩
    · simp at hl
    · have hm : m.length = k := by simpa using hl
      have hb : b.toNat < 256 := b.toNat_lt
      rw [be, val_snoc, show (val m * 256 + b.toNat) / 256 = val m by omega, ih m hm]
      congr 2
      apply UInt8.toNat_inj.1
      rw [UInt8.toNat_ofNat']
      show (val m * 256 + b.toNat) % 256 = b.toNat
      omega
theorem val_lt (k : Nat) : ∀ l : List UInt8, l.length = k → val l < 256 ^ k := by
  induction k with
  | zero => intro l hl; rw [List.length_eq_zero_iff.1 hl]; decide
  | succ k ih =>
    intro l hl
    rcases snoc_cases l with rfl | ⟨m, b, rfl⟩
    · simp at hl
    · have hm : m.length = k := by simpa using hl
      have hb : b.toNat < 256 := b.toNat_lt
      have := ih m hm
      rw [val_snoc, Nat.pow_succ]; omega
theorem be_get (w : Nat) : ∀ n j, j < w → (be n w)[w - 1 - j]? = some (UInt8.ofNat (n / 256 ^ j)) := by
  induction w with
  | zero => intro n j hj; omega
  | succ w ih =>
    intro n j hj
    rw [be]
    by_cases h : j = 0
    · subst h
      rw [List.getElem?_append_right (by rw [be_length]; omega), be_length]
      simp
    · obtain ⟨i, rfl⟩ : ∃ i, j = i + 1 := ⟨j - 1, by omega⟩
      rw [List.getElem?_append_left (by rw [be_length]; omega)]
      have := ih (n / 256) i (by omega)
      rw [show w + 1 - 1 - (i + 1) = w - 1 - i by omega, this, Nat.div_div_eq_div_mul, Nat.pow_succ, Nat.mul_comm 256]
/-- A row that has the bytes at their places has the bytes. -/
theorem be_take {l : List UInt8} {n w : Nat} (hl : w ≤ l.length) (h : ∀ j, j < w → l.getD (w - 1 - j) 0 = UInt8.ofNat (n / 256 ^ j)) : l.take w = be n w := by
  apply List.ext_getElem?
  intro i
  by_cases hi : i < w
  · have e := be_get w n (w - 1 - i) (by omega)
    rw [show w - 1 - (w - 1 - i) = i by omega] at e
    have e2 := h (w - 1 - i) (by omega)
    rw [show w - 1 - (w - 1 - i) = i by omega] at e2
    rw [e, List.getElem?_take, if_pos hi, ← e2, List.getD_eq_getElem?_getD, List.getElem?_eq_getElem (by omega)]
    rfl
  · rw [List.getElem?_eq_none (by rw [List.length_take]; omega), List.getElem?_eq_none (by rw [be_length]; omega)]

theorem wd_bd (n : Nat) : 1 ≤ wd n ∧ wd n ≤ 8 := by unfold wd; repeat' split
                                                    all_goals omega
theorem wd_small {n : Nat} (h : n < 256) : wd n = 1 := by unfold wd; rw [if_pos h]
theorem wd_step {n : Nat} (h : 256 ≤ n) (h2 : n < 18446744073709551616) : wd n = wd (n / 256) + 1 := by
  unfold wd
  repeat' split
  all_goals omega
theorem pow_w (w : Nat) (h : 1 ≤ w) (h8 : w ≤ 8) : w = 1 ∧ 256 ^ w = 256 ∨ w = 2 ∧ 256 ^ w = 65536 ∨ w = 3 ∧ 256 ^ w = 16777216 ∨ w = 4 ∧ 256 ^ w = 4294967296 ∨
    w = 5 ∧ 256 ^ w = 1099511627776 ∨ w = 6 ∧ 256 ^ w = 281474976710656 ∨ w = 7 ∧ 256 ^ w = 72057594037927936 ∨ w = 8 ∧ 256 ^ w = 18446744073709551616 := by
  have : w = 1 ∨ w = 2 ∨ w = 3 ∨ w = 4 ∨ w = 5 ∨ w = 6 ∨ w = 7 ∨ w = 8 := by omega
  rcases this with rfl | rfl | rfl | rfl | rfl | rfl | rfl | rfl <;> simp
theorem wd_lt {n : Nat} (h2 : n < 18446744073709551616) : n < 256 ^ wd n := by
  have hw := wd_bd n
  rcases pow_w (wd n) hw.1 hw.2 with h | h | h | h | h | h | h | h <;> obtain ⟨h, e⟩ := h <;> rw [e] <;> revert h <;> unfold wd <;> repeat' split
  all_goals omega
theorem wd_least {n w : Nat} (h1 : 1 ≤ w) (h8 : w ≤ 8) : n < 256 ^ w → wd n ≤ w := by
  intro hn
  rcases pow_w w h1 h8 with h | h | h | h | h | h | h | h <;> obtain ⟨rfl, e⟩ := h <;> rw [e] at hn <;> unfold wd <;> repeat' split
  all_goals omega
theorem wd_fits {n w : Nat} (h2 : n < 18446744073709551616) (h : wd n ≤ w) : n < 256 ^ w :=
  Nat.lt_of_lt_of_le (wd_lt h2) (Nat.pow_le_pow_right (by decide) h)
theorem wd_mono {m n : Nat} (h : m ≤ n) : wd m ≤ wd n := by
  unfold wd
  repeat' split
  all_goals omega

theorem num_small {n : Nat} (h : n < 248) : num n = [UInt8.ofNat n] := by unfold num; rw [if_pos h]; rfl
theorem num_great {n : Nat} (h : ¬ n < 248) : num n = UInt8.ofNat (247 + wd n) :: be n (wd n) := by unfold num; rw [if_neg h]; rfl
theorem num_length (n : Nat) : (num n).length = if n < 248 then 1 else 1 + wd n := by
  by_cases h : n < 248
  · rw [num_small h, if_pos h]; rfl
  · rw [num_great h, if_neg h, List.length_cons, be_length]; omega
theorem num_len (n : Nat) : 1 ≤ (num n).length ∧ (num n).length ≤ 9 := by
  have := wd_bd n
  rw [num_length]; split <;> omega

/-- A number that may be negative, as one that may not; and back. -/
def zig (i : Int) : Nat := if i < 0 then (2 * (-(i + 1)) + 1).toNat else (2 * i).toNat
def zag (n : Nat) : Int := if n % 2 = 1 then -((n / 2 : Nat) : Int) - 1 else ((n / 2 : Nat) : Int)
theorem zag_zig (i : Int) : zag (zig i) = i := by unfold zag zig; split <;> split <;> omega
theorem zig_zag (n : Nat) : zig (zag n) = n := by unfold zag zig; split <;> split <;> omega

/-- How many bytes a number at the beginning of l has, if there is one. -/
def uvL (l : List UInt8) : Option (Nat × Nat) :=
  match l with
  | [] => none
  | b :: t =>
    if b.toNat < 248 then some (b.toNat, 1)
    else if t.length < b.toNat - 247 then none
    else if num (val (t.take (b.toNat - 247))) = l.take (1 + (b.toNat - 247)) then some (val (t.take (b.toNat - 247)), 1 + (b.toNat - 247))
    else none

theorem uvL_num (n : Nat) (h : n < 18446744073709551616) (t : List UInt8) : uvL (num n ++ t) = some (n, (num n).length) := by
  by_cases hn : n < 248
  · rw [num_small hn]
    have e : (UInt8.ofNat n).toNat = n := by rw [UInt8.toNat_ofNat']; omega
    show uvL (UInt8.ofNat n :: t) = _
    unfold uvL
    simp only [e, if_pos hn]; rfl
  · have hw := wd_bd n
    have e : (UInt8.ofNat (247 + wd n)).toNat = 247 + wd n := by rw [UInt8.toNat_ofNat']; omega
    have ek : 247 + wd n - 247 = wd n := by omega
    have hb : (be n (wd n) ++ t).take (wd n) = be n (wd n) := by
      rw [List.take_append_of_le_length (by rw [be_length]; omega), List.take_of_length_le (by rw [be_length]; omega)]
    have hv : val (be n (wd n)) = n := val_be_lt (wd_lt h)
    have hl : (num n).length = 1 + wd n := by rw [num_length, if_neg hn]
    rw [hl]
    have he := num_great hn
    rw [he]
    show uvL (UInt8.ofNat (247 + wd n) :: (be n (wd n) ++ t)) = _
    unfold uvL
    have e3 : (UInt8.ofNat (247 + wd n) :: (be n (wd n) ++ t)).take (1 + wd n) = num n := by
      rw [he, Nat.add_comm 1, List.take_succ_cons, hb]
    simp only [e, ek, hb, hv, e3]
    rw [if_neg (by omega), if_neg (by rw [List.length_append, be_length]; omega), if_pos trivial]
theorem uvL_some {l : List UInt8} {n k : Nat} (h : uvL l = some (n, k)) : k ≤ l.length ∧ 1 ≤ k ∧ l.take k = num n ∧ n < 18446744073709551616 ∧ k = (num n).length := by
  unfold uvL at h
  split at h
  · cases h
  · rename_i b t
    split at h
    · rename_i hb
      simp only [Option.some.injEq, Prod.mk.injEq] at h
      obtain ⟨rfl, rfl⟩ := h
      refine ⟨by simp, by omega, ?_, by omega, ?_⟩
      · rw [num_small hb]; simp
      · rw [num_small hb]; rfl
    · split at h
      · cases h
      · split at h
        · rename_i h1 h2 h3
          simp only [Option.some.injEq, Prod.mk.injEq] at h
          obtain ⟨rfl, rfl⟩ := h
          have hb : b.toNat < 256 := b.toNat_lt
          have hlt := val_lt _ (t.take (b.toNat - 247)) rfl
          have hle : (t.take (b.toNat - 247)).length ≤ 8 := by rw [List.length_take]; omega
          have := Nat.pow_le_pow_right (n := 256) (by decide) hle
          refine ⟨by simp; omega, by omega, h3.symm, by omega, ?_⟩
          rw [h3, List.length_take, List.length_cons]; omega
        · cases h
theorem num_inj {m n : Nat} (hm : m < 18446744073709551616) (hn : n < 18446744073709551616) (h : num m = num n) : m = n := by
  have a := uvL_num m hm []
  rw [h, uvL_num n hn []] at a
  simp only [Option.some.injEq, Prod.mk.injEq] at a
  exact a.1.symm
/-- No bytes of a number are the beginning of those of another one. -/
theorem num_pre {m n : Nat} (hm : m < 18446744073709551616) (hn : n < 18446744073709551616) (k : Nat) (hk : k = min (num m).length (num n).length) (h : (num m).take k = (num n).take k) : m = n := by
  have key : ∀ a b : Nat, a < 18446744073709551616 → b < 18446744073709551616 → (num a).length ≤ (num b).length → (num a).take (num a).length = (num b).take (num a).length → a = b := by
    intro a b ha hb hl e
    rw [List.take_of_length_le (Nat.le_refl _)] at e
    have h1 := uvL_num b hb []
    have h2 := uvL_num a ha ((num b).drop (num a).length)
    have e' : num a ++ (num b).drop (num a).length = num b := by
      conv => rhs; rw [← List.take_append_drop (num a).length (num b), ← e]
    rw [e'] at h2
    rw [List.append_nil, h2] at h1
    simp only [Option.some.injEq, Prod.mk.injEq] at h1
    exact h1.1
  rcases Nat.le_total (num m).length (num n).length with hl | hl
  · rw [Nat.min_eq_left hl] at hk; subst hk
    exact key m n hm hn hl h
  · rw [Nat.min_eq_right hl] at hk; subst hk
    exact (key n m hn hm hl h.symm).symm
end Go.Proofs.Ytnpjmjnekakgeaa.Pk
