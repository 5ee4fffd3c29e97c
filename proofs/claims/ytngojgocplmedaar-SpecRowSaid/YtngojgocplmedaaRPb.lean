/-
  Plain mathematics of package pack: the bytes of numbers, the least width, and how they are read.
  How a number, an integer and a text are read from a string: plain functions, and their cases.
  Plain mathematics of package pack: the order of bytes.
  What the calls of package pack do.
  What the exported calls of package pack do.
  What Unvar, Unint and Untext of package pack do.
  What Int, Unint, Text and Untext of package pack do.
  What the calls of layer 2's specification do.
  What the reading calls of layer 2's specification do.
-/
import Derived.Lib.Strings
import GoSem.Op.String
import Derived.Test.YtngojgocplmedaaRBa
import Derived.RegionTactic
import Derived.Deep.QuietTactic
import Derived.BigQuiet
import Derived.Deep.RegionHeld3
import Derived.Laws.Rows
import Derived.Lib.BufferWrite
import Derived.Laws.CopyOwn
import Derived.Laws.Bits64b
import Derived.WalkSpells
import Derived.Laws.MakeOwn
namespace Go.Proofs.YtngojgocplmedaaR.Pk

/-- The bytes of n with a width, the greatest place first. -/
def be : Nat → Nat → List UInt8
  | _, 0 => []
  | n, w + 1 => be (n / 256) w ++ [UInt8.ofNat n]
/-- The number whose bytes they are. -/
def val (l : List UInt8) : Nat := l.foldl (fun a b => a * 256 + b.toNat) 0
/-- The least width, at least 1. -/
def wd (n : Nat) : Nat :=
  if n < 256 then 1 else if n < 65536 then 2 else if n < 16777216 then 3 else if n < 4294967296 then 4
  else if n < 1099511627776 then 5 else if n < 281474976710656 then 6 else if n < 72057594037927936 then 7 else 8
/-- The bytes of a number. -/
def num (n : Nat) : List UInt8 := if n < 248 then be n 1 else be (247 + wd n) 1 ++ be n (wd n)

theorem be_length (w : Nat) : ∀ n, (be n w).length = w := by
  induction w with
  | zero => intro n; rfl
  | succ w ih => intro n; simp [be, ih]
theorem val_snoc (l : List UInt8) (b : UInt8) : val (l ++ [b]) = val l * 256 + b.toNat := by simp [val]
theorem val_nil : val [] = 0 := rfl
theorem val_be (w : Nat) : ∀ n, val (be n w) = n % 256 ^ w := by
  induction w with
  | zero => intro n; simp [be, val, Nat.mod_one]
  | succ w ih =>
    intro n
    have e : (UInt8.ofNat n).toNat = n % 256 := UInt8.toNat_ofNat'
    rw [be, val_snoc, ih, e, Nat.pow_succ', Nat.mod_mul]
    omega
theorem val_be_lt {n w : Nat} (h : n < 256 ^ w) : val (be n w) = n := by rw [val_be, Nat.mod_eq_of_lt h]
theorem snoc_cases (l : List UInt8) : l = [] ∨ ∃ m b, l = m ++ [b] := by
  rcases List.eq_nil_or_concat l with h | ⟨m, b, h⟩
  · exact .inl h
  · exact .inr ⟨m, b, by rw [h, List.concat_eq_append]⟩
theorem be_val (k : Nat) : ∀ l : List UInt8, l.length = k → be (val l) k = l := by
  induction k with
  | zero => intro l hl; rw [List.length_eq_zero_iff.1 hl]; rfl
  | succ k ih =>
    intro l hl
    rcases snoc_cases l with rfl | ⟨m, b, rfl⟩
    · simp at hl
    · have hm : m.length = k := by simpa using hl
      have hb : b.toNat < 256 := b.toNat_lt
      rw [be, val_snoc, show (val m * 256 + b.toNat) / 256 = val m by omega, ih m hm]
      congr 2
      apply UInt8.toNat_inj.1
      rw [UInt8.toNat_ofNat']
      show (val m * 256 + b.toNat) % 256 = b.toNat
      omega
theorem val_lt (k : Nat) : ∀ l : List UInt8, l.length = k → val l < 256 ^ k := by
  induction k with
  | zero => intro l hl; rw [List.length_eq_zero_iff.1 hl]; decide
  | succ k ih =>
    intro l hl
    rcases snoc_cases l with rfl | ⟨m, b, rfl⟩
    · simp at hl
    · have hm : m.length = k := by simpa using hl
      have hb : b.toNat < 256 := b.toNat_lt
      have := ih m hm
      rw [val_snoc, Nat.pow_succ]; omega
theorem be_get (w : Nat) : ∀ n j, j < w → (be n w)[w - 1 - j]? = some (UInt8.ofNat (n / 256 ^ j)) := by
  induction w with
  | zero => intro n j hj; omega
  | succ w ih =>
    intro n j hj
    rw [be]
    by_cases h : j = 0
    · subst h
      rw [List.getElem?_append_right (by rw [be_length]; omega), be_length]
      simp
    · obtain ⟨i, rfl⟩ : ∃ i, j = i + 1 := ⟨j - 1, by omega⟩
      rw [List.getElem?_append_left (by rw [be_length]; omega)]
      have := ih (n / 256) i (by omega)
      rw [show w + 1 - 1 - (i + 1) = w - 1 - i by omega, this, Nat.div_div_eq_div_mul, Nat.pow_succ, Nat.mul_comm 256]
/-- A row that has the bytes at their places has the bytes. -/
theorem be_take {l : List UInt8} {n w : Nat} (hl : w ≤ l.length) (h : ∀ j, j < w → l.getD (w - 1 - j) 0 = UInt8.ofNat (n / 256 ^ j)) : l.take w = be n w := by
  apply List.ext_getElem?
  intro i
  by_cases hi : i < w
  · have e := be_get w n (w - 1 - i) (by omega)
    rw [show w - 1 - (w - 1 - i) = i by omega] at e
    have e2 := h (w - 1 - i) (by omega)
    rw [show w - 1 - (w - 1 - i) = i by omega] at e2
    rw [e, List.getElem?_take, if_pos hi, ← e2, List.getD_eq_getElem?_getD, List.getElem?_eq_getElem (by omega)]
    rfl
  · rw [List.getElem?_eq_none (by rw [List.length_take]; omega), List.getElem?_eq_none (by rw [be_length]; omega)]

theorem wd_bd (n : Nat) : 1 ≤ wd n ∧ wd n ≤ 8 := by unfold wd; repeat' split
                                                    all_goals omega
theorem wd_small {n : Nat} (h : n < 256) : wd n = 1 := by unfold wd; rw [if_pos h]
theorem wd_step {n : Nat} (h : 256 ≤ n) (h2 : n < 18446744073709551616) : wd n = wd (n / 256) + 1 := by
  unfold wd
  repeat' split
  all_goals omega
theorem pow_w (w : Nat) (h : 1 ≤ w) (h8 : w ≤ 8) : w = 1 ∧ 256 ^ w = 256 ∨ w = 2 ∧ 256 ^ w = 65536 ∨ w = 3 ∧ 256 ^ w = 16777216 ∨ w = 4 ∧ 256 ^ w = 4294967296 ∨
    w = 5 ∧ 256 ^ w = 1099511627776 ∨ w = 6 ∧ 256 ^ w = 281474976710656 ∨ w = 7 ∧ 256 ^ w = 72057594037927936 ∨ w = 8 ∧ 256 ^ w = 18446744073709551616 := by
  have : w = 1 ∨ w = 2 ∨ w = 3 ∨ w = 4 ∨ w = 5 ∨ w = 6 ∨ w = 7 ∨ w = 8 := by omega
  rcases this with rfl | rfl | rfl | rfl | rfl | rfl | rfl | rfl <;> simp
theorem wd_lt {n : Nat} (h2 : n < 18446744073709551616) : n < 256 ^ wd n := by
  have hw := wd_bd n
  rcases pow_w (wd n) hw.1 hw.2 with h | h | h | h | h | h | h | h <;> obtain ⟨h, e⟩ := h <;> rw [e] <;> revert h <;> unfold wd <;> repeat' split
  all_goals omega
theorem wd_least {n w : Nat} (h1 : 1 ≤ w) (h8 : w ≤ 8) : n < 256 ^ w → wd n ≤ w := by
  intro hn
  rcases pow_w w h1 h8 with h | h | h | h | h | h | h | h <;> obtain ⟨rfl, e⟩ := h <;> rw [e] at hn <;> unfold wd <;> repeat' split
  all_goals omega
theorem wd_fits {n w : Nat} (h2 : n < 18446744073709551616) (h : wd n ≤ w) : n < 256 ^ w :=
  Nat.lt_of_lt_of_le (wd_lt h2) (Nat.pow_le_pow_right (by decide) h)
theorem wd_mono {m n : Nat} (h : m ≤ n) : wd m ≤ wd n := by
  unfold wd
  repeat' split
  all_goals omega

theorem num_small {n : Nat} (h : n < 248) : num n = [UInt8.ofNat n] := by unfold num; rw [if_pos h]; rfl
theorem num_great {n : Nat} (h : ¬ n < 248) : num n = UInt8.ofNat (247 + wd n) :: be n (wd n) := by unfold num; rw [if_neg h]; rfl
theorem num_length (n : Nat) : (num n).length = if n < 248 then 1 else 1 + wd n := by
  by_cases h : n < 248
  · rw [num_small h, if_pos h]; rfl
  · rw [num_great h, if_neg h, List.length_cons, be_length]; omega
theorem num_len (n : Nat) : 1 ≤ (num n).length ∧ (num n).length ≤ 9 := by
  have := wd_bd n
  rw [num_length]; split <;> omega

/-- A number that may be negative, as one that may not; and back. -/
def zig (i : Int) : Nat := if i < 0 then (2 * (-(i + 1)) + 1).toNat else (2 * i).toNat
def zag (n : Nat) : Int := if n % 2 = 1 then -((n / 2 : Nat) : Int) - 1 else ((n / 2 : Nat) : Int)
theorem zag_zig (i : Int) : zag (zig i) = i := by unfold zag zig; split <;> split <;> omega
theorem zig_zag (n : Nat) : zig (zag n) = n := by unfold zag zig; split <;> split <;> omega

/-- How many bytes a number at the beginning of l has, if there is one. -/
def uvL (l : List UInt8) : Option (Nat × Nat) :=
  match l with
  | [] => none
  | b :: t =>
    if b.toNat < 248 then some (b.toNat, 1)
    else if t.length < b.toNat - 247 then none
    else if num (val (t.take (b.toNat - 247))) = l.take (1 + (b.toNat - 247)) then some (val (t.take (b.toNat - 247)), 1 + (b.toNat - 247))
    else none

theorem uvL_num (n : Nat) (h : n < 18446744073709551616) (t : List UInt8) : uvL (num n ++ t) = some (n, (num n).length) := by
  by_cases hn : n < 248
  · rw [num_small hn]
    have e : (UInt8.ofNat n).toNat = n := by rw [UInt8.toNat_ofNat']; omega
    show uvL (UInt8.ofNat n :: t) = _
    unfold uvL
    simp only [e, if_pos hn]; rfl
  · have hw := wd_bd n
    have e : (UInt8.ofNat (247 + wd n)).toNat = 247 + wd n := by rw [UInt8.toNat_ofNat']; omega
    have ek : 247 + wd n - 247 = wd n := by omega
    have hb : (be n (wd n) ++ t).take (wd n) = be n (wd n) := by
      rw [List.take_append_of_le_length (by rw [be_length]; omega), List.take_of_length_le (by rw [be_length]; omega)]
    have hv : val (be n (wd n)) = n := val_be_lt (wd_lt h)
    have hl : (num n).length = 1 + wd n := by rw [num_length, if_neg hn]
    rw [hl]
    have he := num_great hn
    rw [he]
    show uvL (UInt8.ofNat (247 + wd n) :: (be n (wd n) ++ t)) = _
    unfold uvL
    have e3 : (UInt8.ofNat (247 + wd n) :: (be n (wd n) ++ t)).take (1 + wd n) = num n := by
      rw [he, Nat.add_comm 1, List.take_succ_cons, hb]
    simp only [e, ek, hb, hv, e3]
    rw [if_neg (by omega), if_neg (by rw [List.length_append, be_length]; omega), if_pos trivial]
theorem uvL_some {l : List UInt8} {n k : Nat} (h : uvL l = some (n, k)) : k ≤ l.length ∧ 1 ≤ k ∧ l.take k = num n ∧ n < 18446744073709551616 ∧ k = (num n).length := by
  unfold uvL at h
  split at h
  · cases h
  · rename_i b t
    split at h
    · rename_i hb
      simp only [Option.some.injEq, Prod.mk.injEq] at h
      obtain ⟨rfl, rfl⟩ := h
      refine ⟨by simp, by omega, ?_, by omega, ?_⟩
      · rw [num_small hb]; simp
      · rw [num_small hb]; rfl
    · split at h
      · cases h
      · split at h
        · rename_i h1 h2 h3
          simp only [Option.some.injEq, Prod.mk.injEq] at h
          obtain ⟨rfl, rfl⟩ := h
          have hb : b.toNat < 256 := b.toNat_lt
          have hlt := val_lt _ (t.take (b.toNat - 247)) rfl
          have hle : (t.take (b.toNat - 247)).length ≤ 8 := by rw [List.length_take]; omega
          have := Nat.pow_le_pow_right (n := 256) (by decide) hle
          refine ⟨by simp; omega, by omega, h3.symm, by omega, ?_⟩
          rw [h3, List.length_take, List.length_cons]; omega
        · cases h
theorem num_inj {m n : Nat} (hm : m < 18446744073709551616) (hn : n < 18446744073709551616) (h : num m = num n) : m = n := by
  have a := uvL_num m hm []
  rw [h, uvL_num n hn []] at a
  simp only [Option.some.injEq, Prod.mk.injEq] at a
  exact a.1.symm
/-- No bytes of a number are the beginning of those of another one. -/
theorem num_pre {m n : Nat} (hm : m < 18446744073709551616) (hn : n < 18446744073709551616) (k : Nat) (hk : k = min (num m).length (num n).length) (h : (num m).take k = (num n).take k) : m = n := by
  have key : ∀ a b : Nat, a < 18446744073709551616 → b < 18446744073709551616 → (num a).length ≤ (num b).length → (num a).take (num a).length = (num b).take (num a).length → a = b := by
    intro a b ha hb hl e
    rw [List.take_of_length_le (Nat.le_refl _)] at e
    have h1 := uvL_num b hb []
    have h2 := uvL_num a ha ((num b).drop (num a).length)
    have e' : num a ++ (num b).drop (num a).length = num b := by
      conv => rhs; rw [← List.take_append_drop (num a).length (num b), ← e]
    rw [e'] at h2
    rw [List.append_nil, h2] at h1
    simp only [Option.some.injEq, Prod.mk.injEq] at h1
    exact h1.1
  rcases Nat.le_total (num m).length (num n).length with hl | hl
  · rw [Nat.min_eq_left hl] at hk; subst hk
    exact key m n hm hn hl h
  · rw [Nat.min_eq_right hl] at hk; subst hk
    exact (key n m hn hm hl h.symm).symm
end Go.Proofs.YtngojgocplmedaaR.Pk

namespace Go.Proofs.YtngojgocplmedaaR.Pk
open Go

/-- A list of bytes as a string. -/
def str (l : List UInt8) : ByteArray := ⟨l.toArray⟩
theorem str_list (s : ByteArray) : str s.data.toList = s := by apply ByteArray.ext; simp [str]
theorem list_str (l : List UInt8) : (str l).data.toList = l := by simp [str]
theorem size_list (s : ByteArray) : s.data.toList.length = s.size := by simp
theorem size_str (l : List UInt8) : (str l).size = l.length := by rw [← size_list, list_str]
theorem str_inj {a b : ByteArray} (h : a.data.toList = b.data.toList) : a = b := by rw [← str_list a, h, str_list]
theorem str_add (a b : List UInt8) : str a ++ str b = str (a ++ b) := by apply ByteArray.ext; simp [str]
/-- It fits 64 bits. -/
def U64 (n : Nat) : Prop := n < 18446744073709551616

/-- The number at the beginning of s, and the rest. -/
def uv (s : ByteArray) : Option (Nat × ByteArray) := (uvL s.data.toList).map fun p => (p.1, s.extract p.2 s.size)

/-- The first byte of a long number, and where the number ends. -/
structure Head (s : ByteArray) (b E : Nat) : Prop where
  pos : 0 < s.size
  hb : s[0].toNat = b
  lo : (248 : Int) ≤ (b : Int)
  hi : (b : Int) ≤ 255
  hE : 1 + (b : Int) - 247 = (E : Int)

theorem first_byte (s : ByteArray) (h : 0 < s.size) : ∃ t, s.data.toList = s[0] :: t ∧ t.length + 1 = s.size := by
  have e := size_list s
  cases hl : s.data.toList with
  | nil => rw [hl] at e; simp at e; omega
  | cons b t =>
    refine ⟨t, ?_, by rw [hl] at e; simpa using e⟩
    have : s[0] = s.data.toList[0]'(by rw [e]; exact h) := rfl
    rw [this]; simp [hl]

theorem uv_cases (s : ByteArray) :
    (s.size = 0 ∧ uv s = none) ∨ (∃ hs : 0 < s.size, (s[0].toNat : Int) < 248 ∧ uv s = some (s[0].toNat, s.extract 1 s.size)) ∨
    ∃ b E, Head s b E ∧ (s.size < E ∧ uv s = none ∨ E ≤ s.size ∧ ∃ V, val (s.extract 1 E).data.toList = V ∧ U64 V ∧ 1 ≤ (s.extract 1 E).size ∧ (s.extract 1 E).size ≤ 8 ∧
      ((!((str (num V)).toList == (s.extract 0 E).toList)) = true ∧ uv s = none ∨ (!((str (num V)).toList == (s.extract 0 E).toList)) = false ∧ uv s = some (V, s.extract E s.size))) := by
  by_cases h0 : s.size = 0
  · refine .inl ⟨h0, ?_⟩
    have : s.data.toList = [] := List.eq_nil_of_length_eq_zero (by rw [size_list, h0])
    unfold uv; rw [this]; rfl
  · have hs : 0 < s.size := by omega
    obtain ⟨t, ht, htl⟩ := first_byte s hs
    by_cases hb : (s[0].toNat : Int) < 248
    · refine .inr (.inl ⟨hs, hb, ?_⟩)
      unfold uv uvL; rw [ht]; simp only [if_pos (show s[0].toNat < 248 by omega)]; rfl
    · have h255 : s[0].toNat < 256 := UInt8.toNat_lt _
      obtain ⟨b, hbb⟩ : ∃ b, s[0].toNat = b := ⟨_, rfl⟩
      rw [hbb] at hb h255
      obtain ⟨k, rfl⟩ : ∃ k, b = 247 + k := ⟨b - 247, by omega⟩
      have e1 : (s.extract 1 (1 + k)).data.toList = t.take k := by rw [Lib.extract_data, ht]; simp
      have e0 : (s.extract 0 (1 + k)).data.toList = s.data.toList.take (1 + k) := by rw [Lib.extract_data]; simp
      have hsz : (s.extract 1 (1 + k)).size = min (1 + k) s.size - 1 := ByteArray.size_extract
      refine .inr (.inr ⟨247 + k, 1 + k, ⟨hs, hbb, by omega, by omega, by omega⟩, ?_⟩)
      have key : uv s = if t.length < k then none else if num (val (t.take k)) = s.data.toList.take (1 + k) then some (val (t.take k), s.extract (1 + k) s.size) else none := by
        unfold uv uvL
        rw [ht]
        simp only [hbb, if_neg (show ¬ 247 + k < 248 by omega), Nat.add_sub_cancel_left]
        split
        · rfl
        · split <;> rfl
      by_cases hl : s.size < 1 + k
      · exact .inl ⟨hl, by rw [key, if_pos (by omega)]⟩
      · rw [if_neg (by omega)] at key
        refine .inr ⟨by omega, val (t.take k), by rw [e1], ?_, by omega, by omega, ?_⟩
        · have := val_lt _ (t.take k) rfl
          have hle : (t.take k).length ≤ 8 := by rw [List.length_take]; omega
          have := Nat.pow_le_pow_right (n := 256) (by decide) hle
          unfold U64; omega
        · rw [Lib.toList_data, Lib.toList_data, list_str, e0]
          by_cases hq : num (val (t.take k)) = s.data.toList.take (1 + k)
          · exact .inr ⟨by rw [hq]; simp, by rw [key, if_pos hq]⟩
          · exact .inl ⟨by simp only [Bool.not_eq_true', beq_eq_false_iff_ne]; exact hq, by rw [key, if_neg hq]⟩
/-- What is read is what would be written, and the rest. -/
theorem uv_some {s r : ByteArray} {n : Nat} (h : uv s = some (n, r)) : U64 n ∧ s = str (num n) ++ r ∧ r.size < s.size := by
  unfold uv at h
  cases hu : uvL s.data.toList with
  | none => rw [hu] at h; cases h
  | some p =>
    obtain ⟨m, k⟩ := p
    rw [hu] at h
    simp only [Option.map_some, Option.some.injEq, Prod.mk.injEq] at h
    obtain ⟨rfl, rfl⟩ := h
    obtain ⟨h1, h2, h3, h4, h5⟩ := uvL_some hu
    rw [size_list] at h1
    refine ⟨h4, ?_, by rw [ByteArray.size_extract]; omega⟩
    apply str_inj
    rw [ByteArray.data_append, Array.toList_append, list_str, ← h3, Lib.extract_data, List.take_of_length_le (l := List.drop _ _) (by rw [List.length_drop, size_list]; omega), List.take_append_drop]
theorem uv_num (n : Nat) (h : U64 n) (t : ByteArray) : uv (str (num n) ++ t) = some (n, t) := by
  have e : (str (num n) ++ t).data.toList = num n ++ t.data.toList := by rw [ByteArray.data_append, Array.toList_append, list_str]
  unfold uv
  rw [e, uvL_num n h]
  simp only [Option.map_some, Option.some.injEq, Prod.mk.injEq, true_and]
  apply str_inj
  have hs : (str (num n) ++ t).size = (num n).length + t.size := by rw [ByteArray.size_append, size_str]
  rw [Lib.extract_data, e, hs]
  simp only [List.drop_left, Nat.add_sub_cancel_left]
  exact List.take_of_length_le (Nat.le_of_eq (size_list t))

/-- An integer. -/
def ui (s : ByteArray) : Option (Int × ByteArray) := (uv s).map fun p => (zag p.1, p.2)
theorem ui_int (i : Int) (h : U64 (zig i)) (t : ByteArray) : ui (str (num (zig i)) ++ t) = some (i, t) := by
  unfold ui; rw [uv_num _ h]; simp [zag_zig]
theorem ui_some {s r : ByteArray} {i : Int} (h : ui s = some (i, r)) : U64 (zig i) ∧ s = str (num (zig i)) ++ r := by
  unfold ui at h
  cases hu : uv s with
  | none => rw [hu] at h; cases h
  | some p =>
    obtain ⟨n, q⟩ := p
    rw [hu] at h
    simp only [Option.map_some, Option.some.injEq, Prod.mk.injEq] at h
    obtain ⟨rfl, rfl⟩ := h
    rw [zig_zag]
    exact ⟨(uv_some hu).1, (uv_some hu).2.1⟩
/-- A text. -/
def ut (s : ByteArray) : Option (ByteArray × ByteArray) :=
  match uv s with
  | none => none
  | some (n, r) => if n ≤ r.size then some (r.extract 0 n, r.extract n r.size) else none
theorem ut_text (x t : ByteArray) (h : U64 x.size) : ut (str (num x.size) ++ x ++ t) = some (x, t) := by
  unfold ut
  rw [ByteArray.append_assoc, uv_num _ h]
  have hs : (x ++ t).size = x.size + t.size := ByteArray.size_append
  simp only [if_pos (show x.size ≤ (x ++ t).size by omega), Option.some.injEq, Prod.mk.injEq]
  have e : (x ++ t).data.toList = x.data.toList ++ t.data.toList := by rw [ByteArray.data_append, Array.toList_append]
  have hx := size_list x
  have ht := size_list t
  constructor
  · apply str_inj
    rw [Lib.extract_data, e]; simp
  · apply str_inj
    rw [Lib.extract_data, e, hs, ← hx]
    simp only [List.drop_left, Nat.add_sub_cancel_left]
    exact List.take_of_length_le (Nat.le_of_eq ht)
theorem ut_some {s x r : ByteArray} (h : ut s = some (x, r)) : s = str (num x.size) ++ x ++ r ∧ x.size ≤ s.size := by
  unfold ut at h
  cases hu : uv s with
  | none => rw [hu] at h; cases h
  | some p =>
    obtain ⟨n, q⟩ := p
    rw [hu] at h
    obtain ⟨_, h1, h2⟩ := uv_some hu
    by_cases hn : n ≤ q.size
    · simp only [if_pos hn, Option.some.injEq, Prod.mk.injEq] at h
      obtain ⟨rfl, rfl⟩ := h
      have hx : (q.extract 0 n).size = n := by rw [ByteArray.size_extract]; omega
      rw [hx]
      refine ⟨?_, by omega⟩
      rw [h1, ByteArray.append_assoc]
      congr 1
      apply str_inj
      rw [ByteArray.data_append, Array.toList_append, Lib.extract_data, Lib.extract_data, List.take_of_length_le (l := List.drop n _) (by rw [List.length_drop, size_list]; omega)]
      simp
    · simp only [if_neg hn] at h; cases h
end Go.Proofs.YtngojgocplmedaaR.Pk

namespace Go.Proofs.YtngojgocplmedaaR.Pk
open Go

theorem foldl_val (l : List UInt8) : ∀ a : Nat, l.foldl (fun a b => a * 256 + b.toNat) a = a * 256 ^ l.length + val l := by
  induction l with
  | nil => intro a; simp [val]
  | cons b l ih =>
    intro a
    unfold val
    rw [List.foldl_cons, List.foldl_cons, ih, ih (0 * 256 + b.toNat), List.length_cons, Nat.pow_succ]
    rw [Nat.add_mul, Nat.zero_mul, Nat.zero_add, Nat.mul_assoc, Nat.mul_comm 256, Nat.add_assoc]
theorem val_cons (b : UInt8) (l : List UInt8) : val (b :: l) = b.toNat * 256 ^ l.length + val l := by
  show List.foldl _ (0 * 256 + b.toNat) l = _
  rw [foldl_val, Nat.zero_mul, Nat.zero_add]
theorem less_val : ∀ a b : List UInt8, a.length = b.length → Op.bytesLess a b = decide (val a < val b) := by
  intro a
  induction a with
  | nil => intro b h; cases b with
    | nil => simp [Op.bytesLess]
    | cons _ _ => simp at h
  | cons x a ih =>
    intro b h
    cases b with
    | nil => simp at h
    | cons y b =>
      have hl : a.length = b.length := by simpa using h
      have ha := val_lt _ a rfl
      have hb := val_lt _ b rfl
      rw [Op.bytesLess, ih b hl, val_cons, val_cons, hl]
      rw [hl] at ha
      generalize 256 ^ b.length = p at *
      rw [Bool.eq_iff_iff]
      simp only [Bool.or_eq_true, Bool.and_eq_true, decide_eq_true_eq, beq_iff_eq, UInt8.lt_iff_toNat_lt]
      constructor
      · rintro (h1 | ⟨rfl, h1⟩)
        · have : (x.toNat + 1) * p ≤ y.toNat * p := Nat.mul_le_mul_right _ h1
          rw [Nat.add_mul, Nat.one_mul] at this; omega
        · omega
      · intro h1
        rcases Nat.lt_trichotomy x.toNat y.toNat with h2 | h2 | h2
        · exact .inl h2
        · exact .inr ⟨UInt8.toNat_inj.1 h2, by rw [h2] at h1; omega⟩
        · have : (y.toNat + 1) * p ≤ x.toNat * p := Nat.mul_le_mul_right _ h2
          rw [Nat.add_mul, Nat.one_mul] at this; omega
theorem less_be {m n k : Nat} (hm : m < 256 ^ k) (hn : n < 256 ^ k) : Op.bytesLess (be m k) (be n k) = decide (m < n) := by
  rw [less_val _ _ (by rw [be_length, be_length]), val_be_lt hm, val_be_lt hn]
theorem eq_be {m n k : Nat} (hm : m < 256 ^ k) (hn : n < 256 ^ k) : (be m k == be n k) = decide (m = n) := by
  rw [Bool.eq_iff_iff]
  simp only [beq_iff_eq, decide_eq_true_eq]
  constructor
  · intro h; rw [← val_be_lt hm, h, val_be_lt hn]
  · rintro rfl; rfl
theorem num_mono {m n : Nat} (h : m ≤ n) : (num m).length ≤ (num n).length := by
  have h1 := wd_bd m
  have h2 := wd_bd n
  have h3 := wd_mono h
  rw [num_length, num_length]; split <;> split <;> omega
theorem eq_num {m n k : Nat} (hm : U64 m) (hn : U64 n) (hk : k = min (num m).length (num n).length) : ((num m).take k == (num n).take k) = decide (m = n) := by
  rw [Bool.eq_iff_iff]
  simp only [beq_iff_eq, decide_eq_true_eq]
  constructor
  · exact num_pre hm hn k hk
  · rintro rfl; rfl
end Go.Proofs.YtngojgocplmedaaR.Pk

namespace Go.Proofs.YtngojgocplmedaaR.Pk
open Go.RowKit Go.Proofs.YtngojgocplmedaaR.Mem

theorem ret_i {k : IntKind} {a b : Int} (h : a = b) : Ending.returned (.int k a) = .returned (.int k b) := by rw [h]
theorem ret_s {a b : ByteArray} (h : a = b) : Ending.returned (.string a) = .returned (.string b) := by rw [h]
/-- It fits 63 bits. -/
def I63 (n : Nat) : Prop := n < 9223372036854775808

theorem u64_div {c : Nat} (h : U64 c) : U64 (c / 256) := Nat.lt_of_le_of_lt (Nat.div_le_self _ _) h
theorem u64_of {c : Nat} (h : U64 c) : c < 18446744073709551616 := h

set_option maxHeartbeats 400000 in
theorem least_u (n : Nat) (h : U64 n) (w : World) : Calls Try.prog 73 #[.int .u64 n] w fun e w' => e = .returned (.int .i64 (wd n)) ∧ w = w' := by
  go_enter Try.func73, Try.ntmps73
  go_wp2
  go_loop [0, 3] (fun v i => ∃ c m : Nat, v = .int .u64 c ∧ i = .int .i64 m ∧ U64 c ∧ wd n + 1 = wd c + m) (fun v _ => (intOf v).toNat)
  case atStart => exact ⟨n, 1, rfl, rfl, h, rfl⟩
  case round =>
    obtain ⟨c, m, rfl, rfl, hc, hm⟩ := hrel
    have hb := wd_bd n
    have hb2 := wd_bd c
    have hm8 : m ≤ 8 := by omega
    have HM := Lib.hid hm
    clear hm hb
    by_cases hlt : 255 < c
    · go_wp2
      go_round
      case rel => exact ⟨c / 256, m + 1, by go_num, by go_num, u64_div hc, by rw [HM.out, wd_step hlt hc]; omega⟩
      case measure => simp [intOf]; omega
    · go_wp2
      go_ret
      exact ⟨ret_i (by have := HM.out; rw [wd_small (n := c) (by omega)] at this; omega), rfl⟩
theorem i63_div {c : Nat} (h : I63 c) : I63 (c / 256) := Nat.lt_of_le_of_lt (Nat.div_le_self _ _) h
theorem u64_i63 {c : Nat} (h : I63 c) : U64 c := Nat.lt_trans h (by decide)
/-- After j rounds. -/
def Pl (w : World) (n k j : Nat) (wr : World) : Prop :=
  ∃ l : List UInt8, l.length = 8 ∧ Row w w.heap.size l wr ∧ ∀ m, m < j → l.getD (k - 1 - m) 0 = UInt8.ofNat (n / 256 ^ m)
theorem Pl.start (w : World) (n k T : Nat) : Pl w n k 0 (w.alloc (.cells #[.int .u8 0, .int .u8 0, .int .u8 0, .int .u8 0, .int .u8 0, .int .u8 0, .int .u8 0, .int .u8 0] T)) :=
  ⟨List.replicate 8 0, rfl, Row.start w 8 T, fun m hm => absurd hm (by omega)⟩
theorem Pl.at {w wr : World} {n k j : Nat} (h : Pl w n k j wr) (hj : j < k) (h8 : k ≤ 8) : (∃ v, wr.cell? ⟨w.heap.size, k - 1 - j, none⟩ = some (.int .u8 v)) ∧ wr.frozen? ⟨w.heap.size, k - 1 - j, none⟩ = false := by
  obtain ⟨l, hl, hr, _⟩ := h
  exact hr.at _ (by omega)
theorem byte_at (n j : Nat) : (n : Int) / 2 ^ (8 * j) % 256 = ((UInt8.ofNat (n / 256 ^ j)).toNat : Int) := by
  have e : (UInt8.ofNat (n / 256 ^ j)).toNat = n / 256 ^ j % 256 := UInt8.toNat_ofNat'
  rw [e, show (2 : Int) ^ (8 * j) = ((256 ^ j : Nat) : Int) by rw [Int.pow_mul]; simp]
  omega
theorem Pl.next {w wr : World} {n k j : Nat} {v : Int} (h : Pl w n k j wr) (hj : j < k) (h8 : k ≤ 8) (hv : v = ((UInt8.ofNat (n / 256 ^ j)).toNat : Int)) :
    Pl w n k (j + 1) (wr.setCell ⟨w.heap.size, k - 1 - j, none⟩ (.int .u8 v)) := by
  obtain ⟨l, hl, hr, hx⟩ := h
  refine ⟨l.set (k - 1 - j) (UInt8.ofNat (n / 256 ^ j)), by simpa using hl, hr.set _ _ hv (by omega), fun m hm => ?_⟩
  by_cases e : m = j
  · subst e
    have : k - 1 - m < l.length := by omega
    simp [List.getD, this]
  · have e' : ¬ k - 1 - j = k - 1 - m := by omega
    rw [← hx m (by omega)]; simp [List.getD, List.getElem?_set_ne e']
theorem Pl.str {w wr : World} {n k : Nat} (h : Pl w n k k wr) (h8 : k ≤ 8) :
    (convert 53 9 (.slice (some ⟨w.heap.size, 0, none⟩) k 8)).run Try.prog wr = .ok (.string ⟨(be n k).toArray⟩) wr := by
  obtain ⟨l, hl, hr, hx⟩ := h
  rw [hr.str k 8 (by omega), be_take (by omega) hx]
theorem Pl.kept {w wr : World} {n k j : Nat} (h : Pl w n k j wr) : Kept w wr := by
  obtain ⟨l, _, hr, _⟩ := h
  exact hr.keptOf
theorem len8 : Try.prog.arrayLen 99 = 8 := by kernel_rfl
theorem arr8 : Try.prog.underlying 99 = some (.array (Try.prog.arrayLen 99) (Try.prog.elem 99)) := by kernel_rfl
theorem elem8 : Try.prog.elem 99 = 5 := by kernel_rfl
theorem slice8_h (B k : Nat) (h : k ≤ 8) (W : World) : (Instr.sliceAt 99 (.pointer (some ⟨B, 0, none⟩)) none (some (.int .i64 (k : Int))) none).run Try.prog W = .ok (.slice (some ⟨B, 0, none⟩) k 8) W := by
  rw [run_sliceAt_array_h W 99 ⟨B, 0, none⟩ arr8 .i64 (k : Int) (by omega) (by rw [len8]; omega), len8, elem8]
  go_simp
theorem slice8_l (B k : Nat) (h1 : 1 ≤ k) (h : k ≤ 8) (W : World) : (Instr.sliceAt 99 (.pointer (some ⟨B, 0, none⟩)) (some (.int .i64 (8 - (k : Int)))) none none).run Try.prog W = .ok (.slice (some ⟨B, 8 - k, none⟩) k k) W := by
  rw [run_sliceAt_array_l W 99 ⟨B, 0, none⟩ arr8 .i64 (8 - (k : Int)) (by omega) (by rw [len8]; omega), len8, elem8]
  have e : (8 - (k : Int)).toNat = 8 - k := by omega
  have e2 : ¬ 8 = 8 - k := by omega
  have e3 : 8 - (8 - k) = k := by omega
  rw [e]
  go_simp
set_option maxHeartbeats 400000 in
theorem places_u (n k : Nat) (h8 : k ≤ 8) (w : World) :
    Calls Try.prog 72 #[.int .u64 n, .int .i64 k] w fun e w' => e = .returned (.string ⟨(be n k).toArray⟩) ∧ Kept w w' := by
  go_enter Try.func72, Try.ntmps72
  go_wp2
  go_loopw [8] (fun i wr => ∃ j : Nat, j ≤ k ∧ i = .int .i64 j ∧ Pl w n k j wr) (fun i _ => k - (intOf i).toNat)
  case atStart => exact ⟨0, by omega, rfl, Pl.start w n k _⟩
  case round =>
    obtain ⟨j, hj, rfl, hp⟩ := hrel
    by_cases hlt : j < k
    · obtain ⟨⟨v, hc⟩, hf⟩ := hp.at hlt h8
      have i1 : (0 : Int) ≤ (k : Int) - 1 - (j : Int) := by omega
      have i2 : (k : Int) - 1 - (j : Int) < 8 := by omega
      have i3 : ((k : Int) - 1 - (j : Int)).toNat = k - 1 - j := by omega
      go_wp2
      go_roundw
      case rel => exact ⟨j + 1, by omega, by go_num, hp.next hlt h8 (byte_at n j)⟩
      case measure => simp [intOf]; omega
    · obtain rfl : j = k := by omega
      have hcv := hp.str h8
      have HK := Lib.hid hp.kept
      clear hp
      have hsl := slice8_h w.heap.size j h8 wr
      go_wp2
      go_ret
      exact ⟨rfl, HK.out⟩
set_option maxHeartbeats 400000 in
theorem places_i (n k : Nat) (h8 : k ≤ 8) (w : World) :
    Calls Try.prog 74 #[.int .i64 n, .int .i64 k] w fun e w' => e = .returned (.string ⟨(be n k).toArray⟩) ∧ Kept w w' := by
  go_enter Try.func74, Try.ntmps74
  go_wp2
  go_loopw [8] (fun i wr => ∃ j : Nat, j ≤ k ∧ i = .int .i64 j ∧ Pl w n k j wr) (fun i _ => k - (intOf i).toNat)
  case atStart => exact ⟨0, by omega, rfl, Pl.start w n k _⟩
  case round =>
    obtain ⟨j, hj, rfl, hp⟩ := hrel
    by_cases hlt : j < k
    · obtain ⟨⟨v, hc⟩, hf⟩ := hp.at hlt h8
      have i1 : (0 : Int) ≤ (k : Int) - 1 - (j : Int) := by omega
      have i2 : (k : Int) - 1 - (j : Int) < 8 := by omega
      have i3 : ((k : Int) - 1 - (j : Int)).toNat = k - 1 - j := by omega
      go_wp2
      go_roundw
      case rel => exact ⟨j + 1, by omega, by go_num, hp.next hlt h8 (byte_at n j)⟩
      case measure => simp [intOf]; omega
    · obtain rfl : j = k := by omega
      have hcv := hp.str h8
      have HK := Lib.hid hp.kept
      clear hp
      have hsl := slice8_h w.heap.size j h8 wr
      go_wp2
      go_ret
      exact ⟨rfl, HK.out⟩

theorem places_u1 (n : Nat) (w : World) : Calls Try.prog 72 #[.int .u64 n, .int .i64 1] w fun e w' => e = .returned (.string ⟨(be n 1).toArray⟩) ∧ Kept w w' := places_u n 1 (by decide) w
theorem places_i1 (n : Nat) (w : World) : Calls Try.prog 74 #[.int .i64 n, .int .i64 1] w fun e w' => e = .returned (.string ⟨(be n 1).toArray⟩) ∧ Kept w w' := places_i n 1 (by decide) w
theorem head_i (n : Nat) (w : World) : Calls Try.prog 74 #[.int .i64 (247 + (wd n : Int)), .int .i64 1] w fun e w' => e = .returned (.string ⟨(be (247 + wd n) 1).toArray⟩) ∧ Kept w w' := by
  have := places_i1 (247 + wd n) w
  rw [show ((247 + wd n : Nat) : Int) = 247 + (wd n : Int) by omega] at this
  exact this
theorem str_append (a b : List UInt8) : (⟨a.toArray⟩ : ByteArray) ++ ⟨b.toArray⟩ = ⟨(a ++ b).toArray⟩ := by
  apply ByteArray.ext; simp
/-- What number holds: the width, and the two pieces. -/
structure NumG (fl fp : Nat) (kd : IntKind) (n k : Nat) (x y : ByteArray) : Prop where
  cl : ∀ w, Calls Try.prog fl #[.int kd n] w fun e w' => e = .returned (.int .i64 k) ∧ w = w'
  ch : ∀ w, Calls Try.prog 74 #[.int .i64 (247 + (k : Int)), .int .i64 1] w fun e w' => e = .returned (.string x) ∧ Kept w w'
  cp : ∀ w, Calls Try.prog fp #[.int kd n, .int .i64 k] w fun e w' => e = .returned (.string y) ∧ Kept w w'
  k8 : k ≤ 8
  cat : ∀ w, (Op.stringOp .add x y).run Try.prog w = .ok (.string ⟨(num n).toArray⟩) w
theorem cat_str (a b c : List UInt8) (h : a ++ b = c) (hs : a.length + b.length ≤ 9223372036854775807) (w : World) : (Op.stringOp .add ⟨a.toArray⟩ ⟨b.toArray⟩).run Try.prog w = .ok (.string ⟨c.toArray⟩) w := by
  subst h
  rw [run_string_add_sum w _ _ (by simpa [ByteArray.size] using hs), str_append]
theorem num_cat {n : Nat} (h : ¬ n < 248) (w : World) : (Op.stringOp .add ⟨(be (247 + wd n) 1).toArray⟩ ⟨(be n (wd n)).toArray⟩).run Try.prog w = .ok (.string ⟨(num n).toArray⟩) w :=
  cat_str _ _ _ (by rw [num_great h]; rfl) (by have := wd_bd n; rw [be_length, be_length]; omega) w
theorem numG_u (n : Nat) (h : U64 n) (hs : ¬ n < 248) : ∃ k x y, NumG 73 72 .u64 n k x y :=
  ⟨wd n, _, _, least_u n h, head_i n, places_u n (wd n) (wd_bd n).2, (wd_bd n).2, num_cat hs⟩
set_option maxHeartbeats 400000 in
theorem number_u (n : Nat) (h : U64 n) (w : World) : Calls Try.prog 59 #[.int .u64 n] w fun e w' => e = .returned (.string ⟨(num n).toArray⟩) ∧ Kept w w' := by
  by_cases hs : (n : Int) < 248
  · go_enter Try.func59, Try.ntmps59
    go_wp2_with (go_at_call 72; (with_reducible refine (places_u1 n _).mono ?_); rintro e w' ⟨rfl, hk⟩)
    go_ret
    exact ⟨ret_s (by rw [num_small (by omega)]; rfl), hk⟩
  · obtain ⟨k, x, y, G⟩ := numG_u n h (by omega)
    have hd : decide ((n : Int) < 248) = false := by simpa using hs
    have hb := G.k8
    have hcat := G.cat
    clear hs h
    go_enter Try.func59, Try.ntmps59
    go_wp2_with (first
      | (go_at_call 73; (with_reducible refine (G.cl _).mono ?_); rintro e w' ⟨rfl, rfl⟩)
      | (go_at_call 74; (with_reducible refine (G.ch _).mono ?_); rintro e w1 ⟨rfl, hk1⟩)
      | (go_at_call 72; (with_reducible refine (G.cp _).mono ?_); rintro e w2 ⟨rfl, hk2⟩))
    go_ret
    exact ⟨rfl, hk1.trans hk2⟩
/-! Reading: the bytes of a string, joined. -/
theorem ret_un {a b : Int} (h : a = b) : Ending.returned (.int .u64 a) = .returned (.int .u64 b) := by rw [h]
def cellsOf (l : List UInt8) : Array Value := (l.map fun b => Value.int .u8 (b.toNat : Int)).toArray
theorem index_cells (l : List UInt8) (hl : l.length = 8) (i : Nat) (hi : i < 8) (W : World) : (Instr.index 99 (.agg (cellsOf l)) (.int .i64 (i : Int))).run Try.prog W = .ok (.int .u8 ((l.getD i 0).toNat : Int)) W := by
  have hz : ∀ w : World, (Go.sizeOf 5).run Try.prog w = .ok 1 w := fun _ => by kernel_rfl
  have h1 : (cellsOf l)[i]? = some (.int .u8 ((l.getD i 0).toNat : Int)) := by
    have : i < l.length := by omega
    simp [cellsOf, List.getD, this]
  have e : Try.prog.underlying 99 = some (.array 8 5) := by kernel_rfl
  simp [Instr.index, run_underlying e, asIntOf, hz, hi, go_sem]
  rw [h1]
  simp
/-- The row that join reads. -/
def joinRow (s : ByteArray) : List UInt8 := List.replicate (8 - s.size) 0 ++ s.data.toList
theorem join_copy (s : ByteArray) (h1 : 1 ≤ s.size) (h8 : s.size ≤ 8) (w : World) : ∃ w2 : World,
    (Builtin.copy_ #[53, 9] 3 #[.slice (some ⟨w.heap.size, 8 - s.size, none⟩) s.size s.size, .string s]).run Try.prog (w.alloc (.cells #[.int .u8 0, .int .u8 0, .int .u8 0, .int .u8 0, .int .u8 0, .int .u8 0, .int .u8 0, .int .u8 0] 99)) = .ok (.int .i64 s.size) w2 ∧
    w2.heap[w.heap.size]? = some (.cells (cellsOf (joinRow s)) 99 (0, 0)) ∧ Kept w w2 := by
  have hg : (w.alloc (.cells #[.int .u8 0, .int .u8 0, .int .u8 0, .int .u8 0, .int .u8 0, .int .u8 0, .int .u8 0, .int .u8 0] 99)).heap[w.heap.size]? = some (.cells #[.int .u8 0, .int .u8 0, .int .u8 0, .int .u8 0, .int .u8 0, .int .u8 0, .int .u8 0, .int .u8 0] 99 (0, 0)) := (MapKept.heap_alloc w _).1
  have key := Lib.run_copy_row_string (P := Try.prog) _ 53 9 3 5 w.heap.size (8 - s.size) s.size s.size s _ 99 Try.underlying53 (by kernel_rfl) hg (Nat.le_refl _) (by show 8 - s.size + s.size ≤ 8; omega)
  refine ⟨_, key, ?_, ?_⟩
  · have z : (#[.int .u8 0, .int .u8 0, .int .u8 0, .int .u8 0, .int .u8 0, .int .u8 0, .int .u8 0, .int .u8 0] : Array Value).toList = List.replicate 8 (.int .u8 0) := rfl
    rw [setRow_heap _ _ _ _ _ _ hg, z, List.take_replicate, List.drop_eq_nil_of_le (by rw [List.length_replicate]; omega), List.append_nil, Nat.min_eq_left (by omega)]
    unfold cellsOf joinRow Lib.byteCells
    rw [List.map_append, List.map_replicate]
    rfl
  · exact Go.below_setRow ((Below.refl _ _).alloc (Nat.le_refl _) _) (Nat.le_refl _) _
theorem joinRow_len (s : ByteArray) (h8 : s.size ≤ 8) : (joinRow s).length = 8 := by
  have := size_list s
  unfold joinRow; rw [List.length_append, List.length_replicate]; omega
theorem info8 : (Try.prog.info? 99).map (·.size) = some 8 := by kernel_rfl
theorem info_row (s : ByteArray) (h8 : s.size ≤ 8) : (Try.prog.info? 99).map (·.size) = some (cellsOf (joinRow s)).size := by
  have e : (cellsOf (joinRow s)).size = 8 := by unfold cellsOf; rw [List.size_toArray, List.length_map, joinRow_len s h8]
  rw [e]; exact info8
theorem val_un {a b : Int} (h : a = b) : Value.int .u64 a = Value.int .u64 b := by rw [h]
theorem wrap_u64 {x : Nat} (h : x < 18446744073709551616) : IntKind.u64.wrap (x : Int) = (x : Int) := by rw [IntKind.wrap_u64]; omega
theorem or_step (l : List UInt8) (hl : l.length = 8) (j : Nat) (hj : j < 8) :
    bits .or .u64 (IntKind.u64.wrap ((val (l.take j) : Int) * 256)) (IntKind.u64.wrap (((l[j]?.getD 0).toNat : Nat) : Int)) = (val (l.take (j + 1)) : Int) := by
  have hb : (l[j]?.getD 0).toNat < 256 := UInt8.toNat_lt _
  have hv : val (l.take j) < 72057594037927936 := by
    have := val_lt j (l.take j) (by rw [List.length_take]; omega)
    have h2 := Nat.pow_le_pow_right (n := 256) (by decide) (show j ≤ 7 by omega)
    omega
  have ht : l.take (j + 1) = l.take j ++ [l[j]?.getD 0] := by
    have : j < l.length := by omega
    rw [List.take_succ_eq_append_getElem this]; simp [this]
  rw [ht, val_snoc, show (val (l.take j) : Int) * 256 = ((val (l.take j) * 256 : Nat) : Int) by omega, wrap_u64 (by omega), wrap_u64 (by omega), bits_or_u64_nat _ _ (by omega) (by omega)]
  have := Nat.two_pow_add_eq_or_of_lt (i := 8) hb (val (l.take j))
  rw [show (2 : Nat) ^ 8 = 256 from rfl, Nat.mul_comm] at this
  rw [this]
theorem val_zeros (l : List UInt8) (k : Nat) : val (List.replicate k 0 ++ l) = val l := by
  induction k with
  | zero => rfl
  | succ k ih => rw [← ih]; rfl
theorem val_joinRow (s : ByteArray) : val (joinRow s) = val s.data.toList := val_zeros _ _
set_option maxHeartbeats 400000 in
theorem join_any (s : ByteArray) (h1 : 1 ≤ s.size) (h8 : s.size ≤ 8) (w : World) : Calls Try.prog 78 #[.string s] w fun e w' => e = .returned (.int .u64 (val s.data.toList)) ∧ Kept w w' := by
  have i1 : (s.size : Int) ≤ 8 := by omega
  have hsl := fun B W => slice8_l B s.size h1 h8 W
  obtain ⟨w2, hcp, hb2, hk⟩ := join_copy s h1 h8 w
  have HK := Lib.hid hk
  have HB := Lib.hid hb2
  clear hk hb2
  go_enter Try.func78, Try.ntmps78
  go_wp2_with (refine wpList_load_row rfl 99 _ rfl w.heap.size rfl 99 _ (0, 0) (.array 8 5) HB.out (by kernel_rfl) rfl (info_row s h8) ?_)
  clear hsl hcp
  go_loop [4, 14] (fun n i => ∃ j : Nat, j ≤ 8 ∧ i = .int .i64 j ∧ n = .int .u64 (val ((joinRow s).take j))) (fun _ i => 8 - (intOf i).toNat)
  case atStart => exact ⟨0, by omega, rfl, rfl⟩
  case round =>
    obtain ⟨j, hj, rfl, rfl⟩ := hrel
    by_cases hlt : j < 8
    · have hix := index_cells (joinRow s) (joinRow_len s h8) j hlt
      go_wp2
      go_round
      case rel => exact ⟨j + 1, by omega, by go_num, val_un (or_step _ (joinRow_len s h8) j hlt)⟩
      case measure => simp [intOf]; omega
    · obtain rfl : j = 8 := by omega
      go_wp2
      go_ret
      exact ⟨ret_un (by rw [List.take_of_length_le (by rw [joinRow_len s h8]; omega), val_joinRow]), HK.out⟩
end Go.Proofs.YtngojgocplmedaaR.Pk

namespace Go.Proofs.YtngojgocplmedaaR.Pk
open Go.RowKit Go.Proofs.YtngojgocplmedaaR.Mem

theorem var_any (n : Nat) (h : U64 n) (w : World) : Calls Try.prog 28 #[.int .u64 n] w fun e w' => e = .returned (.string (str (num n))) ∧ Kept w w' := by
  have H := Lib.hid h
  clear h
  go_enter Try.func28, Try.ntmps28
  go_wp2_with (go_at_call 59; (with_reducible refine (number_u n H.out _).mono ?_); rintro e w' ⟨rfl, hk⟩)
  go_ret
  exact ⟨rfl, hk⟩

/-- What Fixed returns: the string, and the error. -/
def fixS (n : Nat) (k : Int) : ByteArray := if k < 1 ∨ 8 < k then str [] else if k.toNat < wd n then str [] else str (be n k.toNat)
def fixE (n : Nat) (k : Int) : Int := if k < 1 ∨ 8 < k then 2 else if k.toNat < wd n then 3 else 0
def ufN (s : ByteArray) : Nat := if s.size < 1 ∨ 8 < s.size then 0 else val s.data.toList
def ufE (s : ByteArray) : Int := if s.size < 1 ∨ 8 < s.size then 2 else 0
end Go.Proofs.YtngojgocplmedaaR.Pk

namespace Go.Proofs.YtngojgocplmedaaR.Pk
open Go.RowKit Go.Proofs.YtngojgocplmedaaR.Mem

theorem not_empty {s : ByteArray} (hs : 0 < s.size) : s.toList.isEmpty = false := by
  rw [Lib.toList_data]
  obtain ⟨t, ht, _⟩ := first_byte s hs
  rw [ht]; rfl
set_option maxHeartbeats 400000 in
theorem unvar_empty (s : ByteArray) (hs : s.size = 0) (w : World) : Calls Try.prog 76 #[.string s] w fun e w' => e = .returned (.tuple #[.int .u64 0, .string ⟨#[]⟩, .int .i64 4]) ∧ Kept w w' := by
  obtain rfl : s = ⟨#[]⟩ := by apply ByteArray.ext; exact Array.eq_empty_of_size_eq_zero hs
  clear hs
  go_enter Try.func76, Try.ntmps76
  go_wp2
  go_ret3
  exact ⟨rfl, Kept.refl _⟩
set_option maxHeartbeats 400000 in
theorem unvar_one (s : ByteArray) (hs : 0 < s.size) (h : (s[0].toNat : Int) < 248) (w : World) : Calls Try.prog 76 #[.string s] w fun e w' => e = .returned (.tuple #[.int .u64 s[0].toNat, .string (s.extract 1 s.size), .int .i64 0]) ∧ Kept w w' := by
  have he := not_empty hs
  have i1 : (1 : Int) ≤ s.size := by omega
  go_enter Try.func76, Try.ntmps76
  go_wp2
  go_quiet (fail)
  go_wp2
  go_ret3
  exact ⟨rfl, (Kept.refl _).drewN _⟩
set_option maxHeartbeats 400000 in
set_option maxRecDepth 100000 in
theorem unvar_short (s : ByteArray) (b E : Nat) (H : Head s b E) (h2 : s.size < E) (w : World) : Calls Try.prog 76 #[.string s] w fun e w' => e = .returned (.tuple #[.int .u64 0, .string ⟨#[]⟩, .int .i64 4]) ∧ Kept w w' := by
  have hs := H.pos
  have hb := H.hb
  have h1 := H.lo
  have h3 := H.hi
  have hE := H.hE
  have h : decide ((b : Int) < 248) = false := by simp; omega
  have he := not_empty hs
  have i1 : (1 : Int) ≤ s.size := by omega
  have hd : decide (s.size < E) = true := by simpa using h2
  clear h2
  go_enter Try.func76, Try.ntmps76
  go_wp2_with fail
  go_ret3
  exact ⟨rfl, Kept.refl _⟩
/-- What the calls on the rest of a long number return. -/
structure UvG (s : ByteArray) (E V : Nat) (X : ByteArray) : Prop where
  cj : ∀ w, Calls Try.prog 78 #[.string (s.extract 1 E)] w fun e w' => e = .returned (.int .u64 V) ∧ Kept w w'
  cn : ∀ w, Calls Try.prog 59 #[.int .u64 V] w fun e w' => e = .returned (.string X) ∧ Kept w w'
set_option maxHeartbeats 800000 in
set_option maxRecDepth 100000 in
theorem unvar_long (s : ByteArray) (b E V : Nat) (X : ByteArray) (H : Head s b E) (h2 : E ≤ s.size) (G : UvG s E V X) (hq : (!X.toList == (s.extract 0 E).toList) = false) (w : World) : Calls Try.prog 76 #[.string s] w fun e w' => e = .returned (.tuple #[.int .u64 V, .string (s.extract E s.size), .int .i64 0]) ∧ Kept w w' := by
  have hs := H.pos
  have hb := H.hb
  have h1 := H.lo
  have h3 := H.hi
  have hE := H.hE
  have h : decide ((b : Int) < 248) = false := by simp; omega
  have he := not_empty hs
  have i1 : (1 : Int) ≤ s.size := by omega
  have i2 : (1 : Int) ≤ (E : Int) := by omega
  have i3 : (E : Int) ≤ s.size := by omega
  have hd : decide (s.size < E) = false := by simpa using h2
  clear h2
  go_enter Try.func76, Try.ntmps76
  go_wp2_with (go_at_call 78; (with_reducible refine (G.cj _).mono ?_); rintro e w1 ⟨rfl, hk1⟩)
  go_region_held3 (fun W => Kept w W) (first | assumption | (refine Kept.trans ?_ ‹_›; assumption) | exact Kept.drew ‹_›) (first
    | (go_at_call 59; (with_reducible refine (G.cn _).mono ?_); rintro e u ⟨rfl, hg⟩))
  go_wp2_with fail
  go_quiet (fail)
  go_wp2_with fail
  go_ret3
  exact ⟨rfl, Kept.drewN ‹_› _⟩
set_option maxHeartbeats 800000 in
set_option maxRecDepth 100000 in
theorem unvar_other (s : ByteArray) (b E V : Nat) (X : ByteArray) (H : Head s b E) (h2 : E ≤ s.size) (G : UvG s E V X) (hq : (!X.toList == (s.extract 0 E).toList) = true) (w : World) : Calls Try.prog 76 #[.string s] w fun e w' => e = .returned (.tuple #[.int .u64 0, .string ⟨#[]⟩, .int .i64 4]) ∧ Kept w w' := by
  have hs := H.pos
  have hb := H.hb
  have h1 := H.lo
  have h3 := H.hi
  have hE := H.hE
  have h : decide ((b : Int) < 248) = false := by simp; omega
  have he := not_empty hs
  have i1 : (1 : Int) ≤ s.size := by omega
  have i2 : (1 : Int) ≤ (E : Int) := by omega
  have i3 : (E : Int) ≤ s.size := by omega
  have hd : decide (s.size < E) = false := by simpa using h2
  clear h2
  go_enter Try.func76, Try.ntmps76
  go_wp2_with (go_at_call 78; (with_reducible refine (G.cj _).mono ?_); rintro e w1 ⟨rfl, hk1⟩)
  go_region_held3 (fun W => Kept w W) (first | assumption | (refine Kept.trans ?_ ‹_›; assumption) | exact Kept.drew ‹_›) (first
    | (go_at_call 59; (with_reducible refine (G.cn _).mono ?_); rintro e u ⟨rfl, hg⟩))
  go_wp2_with fail
  go_ret3
  exact ⟨rfl, ‹_›⟩

theorem uvG (s : ByteArray) (E V : Nat) (hV : val (s.extract 1 E).data.toList = V) (hU : U64 V) (h1 : 1 ≤ (s.extract 1 E).size) (h8 : (s.extract 1 E).size ≤ 8) : UvG s E V (str (num V)) := by
  subst hV
  exact ⟨join_any _ h1 h8, number_u _ hU⟩
/-- What Unvar returns. -/
def uvN (s : ByteArray) : Nat := match uv s with | some (n, _) => n | none => 0
def uvR (s : ByteArray) : ByteArray := match uv s with | some (_, r) => r | none => ⟨#[]⟩
def uvE (s : ByteArray) : Int := match uv s with | some _ => 0 | none => 4
theorem uvN_some {s r : ByteArray} {n : Nat} (h : uv s = some (n, r)) : uvN s = n := by unfold uvN; rw [h]
theorem uvR_some {s r : ByteArray} {n : Nat} (h : uv s = some (n, r)) : uvR s = r := by unfold uvR; rw [h]
theorem uvE_some {s r : ByteArray} {n : Nat} (h : uv s = some (n, r)) : uvE s = 0 := by unfold uvE; rw [h]
theorem uvN_none {s : ByteArray} (h : uv s = none) : uvN s = 0 := by unfold uvN; rw [h]
theorem uvR_none {s : ByteArray} (h : uv s = none) : uvR s = ⟨#[]⟩ := by unfold uvR; rw [h]
theorem uvE_none {s : ByteArray} (h : uv s = none) : uvE s = 4 := by unfold uvE; rw [h]
theorem unvar_any (s : ByteArray) (w : World) : Calls Try.prog 76 #[.string s] w fun e w' => e = .returned (.tuple #[.int .u64 (uvN s), .string (uvR s), .int .i64 (uvE s)]) ∧ Kept w w' := by
  rcases uv_cases s with ⟨h, e⟩ | ⟨hs, h, e⟩ | ⟨b, E, H, ⟨h, e⟩ | ⟨h, V, hV, hU, h1, h8, ⟨hq, e⟩ | ⟨hq, e⟩⟩⟩
  · rw [uvN_none e, uvR_none e, uvE_none e]; exact unvar_empty s h w
  · rw [uvN_some e, uvR_some e, uvE_some e]; exact unvar_one s hs h w
  · rw [uvN_none e, uvR_none e, uvE_none e]; exact unvar_short s b E H h w
  · rw [uvN_none e, uvR_none e, uvE_none e]; exact unvar_other s b E V _ H h (uvG s E V hV hU h1 h8) hq w
  · rw [uvN_some e, uvR_some e, uvE_some e]; exact unvar_long s b E V _ H h (uvG s E V hV hU h1 h8) hq w
theorem unvar_some {s r : ByteArray} {n : Nat} (h : uv s = some (n, r)) (w : World) : Calls Try.prog 76 #[.string s] w fun e w' => e = .returned (.tuple #[.int .u64 n, .string r, .int .i64 0]) ∧ Kept w w' := by
  have := unvar_any s w
  rw [uvN_some h, uvR_some h, uvE_some h] at this; exact this
theorem unvar_none {s : ByteArray} (h : uv s = none) (w : World) : Calls Try.prog 76 #[.string s] w fun e w' => e = .returned (.tuple #[.int .u64 0, .string ⟨#[]⟩, .int .i64 4]) ∧ Kept w w' := by
  have := unvar_any s w
  rw [uvN_none h, uvR_none h, uvE_none h] at this; exact this
end Go.Proofs.YtngojgocplmedaaR.Pk

namespace Go.Proofs.YtngojgocplmedaaR.Pk
open Go.RowKit Go.Proofs.YtngojgocplmedaaR.Mem

/-- It is an int. -/
def I64 (i : Int) : Prop := -9223372036854775808 ≤ i ∧ i < 9223372036854775808
theorem number_at (m : Int) (n : Nat) (h : U64 n) (hm : m = (n : Int)) (w : World) : Calls Try.prog 59 #[.int .u64 m] w fun e w' => e = .returned (.string (str (num n))) ∧ Kept w w' := by
  subst hm; exact number_u n h w
theorem zig_pos (n : Nat) : zig n = 2 * n := by unfold zig; split <;> omega
theorem pos_wrap {n : Nat} (h : I63 n) : IntKind.u64.wrap (2 * IntKind.u64.wrap (n : Int)) = ((zig n : Nat) : Int) := by
  unfold I63 at h
  rw [zig_pos, IntKind.wrap_u64, IntKind.wrap_u64]; omega
theorem neg_wrap {i : Int} (h : I64 i) (hn : i < 0) : IntKind.u64.wrap (IntKind.u64.wrap (2 * IntKind.u64.wrap (wrap64 (-wrap64 (i + 1)))) + 1) = ((zig i : Nat) : Int) := by
  obtain ⟨h1, h2⟩ := h
  rw [IntWalk.wrap64_in (i + 1) ⟨by omega, by omega⟩, IntWalk.wrap64_in (-(i + 1)) ⟨by omega, by omega⟩, IntKind.wrap_u64, IntKind.wrap_u64, IntKind.wrap_u64]
  unfold zig
  rw [if_pos hn]; omega
theorem zig_u64 {i : Int} (h : I64 i) : U64 (zig i) := by
  obtain ⟨h1, h2⟩ := h
  unfold zig U64; split <;> omega
theorem tup3 {k : IntKind} {a b : Int} {r : Value} {v : Value} (h : a = b) : Ending.returned (.tuple #[.int k a, r, v]) = .returned (.tuple #[.int k b, r, v]) := by rw [h]
theorem zag_one {n : Nat} (hU : Hid (U64 n)) (h : ((n : Int) % 2 != 0) = true) : wrap64 (wrap64 (-wrap64 (IntKind.u64.wrap ((n : Int) / 2))) - 1) = zag n := by
  have h' : n % 2 = 1 := by simp at h; omega
  have h2 : n < 18446744073709551616 := hU.out
  unfold zag
  have e : IntKind.u64.wrap ((n : Int) / 2) = (n : Int) / 2 := by rw [IntKind.wrap_u64]; omega
  rw [if_pos h', e, IntWalk.wrap64_in ((n : Int) / 2) ⟨by omega, by omega⟩, IntWalk.wrap64_in (-((n : Int) / 2)) ⟨by omega, by omega⟩, IntWalk.wrap64_in _ ⟨by omega, by omega⟩]; omega
theorem zag_zero {n : Nat} (hU : Hid (U64 n)) (h : ((n : Int) % 2 != 0) = false) : wrap64 (IntKind.u64.wrap ((n : Int) / 2)) = zag n := by
  have h' : ¬ n % 2 = 1 := by simp at h; omega
  have h2 : n < 18446744073709551616 := hU.out
  unfold zag
  rw [if_neg h', IntKind.wrap_u64, IntWalk.wrap64_in _ ⟨by omega, by omega⟩]; omega
/-- What Unint returns. -/
def uiN (s : ByteArray) : Int := match uv s with | some (n, _) => zag n | none => 0
/-! Text and Untext. -/
/-- It lies in memory that there is. -/
def Short (s : ByteArray) : Prop := s.size ≤ 140737488351232
theorem i63_size {s : ByteArray} (hs : Short s) : I63 s.size := by unfold Short at hs; unfold I63; omega
theorem u64_size {s : ByteArray} (hs : Short s) : U64 s.size := by unfold Short at hs; unfold U64; omega
theorem str_mk (s : ByteArray) : s = ⟨s.data.toList.toArray⟩ := (str_list s).symm
theorem text_cat (s : ByteArray) (hs : Short s) (w : World) : (Op.stringOp .add ⟨(num s.size).toArray⟩ s).run Try.prog w = .ok (.string (str (num s.size) ++ s)) w := by
  rw [run_string_add_sum w _ _ (by have := (num_len s.size).2; have e := size_str (num s.size); unfold str at e; rw [e]; unfold Short at hs; omega)]
  rfl
theorem size_wrap {r : ByteArray} (h : I63 r.size) : IntKind.u64.wrap (r.size : Int) = (r.size : Int) := wrap_u64 (u64_i63 h)
/-- What Untext returns. -/
def utS (s : ByteArray) : ByteArray := match ut s with | some (x, _) => x | none => ⟨#[]⟩
def utR (s : ByteArray) : ByteArray := match ut s with | some (_, r) => r | none => ⟨#[]⟩
def utE (s : ByteArray) : Int := match ut s with | some _ => 0 | none => 4
end Go.Proofs.YtngojgocplmedaaR.Pk

namespace Go.Proofs.YtngojgocplmedaaR.Pk
open Go.RowKit Go.Proofs.YtngojgocplmedaaR.Mem

theorem quo_wrap {c : Nat} (h : U64 c) : IntKind.u64.wrap ((c : Int) / 256) = ((c / 256 : Nat) : Int) := by
  have := u64_div h
  rw [show (c : Int) / 256 = ((c / 256 : Nat) : Int) by omega]
  exact wrap_u64 this
set_option maxHeartbeats 400000 in
theorem ref_width (n : Nat) (h : U64 n) (w : World) : Calls Try.prog 61 #[.int .u64 n] w fun e w' => e = .returned (.int .i64 (wd n)) ∧ w = w' := by
  go_enter Try.func61, Try.ntmps61
  go_wp2
  go_loop [0, 3] (fun v i => ∃ c m : Nat, v = .int .u64 c ∧ i = .int .i64 m ∧ U64 c ∧ wd n + 1 = wd c + m) (fun v _ => (intOf v).toNat)
  case atStart => exact ⟨n, 1, rfl, rfl, h, rfl⟩
  case round =>
    obtain ⟨c, m, rfl, rfl, hc, hm⟩ := hrel
    have hb := wd_bd n
    have hb2 := wd_bd c
    have hm8 : m ≤ 8 := by omega
    have HM := Lib.hid hm
    clear hm hb
    by_cases hlt : 255 < c
    · go_wp2
      go_round
      case rel => exact ⟨c / 256, m + 1, val_un (quo_wrap hc), by go_num, u64_div hc, by rw [HM.out, wd_step hlt hc]; omega⟩
      case measure => simp [intOf]; rw [quo_wrap hc]; omega
    · go_wp2
      go_ret
      exact ⟨ret_i (by have := HM.out; rw [wd_small (n := c) (by omega)] at this; omega), rfl⟩

/-- With j places still to come. -/
def Rb (w : World) (n k j : Nat) (wr : World) : Prop :=
  ∃ l : List UInt8, l.length = k ∧ Row w w.heap.size l wr ∧ ∀ m, m < k - j → l.getD (k - 1 - m) 0 = UInt8.ofNat (n / 256 ^ m)
theorem infoB : (Try.prog.info? 5).map (fun i => (i.zero, i.size, i.bytes)) = some (some (.int .u8 0), 1, 1) := by kernel_rfl
theorem row_made {w w1 : World} {n : Nat} (hown : w1.ownsRow w.heap.size 5 1 (.slice (some ⟨w.heap.size, 0, none⟩) n n) n (madeCells (Value.int .u8 0).cells (n * 1)).toList) (hg : w.grownBy w1 none) :
    Row w w.heap.size (List.replicate n 0) w1 := by
  refine ⟨(Below.refl _ _).grown hg (Nat.le_refl _) (by simp), (hown.lt w.heap.size rfl).2, fun j hj => ?_, fun j hj => hown.frozenAt j⟩
  have hj' : j < n := by simpa using hj
  rw [hown.cellAt j (by omega)]
  simp [madeCells, Value.cells, hj', Nat.mod_one]
theorem Rb.at {w wr : World} {n k j : Nat} (h : Rb w n k (j + 1) wr) (hj : j < k) : (∃ v, wr.cell? ⟨w.heap.size, j, none⟩ = some (.int .u8 v)) ∧ wr.frozen? ⟨w.heap.size, j, none⟩ = false := by
  obtain ⟨l, hl, hr, _⟩ := h
  exact hr.at _ (by omega)
theorem Rb.next {w wr : World} {n k j : Nat} {v : Int} (h : Rb w n k (j + 1) wr) (hj : j < k) (hv : v = ((UInt8.ofNat (n / 256 ^ (k - 1 - j))).toNat : Int)) :
    Rb w n k j (wr.setCell ⟨w.heap.size, j, none⟩ (.int .u8 v)) := by
  obtain ⟨l, hl, hr, hx⟩ := h
  refine ⟨l.set j (UInt8.ofNat (n / 256 ^ (k - 1 - j))), by simpa using hl, hr.set _ _ hv (by omega), fun m hm => ?_⟩
  by_cases e : k - 1 - m = j
  · have e2 : k - 1 - j = m := by omega
    rw [e, e2]
    have : j < l.length := by omega
    simp [List.getD, this]
  · have e' : ¬ j = k - 1 - m := fun h => e h.symm
    rw [← hx m (by omega)]; simp [List.getD, List.getElem?_set_ne e']
theorem Rb.str {w wr : World} {n k : Nat} (h : Rb w n k 0 wr) :
    (convert 53 9 (.slice (some ⟨w.heap.size, 0, none⟩) k k)).run Try.prog wr = .ok (.string ⟨(be n k).toArray⟩) wr := by
  obtain ⟨l, hl, hr, hx⟩ := h
  rw [hr.str k k (by omega), be_take (by omega) (fun m hm => hx m (by omega))]
theorem Rb.kept {w wr : World} {n k j : Nat} (h : Rb w n k j wr) : Kept w wr := by
  obtain ⟨l, _, hr, _⟩ := h
  exact hr.keptOf
theorem quo_step {n k i c : Nat} (hi : i < k) (h : c = n / 256 ^ (k - (i + 1))) : c / 256 = n / 256 ^ (k - i) := by
  rw [h, Nat.div_div_eq_div_mul, ← Nat.pow_succ, show (k - (i + 1)).succ = k - i by omega]
theorem byte_low (c : Nat) : (c : Int) % 256 = ((UInt8.ofNat c).toNat : Int) := by
  have e : (UInt8.ofNat c).toNat = c % 256 := UInt8.toNat_ofNat'
  rw [e]; omega
set_option maxHeartbeats 800000 in
set_option maxRecDepth 100000 in
theorem ref_bytes (n k : Nat) (h : U64 n) (h1 : 1 ≤ k) (h8 : k ≤ 8) (w : World) :
    Calls Try.prog 60 #[.int .u64 n, .int .i64 k] w fun e w' => e = .returned (.string ⟨(be n k).toArray⟩) ∧ Kept w w' := by
  obtain ⟨i0, hi, hz0, hz1, hz2⟩ := info_parts infoB
  have hbytes : i0.bytes * k ≤ 281474976710656 := by rw [hz2]; omega
  have hml : k ≤ maxLen := by unfold maxLen; omega
  go_enter Try.func60, Try.ntmps60
  go_wp2_with (at_make; refine wpList_make_full _ rfl _ _ 53 rfl w.heap.size 5 i0 (.int .u8 0) 1 Try.underlying53 hi hz0 hz1 _ _ _ _ k rfl rfl rfl rfl hbytes hml (Nat.le_refl _) ?_; intro wm hown hgr)
  have M0 : Rb w n k k wm := ⟨_, by simp, row_made hown hgr, fun j hj => absurd hj (by omega)⟩
  clear hown hgr hbytes hml hi hz0 hz1 hz2
  go_loopw [0, 6] (fun v i wr => ∃ j c : Nat, j ≤ k ∧ i = .int .i64 ((j : Int) - 1) ∧ v = .int .u64 c ∧ U64 c ∧ c = n / 256 ^ (k - j) ∧ Rb w n k j wr) (fun _ i _ => (intOf i + 1).toNat)
  case atStart => exact ⟨k, n, by omega, rfl, rfl, h, by simp, M0⟩
  case round =>
    clear M0
    obtain ⟨j, c, hj, rfl, rfl, hU, hcc, hp⟩ := hrel
    have HC := Lib.hid hcc
    clear hcc
    by_cases hlt : 1 ≤ j
    · obtain ⟨i, rfl⟩ : ∃ i, j = i + 1 := ⟨j - 1, by omega⟩
      obtain ⟨⟨v, hc⟩, hf⟩ := hp.at (by omega)
      go_wp2
      go_roundw
      case rel => exact ⟨i, c / 256, by omega, by go_num, val_un (quo_wrap hU), u64_div hU, quo_step (by omega) HC.out, hp.next (by omega) (by have e := HC.out; rw [show k - 1 - i = k - (i + 1) by omega, ← e]; exact byte_low c)⟩
      case measure => simp [intOf]
    · obtain rfl : j = 0 := by omega
      have hcv := hp.str
      have HK := Lib.hid hp.kept
      clear hp
      go_wp2
      go_ret
      exact ⟨rfl, HK.out⟩

theorem rvar_cat {n : Nat} (h : ¬ n < 248) (w : World) : (Op.stringOp .add ⟨(be (247 + wd n) 1).toArray⟩ ⟨(be n (wd n)).toArray⟩).run Try.prog w = .ok (.string ⟨(num n).toArray⟩) w := num_cat h w
/-- What Var holds: the width, and the two pieces. -/
structure VarG (n k : Nat) (x y : ByteArray) : Prop where
  cl : ∀ w, Calls Try.prog 61 #[.int .u64 n] w fun e w' => e = .returned (.int .i64 k) ∧ w = w'
  ch : ∀ w, Calls Try.prog 60 #[.int .u64 (247 + (k : Int)), .int .i64 1] w fun e w' => e = .returned (.string x) ∧ Kept w w'
  cp : ∀ w, Calls Try.prog 60 #[.int .u64 n, .int .i64 k] w fun e w' => e = .returned (.string y) ∧ Kept w w'
  k8 : k ≤ 8
  cat : ∀ w, (Op.stringOp .add x y).run Try.prog w = .ok (.string ⟨(num n).toArray⟩) w
theorem bytes1 (n : Nat) (h : U64 n) (w : World) : Calls Try.prog 60 #[.int .u64 n, .int .i64 1] w fun e w' => e = .returned (.string ⟨(be n 1).toArray⟩) ∧ Kept w w' := ref_bytes n 1 h (by decide) (by decide) w
theorem varG (n : Nat) (h : U64 n) (hs : ¬ n < 248) : ∃ k x y, VarG n k x y := by
  have hb := wd_bd n
  refine ⟨wd n, _, _, ref_width n h, fun w => ?_, ref_bytes n (wd n) h hb.1 hb.2, hb.2, rvar_cat hs⟩
  rw [show (247 : Int) + (wd n : Int) = ((247 + wd n : Nat) : Int) by omega]
  exact bytes1 _ (by unfold U64; omega) w
set_option maxHeartbeats 400000 in
set_option maxRecDepth 100000 in
theorem rvar_any (n : Nat) (h : U64 n) (w : World) : Calls Try.prog 31 #[.int .u64 n] w fun e w' => e = .returned (.string (str (num n))) ∧ Kept w w' := by
  by_cases hs : (n : Int) < 248
  · have hc := fun u => bytes1 n h u
    clear h
    go_enter Try.func31, Try.ntmps31
    go_wp2_with (go_at_call 60; (with_reducible refine (hc _).mono ?_); rintro e w' ⟨rfl, hk⟩)
    go_ret
    exact ⟨ret_s (by rw [num_small (by omega)]; rfl), hk⟩
  · obtain ⟨k, x, y, G⟩ := varG n h (by omega)
    have hd : decide ((n : Int) < 248) = false := by simpa using hs
    have hb := G.k8
    have hcat := G.cat
    clear hs h
    go_enter Try.func31, Try.ntmps31
    go_wp2_with (first
      | (go_at_call 61; (with_reducible refine (G.cl _).mono ?_); rintro e w' ⟨rfl, rfl⟩)
      | (go_at_call 60; (with_reducible refine (G.ch _).mono ?_); rintro e w1 ⟨rfl, hk1⟩)
      | (go_at_call 60; (with_reducible refine (G.cp _).mono ?_); rintro e w2 ⟨rfl, hk2⟩))
    go_ret
    exact ⟨rfl, hk1.trans hk2⟩
theorem rvar_at (m : Int) (n : Nat) (h : U64 n) (hm : m = (n : Int)) (w : World) : Calls Try.prog 31 #[.int .u64 m] w fun e w' => e = .returned (.string (str (num n))) ∧ Kept w w' := by
  subst hm; exact rvar_any n h w
end Go.Proofs.YtngojgocplmedaaR.Pk

namespace Go.Proofs.YtngojgocplmedaaR.Pk
open Go.RowKit Go.Proofs.YtngojgocplmedaaR.Mem

theorem runfixed_no (s : ByteArray) (hs : s.size < 1 ∨ 8 < s.size) (w : World) : Calls Try.prog 79 #[.string s] w fun e w' => e = .returned (.tuple #[.int .u64 0, .int .i64 2]) ∧ Kept w w' := by
  rcases hs with hs | hs
  · have hd : decide ((s.size : Int) < 1) = true := by simp; omega
    clear hs
    go_enter Try.func79, Try.ntmps79
    go_wp2
    go_ret2
    exact ⟨rfl, Kept.refl _⟩
  · have hd : decide ((s.size : Int) < 1) = false := by simp; omega
    have hd2 : decide (8 < (s.size : Int)) = true := by simp; omega
    clear hs
    go_enter Try.func79, Try.ntmps79
    go_wp2
    go_ret2
    exact ⟨rfl, Kept.refl _⟩
theorem add_step (s : ByteArray) (j : Nat) (hj : j < s.size) (h8 : s.size ≤ 8) :
    IntKind.u64.wrap (IntKind.u64.wrap ((val (s.data.toList.take j) : Int) * 256) + IntKind.u64.wrap (s[j].toNat : Int)) = (val (s.data.toList.take (j + 1)) : Int) := by
  have hb : s[j].toNat < 256 := UInt8.toNat_lt _
  have hl := size_list s
  have hv : val (s.data.toList.take j) < 72057594037927936 := by
    have := val_lt j (s.data.toList.take j) (by rw [List.length_take]; omega)
    have h2 := Nat.pow_le_pow_right (n := 256) (by decide) (show j ≤ 7 by omega)
    omega
  have ht : s.data.toList.take (j + 1) = s.data.toList.take j ++ [s[j]] := by
    rw [List.take_succ_eq_append_getElem (by omega)]; rfl
  rw [ht, val_snoc, IntKind.wrap_u64, IntKind.wrap_u64, IntKind.wrap_u64]; omega
set_option maxHeartbeats 400000 in
set_option maxRecDepth 100000 in
theorem runfixed_ok (s : ByteArray) (h1 : 1 ≤ s.size) (h8 : s.size ≤ 8) (w : World) : Calls Try.prog 79 #[.string s] w fun e w' => e = .returned (.tuple #[.int .u64 (val s.data.toList), .int .i64 0]) ∧ Kept w w' := by
  have H8 := Lib.hid h8
  have i8 : (s.size : Int) ≤ 8 := by omega
  have hd : decide ((s.size : Int) < 1) = false := by simp; omega
  have hd2 : decide (8 < (s.size : Int)) = false := by simp; omega
  clear h1 h8
  go_enter Try.func79, Try.ntmps79
  go_wp2
  go_loop [4, 5] (fun n i => ∃ j : Nat, j ≤ s.size ∧ i = .int .i64 j ∧ n = .int .u64 (val (s.data.toList.take j))) (fun _ i => s.size - (intOf i).toNat)
  case atStart => exact ⟨0, by omega, rfl, rfl⟩
  case round =>
    obtain ⟨j, hj, rfl, rfl⟩ := hrel
    by_cases hlt : j < s.size
    · go_wp2
      go_round
      case rel => exact ⟨j + 1, by omega, by go_num, val_un (add_step s j hlt H8.out)⟩
      case measure => simp [intOf]; omega
    · obtain rfl : j = s.size := by omega
      go_wp2
      go_ret2
      exact ⟨by rw [List.take_of_length_le (Nat.le_of_eq (size_list s))]; rfl, Kept.refl _⟩
theorem runfixed_any (s : ByteArray) (w : World) : Calls Try.prog 79 #[.string s] w fun e w' => e = .returned (.tuple #[.int .u64 (ufN s), .int .i64 (ufE s)]) ∧ Kept w w' := by
  unfold ufN ufE
  by_cases hs : s.size < 1 ∨ 8 < s.size
  · rw [if_pos hs, if_pos hs]; exact runfixed_no s hs w
  · rw [if_neg hs, if_neg hs]; exact runfixed_ok s (by omega) (by omega) w
set_option maxHeartbeats 400000 in
theorem runvar_empty (s : ByteArray) (hs : s.size = 0) (w : World) : Calls Try.prog 77 #[.string s] w fun e w' => e = .returned (.tuple #[.int .u64 0, .string ⟨#[]⟩, .int .i64 4]) ∧ Kept w w' := by
  obtain rfl : s = ⟨#[]⟩ := by apply ByteArray.ext; exact Array.eq_empty_of_size_eq_zero hs
  clear hs
  go_enter Try.func77, Try.ntmps77
  go_wp2
  go_ret3
  exact ⟨rfl, Kept.refl _⟩
/-- What Var returns for a number of one byte. -/
structure OneG (s : ByteArray) (b : Nat) (X : ByteArray) : Prop where
  pos : 0 < s.size
  hb : s[0].toNat = b
  hi : (b : Int) ≤ 247
  cn : ∀ w, Calls Try.prog 31 #[.int .u64 b] w fun e w' => e = .returned (.string X) ∧ Kept w w'
  hq : (!X.toList == (s.extract 0 1).toList) = false
theorem oneG (s : ByteArray) (hs : 0 < s.size) (h : (s[0].toNat : Int) < 248) : OneG s s[0].toNat (str (num s[0].toNat)) := by
  refine ⟨hs, rfl, by omega, rvar_any _ (by unfold U64; omega), ?_⟩
  obtain ⟨t, ht, _⟩ := first_byte s hs
  rw [Lib.toList_data, Lib.toList_data, list_str, Lib.extract_data, ht, num_small (by omega)]
  simp
set_option maxHeartbeats 800000 in
set_option maxRecDepth 100000 in
theorem runvar_oneG (s : ByteArray) (b : Nat) (X : ByteArray) (G : OneG s b X) (w : World) : Calls Try.prog 77 #[.string s] w fun e w' => e = .returned (.tuple #[.int .u64 b, .string (s.extract 1 s.size), .int .i64 0]) ∧ Kept w w' := by
  have hs := G.pos
  have hb := G.hb
  have h3 := G.hi
  have hq := G.hq
  have he := not_empty hs
  have i1 : (1 : Int) ≤ s.size := by omega
  have hk0 := Kept.refl w
  go_enter Try.func77, Try.ntmps77
  go_wp2_with fail
  go_region_held3 (fun W => Kept w W) (first | assumption | (refine Kept.trans ?_ ‹_›; assumption) | exact Kept.drew ‹_›) (first
    | (go_at_call 31; (with_reducible refine (G.cn _).mono ?_); rintro e u ⟨rfl, hg⟩))
  go_wp2_with fail
  go_quiet (fail)
  go_wp2_with fail
  go_ret3
  exact ⟨rfl, Kept.drewN ‹_› _⟩
theorem runvar_one (s : ByteArray) (hs : 0 < s.size) (h : (s[0].toNat : Int) < 248) (w : World) : Calls Try.prog 77 #[.string s] w fun e w' => e = .returned (.tuple #[.int .u64 s[0].toNat, .string (s.extract 1 s.size), .int .i64 0]) ∧ Kept w w' :=
  runvar_oneG s _ _ (oneG s hs h) w
set_option maxHeartbeats 400000 in
set_option maxRecDepth 100000 in
theorem runvar_short (s : ByteArray) (b E : Nat) (H : Head s b E) (h2 : s.size < E) (w : World) : Calls Try.prog 77 #[.string s] w fun e w' => e = .returned (.tuple #[.int .u64 0, .string ⟨#[]⟩, .int .i64 4]) ∧ Kept w w' := by
  have hs := H.pos
  have hb := H.hb
  have h1 := H.lo
  have h3 := H.hi
  have hE := H.hE
  have h : decide ((b : Int) < 248) = false := by simp; omega
  have he := not_empty hs
  have i1 : (1 : Int) ≤ s.size := by omega
  have hd : decide (s.size < E) = true := by simpa using h2
  clear h2
  go_enter Try.func77, Try.ntmps77
  go_wp2_with fail
  go_ret3
  exact ⟨rfl, Kept.refl _⟩
/-- What the calls on the rest of a long number return. -/
structure RvG (s : ByteArray) (E V : Nat) (X : ByteArray) : Prop where
  cj : ∀ w, Calls Try.prog 79 #[.string (s.extract 1 E)] w fun e w' => e = .returned (.tuple #[.int .u64 V, .int .i64 0]) ∧ Kept w w'
  cn : ∀ w, Calls Try.prog 31 #[.int .u64 V] w fun e w' => e = .returned (.string X) ∧ Kept w w'
set_option maxHeartbeats 800000 in
set_option maxRecDepth 100000 in
theorem runvar_long (s : ByteArray) (b E V : Nat) (X : ByteArray) (H : Head s b E) (h2 : E ≤ s.size) (G : RvG s E V X) (hq : (!X.toList == (s.extract 0 E).toList) = false) (w : World) : Calls Try.prog 77 #[.string s] w fun e w' => e = .returned (.tuple #[.int .u64 V, .string (s.extract E s.size), .int .i64 0]) ∧ Kept w w' := by
  have hs := H.pos
  have hb := H.hb
  have h1 := H.lo
  have h3 := H.hi
  have hE := H.hE
  have h : decide ((b : Int) < 248) = false := by simp; omega
  have he := not_empty hs
  have i1 : (1 : Int) ≤ s.size := by omega
  have i2 : (1 : Int) ≤ (E : Int) := by omega
  have i3 : (E : Int) ≤ s.size := by omega
  have hd : decide (s.size < E) = false := by simpa using h2
  clear h2
  go_enter Try.func77, Try.ntmps77
  go_wp2_with (go_at_call 79; (with_reducible refine (G.cj _).mono ?_); rintro e w1 ⟨rfl, hk1⟩)
  go_region_held3 (fun W => Kept w W) (first | assumption | (refine Kept.trans ?_ ‹_›; assumption) | exact Kept.drew ‹_›) (first
    | (go_at_call 31; (with_reducible refine (G.cn _).mono ?_); rintro e u ⟨rfl, hg⟩))
  go_wp2_with fail
  go_quiet (fail)
  go_wp2_with fail
  go_ret3
  exact ⟨rfl, Kept.drewN ‹_› _⟩
set_option maxHeartbeats 800000 in
set_option maxRecDepth 100000 in
theorem runvar_other (s : ByteArray) (b E V : Nat) (X : ByteArray) (H : Head s b E) (h2 : E ≤ s.size) (G : RvG s E V X) (hq : (!X.toList == (s.extract 0 E).toList) = true) (w : World) : Calls Try.prog 77 #[.string s] w fun e w' => e = .returned (.tuple #[.int .u64 0, .string ⟨#[]⟩, .int .i64 4]) ∧ Kept w w' := by
  have hs := H.pos
  have hb := H.hb
  have h1 := H.lo
  have h3 := H.hi
  have hE := H.hE
  have h : decide ((b : Int) < 248) = false := by simp; omega
  have he := not_empty hs
  have i1 : (1 : Int) ≤ s.size := by omega
  have i2 : (1 : Int) ≤ (E : Int) := by omega
  have i3 : (E : Int) ≤ s.size := by omega
  have hd : decide (s.size < E) = false := by simpa using h2
  clear h2
  go_enter Try.func77, Try.ntmps77
  go_wp2_with (go_at_call 79; (with_reducible refine (G.cj _).mono ?_); rintro e w1 ⟨rfl, hk1⟩)
  go_region_held3 (fun W => Kept w W) (first | assumption | (refine Kept.trans ?_ ‹_›; assumption) | exact Kept.drew ‹_›) (first
    | (go_at_call 31; (with_reducible refine (G.cn _).mono ?_); rintro e u ⟨rfl, hg⟩))
  go_wp2_with fail
  go_ret3
  exact ⟨rfl, ‹_›⟩

theorem rvG (s : ByteArray) (E V : Nat) (hV : val (s.extract 1 E).data.toList = V) (hU : U64 V) (h1 : 1 ≤ (s.extract 1 E).size) (h8 : (s.extract 1 E).size ≤ 8) : RvG s E V (str (num V)) := by
  subst hV
  exact ⟨runfixed_ok _ h1 h8, rvar_any _ hU⟩
theorem runvar_any (s : ByteArray) (w : World) : Calls Try.prog 77 #[.string s] w fun e w' => e = .returned (.tuple #[.int .u64 (uvN s), .string (uvR s), .int .i64 (uvE s)]) ∧ Kept w w' := by
  rcases uv_cases s with ⟨h, e⟩ | ⟨hs, h, e⟩ | ⟨b, E, H, ⟨h, e⟩ | ⟨h, V, hV, hU, h1, h8, ⟨hq, e⟩ | ⟨hq, e⟩⟩⟩
  · rw [uvN_none e, uvR_none e, uvE_none e]; exact runvar_empty s h w
  · rw [uvN_some e, uvR_some e, uvE_some e]; exact runvar_one s hs h w
  · rw [uvN_none e, uvR_none e, uvE_none e]; exact runvar_short s b E H h w
  · rw [uvN_none e, uvR_none e, uvE_none e]; exact runvar_other s b E V _ H h (rvG s E V hV hU h1 h8) hq w
  · rw [uvN_some e, uvR_some e, uvE_some e]; exact runvar_long s b E V _ H h (rvG s E V hV hU h1 h8) hq w
theorem runvar_some {s r : ByteArray} {n : Nat} (h : uv s = some (n, r)) (w : World) : Calls Try.prog 77 #[.string s] w fun e w' => e = .returned (.tuple #[.int .u64 n, .string r, .int .i64 0]) ∧ Kept w w' := by
  have := runvar_any s w
  rw [uvN_some h, uvR_some h, uvE_some h] at this; exact this
theorem runvar_none {s : ByteArray} (h : uv s = none) (w : World) : Calls Try.prog 77 #[.string s] w fun e w' => e = .returned (.tuple #[.int .u64 0, .string ⟨#[]⟩, .int .i64 4]) ∧ Kept w w' := by
  have := runvar_any s w
  rw [uvN_none h, uvR_none h, uvE_none h] at this; exact this
theorem mod_one {n : Nat} (h : ((n : Int) % 2 == 1) = true) : ((n : Int) % 2 != 0) = true := by simp at h ⊢; omega
theorem mod_zero {n : Nat} (h : ((n : Int) % 2 == 1) = false) : ((n : Int) % 2 != 0) = false := by simp at h ⊢; omega
end Go.Proofs.YtngojgocplmedaaR.Pk
