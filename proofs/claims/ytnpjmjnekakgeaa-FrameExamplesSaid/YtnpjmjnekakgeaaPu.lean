/-
  How a number, an integer and a text are read from a string: plain functions, and their cases.
-/
import Derived.Test.YtnpjmjnekakgeaaPm
import Derived.Lib.Strings
namespace Go.Proofs.Ytnpjmjnekakgeaa.Pk
open Go

/-- A list of bytes as a string. -/
def str (l : List UInt8) : ByteArray := ⟨l.toArray⟩
theorem str_list (s : ByteArray) : str s.data.toList = s := by apply ByteArray.ext; simp [str]
theorem list_str (l : List UInt8) : (str l).data.toList = l := by simp [str]
theorem size_list (s : ByteArray) : s.data.toList.length = s.size := by simp
theorem size_str (l : List UInt8) : (str l).size = l.length := by rw [← size_list, list_str]
theorem str_inj {a b : ByteArray} (h : a.data.toList = b.data.toList) : a = b := by rw [← str_list a, h, str_list]
theorem str_add (a b : List UInt8) : str a ++ str b = str (a ++ b) := by apply ByteArray.ext; simp [str]
/-- It fits 64 bits. -/
def U64 (n : Nat) : Prop := n < 18446744073709551616

/-- The number at the beginning of s, and the rest. -/
def uv (s : ByteArray) : Option (Nat × ByteArray) := (uvL s.data.toList).map fun p => (p.1, s.extract p.2 s.size)

/-- The first byte of a long number, and where the number ends. -/
structure Head (s : ByteArray) (b E : Nat) : Prop where
  pos : 0 < s.size
  hb : s[0].toNat = b
  lo : (248 : Int) ≤ (b : Int)
  hi : (b : Int) ≤ 255
  hE : 1 + (b : Int) - 247 = (E : Int)

theorem first_byte (s : ByteArray) (h : 0 < s.size) : ∃ t, s.data.toList = s[0] :: t ∧ t.length + 1 = s.size := by
  have e := size_list s
  cases hl : s.data.toList with
  | nil => rw [hl] at e; simp at e; omega
  | cons b t =>
    refine ⟨t, ?_, by rw [hl] at e; simpa using e⟩
    have : s[0] = s.data.toList[0]'(by rw [e]; exact h) := rfl
    rw [this]; simp [hl]

theorem uv_cases (s : ByteArray) :
    (s.size = 0 ∧ uv s = none) ∨ (∃ hs : 0 < s.size, (s[0].toNat : Int) < 248 ∧ uv s = some (s[0].toNat, s.extract 1 s.size)) ∨
    ∃ b E, Head s b E ∧ (s.size < E ∧ uv s = none ∨ E ≤ s.size ∧ ∃ V, val (s.extract 1 E).data.toList = V ∧ U64 V ∧ 1 ≤ (s.extract 1 E).size ∧ (s.extract 1 E).size ≤ 8 ∧
      ((!((str (num V)).toList == (s.extract 0 E).toList)) = true ∧ uv s = none ∨ (!((str (num V)).toList == (s.extract 0 E).toList)) = false ∧ uv s = some (V, s.extract E s.size))) := by
  by_cases h0 : s.size = 0
  · refine .inl ⟨h0, ?_⟩
    have : s.data.toList = [] := List.eq_nil_of_length_eq_zero (by rw [size_list, h0])
    unfold uv; rw [this]; rfl
  · have hs : 0 < s.size := by omega
    obtain ⟨t, ht, htl⟩ := first_byte s hs
    by_cases hb : (s[0].toNat : Int) < 248
    · refine .inr (.inl ⟨hs, hb, ?_⟩)
      unfold uv uvL; rw [ht]; simp only [if_pos (show s[0].toNat < 248 by omega)]; rfl
    · have h255 : s[0].toNat < 256 := UInt8.toNat_lt _
      obtain ⟨b, hbb⟩ : ∃ b, s[0].toNat = b := ⟨_, rfl⟩
      rw [hbb] at hb h255
      obtain ⟨k, rfl⟩ : ∃ k, b = 247 + k := ⟨b - 247, by omega⟩
      have e1 : (s.extract 1 (1 + k)).data.toList = t.take k := by rw [Lib.extract_data, ht]; simp
      have e0 : (s.extract 0 (1 + k)).data.toList = s.data.toList.take (1 + k) := by rw [Lib.extract_data]; simp
      have hsz : (s.extract 1 (1 + k)).size = min (1 + k) s.size - 1 := ByteArray.size_extract
      refine .inr (.inr ⟨247 + k, 1 + k, ⟨hs, hbb, by omega, by omega, by omega⟩, ?_⟩)
      have key : uv s = if t.length < k then none else if num (val (t.take k)) = s.data.toList.take (1 + k) then some (val (t.take k), s.extract (1 + k) s.size) else none := by
        unfold uv uvL
        rw [ht]
        simp only [hbb, if_neg (show ¬ 247 + k < 248 by omega), Nat.add_sub_cancel_left]
        split
        · rfl
        · split <;> rfl
      by_cases hl : s.size < 1 + k
      · exact .inl ⟨hl, by rw [key, if_pos (by omega)]⟩
      · rw [if_neg (by omega)] at key
        refine .inr ⟨by omega, val (t.take k), by rw [e1], ?_, by omega, by omega, ?_⟩
        · have := val_lt _ (t.take k) rfl
          have hle : (t.take k).length ≤ 8 := by rw [List.length_take]; omega
          have := Nat.pow_le_pow_right (n := 256) (by decide) hle
          unfold U64; omega
        · rw [Lib.toList_data, Lib.toList_data, list_str, e0]
          by_cases hq : num (val (t.take k)) = s.data.toList.take (1 + k)
          · exact .inr ⟨by rw [hq]; simp, by rw [key, if_pos hq]⟩
          · exact .inl ⟨by simp only [Bool.not_eq_true', beq_eq_false_iff_ne]; exact hq, by rw [key, if_neg hq]⟩
/-- What is read is what would be written, and the rest. -/
theorem uv_some {s r : ByteArray} {n : Nat} (h : uv s = some (n, r)) : U64 n ∧ s = str (num n) ++ r ∧ r.size < s.size := by
  unfold uv at h
  cases hu : uvL s.data.toList with
  | none => rw [hu] at h; cases h
  | some p =>
    obtain ⟨m, k⟩ := p
    rw [hu] at h
    simp only [Option.map_some, Option.some.injEq, Prod.mk.injEq] at h
    obtain ⟨rfl, rfl⟩ := h
    obtain ⟨h1, h2, h3, h4, h5⟩ := uvL_some hu
    rw [size_list] at h1
    refine ⟨h4, ?_, by rw [ByteArray.size_extract]; omega⟩
    apply str_inj
    rw [ByteArray.data_append, Array.toList_append, list_str, ← h3, Lib.extract_data, List.take_of_length_le (l := List.drop _ _) (by rw [List.length_drop, size_list]; omega), List.take_append_drop]
theorem uv_num (n : Nat) (h : U64 n) (t : ByteArray) : uv (str (num n) ++ t) = some (n, t) := by
  have e : (str (num n) ++ t).data.toList = num n ++ t.data.toList := by rw [ByteArray.data_append, Array.toList_append, list_str]
  unfold uv
  rw [e, uvL_num n h]
  simp only [Option.map_some, Option.some.injEq, Prod.mk.injEq, true_and]
  apply str_inj
  have hs : (str (num n) ++ t).size = (num n).length + t.size := by rw [ByteArray.size_append, size_str]
  rw [Lib.extract_data, e, hs]
  simp only [List.drop_left, Nat.add_sub_cancel_left]
  exact List.take_of_length_le (Nat.le_of_eq (size_list t))

/-- An integer. -/
def ui (s : ByteArray) : Option (Int × ByteArray) := (uv s).map fun p => (zag p.1, p.2)
theorem ui_int (i : Int) (h : U64 (zig i)) (t : ByteArray) : ui (str (num (zig i)) ++ t) = some (i, t) := by
  unfold ui; rw [uv_num _ h]; simp [zag_zig]
theorem ui_some {s r : ByteArray} {i : Int} (h : ui s = some (i, r)) : U64 (zig i) ∧ s = str (num (zig i)) ++ r := by
  unfold ui at h
  cases hu : uv s with
  | none => rw [hu] at h; cases h
  | some p =>
    obtain ⟨n, q⟩ := p
    rw [hu] at h
    simp only [Option.map_some, Option.some.injEq, Prod.mk.injEq] at h
    obtain ⟨rfl, rfl⟩ := h
    rw [zig_zag]
    exact ⟨(uv_some hu).1, (uv_some hu).2.1⟩
/-- A text. -/
def ut (s : ByteArray) : Option (ByteArray × ByteArray) :=
  match uv s with
  | none => none
  | some (n, r) => if n ≤ r.size then some (r.extract 0 n, r.extract n r.size) else none
theorem ut_text (x t : ByteArray) (h : U64 x.size) : ut (str (num x.size) ++ x ++ t) = some (x, t) := by
  unfold ut
  rw [ByteArray.append_assoc, uv_num _ h]
  have hs : (x ++ t).size = x.size + t.size := ByteArray.size_append
  simp only [if_pos (show x.size ≤ (x ++ t).size by omega), Option.some.injEq, Prod.mk.injEq]
  have e : (x ++ t).data.toList = x.data.toList ++ t.data.toList := by rw [ByteArray.data_append, Array.toList_append]
  have hx := size_list x
  have ht := size_list t
  constructor
  · apply str_inj
    rw [Lib.extract_data, e]; simp
  · apply str_inj
    rw [Lib.extract_data, e, hs, ← hx]
    simp only [List.drop_left, Nat.add_sub_cancel_left]
    exact List.take_of_length_le (Nat.le_of_eq ht)
theorem ut_some {s x r : ByteArray} (h : ut s = some (x, r)) : s = str (num x.size) ++ x ++ r ∧ x.size ≤ s.size := by
  unfold ut at h
  cases hu : uv s with
  | none => rw [hu] at h; cases h
  | some p =>
    obtain ⟨n, q⟩ := p
    rw [hu] at h
    obtain ⟨_, h1, h2⟩ := uv_some hu
    by_cases hn : n ≤ q.size
    · simp only [if_pos hn, Option.some.injEq, Prod.mk.injEq] at h
      obtain ⟨rfl, rfl⟩ := h
      have hx : (q.extract 0 n).size = n := by rw [ByteArray.size_extract]; omega
      rw [hx]
      refine ⟨?_, by omega⟩
      rw [h1, ByteArray.append_assoc]
      congr 1
      apply str_inj
      rw [ByteArray.data_append, Array.toList_append, Lib.extract_data, Lib.extract_data, List.take_of_length_le (l := List.drop n _) (by rw [List.length_drop, size_list]; omega)]
      simp
    · simp only [if_neg hn] at h; cases h
end Go.Proofs.Ytnpjmjnekakgeaa.Pk
