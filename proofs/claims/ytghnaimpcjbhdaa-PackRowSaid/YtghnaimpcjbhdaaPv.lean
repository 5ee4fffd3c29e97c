/-
  How the items of a row are read, whole, and without the last byte.
-/
import Derived.Test.YtghnaimpcjbhdaaPi
namespace Go.Proofs.Ytghnaimpcjbhdaa.Pk
open Go.RowKit Go.Proofs.Ytghnaimpcjbhdaa.Mem Go.ChangeShapes Go.WideShapes Go.ChangeAt

theorem ext_list (s : ByteArray) (n : Nat) : (s.extract 0 n).data.toList = s.data.toList.take n := by rw [Lib.extract_data]; simp
theorem ext_full (s : ByteArray) : s.extract 0 s.size = s := ByteArray.extract_zero_size
theorem uv_cut (n : Nat) (h : U64 n) : uv ((str (num n)).extract 0 ((str (num n)).size - 1)) = none := by
  cases hu : uv ((str (num n)).extract 0 ((str (num n)).size - 1)) with
  | none => rfl
  | some p =>
    exfalso
    obtain ⟨m, r⟩ := p
    obtain ⟨hm, he, _⟩ := uv_some hu
    have e1 : (num n).take ((num n).length - 1) = num m ++ r.data.toList := by
      have := congrArg (fun s : ByteArray => s.data.toList) he
      simp only [ext_list, list_str, size_str, ByteArray.data_append, Array.toList_append] at this
      exact this
    have e2 : num n = num m ++ (r.data.toList ++ (num n).drop ((num n).length - 1)) := by
      rw [← List.append_assoc, ← e1, List.take_append_drop]
    have a := uvL_num n h []
    rw [List.append_nil, e2, uvL_num m hm] at a
    simp only [Option.some.injEq, Prod.mk.injEq] at a
    have hl := congrArg List.length e1
    have := (num_len n).1
    rw [List.length_take, List.length_append] at hl
    have : (num m).length = (num n).length := by rw [a.1]
    omega
theorem ut_cut (s : ByteArray) (h : U64 s.size) : ut ((str (num s.size) ++ s).extract 0 ((str (num s.size) ++ s).size - 1)) = none := by
  have hz : (str (num s.size) ++ s).size = (num s.size).length + s.size := by rw [ByteArray.size_append, size_str]
  by_cases h0 : s.size = 0
  · have hs : s = ⟨#[]⟩ := by apply ByteArray.ext; exact Array.eq_empty_of_size_eq_zero h0
    have e : (str (num s.size) ++ s) = str (num 0) := by rw [h0, hs]; exact append_empty _
    rw [e]
    unfold ut
    rw [uv_cut 0 (by unfold U64; decide)]
  · have e : (str (num s.size) ++ s).extract 0 ((str (num s.size) ++ s).size - 1) = str (num s.size) ++ s.extract 0 (s.size - 1) := by
      apply str_inj
      rw [hz, ext_list, ByteArray.data_append, ByteArray.data_append, Array.toList_append, Array.toList_append, list_str, ext_list, List.take_append]
      rw [List.take_of_length_le (by omega), show (num s.size).length + s.size - 1 - (num s.size).length = s.size - 1 by omega]
    rw [e]
    unfold ut
    rw [uv_num _ h]
    have : ¬ s.size ≤ (s.extract 0 (s.size - 1)).size := by rw [ByteArray.size_extract]; omega
    simp only [if_neg this]
/-- How an item is read from T, which begins with it, R being what comes after it; U is T without its last byte, if the item is the last one. -/
structure Rd (x : It) (T R U : ByteArray) (last : Bool) : Prop where
  c0 : x.k % 3 = 0 → ∀ w, Calls Try.prog 22 #[.string T] w fun e w' => e = .returned (.tuple #[.int .i64 x.i, .string R, .int .i64 0]) ∧ Kept w w'
  c1 : x.k % 3 = 1 → ∀ w, Calls Try.prog 20 #[.string T] w fun e w' => e = .returned (.tuple #[.int .u64 x.n, .string R, .int .i64 0]) ∧ Kept w w'
  c2 : x.k % 3 = 2 → ∀ w, Calls Try.prog 24 #[.string T] w fun e w' => e = .returned (.tuple #[.string x.s, .string R, .int .i64 0]) ∧ Kept w w'
  d0 : last = true → x.k % 3 = 0 → ∀ w, Calls Try.prog 22 #[.string U] w fun e w' => e = .returned (.tuple #[.int .i64 0, .string ⟨#[]⟩, .int .i64 4]) ∧ Kept w w'
  d1 : last = true → x.k % 3 = 1 → ∀ w, Calls Try.prog 20 #[.string U] w fun e w' => e = .returned (.tuple #[.int .u64 0, .string ⟨#[]⟩, .int .i64 4]) ∧ Kept w w'
  d2 : last = true → x.k % 3 = 2 → ∀ w, Calls Try.prog 24 #[.string U] w fun e w' => e = .returned (.tuple #[.string ⟨#[]⟩, .string ⟨#[]⟩, .int .i64 4]) ∧ Kept w w'
  ef : T.extract 0 T.size = T
  eu : last = true → T.extract 0 (T.size - 1) = U
  t1 : (1 : Int) ≤ T.size
  t2 : (T.size : Int) ≤ 20000
  r0 : last = true → R = ⟨#[]⟩
theorem untext_is {s x r : ByteArray} (h : ut s = some (x, r)) (hs : I63 s.size) (w : World) : Calls Try.prog 24 #[.string s] w fun e w' => e = .returned (.tuple #[.string x, .string r, .int .i64 0]) ∧ Kept w w' := by
  have := untext_any s hs w
  unfold utS utR utE at this
  rw [h] at this; exact this
theorem untext_not {s : ByteArray} (h : ut s = none) (hs : I63 s.size) (w : World) : Calls Try.prog 24 #[.string s] w fun e w' => e = .returned (.tuple #[.string ⟨#[]⟩, .string ⟨#[]⟩, .int .i64 4]) ∧ Kept w w' := by
  have := untext_any s hs w
  unfold utS utR utE at this
  rw [h] at this; exact this
theorem enc0 {x : It} (h : x.k % 3 = 0) : enc x = str (num (zig x.i)) := by unfold enc; rw [if_pos h]
theorem enc1 {x : It} (h : x.k % 3 = 1) : enc x = str (num x.n) := by unfold enc; rw [if_neg (by omega), if_pos h]
theorem enc2 {x : It} (h : x.k % 3 = 2) : enc x = str (num x.s.size) ++ x.s := by unfold enc; rw [if_neg (by omega), if_neg (by omega)]
theorem rd_of (x : It) (h : x.ok) (hs : x.s.size ≤ 300) (R : ByteArray) (last : Bool) (hr : R.size ≤ 10000) (hl : last = true → R = ⟨#[]⟩) : ∃ U, Rd x (enc x ++ R) R U last := by
  have hz := enc_size x hs
  have hS : U64 x.s.size := by unfold U64; omega
  have hT : (enc x ++ R).size = (enc x).size + R.size := ByteArray.size_append
  have hfix : last = true → enc x ++ R = enc x := fun h => by rw [hl h]; exact append_empty _
  refine ⟨(enc x ++ R).extract 0 ((enc x ++ R).size - 1), ?_, ?_, ?_, ?_, ?_, ?_, ext_full _, fun _ => rfl, by omega, by omega, hl⟩
  · intro hk w
    rw [enc0 hk]
    have := unint_some (uv_num _ (zig_u64 h.i) R) w
    rw [zag_zig] at this; exact this
  · intro hk w
    rw [enc1 hk]
    exact unvar_some (uv_num _ h.n R) w
  · intro hk w
    refine untext_is ?_ (by unfold I63; omega) w
    rw [enc2 hk]
    exact ut_text x.s R hS
  · intro hb hk w
    rw [hfix hb, enc0 hk]
    exact unint_none (uv_cut _ (zig_u64 h.i)) w
  · intro hb hk w
    rw [hfix hb, enc1 hk]
    exact unvar_none (uv_cut _ h.n) w
  · intro hb hk w
    refine untext_not ?_ (by rw [ByteArray.size_extract]; unfold I63; omega) w
    rw [hfix hb, enc2 hk]
    exact ut_cut x.s hS
theorem rest_size (X : Nat → It) (c : Nat) : ∀ k, (∀ j, j < k + c → (X j).s.size ≤ 300) → (rest X k c).size ≤ 309 * c := by
  induction c with
  | zero => intro k _; exact Nat.le_refl _
  | succ c ih =>
    intro k h
    have h1 := ih (k + 1) fun j hj => h j (by omega)
    have h2 := (enc_size (X k) (h k (by omega))).2
    show (enc (X k) ++ rest X (k + 1) c).size ≤ _
    rw [ByteArray.size_append]; omega
end Go.Proofs.Ytghnaimpcjbhdaa.Pk
