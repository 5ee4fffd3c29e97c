/-
  What the exported calls of package pack do.
-/
import Derived.Test.YtnpjmjnekakgeaaPk
namespace Go.Proofs.Ytnpjmjnekakgeaa.Pk
open Go.RowKit Go.Proofs.Ytnpjmjnekakgeaa.Mem

/-! Fixed. -/
theorem fixed_arg (n : Nat) (k : Int) (hk : k < 1 ∨ 8 < k) (w : World) : Calls Try.prog 15 #[.int .u64 n, .int .i64 k] w fun e w' => e = .returned (.tuple #[.string ⟨#[]⟩, .int .i64 2]) ∧ Kept w w' := by
  rcases hk with hk | hk
  · go_enter Try.func15, Try.ntmps15
    go_wp2
    go_ret2
    exact ⟨rfl, Kept.refl _⟩
  · have hd : decide (k < 1) = false := by simp; omega
    go_enter Try.func15, Try.ntmps15
    go_wp2
    go_ret2
    exact ⟨rfl, Kept.refl _⟩
theorem fixed_range (n k : Nat) (h : U64 n) (h1 : 1 ≤ k) (h8 : k ≤ 8) (hw : k < wd n) (w : World) : Calls Try.prog 15 #[.int .u64 n, .int .i64 k] w fun e w' => e = .returned (.tuple #[.string ⟨#[]⟩, .int .i64 3]) ∧ Kept w w' := by
  have H := Lib.hid h
  have hd : decide ((k : Int) < 1) = false := by simp; omega
  have hd2 : decide (8 < (k : Int)) = false := by simp; omega
  have hb := wd_bd n
  clear h h1 h8
  go_enter Try.func15, Try.ntmps15
  go_wp2_with (go_at_call 25; (with_reducible refine (least_u n H.out _).mono ?_); rintro e w' ⟨rfl, rfl⟩)
  go_ret2
  exact ⟨rfl, Kept.refl _⟩
theorem fixed_ok (n k : Nat) (h : U64 n) (h1 : 1 ≤ k) (h8 : k ≤ 8) (hw : wd n ≤ k) (w : World) : Calls Try.prog 15 #[.int .u64 n, .int .i64 k] w fun e w' => e = .returned (.tuple #[.string (str (be n k)), .int .i64 0]) ∧ Kept w w' := by
  have H := Lib.hid h
  have H8 := Lib.hid h8
  have hd : decide ((k : Int) < 1) = false := by simp; omega
  have hd2 : decide (8 < (k : Int)) = false := by simp; omega
  have hd3 : decide (k < wd n) = false := by simp; omega
  have hb := wd_bd n
  clear h h1 h8 hw
  go_enter Try.func15, Try.ntmps15
  go_wp2_with (first
    | (go_at_call 25; (with_reducible refine (least_u n H.out _).mono ?_); rintro e w' ⟨rfl, rfl⟩)
    | (go_at_call 26; (with_reducible refine (places_u n k H8.out _).mono ?_); rintro e w2 ⟨rfl, hk2⟩))
  go_ret2
  exact ⟨rfl, hk2⟩
/-- What Fixed returns: the string, and the error. -/
def fixS (n : Nat) (k : Int) : ByteArray := if k < 1 ∨ 8 < k then str [] else if k.toNat < wd n then str [] else str (be n k.toNat)
def fixE (n : Nat) (k : Int) : Int := if k < 1 ∨ 8 < k then 2 else if k.toNat < wd n then 3 else 0
theorem fixed_any (n : Nat) (k : Int) (h : U64 n) (w : World) : Calls Try.prog 15 #[.int .u64 n, .int .i64 k] w fun e w' => e = .returned (.tuple #[.string (fixS n k), .int .i64 (fixE n k)]) ∧ Kept w w' := by
  unfold fixS fixE
  by_cases hk : k < 1 ∨ 8 < k
  · rw [if_pos hk, if_pos hk]; exact fixed_arg n k hk w
  · obtain ⟨m, rfl⟩ := Int.eq_ofNat_of_zero_le (show 0 ≤ k by omega)
    rw [if_neg hk, if_neg hk, Int.toNat_natCast]
    by_cases hw : m < wd n
    · rw [if_pos hw, if_pos hw]; exact fixed_range n m h (by omega) (by omega) hw w
    · rw [if_neg hw, if_neg hw]; exact fixed_ok n m h (by omega) (by omega) (by omega) w

/-! Unfixed. -/
theorem unfixed_no (s : ByteArray) (hs : s.size < 1 ∨ 8 < s.size) (w : World) : Calls Try.prog 45 #[.string s] w fun e w' => e = .returned (.tuple #[.int .u64 0, .int .i64 2]) ∧ Kept w w' := by
  rcases hs with hs | hs
  · have hd : decide ((s.size : Int) < 1) = true := by simp; omega
    clear hs
    go_enter Try.func45, Try.ntmps45
    go_wp2
    go_ret2
    exact ⟨rfl, Kept.refl _⟩
  · have hd : decide ((s.size : Int) < 1) = false := by simp; omega
    have hd2 : decide (8 < (s.size : Int)) = true := by simp; omega
    clear hs
    go_enter Try.func45, Try.ntmps45
    go_wp2
    go_ret2
    exact ⟨rfl, Kept.refl _⟩
theorem unfixed_ok (s : ByteArray) (h1 : 1 ≤ s.size) (h8 : s.size ≤ 8) (w : World) : Calls Try.prog 45 #[.string s] w fun e w' => e = .returned (.tuple #[.int .u64 (val s.data.toList), .int .i64 0]) ∧ Kept w w' := by
  have H1 := Lib.hid h1
  have H8 := Lib.hid h8
  have hd : decide ((s.size : Int) < 1) = false := by simp; omega
  have hd2 : decide (8 < (s.size : Int)) = false := by simp; omega
  clear h1 h8
  go_enter Try.func45, Try.ntmps45
  go_wp2_with (go_at_call 51; (with_reducible refine (join_any s H1.out H8.out _).mono ?_); rintro e w' ⟨rfl, hk⟩)
  go_ret2
  exact ⟨rfl, hk⟩
def ufN (s : ByteArray) : Nat := if s.size < 1 ∨ 8 < s.size then 0 else val s.data.toList
def ufE (s : ByteArray) : Int := if s.size < 1 ∨ 8 < s.size then 2 else 0
theorem unfixed_any (s : ByteArray) (w : World) : Calls Try.prog 45 #[.string s] w fun e w' => e = .returned (.tuple #[.int .u64 (ufN s), .int .i64 (ufE s)]) ∧ Kept w w' := by
  unfold ufN ufE
  by_cases hs : s.size < 1 ∨ 8 < s.size
  · rw [if_pos hs, if_pos hs]; exact unfixed_no s hs w
  · rw [if_neg hs, if_neg hs]; exact unfixed_ok s (by omega) (by omega) w
end Go.Proofs.Ytnpjmjnekakgeaa.Pk
