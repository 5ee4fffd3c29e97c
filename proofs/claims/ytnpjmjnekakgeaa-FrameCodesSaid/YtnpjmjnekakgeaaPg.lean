/-
  What the reading calls of layer 2's specification do.
-/
import Derived.Test.YtnpjmjnekakgeaaPf
namespace Go.Proofs.Ytnpjmjnekakgeaa.Pk
open Go.RowKit Go.Proofs.Ytnpjmjnekakgeaa.Mem

theorem runfixed_no (s : ByteArray) (hs : s.size < 1 ∨ 8 < s.size) (w : World) : Calls Try.prog 35 #[.string s] w fun e w' => e = .returned (.tuple #[.int .u64 0, .int .i64 2]) ∧ Kept w w' := by
  rcases hs with hs | hs
  · have hd : decide ((s.size : Int) < 1) = true := by simp; omega
    clear hs
    go_enter Try.func35, Try.ntmps35
    go_wp2
    go_ret2
    exact ⟨rfl, Kept.refl _⟩
  · have hd : decide ((s.size : Int) < 1) = false := by simp; omega
    have hd2 : decide (8 < (s.size : Int)) = true := by simp; omega
    clear hs
    go_enter Try.func35, Try.ntmps35
    go_wp2
    go_ret2
    exact ⟨rfl, Kept.refl _⟩
theorem add_step (s : ByteArray) (j : Nat) (hj : j < s.size) (h8 : s.size ≤ 8) :
    IntKind.u64.wrap (IntKind.u64.wrap ((val (s.data.toList.take j) : Int) * 256) + IntKind.u64.wrap (s[j].toNat : Int)) = (val (s.data.toList.take (j + 1)) : Int) := by
  have hb : s[j].toNat < 256 := UInt8.toNat_lt _
  have hl := size_list s
  have hv : val (s.data.toList.take j) < 72057594037927936 := by
    have := val_lt j (s.data.toList.take j) (by rw [List.length_take]; omega)
    have h2 := Nat.pow_le_pow_right (n := 256) (by decide) (show j ≤ 7 by omega)
    omega
  have ht : s.data.toList.take (j + 1) = s.data.toList.take j ++ [s[j]] := by
    rw [List.take_succ_eq_append_getElem (by omega)]; rfl
  rw [ht, val_snoc, IntKind.wrap_u64, IntKind.wrap_u64, IntKind.wrap_u64]; omega
set_option maxHeartbeats 400000 in
set_option maxRecDepth 100000 in
theorem runfixed_ok (s : ByteArray) (h1 : 1 ≤ s.size) (h8 : s.size ≤ 8) (w : World) : Calls Try.prog 35 #[.string s] w fun e w' => e = .returned (.tuple #[.int .u64 (val s.data.toList), .int .i64 0]) ∧ Kept w w' := by
  have H8 := Lib.hid h8
  have i8 : (s.size : Int) ≤ 8 := by omega
  have hd : decide ((s.size : Int) < 1) = false := by simp; omega
  have hd2 : decide (8 < (s.size : Int)) = false := by simp; omega
  clear h1 h8
  go_enter Try.func35, Try.ntmps35
  go_wp2
  go_loop [4, 5] (fun n i => ∃ j : Nat, j ≤ s.size ∧ i = .int .i64 j ∧ n = .int .u64 (val (s.data.toList.take j))) (fun _ i => s.size - (intOf i).toNat)
  case atStart => exact ⟨0, by omega, rfl, rfl⟩
  case round =>
    obtain ⟨j, hj, rfl, rfl⟩ := hrel
    by_cases hlt : j < s.size
    · go_wp2
      go_round
      case rel => exact ⟨j + 1, by omega, by go_num, val_un (add_step s j hlt H8.out)⟩
      case measure => simp [intOf]; omega
    · obtain rfl : j = s.size := by omega
      go_wp2
      go_ret2
      exact ⟨by rw [List.take_of_length_le (Nat.le_of_eq (size_list s))]; rfl, Kept.refl _⟩
theorem runfixed_any (s : ByteArray) (w : World) : Calls Try.prog 35 #[.string s] w fun e w' => e = .returned (.tuple #[.int .u64 (ufN s), .int .i64 (ufE s)]) ∧ Kept w w' := by
  unfold ufN ufE
  by_cases hs : s.size < 1 ∨ 8 < s.size
  · rw [if_pos hs, if_pos hs]; exact runfixed_no s hs w
  · rw [if_neg hs, if_neg hs]; exact runfixed_ok s (by omega) (by omega) w
theorem mod_one {n : Nat} (h : ((n : Int) % 2 == 1) = true) : ((n : Int) % 2 != 0) = true := by simp at h ⊢; omega
theorem mod_zero {n : Nat} (h : ((n : Int) % 2 == 1) = false) : ((n : Int) % 2 != 0) = false := by simp at h ⊢; omega
end Go.Proofs.Ytnpjmjnekakgeaa.Pk
