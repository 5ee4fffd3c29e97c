/-
  What the specification's Sum and More return.
-/
import Derived.Test.YtnpjmjnekakgeaaCk
namespace Go.Proofs.Ytnpjmjnekakgeaa.Crc
open Go.RowKit Go.Proofs.Ytnpjmjnekakgeaa.Mem

set_option maxHeartbeats 800000 in
theorem ref_more (c : BitVec 32) (s : ByteArray) (w : World) (hs : s.size ≤ maxLen) :
    Calls Try.prog 32 #[.int .u32 (num c), .string s] w fun e w' => e = .returned (.int .u32 (num (moreB c s.data.toList))) ∧ w = w' := by
  unfold maxLen at hs
  go_enter Try.func32, Try.ntmps32
  go_wp2
  rw [not_max]
  go_loop [5, 6] (fun r i => ∃ k : Nat, k ≤ s.size ∧ i = .int .i64 k ∧ r = .int .u32 (num (run (~~~ c) (s.data.toList.take k)))) (fun _ i => s.size - (intOf i).toNat)
  case atStart => exact ⟨0, by omega, rfl, rfl⟩
  case round =>
    obtain ⟨k, hk, rfl, rfl⟩ := hrel
    by_cases hlt : k < s.size
    · have H := Lib.hid (run_snoc (~~~ c) s k hlt)
      obtain ⟨q, hq⟩ : ∃ q, q = run (~~~ c) (s.data.toList.take k) := ⟨_, rfl⟩
      rw [← hq] at H ⊢
      clear hq
      go_wp2
      go_loop [5, 7] (fun r i => ∃ j : Nat, j ≤ 8 ∧ i = .int .i64 j ∧ r = .int .u32 (num (shiftN q s[k] j))) (fun _ i => 8 - (intOf i).toNat)
      case atStart => exact ⟨0, by omega, rfl, rfl⟩
      case round =>
        obtain ⟨j, hj, rfl, rfl⟩ := hrel
        by_cases hlt2 : j < 8
        · go_wp2
          all_goals
            go_round
            case rel => first | exact ⟨j + 1, by omega, by go_num, val_int (ref_true (shiftN q s[k] j) s[k] j (by assumption))⟩ | exact ⟨j + 1, by omega, by go_num, val_int (ref_false (shiftN q s[k] j) s[k] j (by assumption))⟩
            case measure => simp [intOf]; omega
        · obtain rfl : j = 8 := by omega
          go_wp2
          go_round
          case rel => exact ⟨k + 1, by omega, by go_num, by rw [H.out]; rfl⟩
          case measure => simp [intOf]; omega
    · obtain rfl : k = s.size := by omega
      go_wp2
      go_ret
      exact ⟨by rw [not_max, take_all]; rfl, rfl⟩

set_option maxHeartbeats 400000 in
theorem ref_sum (s : ByteArray) (w : World) (hs : s.size ≤ maxLen) :
    Calls Try.prog 21 #[.string s] w fun e w' => e = .returned (.int .u32 (num (moreB 0 s.data.toList))) ∧ w = w' := by
  go_enter Try.func21, Try.ntmps21
  go_wp2_with (go_at_call 32; refine (ref_more 0 s _ hs).mono ?_; rintro e w' ⟨rfl, rfl⟩)
  go_ret
  exact ⟨rfl, rfl⟩

end Go.Proofs.Ytnpjmjnekakgeaa.Crc
