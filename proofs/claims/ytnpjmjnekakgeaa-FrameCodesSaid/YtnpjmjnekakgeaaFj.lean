/-
  What the specification's calls of layer 5 do: Fixed, Number, Zeros, Check, Encode.
-/
import Derived.Test.YtnpjmjnekakgeaaFh
import Derived.Test.YtnpjmjnekakgeaaMz
import Derived.Test.YtnpjmjnekakgeaaCr
import Derived.Test.YtnpjmjnekakgeaaPg
namespace Go.Proofs.Ytnpjmjnekakgeaa.Fk
open Go.RowKit Go.Proofs.Ytnpjmjnekakgeaa.Mem Go.Proofs.Ytnpjmjnekakgeaa.Pk

theorem rfixed_n (n k : Nat) (h : n < 9223372036854775808) (h1 : 1 ≤ k) (h8 : k ≤ 8) (hw : n < 256 ^ k) (w : World) :
    Calls Try.prog 20 #[.int .i64 n, .int .i64 k] w fun e w' => e = .returned (.string (str (be n k))) ∧ Kept w w' := by
  have hc : ∀ w, Calls Try.prog 31 #[.int .u64 n, .int .i64 k] w fun e w' => e = .returned (.tuple #[.string (str (be n k)), .int .i64 0]) ∧ Kept w w' :=
    rfixed_ok n k (by unfold U64; omega) h1 h8 (wd_least h1 h8 hw)
  obtain ⟨S, hS⟩ : ∃ S, S = str (be n k) := ⟨_, rfl⟩
  rw [← hS] at hc ⊢
  clear hS hw
  go_enter Try.func20, Try.ntmps20
  go_wp2_with (go_at_call 31; (with_reducible refine (hc _).mono ?_); rintro e w' ⟨rfl, hk⟩)
  go_ret
  exact ⟨rfl, hk⟩
theorem rfixed_i (n : Int) (k : Nat) (h0 : 0 ≤ n) (h : n.toNat < 9223372036854775808) (h1 : 1 ≤ k) (h8 : k ≤ 8) (hw : n.toNat < 256 ^ k) (w : World) :
    Calls Try.prog 20 #[.int .i64 n, .int .i64 k] w fun e w' => e = .returned (.string (str (be n.toNat k))) ∧ Kept w w' := by
  have := rfixed_n n.toNat k h h1 h8 hw w
  rwa [Int.toNat_of_nonneg h0] at this
theorem rzeros_c (n : Nat) (hn : n ≤ 65536) (w : World) : Calls Try.prog 22 #[.int .i64 n] w fun e w' => e = .returned (.string (str (List.replicate n 0))) ∧ Kept w w' := by
  have hm := make_bytes n hn w
  have hs := bytes_str n w
  obtain ⟨S, hS⟩ : ∃ S, S = str (List.replicate n 0) := ⟨_, rfl⟩
  rw [← hS] at hs ⊢
  clear hS
  go_enter Try.func22, Try.ntmps22
  go_wp2
  go_ret
  exact ⟨rfl, (Kept.refl w).alloc _⟩
set_option maxHeartbeats 400000 in
theorem runfixed_s (s : ByteArray) (h1 : 1 ≤ s.size) (h8 : s.size ≤ 8) (w : World) : Calls Try.prog 35 #[.string s] w fun e w' => e = .returned (.tuple #[.int .u64 (val s.data.toList), .int .i64 0]) ∧ w = w' := by
  have H8 := Lib.hid h8
  have i8 : (s.size : Int) ≤ 8 := by omega
  have hd : decide ((s.size : Int) < 1) = false := by simp; omega
  have hd2 : decide (8 < (s.size : Int)) = false := by simp; omega
  clear h1 h8
  go_enter Try.func35, Try.ntmps35
  go_wp2
  go_loop [4, 5] (fun n i => ∃ j : Nat, j ≤ s.size ∧ i = .int .i64 j ∧ n = .int .u64 (val (s.data.toList.take j))) (fun _ i => s.size - (intOf i).toNat)
  case atStart => exact ⟨0, by omega, rfl, rfl⟩
  case round =>
    obtain ⟨j, hj, rfl, rfl⟩ := hrel
    by_cases hlt : j < s.size
    · go_wp2
      go_round
      case rel => exact ⟨j + 1, by omega, by go_num, val_un (add_step s j hlt H8.out)⟩
      case measure => simp [intOf]; omega
    · obtain rfl : j = s.size := by omega
      go_wp2
      go_ret2
      exact ⟨by rw [List.take_of_length_le (Nat.le_of_eq (size_list s))]; rfl, rfl⟩
theorem rnumber_s (s : ByteArray) (hs : 1 ≤ s.size ∧ s.size ≤ 6) (w : World) : Calls Try.prog 24 #[.string s] w fun e w' => e = .returned (.int .i64 (val s.data.toList)) ∧ w = w' := by
  have hc := runfixed_s s (by omega) (by omega)
  have hv : val s.data.toList < 281474976710656 := Nat.lt_of_lt_of_le (val_lt s.size _ (size_list s)) (Nat.pow_le_pow_right (n := 256) (by decide) hs.2)
  obtain ⟨v, hV⟩ : ∃ v, v = val s.data.toList := ⟨_, rfl⟩
  rw [← hV] at hc hv ⊢
  clear hV hs
  go_enter Try.func24, Try.ntmps24
  go_wp2_with (go_at_call 35; (with_reducible refine (hc _).mono ?_); rintro e w' ⟨rfl, rfl⟩)
  go_ret
  exact ⟨rfl, rfl⟩

theorem rnumber_c (s : ByteArray) (hs : 1 ≤ s.size ∧ s.size ≤ 6) (w : World) : Calls Try.prog 24 #[.string s] w fun e w' => e = .returned (.int .i64 (val s.data.toList)) ∧ Kept w w' :=
  (rnumber_s s hs w).mono fun _ _ ⟨h1, h2⟩ => ⟨h1, h2 ▸ Kept.refl w⟩

theorem err5 {f : Fr} (h : 44 < f.data.size) : f.err = 5 := by unfold Fr.err; rw [if_pos h]
theorem err0 {f : Fr} (h : f.data.size ≤ 44) (h2 : (1 ≤ f.boot ∧ f.boot ≤ 4294967295) ∧ (1 ≤ f.lsn ∧ f.lsn ≤ 281474976710655) ∧ (1 ≤ f.parts ∧ f.parts ≤ 255) ∧ 0 ≤ f.part ∧ f.part ≤ f.parts - 1) : f.err = 0 := by
  unfold Fr.err; rw [if_neg (by omega), if_pos (f.nums_iff.mpr h2)]
theorem err2 {f : Fr} (h : f.data.size ≤ 44) (h2 : ¬ ((1 ≤ f.boot ∧ f.boot ≤ 4294967295) ∧ (1 ≤ f.lsn ∧ f.lsn ≤ 281474976710655) ∧ (1 ≤ f.parts ∧ f.parts ≤ 255) ∧ 0 ≤ f.part ∧ f.part ≤ f.parts - 1)) : f.err = 2 := by
  unfold Fr.err; rw [if_neg (by omega), if_neg (fun h => h2 (f.nums_iff.mp h))]
set_option maxRecDepth 100000 in
theorem rcheck_c (f : Fr) (hz : f.data.size ≤ maxLen) (w : World) :
    Calls Try.prog 19 #[.agg #[.int .i64 f.boot, .int .i64 f.lsn, .int .i64 f.part, .int .i64 f.parts, .int .u8 f.kind, .string f.data]] w fun e w' => e = .returned (.int .i64 f.err) ∧ Kept w w' := by
  unfold maxLen at hz
  obtain ⟨b, l, p, q, k, d⟩ := f
  dsimp only at hz ⊢
  have hk0 := Kept.alloc (Kept.refl w) (.cells #[.int .i64 b, .int .i64 l, .int .i64 p, .int .i64 q, .int .u8 k, .string d] 23)
  go_enter Try.func19, Try.ntmps19
  go_wp2
  all_goals
    go_ret
    first
      | (rw [err5 (f := ⟨b, l, p, q, k, d⟩) (by dsimp only; omega)]; exact ⟨rfl, hk0⟩)
      | (rw [err0 (f := ⟨b, l, p, q, k, d⟩) (by dsimp only; omega) (by dsimp only; omega)]; exact ⟨rfl, hk0⟩)
      | (rw [err2 (f := ⟨b, l, p, q, k, d⟩) (by dsimp only; omega) (by dsimp only; omega)]; exact ⟨rfl, hk0⟩)
end Go.Proofs.Ytnpjmjnekakgeaa.Fk
