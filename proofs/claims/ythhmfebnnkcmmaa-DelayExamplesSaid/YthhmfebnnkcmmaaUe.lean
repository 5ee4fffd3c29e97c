/-
  DelayGrows, for any policy made valid by numbers.
-/
import Derived.Test.YthhmfebnnkcmmaaUd
namespace Go.Proofs.Ythhmfebnnkcmmaa.De
open Go.RowKit Go.Proofs.Ythhmfebnnkcmmaa.Mem Go.Proofs.Ythhmfebnnkcmmaa.Bx Go.ChangeShapes Go.WideShapes Go.ChangeAt
set_option linter.unusedVariables false

theorem md_good (a b c d : Int) : (⟨false, md c 8, md d 100, md b (md a 1099511627776), md a 1099511627776⟩ : Pol).good := by
  have h1 := @md_pos a 1099511627776 (by omega)
  have h2 := @md_le a 1099511627776 (by omega)
  have h3 := @md_pos b (md a 1099511627776) h1
  have h4 := @md_le b (md a 1099511627776) h1
  have h5 := @md_pos c 8 (by omega)
  have h6 := @md_le c 8 (by omega)
  have h7 := @md_pos d 100 (by omega)
  have h8 := @md_le d 100 (by omega)
  exact ⟨⟨h5, h6⟩, ⟨h7, by simp only []; omega⟩, ⟨h1, h2⟩, h3, h4⟩
/-- (x % m + m) % m, as it stands in the walk. -/
theorem red_eq (n m : Int) (h : 1 ≤ m) (h' : m ≤ 1099511627776) : ∃ N : Nat, (wrap64 (n.tmod m + m)).tmod m = (N : Int) ∧ (N : Int) < m := by
  have h1 := Int.lt_tmod_of_pos n (b := m) (by omega)
  have h2 := Int.tmod_lt_of_pos n (b := m) (by omega)
  have e1 : wrap64 (n.tmod m + m) = n.tmod m + m := by unfold wrap64; omega
  rw [e1, tmod_mod n m h]
  have h3 := Int.emod_nonneg n (b := m) (by omega)
  have h4 := Int.emod_lt_of_pos n (b := m) (by omega)
  exact ⟨(n % m).toNat, by omega, by omega⟩
/-- The delays behind n starts and behind one more. -/
theorem two_delays {b m : Int} (h1 : 1 ≤ b) (h2 : b ≤ m) (hm : m ≤ 1099511627776) (n : Nat) :
    (n = 0 ∧ after b m n = b ∧ after b m (n + 1) = b) ∨
    (0 < n ∧ n < 42 ∧ after b m (n + 1) = 2 * after b m n ∧ 2 * after b m n < m) ∨
    (0 < n ∧ n < 42 ∧ after b m (n + 1) = 2 * after b m n ∧ 2 * after b m n = m) ∨
    (0 < n ∧ n < 42 ∧ after b m (n + 1) = m ∧ m < 2 * after b m n) ∨
    (42 ≤ n ∧ after b m n = m ∧ after b m (n + 1) = m) := by
  rcases Nat.eq_zero_or_pos n with rfl | h0
  · exact .inl ⟨rfl, rfl, rfl⟩
  · have e := after_succ b m (n := n) h0
    rcases Nat.lt_or_ge n 42 with h | h
    · rcases Int.lt_trichotomy (2 * after b m n) m with k | k | k
      · exact .inr (.inl ⟨h0, h, by omega, k⟩)
      · exact .inr (.inr (.inl ⟨h0, h, by omega, k⟩))
      · exact .inr (.inr (.inr (.inl ⟨h0, h, by omega, k⟩)))
    · exact .inr (.inr (.inr (.inr ⟨h, it_end h1 h2 hm (by omega), it_end h1 h2 hm (by omega)⟩)))
theorem after_bounds {b m : Int} (h1 : 1 ≤ b) (h2 : b ≤ m) (n : Nat) : b ≤ after b m n ∧ after b m n ≤ m := it_bounds h1 h2 _
set_option maxHeartbeats 8000000 in
set_option maxRecDepth 100000 in
theorem grows_core (w : World) (a b n : Int) : Calls Try.prog 5 #[.int .i64 a, .int .i64 b, .int .i64 n] w fun e w' => e = .returned (.bool true) ∧ Kept w w' := by
  have hg := md_good a b 0 0
  have hv := valid_c a b 0 0
  obtain ⟨N, hN, hN'⟩ := red_eq n 64 (by omega) (by omega)
  have haf := after_good _ hg N (by omega)
  have hag := after_good _ hg (N + 1) (by omega)
  have haw := awake_c
  have h3 := hg.2.2.2.1
  have h4 := hg.2.2.2.2
  have h2 := hg.2.2.1.2
  simp only [] at haf hag h2 h3 h4
  have ht := two_delays h3 h4 h2 N
  have hb := after_bounds h3 h4 N
  clear hg
  generalize md b (md a 1099511627776) = B at *
  generalize md a 1099511627776 = A at *
  generalize md 0 8 = C at *
  generalize md 0 100 = D at *
  generalize after B A N = x at *
  generalize after B A (N + 1) = y at *
  rw [show ((N + 1 : Nat) : Int) = (N : Int) + 1 by omega] at hag
  have hx0 : 0 ≤ x := by omega
  have hx1 : x ≤ 1099511627776 := by omega
  have hx2 : ¬ x < B := by omega
  have hx3 : ¬ A < x := by omega
  clear hb
  go_enter Try.func5, Try.ntmps5
  have h5 : ¬ A < B := by omega
  have h6 : 0 ≤ A := by omega
  rcases ht with ⟨t1, t2, t3⟩ | ⟨t1, t2, t3, t4⟩ | ⟨t1, t2, t3, t4⟩ | ⟨t1, t2, t3, t4⟩ | ⟨t1, t2, t3⟩
  · subst t1
    rw [show ((0 : Nat) : Int) = 0 from rfl] at haf hag hN
    rw [Int.zero_add, t3] at hag
    rw [t2] at haf
    clear hx0 hx1 hx2 hx3 t2 t3
    go_wp2_with (first
      | (go_at_call 13; (with_reducible refine (hv _).mono ?_); rintro e w1 ⟨rfl, k1⟩; have h1 := ((Mem.Own.nil w).later k1).box #[.bool false, .int .i64 C, .int .i64 D, .int .i64 B, .int .i64 A] 23; obtain ⟨a0, a1, a2, a3, a4⟩ := pol_cells h1)
      | (go_at_call 8; first
        | ((with_reducible refine (haf _).mono ?_); rintro e w2 ⟨rfl, k2⟩; replace h1 := h1.later k2; obtain ⟨b0, b1, b2, b3, b4⟩ := pol_cells h1)
        | ((with_reducible refine (hag _).mono ?_); rintro e w3 ⟨rfl, k3⟩; replace h1 := h1.later k3; obtain ⟨c0, c1, c2, c3, c4⟩ := pol_cells h1))
      | (go_at_call 12; (with_reducible refine (haw _).mono ?_); rintro e w4 ⟨rfl, k4⟩; replace h1 := h1.later k4))
    go_ret
    exact ⟨rfl, h1.kept⟩
  · rw [t3] at hag; clear t3
    go_wp2_with (first
      | (go_at_call 13; (with_reducible refine (hv _).mono ?_); rintro e w1 ⟨rfl, k1⟩; have h1 := ((Mem.Own.nil w).later k1).box #[.bool false, .int .i64 C, .int .i64 D, .int .i64 B, .int .i64 A] 23; obtain ⟨a0, a1, a2, a3, a4⟩ := pol_cells h1)
      | (go_at_call 8; first
        | ((with_reducible refine (haf _).mono ?_); rintro e w2 ⟨rfl, k2⟩; replace h1 := h1.later k2; obtain ⟨b0, b1, b2, b3, b4⟩ := pol_cells h1)
        | ((with_reducible refine (hag _).mono ?_); rintro e w3 ⟨rfl, k3⟩; replace h1 := h1.later k3; obtain ⟨c0, c1, c2, c3, c4⟩ := pol_cells h1))
      | (go_at_call 12; (with_reducible refine (haw _).mono ?_); rintro e w4 ⟨rfl, k4⟩; replace h1 := h1.later k4))
    go_ret
    exact ⟨rfl, h1.kept⟩
  · rw [t3] at hag; clear t3
    go_wp2_with (first
      | (go_at_call 13; (with_reducible refine (hv _).mono ?_); rintro e w1 ⟨rfl, k1⟩; have h1 := ((Mem.Own.nil w).later k1).box #[.bool false, .int .i64 C, .int .i64 D, .int .i64 B, .int .i64 A] 23; obtain ⟨a0, a1, a2, a3, a4⟩ := pol_cells h1)
      | (go_at_call 8; first
        | ((with_reducible refine (haf _).mono ?_); rintro e w2 ⟨rfl, k2⟩; replace h1 := h1.later k2; obtain ⟨b0, b1, b2, b3, b4⟩ := pol_cells h1)
        | ((with_reducible refine (hag _).mono ?_); rintro e w3 ⟨rfl, k3⟩; replace h1 := h1.later k3; obtain ⟨c0, c1, c2, c3, c4⟩ := pol_cells h1))
      | (go_at_call 12; (with_reducible refine (haw _).mono ?_); rintro e w4 ⟨rfl, k4⟩; replace h1 := h1.later k4))
    go_ret
    exact ⟨rfl, h1.kept⟩
  · rw [t3] at hag; clear t3
    go_wp2_with (first
      | (go_at_call 13; (with_reducible refine (hv _).mono ?_); rintro e w1 ⟨rfl, k1⟩; have h1 := ((Mem.Own.nil w).later k1).box #[.bool false, .int .i64 C, .int .i64 D, .int .i64 B, .int .i64 A] 23; obtain ⟨a0, a1, a2, a3, a4⟩ := pol_cells h1)
      | (go_at_call 8; first
        | ((with_reducible refine (haf _).mono ?_); rintro e w2 ⟨rfl, k2⟩; replace h1 := h1.later k2; obtain ⟨b0, b1, b2, b3, b4⟩ := pol_cells h1)
        | ((with_reducible refine (hag _).mono ?_); rintro e w3 ⟨rfl, k3⟩; replace h1 := h1.later k3; obtain ⟨c0, c1, c2, c3, c4⟩ := pol_cells h1))
      | (go_at_call 12; (with_reducible refine (haw _).mono ?_); rintro e w4 ⟨rfl, k4⟩; replace h1 := h1.later k4))
    go_ret
    exact ⟨rfl, h1.kept⟩
  · rw [t3] at hag; rw [t2] at haf; clear hx0 hx1 hx2 hx3 t2 t3
    go_wp2_with (first
      | (go_at_call 13; (with_reducible refine (hv _).mono ?_); rintro e w1 ⟨rfl, k1⟩; have h1 := ((Mem.Own.nil w).later k1).box #[.bool false, .int .i64 C, .int .i64 D, .int .i64 B, .int .i64 A] 23; obtain ⟨a0, a1, a2, a3, a4⟩ := pol_cells h1)
      | (go_at_call 8; first
        | ((with_reducible refine (haf _).mono ?_); rintro e w2 ⟨rfl, k2⟩; replace h1 := h1.later k2; obtain ⟨b0, b1, b2, b3, b4⟩ := pol_cells h1)
        | ((with_reducible refine (hag _).mono ?_); rintro e w3 ⟨rfl, k3⟩; replace h1 := h1.later k3; obtain ⟨c0, c1, c2, c3, c4⟩ := pol_cells h1))
      | (go_at_call 12; (with_reducible refine (haw _).mono ?_); rintro e w4 ⟨rfl, k4⟩; replace h1 := h1.later k4))
    go_ret
    exact ⟨rfl, h1.kept⟩
end Go.Proofs.Ythhmfebnnkcmmaa.De
