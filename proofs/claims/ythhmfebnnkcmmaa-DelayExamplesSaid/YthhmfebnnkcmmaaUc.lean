/-
  Delays (layer 11): the specification's Check and After; the statements' own helpers valid and awake.
-/
import Derived.Test.YthhmfebnnkcmmaaUa
namespace Go.Proofs.Ythhmfebnnkcmmaa.De
open Go.RowKit Go.Proofs.Ythhmfebnnkcmmaa.Mem Go.Proofs.Ythhmfebnnkcmmaa.Bx Go.ChangeShapes Go.WideShapes Go.ChangeAt
set_option linter.unusedVariables false

theorem Pol.good_of {al : Bool} {lim win bas most : Int} (h : (1 ≤ lim ∧ lim ≤ 8) ∧ (1 ≤ win ∧ win ≤ 1099511627776) ∧ (1 ≤ most ∧ most ≤ 1099511627776) ∧ (1 ≤ bas ∧ bas ≤ most)) : (⟨al, lim, win, bas, most⟩ : Pol).good := h
theorem Pol.bad_of {al : Bool} {lim win bas most : Int} (h : ¬ ((1 ≤ lim ∧ lim ≤ 8) ∧ (1 ≤ win ∧ win ≤ 1099511627776) ∧ (1 ≤ most ∧ most ≤ 1099511627776) ∧ (1 ≤ bas ∧ bas ≤ most))) : ¬ (⟨al, lim, win, bas, most⟩ : Pol).good := h
set_option maxRecDepth 100000 in
theorem rcheck_c (p : Pol) (w : World) : Calls Try.prog 11 #[.agg #[.bool p.al, .int .i64 p.lim, .int .i64 p.win, .int .i64 p.bas, .int .i64 p.most]] w fun e w' => e = .returned (.int .i64 p.says) ∧ Kept w w' := by
  obtain ⟨al, lim, win, bas, most⟩ := p
  have kb : Kept w (w.alloc (.cells #[.bool al, .int .i64 lim, .int .i64 win, .int .i64 bas, .int .i64 most] 23)) := (Kept.refl w).alloc _
  go_enter Try.func11, Try.ntmps11
  by_cases h0 : lim < 1
  · go_wp2
    go_ret
    exact ⟨by rw [Pol.bad (Pol.bad_of (by omega))]; rfl, kb⟩
  · by_cases h1 : 8 < lim
    · go_wp2
      go_ret
      exact ⟨by rw [Pol.bad (Pol.bad_of (by omega))]; rfl, kb⟩
    · by_cases h2 : win < 1
      · go_wp2
        go_ret
        exact ⟨by rw [Pol.bad (Pol.bad_of (by omega))]; rfl, kb⟩
      · by_cases h3 : 1099511627776 < win
        · go_wp2
          go_ret
          exact ⟨by rw [Pol.bad (Pol.bad_of (by omega))]; rfl, kb⟩
        · by_cases h4 : most < 1
          · go_wp2
            go_ret
            exact ⟨by rw [Pol.bad (Pol.bad_of (by omega))]; rfl, kb⟩
          · by_cases h5 : 1099511627776 < most
            · go_wp2
              go_ret
              exact ⟨by rw [Pol.bad (Pol.bad_of (by omega))]; rfl, kb⟩
            · by_cases h6 : bas < 1
              · go_wp2
                go_ret
                exact ⟨by rw [Pol.bad (Pol.bad_of (by omega))]; rfl, kb⟩
              · by_cases h7 : most < bas
                · go_wp2
                  go_ret
                  exact ⟨by rw [Pol.bad (Pol.bad_of (by omega))]; rfl, kb⟩
                · go_wp2
                  go_ret
                  exact ⟨by rw [Pol.ok (Pol.good_of (by omega))]; rfl, kb⟩
set_option maxRecDepth 100000 in
set_option maxHeartbeats 2000000 in
theorem rafter_good (p : Pol) (h : p.good) (n : Nat) (hn : n < 9223372036854775808) (w : World) :
    Calls Try.prog 9 #[.agg #[.bool p.al, .int .i64 p.lim, .int .i64 p.win, .int .i64 p.bas, .int .i64 p.most], .int .i64 (n : Int)] w fun e w' => e = .returned (.tuple #[.int .i64 (after p.bas p.most n), .int .i64 0]) ∧ Kept w w' := by
  have hchk : ∀ w, Calls Try.prog 11 #[.agg #[.bool p.al, .int .i64 p.lim, .int .i64 p.win, .int .i64 p.bas, .int .i64 p.most]] w fun e w' => e = .returned (.int .i64 0) ∧ Kept w w' := fun w => by
    have := rcheck_c p w; rwa [Pol.ok h] at this
  obtain ⟨g1, ⟨g2, _⟩, ⟨_, g3⟩, g4, g5⟩ := h
  obtain ⟨al, lim, win, bas, most⟩ := p
  simp only [] at g1 g2 g3 g4 g5 hchk ⊢
  have h0 := (Mem.Own.nil w).box #[.bool al, .int .i64 lim, .int .i64 win, .int .i64 bas, .int .i64 most] 23
  go_enter Try.func9, Try.ntmps9
  go_wp2_with (go_at_call 11; refine (hchk _).mono ?_; rintro e w1 ⟨rfl, k1⟩; have h1 := h0.later k1; obtain ⟨⟨b0, b1, b2, b3, b4⟩, _⟩ := box5 (h1.boxed 0 rfl))
  have hk := h1.kept
  clear h0 h1 hchk k1 b0 b1 b2 b3
  go_loopw [7, 8] (fun d i wr => ∃ k : Nat, d = .int .i64 (it bas most k) ∧ i = .int .i64 ((k + 1 : Nat) : Int) ∧ k ≤ n - 1 ∧ wr = w1) (fun _ i _ => n - (intOf i).toNat)
  case atStart => exact ⟨0, rfl, rfl, by omega, rfl⟩
  case round =>
    obtain ⟨k, rfl, rfl, hkn, hw⟩ := hrel
    obtain rfl : w1 = wr := hw.symm
    have hbd := it_bounds g4 g5 k
    have hsu := it_succ bas most k
    have htop : ¬ it bas most k < most → k ≤ n - 1 → it bas most (n - 1) = most := fun a b => it_top g4 g5 (by omega) b
    have hend : n ≤ k + 1 → it bas most k = it bas most (n - 1) := fun a => by rw [show k = n - 1 by omega]
    obtain ⟨x, hx⟩ : ∃ x, x = it bas most k := ⟨_, rfl⟩
    have HX := Lib.hid (And.intro hsu (And.intro htop hend))
    rw [← hx] at hbd ⊢
    have Hx := Lib.hid hx
    clear hx hsu htop hend
    by_cases hi : k + 1 < n
    · by_cases hlt : x < most
      · go_wp2
        go_roundw
        case rel => exact ⟨k + 1, by rw [HX.out.1, ← Hx.out, Int.min_def]; congr 1; split <;> split <;> omega, by go_num, by omega, trivial⟩
        case measure => simp [intOf]; omega
      · go_wp2
        go_ret2
        exact ⟨by have := HX.out.2.1 (by rw [← Hx.out]; exact hlt) hkn; unfold after; rw [this, show most = x by omega]; rfl, hk⟩
    · go_wp2
      go_ret2
      exact ⟨by have := HX.out.2.2 (by omega); unfold after; rw [← this, ← Hx.out]; rfl, hk⟩
set_option maxRecDepth 100000 in
theorem rafter_bad (p : Pol) (n : Int) (h : ¬ p.good) (w : World) :
    Calls Try.prog 9 #[.agg #[.bool p.al, .int .i64 p.lim, .int .i64 p.win, .int .i64 p.bas, .int .i64 p.most], .int .i64 n] w fun e w' => e = .returned (.tuple #[.int .i64 0, .int .i64 3]) ∧ Kept w w' := by
  have hchk : ∀ w, Calls Try.prog 11 #[.agg #[.bool p.al, .int .i64 p.lim, .int .i64 p.win, .int .i64 p.bas, .int .i64 p.most]] w fun e w' => e = .returned (.int .i64 3) ∧ Kept w w' := fun w => by
    have := rcheck_c p w; rwa [Pol.bad h] at this
  clear h
  obtain ⟨al, lim, win, bas, most⟩ := p
  simp only [] at hchk ⊢
  have h0 := (Mem.Own.nil w).box #[.bool al, .int .i64 lim, .int .i64 win, .int .i64 bas, .int .i64 most] 23
  go_enter Try.func9, Try.ntmps9
  go_wp2_with (go_at_call 11; refine (hchk _).mono ?_; rintro e w1 ⟨rfl, k1⟩; have h1 := h0.later k1)
  go_ret2
  exact ⟨rfl, h1.kept⟩
set_option maxRecDepth 100000 in
theorem rafter_less (p : Pol) (n : Int) (h : p.good) (hn : n < 0) (w : World) :
    Calls Try.prog 9 #[.agg #[.bool p.al, .int .i64 p.lim, .int .i64 p.win, .int .i64 p.bas, .int .i64 p.most], .int .i64 n] w fun e w' => e = .returned (.tuple #[.int .i64 0, .int .i64 3]) ∧ Kept w w' := by
  have hchk : ∀ w, Calls Try.prog 11 #[.agg #[.bool p.al, .int .i64 p.lim, .int .i64 p.win, .int .i64 p.bas, .int .i64 p.most]] w fun e w' => e = .returned (.int .i64 0) ∧ Kept w w' := fun w => by
    have := rcheck_c p w; rwa [Pol.ok h] at this
  clear h
  obtain ⟨al, lim, win, bas, most⟩ := p
  simp only [] at hchk ⊢
  have h0 := (Mem.Own.nil w).box #[.bool al, .int .i64 lim, .int .i64 win, .int .i64 bas, .int .i64 most] 23
  go_enter Try.func9, Try.ntmps9
  go_wp2_with (go_at_call 11; refine (hchk _).mono ?_; rintro e w1 ⟨rfl, k1⟩; have h1 := h0.later k1)
  go_ret2
  exact ⟨rfl, h1.kept⟩
/-- The specification's After. -/
theorem rafter_c (p : Pol) (n : Int) (hn : n ≤ 9223372036854775807) (w : World) :
    Calls Try.prog 9 #[.agg #[.bool p.al, .int .i64 p.lim, .int .i64 p.win, .int .i64 p.bas, .int .i64 p.most], .int .i64 n] w fun e w' => e = .returned (.tuple #[.int .i64 (p.delay n), .int .i64 (p.err n)]) ∧ Kept w w' := by
  by_cases h : p.good
  · by_cases h0 : 0 ≤ n
    · obtain ⟨m, rfl⟩ := Int.eq_ofNat_of_zero_le h0
      have := rafter_good p h m (by omega) w
      rwa [show p.delay (m : Int) = after p.bas p.most m by unfold Pol.delay; rw [if_pos ⟨h, h0⟩]; rfl, show p.err (m : Int) = 0 by unfold Pol.err; rw [if_pos ⟨h, h0⟩]]
    · have := rafter_less p n h (by omega) w
      rwa [show p.delay n = 0 by unfold Pol.delay; rw [if_neg (fun k => h0 k.2)], show p.err n = 3 by unfold Pol.err; rw [if_neg (fun k => h0 k.2)]]
  · have := rafter_bad p n h w
    rwa [show p.delay n = 0 by unfold Pol.delay; rw [if_neg (fun k => h k.1)], show p.err n = 3 by unfold Pol.err; rw [if_neg (fun k => h k.1)]]

/-! ### valid -/
def md (x m : Int) : Int := 1 + x % m
theorem md_pos {x m : Int} (h : 1 ≤ m) : 1 ≤ md x m := by unfold md; have := Int.emod_nonneg x (b := m) (by omega); omega
theorem md_le {x m : Int} (h : 1 ≤ m) : md x m ≤ m := by unfold md; have := Int.emod_lt_of_pos x (b := m) (by omega); omega
theorem tmod_mod (x m : Int) (h : 1 ≤ m) : (x.tmod m + m).tmod m = x % m := by
  have h1 := Int.lt_tmod_of_pos x (b := m) (by omega)
  rw [Int.tmod_eq_emod_of_nonneg (by omega), Int.add_emod_right]
  have e := Int.mul_tdiv_add_tmod x m
  conv => rhs; rw [← e]
  rw [Int.mul_add_emod_self_left]
theorem md_eq (x m : Int) (h : 1 ≤ m) (h' : m ≤ 1099511627776) : wrap64 (1 + (wrap64 (x.tmod m + m)).tmod m) = md x m := by
  have h1 := Int.lt_tmod_of_pos x (b := m) (by omega)
  have h2 := Int.tmod_lt_of_pos x (b := m) (by omega)
  have e1 : wrap64 (x.tmod m + m) = x.tmod m + m := by unfold wrap64; omega
  rw [e1, tmod_mod x m h]
  have h3 := Int.emod_nonneg x (b := m) (by omega)
  have h4 := Int.emod_lt_of_pos x (b := m) (by omega)
  unfold md wrap64; omega
set_option maxRecDepth 100000 in
theorem valid_c (a b c d : Int) (w : World) : Calls Try.prog 13 #[.int .i64 a, .int .i64 b, .int .i64 c, .int .i64 d] w fun e w' => e = .returned (.agg #[.bool false, .int .i64 (md c 8), .int .i64 (md d 100), .int .i64 (md b (md a 1099511627776)), .int .i64 (md a 1099511627776)]) ∧ Kept w w' := by
  have ha := md_eq a 1099511627776 (by omega) (by omega)
  have hb := md_eq b (md a 1099511627776) (md_pos (by omega)) (by have := @md_le a 1099511627776 (by omega); omega)
  have hc := md_eq c 8 (by omega) (by omega)
  have hd := md_eq d 100 (by omega) (by omega)
  have h0 : ¬ md a 1099511627776 = 0 := by have := @md_pos a 1099511627776 (by omega); omega
  generalize md b (md a 1099511627776) = B at *
  generalize md a 1099511627776 = A at *
  generalize md c 8 = C at *
  generalize md d 100 = D at *
  go_enter Try.func13, Try.ntmps13
  go_wp2
  simp only [ha, hb, hc, hd]
  refine bodyPost_ret (v := .agg #[.bool false, .int .i64 C, .int .i64 D, .int .i64 B, .int .i64 A]) (by simp [results, Try.results13, go_sem]) rfl ?_
  exact ⟨rfl, (Kept.refl w).alloc _⟩
/-! ### awake -/
theorem ex_index (k : Nat) (h : k < 6) (w : World) : (Instr.index 40 (.agg #[.int .i64 2, .int .i64 2, .int .i64 4, .int .i64 8, .int .i64 9, .int .i64 9]) (.int .i64 (k : Int))).run Try.prog w = .ok (.int .i64 (after 2 9 k)) w := by
  match k, h with
  | 0, _ => rfl
  | 1, _ => rfl
  | 2, _ => rfl
  | 3, _ => rfl
  | 4, _ => rfl
  | 5, _ => rfl
theorem ex_pol : (⟨false, 2, 20, 2, 9⟩ : Pol).good := by decide
theorem ex_after (k : Nat) (h : k < 6) (w : World) : Calls Try.prog 8 #[.agg #[.bool false, .int .i64 2, .int .i64 20, .int .i64 2, .int .i64 9], .int .i64 (k : Int)] w fun e w' => e = .returned (.tuple #[.int .i64 (after 2 9 k), .int .i64 0]) ∧ Kept w w' :=
  after_good ⟨false, 2, 20, 2, 9⟩ ex_pol k (by omega) w
theorem ex_less (w : World) : Calls Try.prog 8 #[.agg #[.bool false, .int .i64 2, .int .i64 20, .int .i64 2, .int .i64 9], .int .i64 (-1)] w fun e w' => e = .returned (.tuple #[.int .i64 0, .int .i64 3]) ∧ Kept w w' :=
  after_less ⟨false, 2, 20, 2, 9⟩ (-1) ex_pol (by decide) w
theorem ex_wide (w : World) : Calls Try.prog 8 #[.agg #[.bool false, .int .i64 2, .int .i64 20, .int .i64 10, .int .i64 9], .int .i64 1] w fun e w' => e = .returned (.tuple #[.int .i64 0, .int .i64 3]) ∧ Kept w w' :=
  after_bad ⟨false, 2, 20, 10, 9⟩ 1 (by decide) w
theorem ex_check (w : World) : Calls Try.prog 10 #[.agg #[.bool false, .int .i64 9, .int .i64 20, .int .i64 2, .int .i64 9]] w fun e w' => e = .returned (.int .i64 3) ∧ Kept w w' :=
  check_c ⟨false, 9, 20, 2, 9⟩ w
set_option maxRecDepth 100000 in
set_option maxHeartbeats 2000000 in
theorem awake_c (w : World) : Calls Try.prog 12 #[] w fun e w' => e = .returned (.bool true) ∧ Kept w w' := by
  have h0 := (Mem.Own.nil w).box #[.bool false, .int .i64 2, .int .i64 20, .int .i64 2, .int .i64 9] 23
  go_enter Try.func12, Try.ntmps12
  go_wp2
  go_loopw [12] (fun i wr => ∃ k : Nat, k ≤ 6 ∧ i = .int .i64 (k : Int) ∧ Mem.Own w [boxA w.heap.size #[.bool false, .int .i64 2, .int .i64 20, .int .i64 2, .int .i64 9] 23] wr) (fun i _ => 6 - (intOf i).toNat)
  case atStart => exact ⟨0, by omega, rfl, h0⟩
  case round =>
    clear h0
    obtain ⟨k, hk, rfl, h1⟩ := hrel
    by_cases hlt : k < 6
    · have hx := ex_index k hlt
      have hc := ex_after k hlt
      obtain ⟨⟨b0, b1, b2, b3, b4⟩, _⟩ := box5 (h1.boxed 0 rfl)
      obtain ⟨v, hv⟩ : ∃ v, v = after 2 9 k := ⟨_, rfl⟩
      rw [← hv] at hx hc
      clear hv
      go_wp2_with (go_at_call 8; refine (hc _).mono ?_; rintro e w1 ⟨rfl, k1⟩; replace h1 := h1.later k1)
      exact ⟨⟨k + 1, by omega, rfl, h1⟩, by simp [intOf]; omega⟩
    · obtain ⟨⟨b0, b1, b2, b3, b4⟩, f1⟩ := box5 (h1.boxed 0 rfl)
      have n1 := ex_less
      have n2 := ex_wide
      have n3 := ex_check
      go_wp2_with (first
        | (go_at_call 8; first
          | (with_reducible refine (n1 _).mono ?_; rintro e w1 ⟨rfl, k1⟩; replace h1 := h1.later k1; obtain ⟨⟨c0, c1, c2, c3, c4⟩, f2⟩ := box5 (h1.boxed 0 rfl); have g3 := f2 3; replace h1 := h1.boxset 0 rfl 3 (.int .i64 10); obtain ⟨⟨d0, d1, d2, d3, d4⟩, f3⟩ := box5 (h1.boxed 0 rfl))
          | (with_reducible refine (n2 _).mono ?_; rintro e w2 ⟨rfl, k2⟩; replace h1 := h1.later k2; obtain ⟨⟨e0, e1, e2, e3, e4⟩, f4⟩ := box5 (h1.boxed 0 rfl); have g4 := f4 3; have g5 := f4 1; replace h1 := (h1.boxset 0 rfl 3 (.int .i64 2)).boxset 0 rfl 1 (.int .i64 9); obtain ⟨⟨i0, i1, i2, i3, i4⟩, f5⟩ := box5 (h1.boxed 0 rfl)))
        | (go_at_call 10; (with_reducible refine (n3 _).mono ?_); rintro e w3 ⟨rfl, k3⟩; replace h1 := h1.later k3))
      go_ret
      exact ⟨rfl, h1.kept⟩
end Go.Proofs.Ythhmfebnnkcmmaa.De
