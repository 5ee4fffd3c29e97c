/-
  Layer 12: the specification's tick, Starts, check, Count and Within.
-/
import Derived.Test.YtojgbacdniagiaaTa
import Derived.Test.YtojgbacdniagiaaWb
import Derived.BigQuiet
namespace Go.Proofs.Ytojgbacdniagiaa.Wi
open Go.RowKit Go.Proofs.Ytojgbacdniagiaa.Mem Go.Proofs.Ytojgbacdniagiaa.Bx Go.Proofs.Ytojgbacdniagiaa.In Go.ChangeShapes Go.WideShapes Go.ChangeAt
set_option linter.unusedVariables false

set_option maxRecDepth 100000 in
theorem rtick_c (n : Int) (w : World) : Calls Try.prog 23 #[.int .i64 n] w fun e w' => e = .returned (.bool (tk n)) ∧ w' = w := by
  go_enter Try.func23, Try.ntmps23
  by_cases h : 0 ≤ n
  · go_wp2
    go_ret
    exact ⟨by unfold tk; rw [decide_eq_true (p := 0 ≤ n) (by omega)]; rfl, rfl⟩
  · go_wp2
    go_ret
    exact ⟨by unfold tk; rw [decide_eq_false (p := 0 ≤ n) (by omega)]; rfl, rfl⟩
set_option maxRecDepth 100000 in
set_option maxHeartbeats 2000000 in
theorem rstarts_c {w : World} {ao : Option Addr} {n cap : Nat} {l : List Int} (h : At w ao n cap l) : Calls Try.prog 27 #[.slice ao n cap] w fun e w' => e = .returned (.int .i64 (st l)) ∧ Kept w w' := by
  have hn := h.n62
  unfold maxLen at hn
  have H := Lib.hid h
  clear h
  go_enter Try.func27, Try.ntmps27
  go_wp2
  go_loopw [3] (fun i wr => ∃ (j : Nat) (y : Int), j ≤ n ∧ i = .int .i64 j ∧ (j = 0 ∧ y = 0 ∨ 0 < j ∧ l[j - 1]? = some y) ∧ st l = stFrom y (l.drop j) ∧ Kept w wr) (fun i _ => n - (RowKit.intOf i).toNat)
  case atStart => exact ⟨0, 0, Nat.zero_le _, rfl, .inl ⟨rfl, rfl⟩, rfl, Kept.refl _⟩
  case round =>
    obtain ⟨j, y, hj, rfl, hy, hch, hk⟩ := hrel
    have HC := Lib.hid hch
    clear hch
    by_cases hlt : j < n
    · have t1 : decide ((j : Int) < (n : Int)) = true := decide_eq_true (by omega)
      obtain ⟨x, g, o, hx, _, rfl, hg, hc⟩ := (H.out.kept hk).get hlt
      have hq := rtick_c x
      have HQ := Lib.hid (show tk x = tk x from rfl)
      have HX := Lib.hid (And.intro hx (drop_cons hx))
      clear hx
      have j0 : (0 : Int) ≤ (j : Int) := by omega
      have j1 : (j : Int) < (n : Int) := by omega
      by_cases hT : tk x = true
      · rw [hT] at hq
        have hT2 := tk_iff.1 hT
        have HT := Lib.hid hT
        clear hT HQ
        rcases hy with ⟨hj0, hy0⟩ | ⟨hj0, hy1⟩
        · have t2 : decide (0 < (j : Int)) = false := decide_eq_false (by omega)
          have t3 : ¬ 0 < j := by omega
          have HY := Lib.hid (And.intro hj0 hy0)
          clear hy0 hj0
          go_wp2_with (go_at_call 23; refine (hq _).mono ?_; rintro e w1 ⟨rfl, rfl⟩)
          go_quiet (fail)
          go_wp2
          go_roundw
          case rel =>
            obtain ⟨rfl, rfl⟩ := HY.out
            refine ⟨0 + 1, x, by omega, by go_num, .inr ⟨by omega, HX.out.1⟩, ?_, hk.drewN _⟩
            rw [HC.out, HX.out.2]
            conv => lhs; unfold stFrom
            rw [if_neg (by rw [HT.out]; decide), if_neg (by omega)]
          case measure => simp [RowKit.intOf]; omega
        · have t2 : decide (0 < (j : Int)) = true := decide_eq_true (by omega)
          obtain ⟨m, hm⟩ : ∃ m : Nat, (j : Int) - 1 = (m : Int) := ⟨j - 1, by omega⟩
          obtain ⟨x2, g2, o2, hx2, _, e2, hg2, hc2⟩ := (H.out.kept hk).get (show j - 1 < n by omega)
          cases e2
          obtain rfl : x2 = y := by rw [hy1] at hx2; exact (Option.some.inj hx2).symm
          rw [show j - 1 = m by omega] at hc2
          have m0 : (0 : Int) ≤ (m : Int) := by omega
          have m1 : (m : Int) < (n : Int) := by omega
          by_cases h3 : x < x2
          · go_wp2_with (go_at_call 23; refine (hq _).mono ?_; rintro e w1 ⟨rfl, rfl⟩)
            go_quiet (fail)
            go_wp2
            go_ret
            refine ⟨?_, hk.drewN _⟩
            rw [HC.out, HX.out.2]; unfold stFrom; rw [if_neg (by rw [HT.out]; decide), if_pos h3]; rfl
          · go_wp2_with (go_at_call 23; refine (hq _).mono ?_; rintro e w1 ⟨rfl, rfl⟩)
            go_quiet (fail)
            go_wp2
            go_roundw
            case rel =>
              refine ⟨j + 1, x, by omega, by go_num, .inr ⟨by omega, by rw [Nat.add_sub_cancel]; exact HX.out.1⟩, ?_, hk.drewN _⟩
              rw [HC.out, HX.out.2]
              conv => lhs; unfold stFrom
              rw [if_neg (by rw [HT.out]; decide), if_neg (by omega)]
            case measure => simp [RowKit.intOf]; omega
      · have hT : tk x = false := by simpa using hT
        rw [hT] at hq
        go_wp2_with (go_at_call 23; refine (hq _).mono ?_; rintro e w1 ⟨rfl, rfl⟩)
        go_ret
        exact ⟨by rw [HC.out, HX.out.2]; unfold stFrom; rw [if_pos hT]; rfl, hk⟩
    · have t1 : decide ((j : Int) < (n : Int)) = false := decide_eq_false (by omega)
      go_wp2
      go_ret
      exact ⟨by rw [HC.out, List.drop_of_length_le (by rw [H.out.len]; omega)]; rfl, hk⟩
set_option maxRecDepth 100000 in
theorem rcheck_c {w : World} {ao : Option Addr} {n cap : Nat} {l : List Int} (h : At w ao n cap l) (v : Int) : Calls Try.prog 22 #[.slice ao n cap, .int .i64 v] w fun e w' => e = .returned (.int .i64 (chkW l v)) ∧ Kept w w' := by
  have hst := rstarts_c h
  obtain ⟨E, hE⟩ : ∃ E, E = st l := ⟨_, rfl⟩
  rw [← hE] at hst
  have HE := Lib.hid hE
  clear hE h
  go_enter Try.func22, Try.ntmps22
  by_cases h0 : v < 1
  · go_wp2
    go_ret
    exact ⟨by unfold chkW; rw [if_pos (.inl h0)]; rfl, Kept.refl _⟩
  · by_cases h1 : 1099511627776 < v
    · go_wp2
      go_ret
      exact ⟨by unfold chkW; rw [if_pos (.inr h1)]; rfl, Kept.refl _⟩
    · go_wp2_with (go_at_call 27; refine hst.mono ?_; rintro e w1 ⟨rfl, k1⟩)
      go_ret
      exact ⟨by unfold chkW; rw [if_neg (by omega), ← HE.out]; rfl, k1⟩
set_option maxRecDepth 100000 in
set_option maxHeartbeats 2000000 in
theorem rcount_ok {w : World} {ao : Option Addr} {n cap : Nat} {l : List Int} (h : At w ao n cap l) (v t : Int) (hc : chkW l v = 0) (ht : tk t = true) : Calls Try.prog 11 #[.slice ao n cap, .int .i64 v, .int .i64 t] w fun e w' => e = .returned (.tuple #[.int .i64 (cnt l v t : Int), .int .i64 0]) ∧ Kept w w' := by
  have hn := h.n62
  unfold maxLen at hn
  have hch := rcheck_c h v
  have htk := rtick_c t
  rw [hc] at hch
  rw [ht] at htk
  obtain ⟨⟨v1, v2⟩, _⟩ := chkW_zero hc
  obtain ⟨t1, t2⟩ := tk_iff.1 ht
  have H := Lib.hid h
  clear h hc ht
  go_enter Try.func11, Try.ntmps11
  go_wp2_with (first
    | (go_at_call 22; refine hch.mono ?_; rintro e w1 ⟨rfl, k1⟩)
    | (go_at_call 23; refine (htk _).mono ?_; rintro e w2 ⟨rfl, rfl⟩))
  clear hch htk
  go_loopw [9, 10] (fun c i wr => ∃ (j q : Nat), j ≤ n ∧ q ≤ j ∧ i = .int .i64 j ∧ c = .int .i64 q ∧ q = cnt (l.take j) v t ∧ Kept w wr) (fun _ i _ => n - (RowKit.intOf i).toNat)
  case atStart => exact ⟨0, 0, Nat.zero_le _, Nat.le_refl _, rfl, rfl, rfl, k1⟩
  case round =>
    clear k1
    obtain ⟨j, q, hj, hqj, rfl, rfl, hq, hk⟩ := hrel
    have HQ := Lib.hid hq
    clear hq
    by_cases hlt : j < n
    · have d1 : decide ((j : Int) < (n : Int)) = true := decide_eq_true (by omega)
      obtain ⟨x, g, o, hx, ⟨x1, x2⟩, rfl, hg, hcx⟩ := (H.out.kept hk).get hlt
      have HX := Lib.hid (take_snoc hx)
      clear hx
      have j0 : (0 : Int) ≤ (j : Int) := by omega
      have j1 : (j : Int) < (n : Int) := by omega
      by_cases ha : t - v < x
      · by_cases hb : x ≤ t
        · go_wp2
          go_roundw
          case rel =>
            refine ⟨j + 1, q + 1, by omega, by omega, by go_num, by go_num, ?_, hk⟩
            rw [HX.out, cnt_snoc, ← HQ.out, if_pos (inW_iff.2 ⟨ha, hb⟩)]
          case measure => simp [RowKit.intOf]; omega
        · go_wp2
          go_roundw
          case rel =>
            refine ⟨j + 1, q, by omega, by omega, by go_num, rfl, ?_, hk⟩
            rw [HX.out, cnt_snoc, ← HQ.out, if_neg (by rw [inW_iff]; omega)]; rfl
          case measure => simp [RowKit.intOf]; omega
      · go_wp2
        go_roundw
        case rel =>
          refine ⟨j + 1, q, by omega, by omega, by go_num, rfl, ?_, hk⟩
          rw [HX.out, cnt_snoc, ← HQ.out, if_neg (by rw [inW_iff]; omega)]; rfl
        case measure => simp [RowKit.intOf]; omega
    · have d1 : decide ((j : Int) < (n : Int)) = false := decide_eq_false (by omega)
      go_wp2
      go_ret2
      exact ⟨by rw [HQ.out, List.take_of_length_le (by rw [H.out.len]; omega)]; rfl, hk⟩
set_option maxRecDepth 100000 in
theorem rcount_chk {w : World} {ao : Option Addr} {n cap : Nat} {l : List Int} (h : At w ao n cap l) (v t : Int) (hc : ¬ chkW l v = 0) : Calls Try.prog 11 #[.slice ao n cap, .int .i64 v, .int .i64 t] w fun e w' => e = .returned (.tuple #[.int .i64 0, .int .i64 (chkW l v)]) ∧ Kept w w' := by
  have hch := rcheck_c h v
  generalize chkW l v = E at *
  go_enter Try.func11, Try.ntmps11
  go_wp2_with (go_at_call 22; refine hch.mono ?_; rintro e w1 ⟨rfl, k1⟩)
  go_ret2
  exact ⟨rfl, k1⟩
set_option maxRecDepth 100000 in
theorem rcount_tick {w : World} {ao : Option Addr} {n cap : Nat} {l : List Int} (h : At w ao n cap l) (v t : Int) (hc : chkW l v = 0) (ht : tk t = false) : Calls Try.prog 11 #[.slice ao n cap, .int .i64 v, .int .i64 t] w fun e w' => e = .returned (.tuple #[.int .i64 0, .int .i64 3]) ∧ Kept w w' := by
  have hch := rcheck_c h v
  have htk := rtick_c t
  rw [hc] at hch
  rw [ht] at htk
  clear hc ht
  go_enter Try.func11, Try.ntmps11
  go_wp2_with (first
    | (go_at_call 22; refine hch.mono ?_; rintro e w1 ⟨rfl, k1⟩)
    | (go_at_call 23; refine (htk _).mono ?_; rintro e w2 ⟨rfl, rfl⟩))
  go_ret2
  exact ⟨rfl, k1⟩
theorem countV_ok {l : List Int} {v t : Int} (h : errT l v t = 0) : countV l v t = (cnt l v t : Int) := if_pos h
theorem countV_bad {l : List Int} {v t : Int} (h : ¬ errT l v t = 0) : countV l v t = 0 := if_neg h
/-- The specification's Count. -/
theorem rcount_c {w : World} {ao : Option Addr} {n cap : Nat} {l : List Int} (h : At w ao n cap l) (v t : Int) : Calls Try.prog 11 #[.slice ao n cap, .int .i64 v, .int .i64 t] w fun e w' => e = .returned (.tuple #[.int .i64 (countV l v t), .int .i64 (errT l v t)]) ∧ Kept w w' := by
  by_cases hc : chkW l v = 0
  · by_cases ht : tk t = true
    · have e := errT_zero hc ht
      rw [countV_ok e, e]; exact rcount_ok h v t hc ht
    · have ht : tk t = false := by simpa using ht
      have e := errT_tick hc ht
      rw [countV_bad (by rw [e]; decide), e]; exact rcount_tick h v t hc ht
  · have e := errT_chk (t := t) hc
    rw [countV_bad (by rw [e]; exact hc), e]; exact rcount_chk h v t hc
end Go.Proofs.Ytojgbacdniagiaa.Wi
