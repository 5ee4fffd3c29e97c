/-
  Layer 12: the specification's Keep and Within.
-/
import Derived.Test.YtojgbacdniagiaaTb
namespace Go.Proofs.Ytojgbacdniagiaa.Wi
open Go.RowKit Go.Proofs.Ytojgbacdniagiaa.Mem Go.Proofs.Ytojgbacdniagiaa.Bx Go.Proofs.Ytojgbacdniagiaa.In Go.ChangeShapes Go.WideShapes Go.ChangeAt
set_option linter.unusedVariables false

set_option maxRecDepth 100000 in
set_option maxHeartbeats 4000000 in
theorem rkeep_ok {w : World} {ao : Option Addr} {n cap : Nat} {l : List Int} (h : At w ao n cap l) (hn1 : n ≤ 10000) (v t : Int) (hc : chkW l v = 0) (ht : tk t = true) : Calls Try.prog 13 #[.slice ao n cap, .int .i64 v, .int .i64 t] w fun e w' => ∃ bo m c, e = .returned (.tuple #[.slice bo m c, .int .i64 0]) ∧ New w.heap.size w' bo m c (keep v t l) ∧ Kept w w' := by
  have hch := rcheck_c h v
  have htk := rtick_c t
  rw [hc] at hch
  rw [ht] at htk
  obtain ⟨⟨v1, v2⟩, _⟩ := chkW_zero hc
  obtain ⟨t1, t2⟩ := tk_iff.1 ht
  have H := Lib.hid h
  clear h hc ht
  go_enter Try.func13, Try.ntmps13
  go_wp2_with (first
    | (go_at_call 22; refine hch.mono ?_; rintro e w1 ⟨rfl, k1⟩)
    | (go_at_call 23; refine (htk _).mono ?_; rintro e w2 ⟨rfl, rfl⟩; have hnil := New.empty w.heap.size w2))
  clear hch htk
  rw [← kpv_zero l v t] at hnil
  go_loopw [9, 10] (fun c i wr => ∃ (j m cp : Nat) (bo : Option Addr), j ≤ n ∧ m ≤ j ∧ i = .int .i64 j ∧ c = .slice bo m cp ∧ New w.heap.size wr bo m cp (kpv l v t j) ∧ Kept w wr) (fun _ i _ => n - (RowKit.intOf i).toNat)
  case atStart => exact ⟨0, 0, 0, none, Nat.zero_le _, Nat.le_refl _, rfl, rfl, hnil, k1⟩
  case round =>
    clear k1 hnil
    obtain ⟨j, m, cp, bo, hj, hmj, rfl, rfl, hnew, hk⟩ := hrel
    have HN := Lib.hid hnew
    clear hnew
    by_cases hlt : j < n
    · have d1 : decide ((j : Int) < (n : Int)) = true := decide_eq_true (by omega)
      obtain ⟨x, g, o, hx, ⟨x1, x2⟩, rfl, hg, hcx⟩ := (H.out.kept hk).get hlt
      have HX := Lib.hid (And.intro hx (show isI x from ⟨x1, x2⟩))
      clear hx
      have j0 : (0 : Int) ≤ (j : Int) := by omega
      have j1 : (j : Int) < (n : Int) := by omega
      have hlen := H.out.len
      by_cases ha : t - v < x
      · go_wp2_with (at_builtin; (refine wpList_app (N := m + 1) (HN.out.kept ((Kept.refl _).alloc _)) (New.lit wr (Nat.zero_le _) [x] (fun y hy => by rw [List.mem_singleton] at hy; subst hy; exact HX.out.2) (by simp [maxLen])).at (hk.alloc _).size rfl (by omega) rfl _ _ rfl rfl rfl ?_; intro bo' c' w3 m3 g3 f3; have k3 := f3 w (Nat.le_refl _) (hk.alloc _)))
        go_roundw
        case rel =>
          refine ⟨j + 1, m + 1, c', bo', by omega, by omega, by go_num, rfl, ?_, k3⟩
          rw [kpv_put HX.out.1 (.inl ha)]; exact m3
        case measure => simp [RowKit.intOf]; omega
      · obtain ⟨z, hz⟩ : ∃ z : Int, (n : Int) - 1 = z := ⟨_, rfl⟩
        obtain ⟨q, hq⟩ : ∃ q, ((j : Int) == z) = q := ⟨_, rfl⟩
        have HZ := Lib.hid (show q = true ↔ j + 1 = n by rw [← hq, beq_iff_eq]; omega)
        cases q
        rotate_left
        · have hb := HZ.out.1 rfl
          have HB := Lib.hid hb
          clear hb
          go_wp2_with (at_builtin; (refine wpList_app (N := m + 1) (HN.out.kept ((Kept.refl _).alloc _)) (New.lit wr (Nat.zero_le _) [x] (fun y hy => by rw [List.mem_singleton] at hy; subst hy; exact HX.out.2) (by simp [maxLen])).at (hk.alloc _).size rfl (by omega) rfl _ _ rfl rfl rfl ?_; intro bo' c' w3 m3 g3 f3; have k3 := f3 w (Nat.le_refl _) (hk.alloc _)))
          go_roundw
          case rel =>
            refine ⟨j + 1, m + 1, c', bo', by omega, by omega, by go_num, rfl, ?_, k3⟩
            rw [kpv_put HX.out.1 (.inr (by have := HB.out; omega))]; exact m3
          case measure => simp [RowKit.intOf]; omega
        · go_wp2
          go_roundw
          case rel =>
            refine ⟨j + 1, m, cp, bo, by omega, by omega, by go_num, rfl, ?_, hk⟩
            rw [kpv_skip HX.out.1 ha (fun e => by have := HZ.out.2 (by omega); simp at this)]; exact HN.out
          case measure => simp [RowKit.intOf]; omega
    · have d1 : decide ((j : Int) < (n : Int)) = false := decide_eq_false (by omega)
      go_wp2
      go_ret2
      refine ⟨_, _, _, rfl, ?_, hk⟩
      have := HN.out
      rwa [show j = l.length by rw [H.out.len]; omega, kpv_last] at this
set_option maxRecDepth 100000 in
theorem rkeep_chk {w : World} {ao : Option Addr} {n cap : Nat} {l : List Int} (h : At w ao n cap l) (v t : Int) (hc : ¬ chkW l v = 0) : Calls Try.prog 13 #[.slice ao n cap, .int .i64 v, .int .i64 t] w fun e w' => e = .returned (.tuple #[.slice none 0 0, .int .i64 (chkW l v)]) ∧ Kept w w' := by
  have hch := rcheck_c h v
  generalize chkW l v = E at *
  go_enter Try.func13, Try.ntmps13
  go_wp2_with (go_at_call 22; refine hch.mono ?_; rintro e w1 ⟨rfl, k1⟩)
  go_ret2
  exact ⟨rfl, k1⟩
set_option maxRecDepth 100000 in
theorem rkeep_tick {w : World} {ao : Option Addr} {n cap : Nat} {l : List Int} (h : At w ao n cap l) (v t : Int) (hc : chkW l v = 0) (ht : tk t = false) : Calls Try.prog 13 #[.slice ao n cap, .int .i64 v, .int .i64 t] w fun e w' => e = .returned (.tuple #[.slice none 0 0, .int .i64 3]) ∧ Kept w w' := by
  have hch := rcheck_c h v
  have htk := rtick_c t
  rw [hc] at hch
  rw [ht] at htk
  clear hc ht
  go_enter Try.func13, Try.ntmps13
  go_wp2_with (first
    | (go_at_call 22; refine hch.mono ?_; rintro e w1 ⟨rfl, k1⟩)
    | (go_at_call 23; refine (htk _).mono ?_; rintro e w2 ⟨rfl, rfl⟩))
  go_ret2
  exact ⟨rfl, k1⟩
/-- The specification's Keep. -/
theorem rkeep_c {w : World} {ao : Option Addr} {n cap : Nat} {l : List Int} (h : At w ao n cap l) (hn1 : n ≤ 10000) (v t : Int) : Calls Try.prog 13 #[.slice ao n cap, .int .i64 v, .int .i64 t] w fun e w' => ∃ bo m c, e = .returned (.tuple #[.slice bo m c, .int .i64 (errT l v t)]) ∧ New w.heap.size w' bo m c (keepV l v t) ∧ Kept w w' := by
  by_cases hc : chkW l v = 0
  · by_cases ht : tk t = true
    · have e := errT_zero hc ht
      rw [keepV_ok e, e]; exact rkeep_ok h hn1 v t hc ht
    · have ht : tk t = false := by simpa using ht
      have e := errT_tick hc ht
      rw [keepV_bad (by rw [e]; decide), e]
      exact (rkeep_tick h v t hc ht).mono fun e w' he => ⟨_, _, _, he.1, New.empty _ _, he.2⟩
  · have e := errT_chk (t := t) hc
    rw [keepV_bad (by rw [e]; exact hc), e]
    exact (rkeep_chk h v t hc).mono fun e w' he => ⟨_, _, _, he.1, New.empty _ _, he.2⟩
set_option maxRecDepth 100000 in
set_option maxHeartbeats 2000000 in
theorem rwithin_ok {w : World} {ao : Option Addr} {n cap : Nat} {l : List Int} (h : At w ao n cap l) (v m : Int) (hc : chkW l v = 0) (hm : ¬ m < 0) : Calls Try.prog 15 #[.slice ao n cap, .int .i64 v, .int .i64 m] w fun e w' => e = .returned (.tuple #[.bool (decide (Within l v m.toNat)), .int .i64 0]) ∧ Kept w w' := by
  have hn := h.n62
  unfold maxLen at hn
  have hch := rcheck_c h v
  rw [hc] at hch
  have hG := (chkW_zero hc).2
  have H := Lib.hid (And.intro h (And.intro hc hG))
  clear h hc hG
  go_enter Try.func15, Try.ntmps15
  go_wp2_with (go_at_call 22; refine hch.mono ?_; rintro e w1 ⟨rfl, k1⟩)
  clear hch
  go_loopw [9] (fun i wr => ∃ j : Nat, j ≤ n ∧ i = .int .i64 j ∧ (∀ x ∈ l.take j, cnt l v x ≤ m.toNat) ∧ Kept w wr) (fun i _ => n - (RowKit.intOf i).toNat)
  case atStart => exact ⟨0, Nat.zero_le _, rfl, fun x hx => by simp at hx, k1⟩
  case round =>
    clear k1
    obtain ⟨j, hj, rfl, hall, hk⟩ := hrel
    have HA := Lib.hid hall
    clear hall
    by_cases hlt : j < n
    · have d1 : decide ((j : Int) < (n : Int)) = true := decide_eq_true (by omega)
      obtain ⟨x, g, o, hx, _, rfl, hg, hcx⟩ := (H.out.1.kept hk).get hlt
      have hxm : x ∈ l := List.mem_of_getElem? hx
      have hct := rcount_ok (H.out.1.kept hk) v x H.out.2.1 (tk_iff.2 (H.out.2.2.1 x hxm))
      obtain ⟨q, hq⟩ : ∃ q, q = cnt l v x := ⟨_, rfl⟩
      rw [← hq] at hct
      have HX := Lib.hid (And.intro (take_snoc hx) (And.intro hxm hq))
      clear hx hxm hq
      have j0 : (0 : Int) ≤ (j : Int) := by omega
      have j1 : (j : Int) < (n : Int) := by omega
      by_cases ha : m < (q : Int)
      · go_wp2_with (go_at_call 11; refine hct.mono ?_; rintro e w2 ⟨rfl, k2⟩)
        go_ret2
        refine ⟨?_, hk.trans k2⟩
        rw [decide_eq_false (p := Within l v m.toNat) (fun hw => by have h2 := hw x HX.out.2.1; rw [← HX.out.2.2] at h2; omega)]; rfl
      · go_wp2_with (go_at_call 11; refine hct.mono ?_; rintro e w2 ⟨rfl, k2⟩)
        go_roundw
        case rel =>
          refine ⟨j + 1, by omega, by go_num, fun y hy => ?_, hk.trans k2⟩
          rw [HX.out.1] at hy
          rcases List.mem_append.1 hy with hy | hy
          · exact HA.out y hy
          · rw [List.mem_singleton] at hy; subst hy; rw [← HX.out.2.2]; omega
        case measure => simp [RowKit.intOf]; omega
    · have d1 : decide ((j : Int) < (n : Int)) = false := decide_eq_false (by omega)
      go_wp2
      go_ret2
      refine ⟨?_, hk⟩
      have := HA.out
      rw [List.take_of_length_le (by rw [H.out.1.len]; omega)] at this
      rw [decide_eq_true (p := Within l v m.toNat) this]; rfl
set_option maxRecDepth 100000 in
theorem rwithin_chk {w : World} {ao : Option Addr} {n cap : Nat} {l : List Int} (h : At w ao n cap l) (v m : Int) (hc : ¬ chkW l v = 0) : Calls Try.prog 15 #[.slice ao n cap, .int .i64 v, .int .i64 m] w fun e w' => e = .returned (.tuple #[.bool false, .int .i64 (chkW l v)]) ∧ Kept w w' := by
  have hch := rcheck_c h v
  generalize chkW l v = E at *
  go_enter Try.func15, Try.ntmps15
  go_wp2_with (go_at_call 22; refine hch.mono ?_; rintro e w1 ⟨rfl, k1⟩)
  go_ret2
  exact ⟨rfl, k1⟩
set_option maxRecDepth 100000 in
theorem rwithin_less {w : World} {ao : Option Addr} {n cap : Nat} {l : List Int} (h : At w ao n cap l) (v m : Int) (hc : chkW l v = 0) (hm : m < 0) : Calls Try.prog 15 #[.slice ao n cap, .int .i64 v, .int .i64 m] w fun e w' => e = .returned (.tuple #[.bool false, .int .i64 3]) ∧ Kept w w' := by
  have hch := rcheck_c h v
  rw [hc] at hch
  clear hc
  go_enter Try.func15, Try.ntmps15
  go_wp2_with (go_at_call 22; refine hch.mono ?_; rintro e w1 ⟨rfl, k1⟩)
  go_ret2
  exact ⟨rfl, k1⟩
/-- The specification's Within. -/
theorem rwithin_c {w : World} {ao : Option Addr} {n cap : Nat} {l : List Int} (h : At w ao n cap l) (v m : Int) : Calls Try.prog 15 #[.slice ao n cap, .int .i64 v, .int .i64 m] w fun e w' => e = .returned (.tuple #[.bool (withinV l v m), .int .i64 (errM l v m)]) ∧ Kept w w' := by
  by_cases hc : chkW l v = 0
  · by_cases hm : m < 0
    · have e := errM_less hc hm
      rw [withinV_bad (by rw [e]; decide), e]; exact rwithin_less h v m hc hm
    · have e := errM_zero hc hm
      rw [withinV_ok e, e]; exact rwithin_ok h v m hc hm
  · have e := errM_chk (m := m) hc
    rw [withinV_bad (by rw [e]; exact hc), e]; exact rwithin_chk h v m hc
end Go.Proofs.Ytojgbacdniagiaa.Wi
