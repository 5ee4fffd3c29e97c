/-
  Layer 12: the contracts of package window.
-/
import Derived.Test.YtojgbacdniagiaaTc
import Derived.Test.YtojgbacdniagiaaTs
import Derived.WalkMore
import Derived.BigQuiet
namespace Go.Proofs.Ytojgbacdniagiaa.Wi
open Go.RowKit Go.Proofs.Ytojgbacdniagiaa.Mem Go.Proofs.Ytojgbacdniagiaa.Bx Go.Proofs.Ytojgbacdniagiaa.In Go.ChangeShapes Go.WideShapes Go.ChangeAt
set_option linter.unusedVariables false

set_option maxRecDepth 100000 in
theorem tick_c (n : Int) (w : World) : Calls Try.prog 26 #[.int .i64 n] w fun e w' => e = .returned (.bool (tk n)) ∧ w' = w := by
  go_enter Try.func26, Try.ntmps26
  by_cases h : 0 ≤ n
  · go_wp2
    go_ret
    exact ⟨by unfold tk; rw [decide_eq_true (p := 0 ≤ n) (by omega)]; rfl, rfl⟩
  · go_wp2
    go_ret
    exact ⟨by unfold tk; rw [decide_eq_false (p := 0 ≤ n) (by omega)]; rfl, rfl⟩
set_option maxRecDepth 100000 in
set_option maxHeartbeats 2000000 in
theorem wcheck_c {w : World} {ao : Option Addr} {n cap : Nat} {l : List Int} (h : At w ao n cap l) (v : Int) : Calls Try.prog 25 #[.slice ao n cap, .int .i64 v] w fun e w' => e = .returned (.int .i64 (chkW l v)) ∧ Kept w w' := by
  have hn := h.n62
  unfold maxLen at hn
  have H := Lib.hid h
  clear h
  go_enter Try.func25, Try.ntmps25
  by_cases h0 : v < 1
  · go_wp2
    go_ret
    exact ⟨by unfold chkW; rw [if_pos (.inl h0)]; rfl, Kept.refl _⟩
  · by_cases h1 : 1099511627776 < v
    · go_wp2
      go_ret
      exact ⟨by unfold chkW; rw [if_pos (.inr h1)]; rfl, Kept.refl _⟩
    · have HV := Lib.hid (show chkW l v = st l by unfold chkW; rw [if_neg (by omega)])
      go_wp2
      go_loopw [5, 16] (fun b i wr => ∃ (j : Nat) (y : Int), j ≤ n ∧ i = .int .i64 j ∧ b = .int .i64 y ∧ st l = stFrom y (l.drop j) ∧ Kept w wr) (fun _ i _ => n - (RowKit.intOf i).toNat)
      case atStart => exact ⟨0, 0, Nat.zero_le _, rfl, rfl, rfl, Kept.refl _⟩
      case round =>
        obtain ⟨j, y, hj, rfl, rfl, hch, hk⟩ := hrel
        have HC := Lib.hid hch
        clear hch
        by_cases hlt : j < n
        · have t1 : decide ((j : Int) < (n : Int)) = true := decide_eq_true (by omega)
          obtain ⟨x, g, o, hx, _, rfl, hg, hc⟩ := (H.out.kept hk).get hlt
          have hq := tick_c x
          have HX := Lib.hid (drop_cons hx)
          clear hx
          have j0 : (0 : Int) ≤ (j : Int) := by omega
          have j1 : (j : Int) < (n : Int) := by omega
          by_cases hT : tk x = true
          · rw [hT] at hq
            have HT := Lib.hid hT
            clear hT
            by_cases h3 : x < y
            · go_wp2_with (go_at_call 26; refine (hq _).mono ?_; rintro e w1 ⟨rfl, rfl⟩)
              go_ret
              refine ⟨?_, hk⟩
              rw [HV.out, HC.out, HX.out]; unfold stFrom; rw [if_neg (by rw [HT.out]; decide), if_pos h3]; rfl
            · go_wp2_with (go_at_call 26; refine (hq _).mono ?_; rintro e w1 ⟨rfl, rfl⟩)
              go_roundw
              case rel =>
                refine ⟨j + 1, x, by omega, by go_num, rfl, ?_, hk⟩
                rw [HC.out, HX.out]
                conv => lhs; unfold stFrom
                rw [if_neg (by rw [HT.out]; decide), if_neg (by omega)]
              case measure => simp [RowKit.intOf]; omega
          · have hT : tk x = false := by simpa using hT
            rw [hT] at hq
            go_wp2_with (go_at_call 26; refine (hq _).mono ?_; rintro e w1 ⟨rfl, rfl⟩)
            go_ret
            exact ⟨by rw [HV.out, HC.out, HX.out]; unfold stFrom; rw [if_pos hT]; rfl, hk⟩
        · have t1 : decide ((j : Int) < (n : Int)) = false := decide_eq_false (by omega)
          go_wp2
          go_ret
          exact ⟨by rw [HV.out, HC.out, List.drop_of_length_le (by rw [H.out.len]; omega)]; rfl, hk⟩
set_option maxRecDepth 100000 in
theorem interval_c {w : World} {ao : Option Addr} {n cap : Nat} {l : List Int} (h : At w ao n cap l) (v t : Int) : Calls Try.prog 20 #[.slice ao n cap, .int .i64 v, .int .i64 t] w fun e w' => e = .returned (.int .i64 (errT l v t)) ∧ Kept w w' := by
  have hch := wcheck_c h v
  have htk := tick_c t
  obtain ⟨E, hE⟩ : ∃ E, E = chkW l v := ⟨_, rfl⟩
  obtain ⟨q, hq⟩ : ∃ q, q = tk t := ⟨_, rfl⟩
  have he : errT l v t = if E ≠ 0 then E else if q = false then 3 else 0 := by rw [hE, hq]; rfl
  rw [he]
  rw [← hE] at hch
  rw [← hq] at htk
  clear he hE hq h
  go_enter Try.func20, Try.ntmps20
  by_cases h0 : E = 0
  · subst h0
    cases q
    all_goals
      go_wp2_with (first
        | (go_at_call 25; refine hch.mono ?_; rintro e w1 ⟨rfl, k1⟩)
        | (go_at_call 26; refine (htk _).mono ?_; rintro e w2 ⟨rfl, rfl⟩))
      go_ret
      exact ⟨rfl, k1⟩
  · go_wp2_with (go_at_call 25; refine hch.mono ?_; rintro e w1 ⟨rfl, k1⟩)
    go_ret
    exact ⟨rfl, k1⟩
/-- A slice cut in front and at its end, without room behind it. -/
theorem _root_.Go.Proofs.Ytojgbacdniagiaa.In.At.cut {w : World} {ao : Option Addr} {n cap : Nat} {l : List Int} (h : At w ao n cap l) {m : Nat} (hm : m ≤ n) : At w ao m m (l.take m) := by
  refine ⟨by rw [List.length_take, h.len]; omega, Nat.le_refl _, Nat.le_trans hm h.n62, fun e => ?_, fun x hx => h.fit x (List.mem_of_mem_take hx), fun j x hx => ?_⟩
  · have := h.nil e; have := h.le; omega
  · have hj : j < m := by have := (List.getElem?_eq_some_iff.1 hx).1; rw [List.length_take] at this; omega
    rw [List.getElem?_take_of_lt hj] at hx
    exact h.cell j x hx
set_option maxRecDepth 100000 in
theorem sub_lhm (ao : Option Addr) (n c f m : Nat) (h : f ≤ m) (hm : m ≤ c) (W : World) : (Instr.slice 22 (.slice ao n c) (some (.int .i64 (f : Int))) (some (.int .i64 (m : Int))) (some (.int .i64 (m : Int)))).run Try.prog W = .ok (.slice (subA ao m f) (m - f) (m - f)) W := by
  rw [run_slice_lhm W 22 ao n c Try.underlying22 .i64 .i64 .i64 (f : Int) (m : Int) (m : Int) (by omega) (by omega) (by omega) (by omega), sub_size]
  show Result.ok (sliced ao (f : Int).toNat (m : Int).toNat (m : Int).toNat 1) W = _
  unfold sliced subA
  rw [Int.toNat_natCast, Int.toNat_natCast]
set_option maxRecDepth 100000 in
set_option maxHeartbeats 2000000 in
theorem among_c {w : World} {ao : Option Addr} {n cap : Nat} {l : List Int} (h : At w ao n cap l) (hG : Good l) (a b : Int) (hab : a < b) : Calls Try.prog 21 #[.slice ao n cap, .int .i64 a, .int .i64 b] w fun e w' => ∃ bo m, e = .returned (.slice bo m m) ∧ At w' bo m m (amg l a b) ∧ Kept w w' := by
  have hn := h.n62
  have hnc := h.le
  unfold maxLen at hn
  have H := Lib.hid (And.intro h hG)
  clear h hG
  go_enter Try.func21, Try.ntmps21
  go_wp2
  go_step3
  go_wp2
  go_step3
  go_wp2
  go_loopw [7, 8, 13] (fun p q i wr => ∃ (j f : Nat), j ≤ n ∧ f ≤ j ∧ i = .int .i64 j ∧ q = .int .i64 j ∧ p = .int .i64 f ∧ f = lo (l.take j) a ∧ (∀ x ∈ l.take j, x ≤ b) ∧ Kept w wr) (fun _ _ i _ => n - (RowKit.intOf i).toNat)
  case atStart => exact ⟨0, 0, Nat.zero_le _, Nat.le_refl _, rfl, rfl, rfl, rfl, fun x hx => by simp at hx, Kept.refl _⟩
  case round =>
    obtain ⟨j, f, hj, hfj, rfl, rfl, rfl, hf, hall, hk⟩ := hrel
    have HF := Lib.hid (And.intro hf hall)
    clear hf hall
    have e1 := sub_lhm ao n cap f j hfj (by omega)
    by_cases hlt : j < n
    · have t1 : decide ((j : Int) < (n : Int)) = true := decide_eq_true (by omega)
      obtain ⟨x, g, o, hx, _, rfl, hg, hc⟩ := (H.out.1.kept hk).get hlt
      have HX := Lib.hid hx
      clear hx
      have j0 : (0 : Int) ≤ (j : Int) := by omega
      have j1 : (j : Int) < (n : Int) := by omega
      by_cases h1 : b < x
      · go_wp2
        (try rw [Exit.noGoto_ret])
        go_ret
        refine ⟨_, _, rfl, ?_, hk⟩
        have h4 := drop_gt H.out.2.2 HX.out h1
        rw [amg_cut H.out.2.2 HF.out.2 h4, ← HF.out.1]
        exact ((H.out.1.kept hk).cut hj).tail hfj
      · by_cases h2 : x ≤ a
        · go_wp2
          go_roundw
          case rel =>
            refine ⟨j + 1, f + 1, by omega, by omega, by go_num, by go_num, by go_num, ?_, fun y hy => ?_, hk⟩
            · rw [take_snoc HX.out, lo_snoc, if_pos h2, ← HF.out.1]
            · rw [take_snoc HX.out] at hy
              rcases List.mem_append.1 hy with hy | hy
              · exact HF.out.2 y hy
              · rw [List.mem_singleton] at hy; omega
          case measure => simp [RowKit.intOf]; omega
        · go_wp2
          go_roundw
          case rel =>
            refine ⟨j + 1, f, by omega, by omega, by go_num, by go_num, rfl, ?_, fun y hy => ?_, hk⟩
            · rw [take_snoc HX.out, lo_snoc, if_neg h2, ← HF.out.1]; rfl
            · rw [take_snoc HX.out] at hy
              rcases List.mem_append.1 hy with hy | hy
              · exact HF.out.2 y hy
              · rw [List.mem_singleton] at hy; omega
          case measure => simp [RowKit.intOf]; omega
    · have t1 : decide ((j : Int) < (n : Int)) = false := decide_eq_false (by omega)
      go_wp2
      (try rw [Exit.noGoto_ret])
      go_ret
      refine ⟨_, _, rfl, ?_, hk⟩
      rw [amg_cut H.out.2.2 HF.out.2 (fun x hx => by rw [List.drop_of_length_le (by rw [H.out.1.len]; omega)] at hx; simp at hx), ← HF.out.1]
      exact ((H.out.1.kept hk).cut hj).tail hfj
set_option maxRecDepth 100000 in
theorem count_ok {w : World} {ao : Option Addr} {n cap : Nat} {l : List Int} (h : At w ao n cap l) (v t : Int) (he : errT l v t = 0) (hv : 1 ≤ v) (hv2 : v ≤ 1099511627776) (ht : 0 ≤ t) (ht2 : t ≤ 1099511627776) (hG : Good l) : Calls Try.prog 10 #[.slice ao n cap, .int .i64 v, .int .i64 t] w fun e w' => e = .returned (.tuple #[.int .i64 (cnt l v t : Int), .int .i64 0]) ∧ Kept w w' := by
  have hch := interval_c h v t
  rw [he] at hch
  have H := Lib.hid (And.intro h hG)
  have he2 := Lib.hid (amg_cnt l v t)
  clear h hG he
  go_enter Try.func10, Try.ntmps10
  go_wp2_with (first
    | (go_at_call 20; refine hch.mono ?_; rintro e w1 ⟨rfl, k1⟩)
    | (go_at_call 21; refine (among_c (H.out.1.kept k1) H.out.2 (t - v) t (by omega)).mono ?_; rintro e w2 ⟨bo, m, rfl, hm, k2⟩; have hlen := hm.len; rw [he2.out] at hlen))
  go_ret2
  exact ⟨by rw [hlen]; rfl, k1.trans k2⟩
set_option maxRecDepth 100000 in
theorem count_no {w : World} {ao : Option Addr} {n cap : Nat} {l : List Int} (h : At w ao n cap l) (v t : Int) (he : ¬ errT l v t = 0) : Calls Try.prog 10 #[.slice ao n cap, .int .i64 v, .int .i64 t] w fun e w' => e = .returned (.tuple #[.int .i64 0, .int .i64 (errT l v t)]) ∧ Kept w w' := by
  have hch := interval_c h v t
  generalize errT l v t = E at *
  clear h
  go_enter Try.func10, Try.ntmps10
  go_wp2_with (go_at_call 20; refine hch.mono ?_; rintro e w1 ⟨rfl, k1⟩)
  go_ret2
  exact ⟨rfl, k1⟩
theorem errT_is {l : List Int} {v t : Int} (h : errT l v t = 0) : (1 ≤ v ∧ v ≤ 1099511627776) ∧ (0 ≤ t ∧ t ≤ 1099511627776) ∧ Good l := by
  by_cases hc : chkW l v = 0
  · by_cases ht : tk t = true
    · exact ⟨(chkW_zero hc).1, tk_iff.1 ht, (chkW_zero hc).2⟩
    · rw [errT_tick hc (by simpa using ht)] at h; exact absurd h (by decide)
  · rw [errT_chk hc] at h; exact absurd h hc
theorem count_c {w : World} {ao : Option Addr} {n cap : Nat} {l : List Int} (h : At w ao n cap l) (v t : Int) : Calls Try.prog 10 #[.slice ao n cap, .int .i64 v, .int .i64 t] w fun e w' => e = .returned (.tuple #[.int .i64 (countV l v t), .int .i64 (errT l v t)]) ∧ Kept w w' := by
  by_cases he : errT l v t = 0
  · obtain ⟨⟨v1, v2⟩, ⟨t1, t2⟩, hG⟩ := errT_is he
    rw [countV_ok he, he]; exact count_ok h v t he v1 v2 t1 t2 hG
  · rw [countV_bad he]; exact count_no h v t he
theorem nil_eq (w : World) : (binOp .eql 22 (.slice none 0 0) (.slice none 0 0)).run Try.prog w = .ok (.bool true) w := by kernel_rfl
theorem nil_ne (ad : Addr) (n cap : Nat) (w : World) : (binOp .eql 22 (.slice (some ad) n cap) (.slice none 0 0)).run Try.prog w = .ok (.bool false) w := by kernel_rfl
set_option maxRecDepth 100000 in
theorem clone_c {w : World} {ao : Option Addr} {n cap : Nat} {l : List Int} (h : At w ao n cap l) (hn : n ≤ 1000000) : Calls Try.prog 24 #[.slice ao n cap] w fun e w' => ∃ bo c, e = .returned (.slice bo n c) ∧ New w.heap.size w' bo n c l ∧ Kept w w' := by
  rcases ao with _ | ad
  · have h0 := h.nil rfl
    subst h0
    obtain rfl : n = 0 := Nat.le_zero.1 h.le
    obtain rfl : l = [] := List.eq_nil_of_length_eq_zero h.len
    have e1 := nil_eq
    go_enter Try.func24, Try.ntmps24
    go_wp2
    go_ret
    exact ⟨none, 0, rfl, New.empty _ _, Kept.refl _⟩
  · have H := Lib.hid h
    clear h
    have e1 := nil_ne ad n cap
    go_enter Try.func24, Try.ntmps24
    go_wp2_with (at_builtin; refine wpList_app (New.lit (B := w.heap.size) w (Nat.le_refl _) [] (fun x hx => by simp at hx) (Nat.zero_le _)) (H.out.kept ((Kept.refl _).alloc _)) (by simp) (Nat.zero_add n) hn rfl _ _ rfl rfl rfl ?_; intro bo c w1 hnew hg hb)
    go_ret
    exact ⟨bo, c, rfl, by simpa using hnew, hb w (Nat.le_refl _) ((Kept.refl w).alloc _)⟩
set_option maxRecDepth 100000 in
set_option maxHeartbeats 2000000 in
theorem keep_ok {w : World} {ao : Option Addr} {n cap : Nat} {l : List Int} (h : At w ao n cap l) (hn1 : n ≤ 10000) (v t : Int) (he : errT l v t = 0) (hv : 1 ≤ v) (hv2 : v ≤ 1099511627776) (ht : 0 ≤ t) (ht2 : t ≤ 1099511627776) (hG : Good l) : Calls Try.prog 12 #[.slice ao n cap, .int .i64 v, .int .i64 t] w fun e w' => ∃ bo m c, e = .returned (.tuple #[.slice bo m c, .int .i64 0]) ∧ New w.heap.size w' bo m c (keep v t l) ∧ Kept w w' := by
  have hch := interval_c h v t
  rw [he] at hch
  obtain ⟨M, hM⟩ : ∃ M, M = (amg l (t - v) 1099511627776).length := ⟨_, rfl⟩
  have hMn : M ≤ n := by rw [hM, ← h.len]; exact List.length_filter_le _ _
  have H := Lib.hid (And.intro h (And.intro hG hM))
  clear h hG he hM
  by_cases h0 : M = 0
  · subst h0
    have hE : amg l (t - v) 1099511627776 = [] := List.eq_nil_of_length_eq_zero H.out.2.2.symm
    have HK := Lib.hid (keep_one H.out.2.1 hE)
    have HE := Lib.hid hE
    clear hE
    by_cases hn0 : n = 0
    · subst hn0
      go_enter Try.func12, Try.ntmps12
      go_wp2_with (first
        | (go_at_call 20; refine hch.mono ?_; rintro e w1 ⟨rfl, k1⟩)
        | (go_at_call 21; refine (among_c (H.out.1.kept k1) H.out.2.1 (t - v) 1099511627776 (by omega)).mono ?_; rintro e w2 ⟨bo, m, rfl, hm, k2⟩; obtain rfl : 0 = m := H.out.2.2.trans hm.len; have HM := Lib.hid hm; clear hm)
        | (go_at_call 24; refine (clone_c HM.out (by omega)).mono ?_; rintro e w3 ⟨co, c, rfl, hnew, k3⟩))
      go_ret2
      refine ⟨_, _, _, rfl, ?_, (k1.trans k2).trans k3⟩
      have hl : l = [] := List.eq_nil_of_length_eq_zero H.out.1.len
      rw [HE.out] at hnew
      have := hnew.base (k1.trans k2).size
      rw [HK.out, hl]; exact this
    · obtain ⟨z, hz⟩ : ∃ z : Nat, (n : Int) - 1 = (z : Int) := ⟨n - 1, by omega⟩
      have e1 := sub_l ao n cap z (by omega)
      have hzz : z = l.length - 1 := by rw [H.out.1.len]; omega
      have hz1 : n - z = 1 := by omega
      rw [hz1] at e1
      have hT := H.out.1.tail (m := z) (by omega)
      rw [hz1] at hT
      have HT := Lib.hid hT
      have HZ := Lib.hid hzz
      clear hT hzz hz1
      go_enter Try.func12, Try.ntmps12
      go_wp2_with (first
        | (go_at_call 20; refine hch.mono ?_; rintro e w1 ⟨rfl, k1⟩)
        | (go_at_call 21; refine (among_c (H.out.1.kept k1) H.out.2.1 (t - v) 1099511627776 (by omega)).mono ?_; rintro e w2 ⟨bo, m, rfl, hm, k2⟩; obtain rfl : 0 = m := H.out.2.2.trans hm.len; clear hm)
        | (go_at_call 24; refine (clone_c (HT.out.kept (k1.trans k2)) (by omega)).mono ?_; rintro e w3 ⟨co, c, rfl, hnew, k3⟩))
      go_ret2
      refine ⟨_, _, _, rfl, ?_, (k1.trans k2).trans k3⟩
      rw [HK.out, ← HZ.out]; exact hnew.base (k1.trans k2).size
  · have hne : amg l (t - v) 1099511627776 ≠ [] := fun e => h0 (by rw [H.out.2.2, e]; rfl)
    have HK := Lib.hid (keep_amg H.out.2.1 hne)
    clear hne
    go_enter Try.func12, Try.ntmps12
    go_wp2_with (first
      | (go_at_call 20; refine hch.mono ?_; rintro e w1 ⟨rfl, k1⟩)
      | (go_at_call 21; refine (among_c (H.out.1.kept k1) H.out.2.1 (t - v) 1099511627776 (by omega)).mono ?_; rintro e w2 ⟨bo, m, rfl, hm, k2⟩; obtain rfl : M = m := H.out.2.2.trans hm.len; have HM := Lib.hid hm; clear hm)
      | (go_at_call 24; refine (clone_c HM.out (by omega)).mono ?_; rintro e w3 ⟨co, c, rfl, hnew, k3⟩))
    go_ret2
    refine ⟨_, _, _, rfl, ?_, (k1.trans k2).trans k3⟩
    rw [HK.out]; exact hnew.base (k1.trans k2).size
set_option maxRecDepth 100000 in
theorem keep_no {w : World} {ao : Option Addr} {n cap : Nat} {l : List Int} (h : At w ao n cap l) (v t : Int) (he : ¬ errT l v t = 0) : Calls Try.prog 12 #[.slice ao n cap, .int .i64 v, .int .i64 t] w fun e w' => e = .returned (.tuple #[.slice none 0 0, .int .i64 (errT l v t)]) ∧ Kept w w' := by
  have hch := interval_c h v t
  generalize errT l v t = E at *
  clear h
  go_enter Try.func12, Try.ntmps12
  go_wp2_with (go_at_call 20; refine hch.mono ?_; rintro e w1 ⟨rfl, k1⟩)
  go_ret2
  exact ⟨rfl, k1⟩
theorem keep_c {w : World} {ao : Option Addr} {n cap : Nat} {l : List Int} (h : At w ao n cap l) (hn1 : n ≤ 10000) (v t : Int) : Calls Try.prog 12 #[.slice ao n cap, .int .i64 v, .int .i64 t] w fun e w' => ∃ bo m c, e = .returned (.tuple #[.slice bo m c, .int .i64 (errT l v t)]) ∧ New w.heap.size w' bo m c (keepV l v t) ∧ Kept w w' := by
  by_cases he : errT l v t = 0
  · obtain ⟨⟨v1, v2⟩, ⟨t1, t2⟩, hG⟩ := errT_is he
    rw [keepV_ok he, he]; exact keep_ok h hn1 v t he v1 v2 t1 t2 hG
  · rw [keepV_bad he]
    exact (keep_no h v t he).mono fun e w' ⟨e1, k⟩ => ⟨_, _, _, e1, New.empty _ _, k⟩
set_option maxRecDepth 100000 in
set_option maxHeartbeats 2000000 in
theorem within_ok {w : World} {ao : Option Addr} {n cap : Nat} {l : List Int} (h : At w ao n cap l) (v : Int) (K : Nat) (hc : chkW l v = 0) : Calls Try.prog 14 #[.slice ao n cap, .int .i64 v, .int .i64 (K : Int)] w fun e w' => e = .returned (.tuple #[.bool (decide (Within l v K)), .int .i64 0]) ∧ Kept w w' := by
  have hn := h.n62
  unfold maxLen at hn
  have hch := wcheck_c h v
  rw [hc] at hch
  obtain ⟨⟨v1, v2⟩, hG⟩ := chkW_zero hc
  have H := Lib.hid (And.intro h hG)
  clear h hc hG
  have k0 : (0 : Int) ≤ (K : Int) := by omega
  go_enter Try.func14, Try.ntmps14
  go_wp2_with (go_at_call 25; refine hch.mono ?_; rintro e w1 ⟨rfl, k1⟩)
  clear hch
  go_loopw [9] (fun i wr => ∃ j : Nat, K ≤ j ∧ i = .int .i64 j ∧ (∀ i x y, i + K < j → l[i + K]? = some x → l[i]? = some y → ¬ x - y < v) ∧ Kept w wr) (fun i _ => n - (RowKit.intOf i).toNat)
  case atStart => exact ⟨K, Nat.le_refl _, rfl, fun i x y hi => by omega, k1⟩
  case round =>
    clear k1
    obtain ⟨j, hj, rfl, hall, hk⟩ := hrel
    have HA := Lib.hid hall
    clear hall
    by_cases hlt : j < n
    · have d1 : decide ((j : Int) < (n : Int)) = true := decide_eq_true (by omega)
      obtain ⟨x, g, o, hx, _, rfl, hg, hcx⟩ := (H.out.1.kept hk).get hlt
      obtain ⟨m, hm⟩ : ∃ m : Nat, (j : Int) - (K : Int) = (m : Int) := ⟨j - K, by omega⟩
      have hmn : m < n := by omega
      obtain ⟨y, g2, o2, hy, _, e2, hg2, hcy⟩ := (H.out.1.kept hk).get hmn
      cases e2
      obtain ⟨x1, x2⟩ := H.out.2.1 x (List.mem_of_getElem? hx)
      obtain ⟨y1, y2⟩ := H.out.2.1 y (List.mem_of_getElem? hy)
      have HX := Lib.hid (And.intro (show l[m + K]? = some x by rw [show m + K = j by omega]; exact hx) hy)
      clear hx hy
      have j0 : (0 : Int) ≤ (j : Int) := by omega
      have j1 : (j : Int) < (n : Int) := by omega
      have m0 : (0 : Int) ≤ (m : Int) := by omega
      have m1 : (m : Int) < (n : Int) := by omega
      by_cases hd : x - y < v
      · go_wp2
        go_quiet (fail)
        go_wp2
        go_ret2
        refine ⟨?_, hk.drewN _⟩
        rw [decide_eq_false (p := Within l v K) (near_not H.out.2 ⟨m, x, y, HX.out.1, HX.out.2, hd⟩)]; rfl
      · go_wp2
        go_quiet (fail)
        go_wp2
        go_roundw
        case rel =>
          refine ⟨j + 1, by omega, by go_num, fun i a b hi ha hb => ?_, hk.drewN _⟩
          by_cases e : i + K < j
          · have := HA.out i a b e ha hb; omega
          · obtain rfl : i = m := by omega
            rw [HX.out.1] at ha
            rw [HX.out.2] at hb
            cases ha; cases hb
            omega
        case measure => simp [RowKit.intOf]; omega
    · have d1 : decide ((j : Int) < (n : Int)) = false := decide_eq_false (by omega)
      go_wp2
      go_ret2
      refine ⟨?_, hk⟩
      rw [decide_eq_true (p := Within l v K) (not_near H.out.2 fun hn => by
        obtain ⟨i, x, y, hx, hy, hd⟩ := hn
        have := (List.getElem?_eq_some_iff.1 hx).1
        rw [H.out.1.len] at this
        have := HA.out i x y (by omega) hx hy; omega)]; rfl
set_option maxRecDepth 100000 in
theorem within_chk {w : World} {ao : Option Addr} {n cap : Nat} {l : List Int} (h : At w ao n cap l) (v m : Int) (hc : ¬ chkW l v = 0) : Calls Try.prog 14 #[.slice ao n cap, .int .i64 v, .int .i64 m] w fun e w' => e = .returned (.tuple #[.bool false, .int .i64 (chkW l v)]) ∧ Kept w w' := by
  have hch := wcheck_c h v
  generalize chkW l v = E at *
  clear h
  go_enter Try.func14, Try.ntmps14
  go_wp2_with (go_at_call 25; refine hch.mono ?_; rintro e w1 ⟨rfl, k1⟩)
  go_ret2
  exact ⟨rfl, k1⟩
set_option maxRecDepth 100000 in
theorem within_less {w : World} {ao : Option Addr} {n cap : Nat} {l : List Int} (h : At w ao n cap l) (v m : Int) (hc : chkW l v = 0) (hm : m < 0) : Calls Try.prog 14 #[.slice ao n cap, .int .i64 v, .int .i64 m] w fun e w' => e = .returned (.tuple #[.bool false, .int .i64 3]) ∧ Kept w w' := by
  have hch := wcheck_c h v
  rw [hc] at hch
  clear hc h
  go_enter Try.func14, Try.ntmps14
  go_wp2_with (go_at_call 25; refine hch.mono ?_; rintro e w1 ⟨rfl, k1⟩)
  go_ret2
  exact ⟨rfl, k1⟩
theorem within_c {w : World} {ao : Option Addr} {n cap : Nat} {l : List Int} (h : At w ao n cap l) (v m : Int) : Calls Try.prog 14 #[.slice ao n cap, .int .i64 v, .int .i64 m] w fun e w' => e = .returned (.tuple #[.bool (withinV l v m), .int .i64 (errM l v m)]) ∧ Kept w w' := by
  by_cases hc : chkW l v = 0
  · by_cases hm : m < 0
    · have e := errM_less hc hm
      rw [withinV_bad (by rw [e]; decide), e]; exact within_less h v m hc hm
    · have e := errM_zero hc hm
      rw [withinV_ok e, e]
      have := within_ok h v m.toNat hc
      rwa [show ((m.toNat : Nat) : Int) = m by omega] at this
  · have e := errM_chk (m := m) hc
    rw [withinV_bad (by rw [e]; exact hc), e]; exact within_chk h v m hc
end Go.Proofs.Ytojgbacdniagiaa.Wi
