/-
  ResParts, for any slice of amounts, one more, and any number.
-/
import Derived.Test.YtdendciedodffaaVo
import Derived.Deep.AppendLies
import Derived.WalkMore
import Derived.Deep.CutRange
namespace Go.Proofs.Ytdendciedodffaa.Re
open Go.RowKit Go.Proofs.Ytdendciedodffaa.Mem Go.Proofs.Ytdendciedodffaa.Bx Go.ChangeShapes Go.WideShapes Go.ChangeAt
theorem cellsR_congr {X Y : Nat → Am} {n : Nat} (e : ∀ i, i < n → X i = Y i) : cellsR X n = cellsR Y n := by
  induction n with
  | zero => rfl
  | succ n ih => rw [cellsR, cellsR, ih (fun i hi => e i (by omega)), e n (by omega)]
theorem wrap_small (x : Int) (h : -9223372036854775808 ≤ x ∧ x ≤ 9223372036854775807) : wrap64 x = x := by
  have := IntKind.wrap_i64 x
  unfold wrap64
  omega
theorem cut_at (cut : Int) (M : Nat) (hM : M ≤ 30) : ∃ K : Nat, (wrap64 (wrap64 (cut.tmod ((M : Int) + 1) + (M : Int)) + 1)).tmod ((M : Int) + 1) = (K : Int) ∧ K ≤ M := by
  have h1 := Int.tmod_lt_of_pos cut (show (0 : Int) < (M : Int) + 1 by omega)
  have h2 := Int.lt_tmod_of_pos cut (show (0 : Int) < (M : Int) + 1 by omega)
  generalize cut.tmod ((M : Int) + 1) = a at h1 h2 ⊢
  rw [wrap_small (a + (M : Int)) (by omega), wrap_small (a + (M : Int) + 1) (by omega)]
  have h3 := Int.tmod_lt_of_pos (a + (M : Int) + 1) (show (0 : Int) < (M : Int) + 1 by omega)
  have h4 : 0 ≤ (a + (M : Int) + 1).tmod ((M : Int) + 1) := Int.tmod_nonneg _ (by omega)
  exact ⟨((a + (M : Int) + 1).tmod ((M : Int) + 1)).toNat, by omega, by omega⟩
set_option maxHeartbeats 8000000 in
set_option maxRecDepth 100000 in
theorem parts_some (w : World) (ad0 : Option Addr) (n cap : Nat) (X : Nat → Am) (b : Am) (cut : Int) (hX : Amx w ad0 n X) (hn : n ≤ cap) (hc : cap ≤ maxLen) :
    Calls Try.prog 7 #[.slice ad0 n cap, .agg #[.int .i64 b.c, .int .i64 b.m, .int .i64 b.d], .int .i64 cut] w fun e w' => e = .returned (.bool true) ∧ Kept w w' := by
  obtain ⟨M, hM⟩ : ∃ M : Nat, (if (30 : Int) < (n : Int) then 30 else (n : Int)) = (M : Int) := by
    by_cases h : (30 : Int) < (n : Int)
    · exact ⟨30, by rw [if_pos h]; rfl⟩
    · exact ⟨n, by rw [if_neg h]⟩
  have hMn : M ≤ n ∧ M ≤ 30 := by
    by_cases h : (30 : Int) < (n : Int)
    · rw [if_pos h] at hM; omega
    · rw [if_neg h] at hM; omega
  have hmin := min2 n M 30 hM
  have hsub := sub_h ad0 n cap M (by omega)
  have hX2 : Amx w (subA ad0 cap 0) M X := amx_congr (amx_sub hX cap 0 M hn (by omega)) (fun i _ => by rw [Nat.zero_add])
  generalize subA ad0 cap 0 = ao2 at hsub hX2
  obtain ⟨i0, hif, hz0, hz1, hz3⟩ := info_parts res_info
  have hM1 := hMn.2
  have HM := Lib.hid (And.intro hMn (And.intro hn (And.intro hc hX2)))
  have h0 := (((Own.nil w).box #[.int .i64 b.c, .int .i64 b.m, .int .i64 b.d] 23).newRow 23 3).front
  have hw1 : IntKind.i64.wrap ((M : Int) - 1) = (M : Int) - 1 := by rw [IntKind.wrap_i64]; omega
  clear hM hMn hX hn hc hX2
  go_enter Try.func7, Try.ntmps7
  go_wp2_with fail
  go_loopw [7, 8] (fun v i wr => ∃ r : Nat, r ≤ M ∧ i = .int .i64 ((r : Int) - 1) ∧ Own w [rowA 23 3 v (M - r) (cellsR (fun i => X (M - 1 - i)) (M - r)), boxA w.heap.size #[.int .i64 b.c, .int .i64 b.m, .int .i64 b.d] 23] wr) (fun _ i _ => (intOf i + 1).toNat)
  case atStart => exact ⟨M, Nat.le_refl _, rfl, by rw [Nat.sub_self]; exact h0⟩
  case round =>
    clear h0
    obtain ⟨r, hr, rfl, h1⟩ := hrel
    rcases r with _ | m
    · have h1 : Own w [rowA 23 3 _ M (cellsR (fun i => X (M - 1 - i)) M), boxA w.heap.size #[.int .i64 b.c, .int .i64 b.m, .int .i64 b.d] 23] wr := h1
      obtain ⟨ao', cap', rfl, hcap, hA⟩ := amx_row (h1.row 0 rfl)
      have hs1 := fun v h => sum_c ao2 M cap X (by omega) v h
      have hs2 := fun v h => sum_c ao' M cap' (fun i => X (M - 1 - i)) (by omega) v h
      rw [sumN_rev] at hs2
      obtain ⟨R, hR⟩ : ∃ R, R = sumN X M := ⟨_, rfl⟩
      rw [← hR] at hs1 hs2
      have HR := Lib.hid hR
      clear hR
      obtain ⟨r, q⟩ := R
      have hs1 : ∀ v, Amx v ao2 M X → Calls Try.prog 18 #[.slice ao2 M cap] v fun e w' => e = .returned (.tuple #[.agg #[.int .i64 r.c, .int .i64 r.m, .int .i64 r.d], .bool q]) ∧ Kept v w' := hs1
      have hs2 : ∀ v, Amx v ao' M (fun i => X (M - 1 - i)) → Calls Try.prog 18 #[.slice ao' M cap'] v fun e w' => e = .returned (.tuple #[.agg #[.int .i64 r.c, .int .i64 r.m, .int .i64 r.d], .bool q]) ∧ Kept v w' := hs2
      have HS1 := Lib.hid hs1
      have HS2 := Lib.hid (And.intro hs2 hA)
      clear hs1 hs2 hA
      have P1 := Lib.hid h1
      clear h1
      have n0 := neq_same r.c r.m r.d
      cases q with
      | false =>
        have hY := fun ao3 cap3 v h => sum_c ao3 (M + 1) cap3 (fun i => if i < M then X (M - 1 - i) else b) (by omega) v h
        have eY : sumN (fun i => if i < M then X (M - 1 - i) else b) (M + 1) = (none3, false) := by
          rw [sumN_more (X := X) (n := M) (m := b) (fun i hi => if_pos hi) (if_neg (Nat.lt_irrefl _)), ← HR.out]; rfl
        rw [eY] at hY
        have hY : ∀ ao3 cap3 v, Amx v ao3 (M + 1) (fun i => if i < M then X (M - 1 - i) else b) → Calls Try.prog 18 #[.slice ao3 (M + 1) cap3] v fun e w' => e = .returned (.tuple #[.agg #[.int .i64 0, .int .i64 0, .int .i64 0], .bool false]) ∧ Kept v w' := hY
        have HY := Lib.hid hY
        clear hY eY
        have hcells : ∀ (xs : List Value), xs = cellsR (fun i => X (M - 1 - i)) M ++ [.int .i64 b.c, .int .i64 b.m, .int .i64 b.d] → xs = cellsR (fun i => if i < M then X (M - 1 - i) else b) (M + 1) := fun xs h => by
          rw [h, cellsR, if_neg (Nat.lt_irrefl _), cellsR_congr (Y := fun i => if i < M then X (M - 1 - i) else b) (fun i hi => (if_pos hi).symm)]
        have HC := Lib.hid hcells
        clear hcells
        go_wp2_with (first
          | (go_at_call 18; first
            | ((with_reducible refine (HS1.out _ (HM.out.2.2.2.kept P1.out.kept)).mono ?_); rintro e w1 ⟨rfl, k1⟩; have P2 := Lib.hid ((P1.out.later k1).box #[.int .i64 r.c, .int .i64 r.m, .int .i64 r.d] 23))
            | ((with_reducible refine (HS2.out.1 _ (HS2.out.2.kept (k1.alloc _))).mono ?_); rintro e w2 ⟨rfl, k2⟩; have P3 := Lib.hid ((P2.out.later k2).box #[.int .i64 r.c, .int .i64 r.m, .int .i64 r.d] 23); clear k1 k2; obtain ⟨⟨a0, a1, a2⟩, _⟩ := box3 (P3.out.boxed 1 rfl); obtain ⟨⟨b0, b1, b2⟩, _⟩ := box3 (P3.out.boxed 3 rfl); have hrow := (P3.out.row 2 rfl).alloc (.cells #[.int .i64 b.c, .int .i64 b.m, .int .i64 b.d] 23))
            | ((with_reducible refine (HY.out _ _ _ hA3).mono ?_); rintro e w3 ⟨rfl, k3⟩; have P5 := Lib.hid ((P4.out.later k3).box #[.int .i64 0, .int .i64 0, .int .i64 0] 23); clear k3 hA3))
          | (go_at_call 17; (with_reducible refine (awake_c _).mono ?_); rintro e w10 ⟨rfl, k10⟩)
          | (at_builtin; go_loud (refine wpList_append_own_at _ rfl _ _ 30 rfl 0 23 i0 (.agg #[.int .i64 0, .int .i64 0, .int .i64 0]) 3 24 Try.underlying30 hif hz0 hz1 hz3 rfl (by decide) _ _ _ rfl hrow ⟨w2.heap.size + 1, 0, none⟩ 1 1 [.int .i64 b.c, .int .i64 b.m, .int .i64 b.d] rfl rfl (World.news_of_block (nine w2 #[.int .i64 r.c, .int .i64 r.m, .int .i64 r.d] #[.int .i64 b.c, .int .i64 b.m, .int .i64 b.d] 23)) (by intro x hx; simp at hx; rcases hx with rfl | rfl | rfl <;> rfl) (by unfold maxLen; omega) (by omega) (Nat.zero_le _) ?_; intro v' w5 hown1 hgrow hnil hloc); rw [HC.out _ rfl] at hown1; obtain ⟨ao3, cap3, rfl, _, hA3⟩ := amx_row hown1; have P4 := Lib.hid (P3.out.appended 2 rfl ((Kept.refl _).alloc _) hown1 hgrow hloc); clear hown1 hgrow hnil hloc hrow))
        go_ret
        exact ⟨rfl, (P5.out.later k10).kept⟩
      | true =>
        have hY := fun ao3 cap3 v h => sum_c ao3 (M + 1) cap3 (fun i => if i < M then X (M - 1 - i) else b) (by omega) v h
        have eY : sumN (fun i => if i < M then X (M - 1 - i) else b) (M + 1) = adds r b := by
          rw [sumN_more (X := X) (n := M) (m := b) (fun i hi => if_pos hi) (if_neg (Nat.lt_irrefl _)), ← HR.out]; rfl
        rw [eY] at hY
        have ha := add_c r b
        generalize adds r b = Z at hY ha
        obtain ⟨z, ok⟩ := Z
        have hY : ∀ ao3 cap3 v, Amx v ao3 (M + 1) (fun i => if i < M then X (M - 1 - i) else b) → Calls Try.prog 18 #[.slice ao3 (M + 1) cap3] v fun e w' => e = .returned (.tuple #[.agg #[.int .i64 z.c, .int .i64 z.m, .int .i64 z.d], .bool ok]) ∧ Kept v w' := hY
        have ha : ∀ v, Calls Try.prog 9 #[.agg #[.int .i64 r.c, .int .i64 r.m, .int .i64 r.d], .agg #[.int .i64 b.c, .int .i64 b.m, .int .i64 b.d]] v fun e w' => e = .returned (.tuple #[.agg #[.int .i64 z.c, .int .i64 z.m, .int .i64 z.d], .bool ok]) ∧ Kept v w' := ha
        have HY := Lib.hid hY
        clear hY eY
        have n1 := neq_same z.c z.m z.d
        have n2 : (ok != ok) = false := by cases ok <;> rfl
        have hcells : ∀ (xs : List Value), xs = cellsR (fun i => X (M - 1 - i)) M ++ [.int .i64 b.c, .int .i64 b.m, .int .i64 b.d] → xs = cellsR (fun i => if i < M then X (M - 1 - i) else b) (M + 1) := fun xs h => by
          rw [h, cellsR, if_neg (Nat.lt_irrefl _), cellsR_congr (Y := fun i => if i < M then X (M - 1 - i) else b) (fun i hi => (if_pos hi).symm)]
        have HC := Lib.hid hcells
        clear hcells
        obtain ⟨K, hK, hKM⟩ := cut_at cut M (by omega)
        have hKM2 := hKM
        have sub2 := sub_h ao2 M cap K (by have := HM.out; omega)
        have sub3 := sub_l ao2 M cap K hKM
        obtain ⟨p1, p2, p3, p4⟩ := sumN_parts (X := X) (k := K) (m := M - K) (by rw [show K + (M - K) = M by omega, ← HR.out])
        rw [show K + (M - K) = M by omega, ← HR.out] at p3 p4
        have hs3 := fun v h => sum_c (subA ao2 cap 0) K cap X (by omega) v h
        have hs4 := fun v h => sum_c (subA ao2 cap K) (M - K) (cap - K) (fun i => X (K + i)) (by omega) v h
        have ha2 := add_c (sumN X K).1 (sumN (fun i => X (K + i)) (M - K)).1
        have hf := fits_c (sumN X K).1 r
        rw [p3] at ha2
        rw [p4] at hf
        rw [p1] at hs3
        rw [p2] at hs4
        generalize (sumN X K).1 = s1 at hs3 ha2 hf
        generalize (sumN (fun i => X (K + i)) (M - K)).1 = s2 at hs4 ha2
        have hs3 : ∀ v, Amx v ao2 M X → Calls Try.prog 18 #[.slice (subA ao2 cap 0) K cap] v fun e w' => e = .returned (.tuple #[.agg #[.int .i64 s1.c, .int .i64 s1.m, .int .i64 s1.d], .bool true]) ∧ Kept v w' := fun v h => hs3 v (amx_congr (amx_sub h cap 0 K (by have := HM.out; omega) (by omega)) (fun i _ => by rw [Nat.zero_add]))
        have hs4 : ∀ v, Amx v ao2 M X → Calls Try.prog 18 #[.slice (subA ao2 cap K) (M - K) (cap - K)] v fun e w' => e = .returned (.tuple #[.agg #[.int .i64 s2.c, .int .i64 s2.m, .int .i64 s2.d], .bool true]) ∧ Kept v w' := fun v h => hs4 v (amx_sub h cap K (M - K) (by have := HM.out; omega) (by omega))
        have HP := Lib.hid (And.intro hs3 hs4)
        clear hs3 hs4 p1 p2 p3 p4
        generalize subA ao2 cap 0 = ao5 at sub2 HP
        generalize subA ao2 cap K = ao6 at sub3 HP
        generalize M - K = MK at sub3 HP
        generalize cap - K = cK at sub3 HP
        clear hKM hKM2
        go_wp2_with (first
          | (go_at_call 18; first
            | ((with_reducible refine (HP.out.1 _ (HM.out.2.2.2.kept P6.out.kept)).mono ?_); rintro e w6 ⟨rfl, k6⟩; have P7 := Lib.hid ((P6.out.later k6).box #[.int .i64 s1.c, .int .i64 s1.m, .int .i64 s1.d] 23); clear k6)
            | ((with_reducible refine (HP.out.2 _ (HM.out.2.2.2.kept P7.out.kept)).mono ?_); rintro e w7 ⟨rfl, k7⟩; have P8 := Lib.hid ((P7.out.later k7).box #[.int .i64 s2.c, .int .i64 s2.m, .int .i64 s2.d] 23); clear k7; obtain ⟨⟨g0, g1, g2⟩, _⟩ := box3 (P8.out.boxed 1 rfl))
            | ((with_reducible refine (HS1.out _ (HM.out.2.2.2.kept P1.out.kept)).mono ?_); rintro e w1 ⟨rfl, k1⟩; have P2 := Lib.hid ((P1.out.later k1).box #[.int .i64 r.c, .int .i64 r.m, .int .i64 r.d] 23))
            | ((with_reducible refine (HS2.out.1 _ (HS2.out.2.kept (k1.alloc _))).mono ?_); rintro e w2 ⟨rfl, k2⟩; have P3 := Lib.hid ((P2.out.later k2).box #[.int .i64 r.c, .int .i64 r.m, .int .i64 r.d] 23); clear k1 k2; obtain ⟨⟨a0, a1, a2⟩, _⟩ := box3 (P3.out.boxed 1 rfl); obtain ⟨⟨b0, b1, b2⟩, _⟩ := box3 (P3.out.boxed 3 rfl); have hrow := (P3.out.row 2 rfl).alloc (.cells #[.int .i64 b.c, .int .i64 b.m, .int .i64 b.d] 23))
            | ((with_reducible refine (HY.out _ _ _ hA3).mono ?_); rintro e w3 ⟨rfl, k3⟩; have P5 := Lib.hid ((P4.out.later k3).box #[.int .i64 z.c, .int .i64 z.m, .int .i64 z.d] 23); clear k3 hA3; obtain ⟨⟨c0, c1, c2⟩, _⟩ := box3 (P5.out.boxed 2 rfl); obtain ⟨⟨d0, d1, d2⟩, _⟩ := box3 (P5.out.boxed 4 rfl)))
          | (go_at_call 13; (with_reducible refine (hf _).mono ?_); rintro e w9 ⟨rfl, k9⟩; have P10 := Lib.hid (P9.out.later k9); clear k9)
          | (go_at_call 17; (with_reducible refine (awake_c _).mono ?_); rintro e w10 ⟨rfl, k10⟩)
          | (go_at_call 9; (with_reducible refine (ha2 _).mono ?_); rintro e w8 ⟨rfl, k8⟩; have P9 := Lib.hid ((P8.out.later k8).box #[.int .i64 r.c, .int .i64 r.m, .int .i64 r.d] 23); clear k8; obtain ⟨⟨l0, l1, l2⟩, _⟩ := box3 (P9.out.boxed 6 rfl); obtain ⟨⟨m0, m1, m2⟩, _⟩ := box3 (P9.out.boxed 2 rfl))
          | (go_at_call 9; (with_reducible refine (ha _).mono ?_); rintro e w4 ⟨rfl, k4⟩; have P6 := Lib.hid ((P5.out.later k4).box #[.int .i64 z.c, .int .i64 z.m, .int .i64 z.d] 23); clear k4; obtain ⟨⟨e0, e1, e2⟩, _⟩ := box3 (P6.out.boxed 1 rfl))
          | (at_builtin; go_loud (refine wpList_append_own_at _ rfl _ _ 30 rfl 0 23 i0 (.agg #[.int .i64 0, .int .i64 0, .int .i64 0]) 3 24 Try.underlying30 hif hz0 hz1 hz3 rfl (by decide) _ _ _ rfl hrow ⟨w2.heap.size + 1, 0, none⟩ 1 1 [.int .i64 b.c, .int .i64 b.m, .int .i64 b.d] rfl rfl (World.news_of_block (nine w2 #[.int .i64 r.c, .int .i64 r.m, .int .i64 r.d] #[.int .i64 b.c, .int .i64 b.m, .int .i64 b.d] 23)) (by intro x hx; simp at hx; rcases hx with rfl | rfl | rfl <;> rfl) (by unfold maxLen; omega) (by omega) (Nat.zero_le _) ?_; intro v' w5 hown1 hgrow hnil hloc); rw [HC.out _ rfl] at hown1; obtain ⟨ao3, cap3, rfl, _, hA3⟩ := amx_row hown1; have P4 := Lib.hid (P3.out.appended 2 rfl ((Kept.refl _).alloc _) hown1 hgrow hloc); clear hown1 hgrow hnil hloc hrow))
        go_ret
        exact ⟨rfl, (P10.out.later k10).kept⟩
    · rw [show (((m + 1 : Nat) : Int) - 1) = (m : Int) by omega]
      obtain ⟨g, o, e, hg, x0, x1, x2⟩ := (HM.out.2.2.2.kept h1.kept) m (by omega)
      subst e
      obtain ⟨x, hx⟩ : ∃ x, x = X m := ⟨_, rfl⟩
      rw [← hx] at x0 x1 x2
      have hk : X (M - 1 - (M - (m + 1))) = x := by rw [hx]; congr 1; omega
      have hs : cellsR (fun i => X (M - 1 - i)) (M - (m + 1)) ++ [.int .i64 x.c, .int .i64 x.m, .int .i64 x.d] = cellsR (fun i => X (M - 1 - i)) (M - m) := by
        rw [show M - m = (M - (m + 1)) + 1 by omega, cellsR]
        rw [hk]
      have hks : M - (m + 1) + 1 = M - m := by omega
      have HX := Lib.hid (And.intro hs (And.intro hks hx))
      have hlt : m < M := by omega
      clear hx hk hs hks
      have hrow := (h1.row 0 rfl).alloc (.cells #[.int .i64 x.c, .int .i64 x.m, .int .i64 x.d] 23)
      go_wp2_with (at_builtin; go_loud (refine wpList_append_own_at _ rfl _ _ 30 rfl 0 23 i0 (.agg #[.int .i64 0, .int .i64 0, .int .i64 0]) 3 24 Try.underlying30 hif hz0 hz1 hz3 rfl (by decide) _ _ _ rfl hrow ⟨wr.heap.size, 0, none⟩ 1 1 [.int .i64 x.c, .int .i64 x.m, .int .i64 x.d] rfl rfl (World.news_of_block (heap_alloc_new wr (.cells #[.int .i64 x.c, .int .i64 x.m, .int .i64 x.d] 23))) (by intro x hx; simp at hx; rcases hx with rfl | rfl | rfl <;> rfl) (by unfold maxLen; omega) (by omega) (Nat.zero_le _) ?_; intro v' w1 hown1 hgrow hnil hloc); rw [HX.out.1, HX.out.2.1] at hown1; have h2 := h1.appended 0 rfl ((Kept.refl _).alloc _) hown1 hgrow hloc; clear hown1 hgrow hnil hloc)
      go_roundw
      case rel => exact ⟨m, by omega, rfl, h2⟩
      case measure => simp [intOf]
end Go.Proofs.Ytdendciedodffaa.Re
