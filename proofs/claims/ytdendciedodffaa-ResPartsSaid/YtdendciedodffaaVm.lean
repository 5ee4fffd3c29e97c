/-
  ResSums, for any slice of amounts.
-/
import Derived.Test.YtdendciedodffaaVl
namespace Go.Proofs.Ytdendciedodffaa.Re
open Go.RowKit Go.Proofs.Ytdendciedodffaa.Mem Go.Proofs.Ytdendciedodffaa.Bx Go.ChangeShapes Go.WideShapes Go.ChangeAt
theorem min2 (n M : Nat) (k : Int) (h : (if k < (n : Int) then k else (n : Int)) = (M : Int)) (w : World) : (Builtin.min_ #[3, 3] 3 #[.int .i64 (n : Int), .int .i64 k]).run Try.prog w = .ok (.int .i64 (M : Int)) w := by
  rw [run_min_int2, h]
theorem amx_none (w : World) (ao : Option Addr) (X : Nat → Am) : Amx w ao 0 X := fun j hj => absurd hj (by omega)
set_option maxHeartbeats 8000000 in
set_option maxRecDepth 100000 in
theorem sums_nil (w : World) : Calls Try.prog 4 #[.slice none 0 0] w fun e w' => e = .returned (.bool true) ∧ Kept w w' := by
  have hs1 : ∀ (g : Nat) (w : World), Calls Try.prog 18 #[.slice (some ⟨g, 0, none⟩) 0 0] w fun e w' => e = .returned (.tuple #[.agg #[.int .i64 0, .int .i64 0, .int .i64 0], .bool true]) ∧ Kept w w' := fun g w => sum_c (some ⟨g, 0, none⟩) 0 0 (fun _ => none3) (by omega) w (amx_none w _ _)
  have hs2 : ∀ (w : World), Calls Try.prog 19 #[.slice none 0 0] w fun e w' => e = .returned (.tuple #[.agg #[.int .i64 0, .int .i64 0, .int .i64 0], .bool true]) ∧ Kept w w' := fun w => rsum_c none 0 0 (fun _ => none3) (by omega) w (amx_none w _ _)
  have n1 := eql_same 0 0 0
  obtain ⟨i0, hif, hz0, hz1, hz3⟩ := info_parts res_info
  have H0 := (Own.nil w).emptyRow 23 3
  have n2 : (true == true) = true := rfl
  go_enter Try.func4, Try.ntmps4
  go_wp2_with (first
    | (at_builtin; refine wpList_append_own_none rfl _ _ 30 rfl 0 23 i0 3 Try.underlying30 hif _ 0 [] rfl (H0.row 0 rfl) rfl ?_)
    | (go_at_call 18; (with_reducible refine (hs1 _ _).mono ?_); rintro e w1 ⟨rfl, k1⟩; have h1 := (H0.later k1).box #[.int .i64 0, .int .i64 0, .int .i64 0] 23)
    | (go_at_call 19; (with_reducible refine (hs2 _).mono ?_); rintro e w2 ⟨rfl, k2⟩; have h2 := (h1.later k2).box #[.int .i64 0, .int .i64 0, .int .i64 0] 23))
  go_loopw [8] (fun i wr => i = .int .i64 0 ∧ Own w [boxA w2.heap.size #[.int .i64 0, .int .i64 0, .int .i64 0] 23, boxA w1.heap.size #[.int .i64 0, .int .i64 0, .int .i64 0] 23, rowA 23 3 (.slice (some ⟨w.heap.size, 0, none⟩) 0 0) 0 []] wr) (fun i _ => 0)
  case atStart => exact ⟨rfl, h2⟩
  case round =>
    clear h2
    obtain ⟨rfl, h3⟩ := hrel
    obtain ⟨⟨a0, a1, a2⟩, _⟩ := box3 (h3.boxed 0 rfl)
    obtain ⟨⟨b0, b1, b2⟩, _⟩ := box3 (h3.boxed 1 rfl)
    go_wp2_with (go_at_call 17; (with_reducible refine (awake_c _).mono ?_); rintro e u7 ⟨rfl, k7⟩)
    go_ret
    exact ⟨rfl, (h3.later k7).kept⟩
set_option maxHeartbeats 8000000 in
set_option maxRecDepth 100000 in
theorem sums_some (w : World) (ad0 : Addr) (n cap : Nat) (X : Nat → Am) (hX : Amx w (some ad0) n X) (hn : n ≤ cap) (hc : cap ≤ maxLen) :
    Calls Try.prog 4 #[.slice (some ad0) n cap] w fun e w' => e = .returned (.bool true) ∧ Kept w w' := by
  obtain ⟨M, hM⟩ : ∃ M : Nat, (if (60 : Int) < (n : Int) then 60 else (n : Int)) = (M : Int) := by
    by_cases h : (60 : Int) < (n : Int)
    · exact ⟨60, by rw [if_pos h]; rfl⟩
    · exact ⟨n, by rw [if_neg h]⟩
  have hMn : M ≤ n ∧ M ≤ 60 := by
    by_cases h : (60 : Int) < (n : Int)
    · rw [if_pos h] at hM; omega
    · rw [if_neg h] at hM; omega
  have hmin := min2 n M 60 hM
  have hsub := sub_h (some ad0) n cap M (by omega)
  have hX2 : Amx w (subA (some ad0) cap 0) M X := amx_congr (amx_sub hX cap 0 M hn (by omega)) (fun i _ => by rw [Nat.zero_add])
  obtain ⟨ad, had⟩ : ∃ ad, subA (some ad0) cap 0 = some ad := by
    unfold subA; split
    · exact ⟨_, rfl⟩
    · exact ⟨_, rfl⟩
  rw [had] at hsub hX2
  have hsum := fun ao cap' v h => sum_c ao M cap' X (by omega) v h
  have hrsum := fun v h => rsum_c (some ad) M cap X (by omega) v h
  obtain ⟨R, hR⟩ : ∃ R, R = sumN X M := ⟨_, rfl⟩
  rw [← hR] at hsum hrsum
  obtain ⟨r, q⟩ := R
  have hsum : ∀ (ao : Option Addr) (cap' : Nat) (v : World), Amx v ao M X → Calls Try.prog 18 #[.slice ao M cap'] v fun e w' => e = .returned (.tuple #[.agg #[.int .i64 r.c, .int .i64 r.m, .int .i64 r.d], .bool q]) ∧ Kept v w' := hsum
  have hrsum : ∀ (v : World), Amx v (some ad) M X → Calls Try.prog 19 #[.slice (some ad) M cap] v fun e w' => e = .returned (.tuple #[.agg #[.int .i64 r.c, .int .i64 r.m, .int .i64 r.d], .bool q]) ∧ Kept v w' := hrsum
  have HS1 := Lib.hid hsum
  have HS2 := Lib.hid hrsum
  have n1 := eql_same r.c r.m r.d
  have n2 : (q == q) = true := by cases q <;> rfl
  obtain ⟨i0, hif, hz0, hz1, hz3⟩ := info_parts res_info
  have H0 := (Own.nil w).emptyRow 23 3
  have hX3 := hX2.kept ((Kept.refl w).alloc (.cells #[] 23))
  have hM1 := hMn.2
  have HM := Lib.hid (And.intro hMn (And.intro hn (And.intro hc hX2)))
  have HN : ∀ j u, (cellsR X M)[j]? = some u → (w.alloc (.cells #[] 23)).cell? (ad.add j) = some u := fun j u hu => by
    have hj : j < M * 3 := by rw [← cellsR_length X M]; exact (List.getElem?_eq_some_iff.1 hu).1
    obtain ⟨g, o, e, _⟩ := hX3 0 (by omega)
    cases e
    exact news_amx hX3 j u hu
  clear hR hM hMn hX hn hc hsum hrsum had hX2 hX3
  go_enter Try.func4, Try.ntmps4
  go_wp2_with (first
    | (at_builtin; refine wpList_append_own_at _ rfl _ _ 30 rfl 0 23 i0 (.agg #[.int .i64 0, .int .i64 0, .int .i64 0]) 3 24 Try.underlying30 hif hz0 hz1 hz3 rfl (by decide) _ 0 [] rfl (H0.row 0 rfl) ad M cap (cellsR X M) rfl (cellsR_length X M) HN (cellsR_one X M) (by unfold maxLen; omega) (by omega) (Nat.zero_le _) ?_; intro v' w1 hown1 hgrow hnil hloc; simp only [Nat.zero_add, List.nil_append] at hown1; have h1 := H0.appended 0 rfl (Kept.refl _) hown1 hgrow hloc; obtain ⟨ao', cap', rfl, hcap, hA⟩ := amx_row hown1; have h1 : Own w [rowA 23 3 (.slice ao' M cap') M (cellsR X M)] w1 := h1; clear hown1 hgrow hloc hnil)
    | (go_at_call 18; (with_reducible refine (HS1.out _ _ _ hA).mono ?_); rintro e w2 ⟨rfl, k2⟩; have h2 := (h1.later k2).box #[.int .i64 r.c, .int .i64 r.m, .int .i64 r.d] 23)
    | (go_at_call 19; (with_reducible refine (HS2.out _ (HM.out.2.2.2.kept h2.kept)).mono ?_); rintro e w3 ⟨rfl, k3⟩; have h3 := (h2.later k3).box #[.int .i64 r.c, .int .i64 r.m, .int .i64 r.d] 23))
  clear h1 h2 H0 HN hA
  go_loopw [8] (fun i wr => ∃ j : Nat, j ≤ M ∧ i = .int .i64 j ∧ Own w [boxA w3.heap.size #[.int .i64 r.c, .int .i64 r.m, .int .i64 r.d] 23, boxA w2.heap.size #[.int .i64 r.c, .int .i64 r.m, .int .i64 r.d] 23, rowA 23 3 (.slice ao' M cap') M (cellsR X M)] wr) (fun i _ => M - (intOf i).toNat)
  case atStart => exact ⟨0, Nat.zero_le _, rfl, h3⟩
  case round =>
    clear h3
    obtain ⟨j, hj, rfl, h4⟩ := hrel
    by_cases hlt : j < M
    · obtain ⟨g, o, e1, hg, x0, x1, x2⟩ := (HM.out.2.2.2.kept h4.kept) j hlt
      obtain ⟨ao4, cap4, e2, _, hA⟩ := amx_row (h4.row 2 rfl)
      cases e2
      obtain ⟨g2, o2, rfl, hg2, y0, y1, y2⟩ := hA j hlt
      cases e1
      clear hA
      have n3 := neq_same (X j).c (X j).m (X j).d
      generalize X j = x at x0 x1 x2 y0 y1 y2 n3
      go_wp2_with fail
      go_quiet (fail)
      go_wp2_with fail
      go_roundw
      case rel => exact ⟨j + 1, by omega, by go_num, h4.drewN nq⟩
      case measure => simp [intOf]; omega
    · obtain rfl : j = M := by omega
      obtain ⟨⟨a0, a1, a2⟩, _⟩ := box3 (h4.boxed 0 rfl)
      obtain ⟨⟨b0, b1, b2⟩, _⟩ := box3 (h4.boxed 1 rfl)
      go_wp2_with (go_at_call 17; (with_reducible refine (awake_c _).mono ?_); rintro e u7 ⟨rfl, k7⟩)
      go_ret
      exact ⟨rfl, (h4.later k7).kept⟩
theorem sums_core (w : World) (ao : Option Addr) (n cap : Nat) (X : Nat → Am) (hX : Amx w ao n X) (hn : n ≤ cap) (hc : cap ≤ maxLen) (hz : ao = none → cap = 0) :
    Calls Try.prog 4 #[.slice ao n cap] w fun e w' => e = .returned (.bool true) ∧ Kept w w' := by
  rcases ao with _ | ad
  · have h := hz rfl
    subst h
    obtain rfl : n = 0 := by omega
    exact sums_nil w
  · exact sums_some w ad n cap X hX hn hc
end Go.Proofs.Ytdendciedodffaa.Re
