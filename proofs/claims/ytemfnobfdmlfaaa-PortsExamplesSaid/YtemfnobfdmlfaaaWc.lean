/-
  The specification of layer 10: Check, with, Meet, Union; the statements' own 'ascending'.
-/
import Derived.Test.YtemfnobfdmlfaaaWb
import Derived.BigRegion
namespace Go.Proofs.Ytemfnobfdmlfaaa.In
open Go.RowKit Go.Proofs.Ytemfnobfdmlfaaa.Mem Go.Proofs.Ytemfnobfdmlfaaa.Po Go.ChangeShapes Go.WideShapes Go.ChangeAt

theorem chk_step {x y : Int} {r : List Int} (h1 : ¬ (x < 1 ∨ 65535 < x)) (h2 : ¬ x ≤ y) : chkFrom y (x :: r) = chkFrom x r := by
  conv => lhs; unfold chkFrom
  rw [if_neg h1, if_neg h2]
theorem prev {l : List Int} {j : Nat} {x : Int} (h : l[j]? = some x) : ∀ m, j + 1 = m + 1 → l[m]? = some x := fun m e => by
  have e' : m = j := by omega
  rw [e']; exact h
set_option maxRecDepth 100000 in
theorem rcheck_c {w : World} {ao : Option Addr} {n cap : Nat} {l : List Int} (h : At w ao n cap l) : Calls Try.prog 14 #[.slice ao n cap] w fun e w' => e = .returned (.int .i64 (chk l)) ∧ Kept w w' := by
  have hn := h.n62
  unfold maxLen at hn
  have H := Lib.hid h
  clear h
  go_enter Try.func14, Try.ntmps14
  by_cases h8 : 8 < n
  · go_wp2
    go_ret
    exact ⟨by unfold chk; rw [if_pos (by rw [H.out.len]; omega)]; rfl, Kept.refl _⟩
  · have n0 : decide ((8 : Int) < (n : Int)) = false := decide_eq_false (by omega)
    go_wp2
    go_loopw [3] (fun i wr => ∃ (j : Nat) (y : Int), j ≤ n ∧ i = .int .i64 j ∧ chkFrom 0 l = chkFrom y (l.drop j) ∧ Kept w wr ∧ (j = 0 → y = 0) ∧ (∀ m, j = m + 1 → l[m]? = some y)) (fun i _ => n - (RowKit.intOf i).toNat)
    case atStart => exact ⟨0, 0, Nat.zero_le _, rfl, rfl, Kept.refl _, fun _ => rfl, fun m h => by omega⟩
    case round =>
      obtain ⟨j, y, hj, rfl, hch, hk, hy0, hy1⟩ := hrel
      have HC := Lib.hid hch
      clear hch
      have hl : ¬ 8 < l.length := by rw [H.out.len]; exact h8
      by_cases hlt : j < n
      · obtain ⟨x, g, o, hx, _, rfl, hg, hc⟩ := (H.out.kept hk).get hlt
        have HX := Lib.hid (And.intro (drop_cons hx) hx)
        clear hx
        by_cases h1 : x < 1
        · go_wp2
          go_ret
          refine ⟨?_, hk⟩
          unfold chk; rw [if_neg hl, HC.out, HX.out.1]; unfold chkFrom; rw [if_pos (.inl h1)]; rfl
        · by_cases h2 : 65535 < x
          · go_wp2
            go_ret
            refine ⟨?_, hk⟩
            unfold chk; rw [if_neg hl, HC.out, HX.out.1]; unfold chkFrom; rw [if_pos (.inr h2)]; rfl
          · rcases Nat.eq_zero_or_pos j with hj0 | hj0
            · have h3 : ¬ x ≤ y := by have := hy0 hj0; omega
              have HY := Lib.hid (And.intro h3 hy1)
              subst hj0
              clear hy0 hy1 h3
              have n1 : decide ((0 : Int) < 0) = false := rfl
              have c0 : wr.cell? ⟨g, o, none⟩ = some (.int .i64 x) := hc
              clear hc
              go_wp2_with fail
              go_quiet (fail)
              go_wp2_with fail
              go_roundw
              case rel => exact ⟨1, x, by omega, by go_num, by rw [HC.out, HX.out.1, chk_step (by omega) (by have := HY.out.1; omega)], hk.drewN nq, fun h => by omega, prev HX.out.2⟩
              case measure => simp [RowKit.intOf]; omega
            · obtain ⟨m, rfl⟩ : ∃ m, j = m + 1 := ⟨j - 1, by omega⟩
              obtain ⟨y', g2, o2, hy, _, e2, hg2, hc2⟩ := (H.out.kept hk).get (j := m) (by omega)
              cases e2
              obtain rfl : y' = y := by have := hy1 m rfl; rw [hy] at this; exact Option.some.inj this
              clear hy0 hy1 hy
              have n1 : decide ((0 : Int) < ((m + 1 : Nat) : Int)) = true := decide_eq_true (by omega)
              have n2 : ((m + 1 : Nat) : Int) - 1 = (m : Int) := by omega
              have hm1 : m < n := by omega
              by_cases h3 : x ≤ y'
              · go_wp2_with fail
                go_quiet (fail)
                go_wp2_with fail
                go_ret
                refine ⟨?_, hk.drewN nq⟩
                unfold chk; rw [if_neg hl, HC.out, HX.out.1]; unfold chkFrom; rw [if_neg (by omega), if_pos h3]; rfl
              · go_wp2_with fail
                go_quiet (fail)
                go_wp2_with fail
                go_roundw
                case rel => exact ⟨m + 2, x, by omega, by go_num, by rw [HC.out, HX.out.1, chk_step (by omega) (by omega)], hk.drewN nq, fun h => by omega, prev HX.out.2⟩
                case measure => simp [RowKit.intOf]; omega
      · obtain rfl : j = n := by omega
        go_wp2
        go_ret
        refine ⟨?_, hk⟩
        unfold chk; rw [if_neg hl, HC.out, List.drop_of_length_le (Nat.le_of_eq H.out.len)]; rfl
/-! ### with -/
/-- The first j are less than x, the one behind them is not. -/
theorem ins_split {l : List Int} {x : Int} {j : Nat} (h1 : ∀ y ∈ l.take j, y < x) (h2 : ∀ y, l[j]? = some y → x < y) : ins x l = l.take j ++ [x] ++ l.drop j := by
  have h := ins_at (n := x) (l.take j) (l.drop j) h1 (fun y hy => h2 y (by simpa [List.head?_drop] using hy))
  rw [List.take_append_drop] at h
  rw [h]; simp
theorem fit_ins {l : List Int} {x : Int} (h : Fit l) (hx : isI x) : Fit (ins x l) := fun y hy => by
  rcases mem_ins.1 hy with rfl | hy
  · exact hx
  · exact h y hy
theorem lt_take {l : List Int} {x y : Int} {j : Nat} (h : ∀ y ∈ l.take j, y < x) (hy : l[j]? = some y) (hlt : y < x) : ∀ y ∈ l.take (j + 1), y < x := fun z hz => by
  rw [List.take_add_one, List.mem_append] at hz
  rcases hz with hz | hz
  · exact h z hz
  · rw [hy] at hz; simp at hz; subst hz; exact hlt
theorem size_alloc1 (w : World) (o : Obj) : (w.alloc o).heap.size = w.heap.size + 1 := by simp
set_option maxHeartbeats 4000000 in
set_option maxRecDepth 100000 in
theorem with_c {w : World} {ao : Option Addr} {n cap : Nat} {l : List Int} (h : At w ao n cap l) (hs : Asc l) (hn : n ≤ 100000) (x : Int) (hx : isI x) :
    Calls Try.prog 23 #[.slice ao n cap, .int .i64 x] w fun e w' => ∃ bo m c, e = .returned (.slice bo m c) ∧ At w' bo m c (ins x l) ∧ Kept w w' := by
  have H := Lib.hid (And.intro h (And.intro hs hx))
  clear h hs hx
  go_enter Try.func23, Try.ntmps23
  go_wp2
  go_loopw [5] (fun i wr => ∃ (j : Nat), j ≤ n ∧ i = .int .i64 j ∧ Kept w wr ∧ ∀ y ∈ l.take j, y < x) (fun i _ => n - (RowKit.intOf i).toNat)
  case atStart => exact ⟨0, Nat.zero_le _, rfl, Kept.refl _, fun y hy => by simp at hy⟩
  case round =>
    obtain ⟨j, hj, rfl, hk, hlo⟩ := hrel
    have HL := Lib.hid hlo
    clear hlo
    have HA := H.out.1.kept hk
    have hx1 : Fit [x] := fun z hz => by simp at hz; subst hz; exact H.out.2.2
    -- behind the loop: the place is found
    by_cases hlt : j < n
    · obtain ⟨y, g, o, hy, _, rfl, hg, hc⟩ := HA.get hlt
      by_cases hyx : y < x
      · have HY := Lib.hid hy
        clear hy HA
        go_wp2
        go_roundw
        case rel => exact ⟨j + 1, by omega, by go_num, hk, lt_take HL.out HY.out hyx⟩
        case measure => simp [RowKit.intOf]; omega
      · by_cases hye : y = x
        · subst hye
          have HY := Lib.hid hy
          clear hy
          have n1 : decide (y < y) = false := by simp
          go_wp2
          go_ret
          exact ⟨_, _, _, rfl, by rw [ins_mem H.out.2.1 (List.mem_of_getElem? HY.out)]; exact HA, hk⟩
        · have n1 : (y == x) = false := by simpa using hye
          have HB := Lib.hid (And.intro HA (fun z hz => by rw [hy] at hz; cases hz; omega : ∀ z, l[j]? = some z → x < z))
          clear hy HA hye
          go_wp2
          have hcj : j ≤ cap := Nat.le_trans hj HB.out.1.le
          have e1 := sub_h (some ⟨g, o, none⟩) n cap j hcj
          have e2 := sub_l (some ⟨g, o, none⟩) n cap j hj
          have P1 := HB.out.1.head hj
          have P2 := HB.out.1.tail hj
          generalize subA (some ⟨g, o, none⟩) cap 0 = a1 at e1 P1
          generalize subA (some ⟨g, o, none⟩) cap j = a2 at e2 P2
          generalize cap - j = c2 at e2 P2
          obtain ⟨r, hr⟩ : ∃ r, r = n - j := ⟨_, rfl⟩
          rw [← hr] at e2 P2
          have hr2 : j + r = n := by omega
          clear hr
          have Q1 := Lib.hid P1
          have Q2 := Lib.hid P2
          clear P1 P2
          have hA0 : New wr.heap.size (wr.alloc (.cells #[] 3)) (some ⟨wr.heap.size, 0, none⟩) 0 0 [] := New.lit wr (Nat.le_refl _) [] (fun x hx => by simp at hx) (Nat.zero_le _)
          have hA : New wr.heap.size (wr.alloc (.cells #[] 3)).drew (some ⟨wr.heap.size, 0, none⟩) 0 0 [] := hA0.kept (Kept.refl _).drew
          have kA : Kept wr (wr.alloc (.cells #[] 3)).drew := ((Kept.refl wr).alloc _).drew
          have hB0 : New wr.heap.size ((wr.alloc (.cells #[] 3)).alloc (.cells #[.int .i64 x] 3)).drew (some ⟨wr.heap.size, 0, none⟩) 0 0 [] := hA0.kept ((Kept.refl _).alloc _).drew
          have kB : Kept wr ((wr.alloc (.cells #[] 3)).alloc (.cells #[.int .i64 x] 3)).drew := (((Kept.refl wr).alloc _).alloc _).drew
          have nB : At ((wr.alloc (.cells #[] 3)).alloc (.cells #[.int .i64 x] 3)).drew (some ⟨wr.heap.size + 1, 0, none⟩) 1 1 [x] := by
            have h := (New.lit (B := 0) (wr.alloc (.cells #[] 3)) (Nat.zero_le _) [x] hx1 (by simp [maxLen])).at.drew
            rw [size_alloc1] at h; exact h
          have hC : New wr.heap.size ((wr.alloc (.cells #[.int .i64 x] 3)).alloc (.cells #[] 3)).drew (some ⟨wr.heap.size + 1, 0, none⟩) 0 0 [] := by
            have h := (New.lit (B := wr.heap.size) (wr.alloc (.cells #[.int .i64 x] 3)) (by simp) [] (fun x hx => by simp at hx) (Nat.zero_le _)).kept (Kept.refl _).drew
            rw [size_alloc1] at h; exact h
          have kC : Kept wr ((wr.alloc (.cells #[.int .i64 x] 3)).alloc (.cells #[] 3)).drew := (((Kept.refl wr).alloc _).alloc _).drew
          have nC : At ((wr.alloc (.cells #[.int .i64 x] 3)).alloc (.cells #[] 3)).drew (some ⟨wr.heap.size, 0, none⟩) 1 1 [x] :=
            ((New.lit (B := 0) wr (Nat.zero_le _) [x] hx1 (by simp [maxLen])).at.kept ((Kept.refl _).alloc _)).drew
          have hj1 : j + 1 ≤ 1000000 := by omega
          have hj0 : j ≤ 1000000 := by omega
          have hn1 : n + 1 ≤ 1000000 := by omega
          have hjr : j + 1 + r = n + 1 := by omega
          have T := Lib.hid (And.intro hA (And.intro hB0 (And.intro hC (And.intro nB nC))))
          clear hA0 hA hB0 hC nB nC
          go_region_law (first
            | (refine step_app m2 (Q2.out.kept k2) k2.size hjr hn1 rfl _ _ rfl rfl rfl ?_; intro ao3 c3 w4 m3 g3 f3; have k3 := f3 wr (Nat.le_refl _) k2)
            | (refine step_app (m1.kept ((Kept.refl _).alloc _)) (New.lit w2 (Nat.zero_le _) [x] hx1 (by simp [maxLen])).at (k1.alloc _).size rfl hj1 rfl _ _ rfl rfl rfl ?_; intro ao2 c2' w3 m2 g2 f2; have k2 := f2 wr (Nat.le_refl _) (k1.alloc _))
            | (refine step_app m1 (T.out.2.2.2.1.grown g1 (fun g o e => by cases e; simp [Value.ownBlock])) k1.size rfl hj1 rfl _ _ rfl rfl rfl ?_; intro ao2 c2' w3 m2 g2 f2; have k2 := f2 wr (Nat.le_refl _) k1)
            | (refine step_app m1 (T.out.2.2.2.2.grown g1 (fun g o e => by cases e; simp [Value.ownBlock])) k1.size rfl hj1 rfl _ _ rfl rfl rfl ?_; intro ao2 c2' w3 m2 g2 f2; have k2 := f2 wr (Nat.le_refl _) k1)
            | (refine step_app T.out.1 (Q1.out.kept kA) kA.size (Nat.zero_add j) hj0 rfl _ _ rfl rfl rfl ?_; intro ao1 c1 w2 m1 g1 f1; have k1 := f1 wr (Nat.le_refl _) kA)
            | (refine step_app T.out.2.1 (Q1.out.kept kB) kB.size (Nat.zero_add j) hj0 rfl _ _ rfl rfl rfl ?_; intro ao1 c1 w2 m1 g1 f1; have k1 := f1 wr (Nat.le_refl _) kB)
            | (refine step_app T.out.2.2.1 (Q1.out.kept kC) kC.size (Nat.zero_add j) hj0 rfl _ _ rfl rfl rfl ?_; intro ao1 c1 w2 m1 g1 f1; have k1 := f1 wr (Nat.le_refl _) kC))
          all_goals
            go_wp2
            go_ret
            exact ⟨_, _, _, rfl, by rw [ins_split HL.out HB.out.2]; exact m3.at, hk.trans k3⟩
    · have hjn : j = n := by omega
      have HB := Lib.hid (And.intro HA (fun z hz => by have := (List.getElem?_eq_some_iff.1 hz).1; rw [HA.len] at this; omega : ∀ z, l[j]? = some z → x < z))
      have n1 : decide ((j : Int) < (n : Int)) = false := decide_eq_false (by omega)
      clear HA hjn
      go_wp2
      have hcj : j ≤ cap := Nat.le_trans hj HB.out.1.le
      have e1 := sub_h ao n cap j hcj
      have e2 := sub_l ao n cap j hj
      have P1 := HB.out.1.head hj
      have P2 := HB.out.1.tail hj
      generalize subA ao cap 0 = a1 at e1 P1
      generalize subA ao cap j = a2 at e2 P2
      generalize cap - j = c2 at e2 P2
      obtain ⟨r, hr⟩ : ∃ r, r = n - j := ⟨_, rfl⟩
      rw [← hr] at e2 P2
      have hr2 : j + r = n := by omega
      clear hr
      have Q1 := Lib.hid P1
      have Q2 := Lib.hid P2
      clear P1 P2
      have hA0 : New wr.heap.size (wr.alloc (.cells #[] 3)) (some ⟨wr.heap.size, 0, none⟩) 0 0 [] := New.lit wr (Nat.le_refl _) [] (fun x hx => by simp at hx) (Nat.zero_le _)
      have hA : New wr.heap.size (wr.alloc (.cells #[] 3)).drew (some ⟨wr.heap.size, 0, none⟩) 0 0 [] := hA0.kept (Kept.refl _).drew
      have kA : Kept wr (wr.alloc (.cells #[] 3)).drew := ((Kept.refl wr).alloc _).drew
      have hB0 : New wr.heap.size ((wr.alloc (.cells #[] 3)).alloc (.cells #[.int .i64 x] 3)).drew (some ⟨wr.heap.size, 0, none⟩) 0 0 [] := hA0.kept ((Kept.refl _).alloc _).drew
      have kB : Kept wr ((wr.alloc (.cells #[] 3)).alloc (.cells #[.int .i64 x] 3)).drew := (((Kept.refl wr).alloc _).alloc _).drew
      have nB : At ((wr.alloc (.cells #[] 3)).alloc (.cells #[.int .i64 x] 3)).drew (some ⟨wr.heap.size + 1, 0, none⟩) 1 1 [x] := by
        have h := (New.lit (B := 0) (wr.alloc (.cells #[] 3)) (Nat.zero_le _) [x] hx1 (by simp [maxLen])).at.drew
        rw [size_alloc1] at h; exact h
      have hC : New wr.heap.size ((wr.alloc (.cells #[.int .i64 x] 3)).alloc (.cells #[] 3)).drew (some ⟨wr.heap.size + 1, 0, none⟩) 0 0 [] := by
        have h := (New.lit (B := wr.heap.size) (wr.alloc (.cells #[.int .i64 x] 3)) (by simp) [] (fun x hx => by simp at hx) (Nat.zero_le _)).kept (Kept.refl _).drew
        rw [size_alloc1] at h; exact h
      have kC : Kept wr ((wr.alloc (.cells #[.int .i64 x] 3)).alloc (.cells #[] 3)).drew := (((Kept.refl wr).alloc _).alloc _).drew
      have nC : At ((wr.alloc (.cells #[.int .i64 x] 3)).alloc (.cells #[] 3)).drew (some ⟨wr.heap.size, 0, none⟩) 1 1 [x] :=
        ((New.lit (B := 0) wr (Nat.zero_le _) [x] hx1 (by simp [maxLen])).at.kept ((Kept.refl _).alloc _)).drew
      have hj1 : j + 1 ≤ 1000000 := by omega
      have hj0 : j ≤ 1000000 := by omega
      have hn1 : n + 1 ≤ 1000000 := by omega
      have hjr : j + 1 + r = n + 1 := by omega
      have T := Lib.hid (And.intro hA (And.intro hB0 (And.intro hC (And.intro nB nC))))
      clear hA0 hA hB0 hC nB nC
      go_region_law (first
        | (refine step_app m2 (Q2.out.kept k2) k2.size hjr hn1 rfl _ _ rfl rfl rfl ?_; intro ao3 c3 w4 m3 g3 f3; have k3 := f3 wr (Nat.le_refl _) k2)
        | (refine step_app (m1.kept ((Kept.refl _).alloc _)) (New.lit w2 (Nat.zero_le _) [x] hx1 (by simp [maxLen])).at (k1.alloc _).size rfl hj1 rfl _ _ rfl rfl rfl ?_; intro ao2 c2' w3 m2 g2 f2; have k2 := f2 wr (Nat.le_refl _) (k1.alloc _))
        | (refine step_app m1 (T.out.2.2.2.1.grown g1 (fun g o e => by cases e; simp [Value.ownBlock])) k1.size rfl hj1 rfl _ _ rfl rfl rfl ?_; intro ao2 c2' w3 m2 g2 f2; have k2 := f2 wr (Nat.le_refl _) k1)
        | (refine step_app m1 (T.out.2.2.2.2.grown g1 (fun g o e => by cases e; simp [Value.ownBlock])) k1.size rfl hj1 rfl _ _ rfl rfl rfl ?_; intro ao2 c2' w3 m2 g2 f2; have k2 := f2 wr (Nat.le_refl _) k1)
        | (refine step_app T.out.1 (Q1.out.kept kA) kA.size (Nat.zero_add j) hj0 rfl _ _ rfl rfl rfl ?_; intro ao1 c1 w2 m1 g1 f1; have k1 := f1 wr (Nat.le_refl _) kA)
        | (refine step_app T.out.2.1 (Q1.out.kept kB) kB.size (Nat.zero_add j) hj0 rfl _ _ rfl rfl rfl ?_; intro ao1 c1 w2 m1 g1 f1; have k1 := f1 wr (Nat.le_refl _) kB)
        | (refine step_app T.out.2.2.1 (Q1.out.kept kC) kC.size (Nat.zero_add j) hj0 rfl _ _ rfl rfl rfl ?_; intro ao1 c1 w2 m1 g1 f1; have k1 := f1 wr (Nat.le_refl _) kC))
      all_goals
        go_wp2
        go_ret
        exact ⟨_, _, _, rfl, by rw [ins_split HL.out HB.out.2]; exact m3.at, hk.trans k3⟩
end Go.Proofs.Ytemfnobfdmlfaaa.In
