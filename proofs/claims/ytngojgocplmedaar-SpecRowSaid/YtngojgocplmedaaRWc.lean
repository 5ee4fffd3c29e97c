/-
  The specification of layer 10: Check, with, Meet, Union; the statements' own 'ascending'.
-/
import Derived.Test.YtngojgocplmedaaRWb
import Derived.BigRegion
namespace Go.Proofs.YtngojgocplmedaaR.In
open Go.RowKit Go.Proofs.YtngojgocplmedaaR.Mem Go.Proofs.YtngojgocplmedaaR.Po Go.ChangeShapes Go.WideShapes Go.ChangeAt

theorem chk_step {x y : Int} {r : List Int} (h1 : ¬ (x < 1 ∨ 65535 < x)) (h2 : ¬ x ≤ y) : chkFrom y (x :: r) = chkFrom x r := by
  conv => lhs; unfold chkFrom
  rw [if_neg h1, if_neg h2]
theorem prev {l : List Int} {j : Nat} {x : Int} (h : l[j]? = some x) : ∀ m, j + 1 = m + 1 → l[m]? = some x := fun m e => by
  have e' : m = j := by omega
  rw [e']; exact h
set_option maxRecDepth 100000 in
theorem rcheck_c {w : World} {ao : Option Addr} {n cap : Nat} {l : List Int} (h : At w ao n cap l) : Calls Try.prog 47 #[.slice ao n cap] w fun e w' => e = .returned (.int .i64 (chk l)) ∧ Kept w w' := by
  have hn := h.n62
  unfold maxLen at hn
  have H := Lib.hid h
  clear h
  go_enter Try.func47, Try.ntmps47
  by_cases h8 : 8 < n
  · go_wp2
    go_ret
    exact ⟨by unfold chk; rw [if_pos (by rw [H.out.len]; omega)]; rfl, Kept.refl _⟩
  · have n0 : decide ((8 : Int) < (n : Int)) = false := decide_eq_false (by omega)
    go_wp2
    go_loopw [3] (fun i wr => ∃ (j : Nat) (y : Int), j ≤ n ∧ i = .int .i64 j ∧ chkFrom 0 l = chkFrom y (l.drop j) ∧ Kept w wr ∧ (j = 0 → y = 0) ∧ (∀ m, j = m + 1 → l[m]? = some y)) (fun i _ => n - (RowKit.intOf i).toNat)
    case atStart => exact ⟨0, 0, Nat.zero_le _, rfl, rfl, Kept.refl _, fun _ => rfl, fun m h => by omega⟩
    case round =>
      obtain ⟨j, y, hj, rfl, hch, hk, hy0, hy1⟩ := hrel
      have HC := Lib.hid hch
      clear hch
      have hl : ¬ 8 < l.length := by rw [H.out.len]; exact h8
      by_cases hlt : j < n
      · obtain ⟨x, g, o, hx, _, rfl, hg, hc⟩ := (H.out.kept hk).get hlt
        have HX := Lib.hid (And.intro (drop_cons hx) hx)
        clear hx
        by_cases h1 : x < 1
        · go_wp2
          go_ret
          refine ⟨?_, hk⟩
          unfold chk; rw [if_neg hl, HC.out, HX.out.1]; unfold chkFrom; rw [if_pos (.inl h1)]; rfl
        · by_cases h2 : 65535 < x
          · go_wp2
            go_ret
            refine ⟨?_, hk⟩
            unfold chk; rw [if_neg hl, HC.out, HX.out.1]; unfold chkFrom; rw [if_pos (.inr h2)]; rfl
          · rcases Nat.eq_zero_or_pos j with hj0 | hj0
            · have h3 : ¬ x ≤ y := by have := hy0 hj0; omega
              have HY := Lib.hid (And.intro h3 hy1)
              subst hj0
              clear hy0 hy1 h3
              have n1 : decide ((0 : Int) < 0) = false := rfl
              have c0 : wr.cell? ⟨g, o, none⟩ = some (.int .i64 x) := hc
              clear hc
              go_wp2_with fail
              go_quiet (fail)
              go_wp2_with fail
              go_roundw
              case rel => exact ⟨1, x, by omega, by go_num, by rw [HC.out, HX.out.1, chk_step (by omega) (by have := HY.out.1; omega)], hk.drewN nq, fun h => by omega, prev HX.out.2⟩
              case measure => simp [RowKit.intOf]; omega
            · obtain ⟨m, rfl⟩ : ∃ m, j = m + 1 := ⟨j - 1, by omega⟩
              obtain ⟨y', g2, o2, hy, _, e2, hg2, hc2⟩ := (H.out.kept hk).get (j := m) (by omega)
              cases e2
              obtain rfl : y' = y := by have := hy1 m rfl; rw [hy] at this; exact Option.some.inj this
              clear hy0 hy1 hy
              have n1 : decide ((0 : Int) < ((m + 1 : Nat) : Int)) = true := decide_eq_true (by omega)
              have n2 : ((m + 1 : Nat) : Int) - 1 = (m : Int) := by omega
              have hm1 : m < n := by omega
              by_cases h3 : x ≤ y'
              · go_wp2_with fail
                go_quiet (fail)
                go_wp2_with fail
                go_ret
                refine ⟨?_, hk.drewN nq⟩
                unfold chk; rw [if_neg hl, HC.out, HX.out.1]; unfold chkFrom; rw [if_neg (by omega), if_pos h3]; rfl
              · go_wp2_with fail
                go_quiet (fail)
                go_wp2_with fail
                go_roundw
                case rel => exact ⟨m + 2, x, by omega, by go_num, by rw [HC.out, HX.out.1, chk_step (by omega) (by omega)], hk.drewN nq, fun h => by omega, prev HX.out.2⟩
                case measure => simp [RowKit.intOf]; omega
      · obtain rfl : j = n := by omega
        go_wp2
        go_ret
        refine ⟨?_, hk⟩
        unfold chk; rw [if_neg hl, HC.out, List.drop_of_length_le (Nat.le_of_eq H.out.len)]; rfl
/-! ### with -/
/-- The first j are less than x, the one behind them is not. -/
theorem ins_split {l : List Int} {x : Int} {j : Nat} (h1 : ∀ y ∈ l.take j, y < x) (h2 : ∀ y, l[j]? = some y → x < y) : ins x l = l.take j ++ [x] ++ l.drop j := by
  have h := ins_at (n := x) (l.take j) (l.drop j) h1 (fun y hy => h2 y (by simpa [List.head?_drop] using hy))
  rw [List.take_append_drop] at h
  rw [h]; simp
theorem fit_ins {l : List Int} {x : Int} (h : Fit l) (hx : isI x) : Fit (ins x l) := fun y hy => by
  rcases mem_ins.1 hy with rfl | hy
  · exact hx
  · exact h y hy
theorem lt_take {l : List Int} {x y : Int} {j : Nat} (h : ∀ y ∈ l.take j, y < x) (hy : l[j]? = some y) (hlt : y < x) : ∀ y ∈ l.take (j + 1), y < x := fun z hz => by
  rw [List.take_add_one, List.mem_append] at hz
  rcases hz with hz | hz
  · exact h z hz
  · rw [hy] at hz; simp at hz; subst hz; exact hlt
theorem size_alloc1 (w : World) (o : Obj) : (w.alloc o).heap.size = w.heap.size + 1 := by simp
end Go.Proofs.YtngojgocplmedaaR.In
