/-
  Two lists of ints compared, whatever they are.
-/
import Derived.Test.YtngojgocplmedaaRZq
import Derived.Test.YtngojgocplmedaaRWb
import Derived.Deep.Slices
namespace Go.Proofs.YtngojgocplmedaaR.Ls
open Go.RowKit Go.Proofs.YtngojgocplmedaaR.Mem Go.Proofs.YtngojgocplmedaaR.In Go.ChangeShapes Go.WideShapes Go.ChangeAt
set_option linter.unusedVariables false

/-! ### Two lists of numbers compared -/
theorem take_eq_step {α : Type} {l k : List α} {j : Nat} {x : α} (h : l.take j = k.take j) (hl : l[j]? = some x) (hk : k[j]? = some x) : l.take (j + 1) = k.take (j + 1) := by
  rw [List.take_add_one, List.take_add_one, h, hl, hk]
theorem ne_at {α : Type} {l k : List α} {j : Nat} {x y : α} (hl : l[j]? = some x) (hk : k[j]? = some y) (hne : ¬ x = y) : ¬ l = k := fun e => by
  subst e
  rw [hl] at hk
  exact hne (Option.some.inj hk)
set_option maxRecDepth 100000 in
theorem eqi_c {w : World} {ao bo : Option Addr} {n cap m c : Nat} {l k : List Int} (h : At w ao n cap l) (s : At w bo m c k) : Calls Try.prog 34 #[.slice ao n cap, .slice bo m c] w fun e w' => e = .returned (.bool (decide (l = k))) ∧ Kept w w' := by
  have hn := h.n62
  have hm := s.n62
  unfold maxLen at hn hm
  have H := Lib.hid h
  have S := Lib.hid s
  clear h s
  go_enter Try.func34, Try.ntmps34
  by_cases hnm : n = m
  · subst hnm
    have n0 : ((n : Int) != (n : Int)) = false := by simp
    go_wp2
    go_loopw [5] (fun i wr => ∃ j : Nat, j ≤ n ∧ i = .int .i64 j ∧ Kept w wr ∧ l.take j = k.take j) (fun i _ => n - (RowKit.intOf i).toNat)
    case atStart => exact ⟨0, Nat.zero_le _, rfl, Kept.refl _, rfl⟩
    case round =>
      obtain ⟨j, hj, rfl, hk, hsame⟩ := hrel
      have HE := Lib.hid hsame
      clear hsame
      by_cases hlt : j < n
      · obtain ⟨x, g, o, hx, _, rfl, hg, hc⟩ := (H.out.kept hk).get hlt
        obtain ⟨y, g2, o2, hy, _, rfl, hg2, hc2⟩ := (S.out.kept hk).get hlt
        have HX := Lib.hid (And.intro hx hy)
        clear hx hy
        by_cases hxy : x = y
        · subst hxy
          have n1 : (x != x) = false := by simp
          go_wp2_with fail
          go_quiet (fail)
          go_wp2_with fail
          go_roundw
          case rel => exact ⟨j + 1, by omega, by go_num, hk.drewN nq, take_eq_step HE.out HX.out.1 HX.out.2⟩
          case measure => simp [RowKit.intOf]; omega
        · have n1 : (x != y) = true := by simpa using hxy
          have HN := Lib.hid hxy
          clear hxy
          go_wp2_with fail
          go_quiet (fail)
          go_wp2_with fail
          go_ret
          exact ⟨by rw [decide_eq_false (ne_at HX.out.1 HX.out.2 HN.out)]; rfl, hk.drewN nq⟩
      · obtain rfl : j = n := by omega
        go_wp2
        go_ret
        refine ⟨?_, hk⟩
        have e := HE.out
        rw [List.take_of_length_le (Nat.le_of_eq H.out.len), List.take_of_length_le (Nat.le_of_eq S.out.len)] at e
        rw [decide_eq_true e]; rfl
  · have n0 : ((n : Int) != (m : Int)) = true := by simp; omega
    have hne : ¬ l = k := fun e => hnm (by rw [← H.out.len, ← S.out.len, e])
    have HN := Lib.hid hne
    clear hne
    go_wp2
    go_ret
    exact ⟨by rw [decide_eq_false HN.out]; rfl, Kept.refl _⟩
end Go.Proofs.YtngojgocplmedaaR.Ls
