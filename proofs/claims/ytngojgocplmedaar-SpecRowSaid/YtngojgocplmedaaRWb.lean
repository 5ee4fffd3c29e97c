/-
  Lists of numbers: two lists compared, a list copied, whether a number is in a list, whether a list is ascending; Check of a set of ports. The program's and the specification's.
-/
import Derived.Test.YtngojgocplmedaaRWa
import Derived.BigQuiet
import Derived.RegionTactic
import Derived.Outline
namespace Go.Proofs.YtngojgocplmedaaR.In
open Go.RowKit Go.Proofs.YtngojgocplmedaaR.Mem Go.Proofs.YtngojgocplmedaaR.Po Go.ChangeShapes Go.WideShapes Go.ChangeAt

set_option maxRecDepth 100000 in
/-- Equal lists are said to be equal. -/
theorem eq_c {w : World} {ao bo : Option Addr} {n cap m c : Nat} {l k : List Int} (h : At w ao n cap l) (s : At w bo m c k) (e : l = k) : Calls Try.prog 34 #[.slice ao n cap, .slice bo m c] w fun e w' => e = .returned (.bool true) ∧ Kept w w' := by
  subst e
  obtain rfl : n = m := by rw [← h.len, s.len]
  have hn := h.n62
  unfold maxLen at hn
  have H := Lib.hid h
  have S := Lib.hid s
  clear h s
  go_enter Try.func34, Try.ntmps34
  go_wp2
  go_loopw [5] (fun i wr => ∃ j : Nat, j ≤ n ∧ i = .int .i64 j ∧ Kept w wr) (fun i _ => n - (RowKit.intOf i).toNat)
  case atStart => exact ⟨0, Nat.zero_le _, rfl, Kept.refl _⟩
  case round =>
    obtain ⟨j, hj, rfl, hk⟩ := hrel
    by_cases hlt : j < n
    · obtain ⟨x, g, o, hx, _, rfl, hg, hc⟩ := (H.out.kept hk).get hlt
      obtain ⟨y, g2, o2, hy, _, rfl, hg2, hc2⟩ := (S.out.kept hk).get hlt
      obtain rfl : x = y := by rw [hx] at hy; exact Option.some.inj hy
      have n1 : (x != x) = false := by simp
      clear hx hy
      go_wp2_with fail
      go_quiet (fail)
      go_wp2_with fail
      go_roundw
      case rel => exact ⟨j + 1, by omega, by go_num, hk.drewN nq⟩
      case measure => simp [RowKit.intOf]; omega
    · obtain rfl : j = n := by omega
      go_wp2
      go_ret
      exact ⟨rfl, hk⟩

set_option maxRecDepth 100000 in
/-- A copy. -/
theorem copy_c {w : World} {ao : Option Addr} {n cap : Nat} {l : List Int} (h : At w ao n cap l) (hn : n ≤ 1000000) : Calls Try.prog 24 #[.slice ao n cap] w fun e w' => ∃ bo c, e = .returned (.slice bo n c) ∧ New w.heap.size w' bo n c l ∧ Kept w w' := by
  have H := Lib.hid h
  clear h
  go_enter Try.func24, Try.ntmps24
  go_wp2_with (at_builtin; refine wpList_app (New.empty w.heap.size w) H.out (Nat.le_refl _) (Nat.zero_add n) hn rfl _ _ rfl rfl rfl ?_; intro bo c w1 hnew hg hb)
  go_ret
  exact ⟨bo, c, rfl, by simpa using hnew, hb w (Nat.le_refl _) (Kept.refl w)⟩

/-! ### Has -/
def has (l : List Int) (x : Int) : Bool := decide (x ∈ l)
theorem has_take {l : List Int} {x y : Int} {j : Nat} (h : ¬ x ∈ l.take j) (hy : l[j]? = some y) (hne : ¬ y = x) : ¬ x ∈ l.take (j + 1) := by
  rw [List.take_add_one, List.mem_append]
  rintro (h2 | h2)
  · exact h h2
  · rw [hy] at h2; simp at h2; exact hne h2.symm
/-! ### Check -/
def chkFrom (b : Int) : List Int → Int
  | [] => 0
  | x :: r => if x < 1 ∨ 65535 < x then 3 else if x ≤ b then 13 else chkFrom x r
def chk (l : List Int) : Int := if 8 < l.length then 5 else chkFrom 0 l
theorem chk_from {b : Int} {l : List Int} (hb : 0 ≤ b) : chkFrom b l = 0 ↔ (∀ x ∈ l, b < x ∧ 1 ≤ x ∧ x ≤ 65535) ∧ Asc l := by
  induction l generalizing b with
  | nil => simp [chkFrom, Asc]
  | cons y l ih =>
    unfold chkFrom
    split
    · rename_i h
      constructor
      · intro h2; omega
      · rintro ⟨h2, _⟩; have := h2 y (by simp); omega
    · rename_i h
      split
      · rename_i h1
        constructor
        · intro h2; omega
        · rintro ⟨h2, _⟩; have := h2 y (by simp); omega
      · rename_i h1
        rw [ih (by omega)]
        unfold Asc
        rw [List.pairwise_cons]
        constructor
        · rintro ⟨h2, h3⟩
          refine ⟨fun x hx => ?_, fun x hx => (h2 x hx).1, h3⟩
          rcases List.mem_cons.1 hx with rfl | hx
          · omega
          · have := h2 x hx; omega
        · rintro ⟨h2, h3, h4⟩
          exact ⟨fun x hx => ⟨h3 x hx, (h2 x (by simp [hx])).2⟩, h4⟩
theorem chk_set (l : List Int) : chk l = 0 ↔ isSet l := by
  unfold chk isSet
  split
  · constructor
    · intro h; omega
    · rintro ⟨h, _⟩; omega
  · rw [chk_from (by omega)]
    constructor
    · rintro ⟨h1, h2⟩; exact ⟨by omega, h2, fun x hx => (h1 x hx).2⟩
    · rintro ⟨_, h2, h3⟩; exact ⟨fun x hx => by have := h3 x hx; omega, h2⟩
theorem drop_cons {l : List Int} {j : Nat} {x : Int} (h : l[j]? = some x) : l.drop j = x :: l.drop (j + 1) := by
  have hj := (List.getElem?_eq_some_iff.1 h)
  obtain ⟨hj, e⟩ := hj
  rw [List.drop_eq_getElem_cons hj, e]
set_option maxRecDepth 100000 in
theorem check_c {w : World} {ao : Option Addr} {n cap : Nat} {l : List Int} (h : At w ao n cap l) : Calls Try.prog 41 #[.slice ao n cap] w fun e w' => e = .returned (.int .i64 (chk l)) ∧ Kept w w' := by
  have hn := h.n62
  unfold maxLen at hn
  have H := Lib.hid h
  clear h
  go_enter Try.func41, Try.ntmps41
  by_cases h8 : 8 < n
  · go_wp2
    go_ret
    exact ⟨by unfold chk; rw [if_pos (by rw [H.out.len]; omega)]; rfl, Kept.refl _⟩
  · have n0 : decide ((8 : Int) < (n : Int)) = false := decide_eq_false (by omega)
    go_wp2
    go_loopw [3, 11] (fun b i wr => ∃ (j : Nat) (y : Int), j ≤ n ∧ i = .int .i64 j ∧ b = .int .i64 y ∧ chkFrom 0 l = chkFrom y (l.drop j) ∧ Kept w wr) (fun _ i _ => n - (RowKit.intOf i).toNat)
    case atStart => exact ⟨0, 0, Nat.zero_le _, rfl, rfl, rfl, Kept.refl _⟩
    case round =>
      obtain ⟨j, y, hj, rfl, rfl, hch, hk⟩ := hrel
      have HC := Lib.hid hch
      clear hch
      by_cases hlt : j < n
      · obtain ⟨x, g, o, hx, _, rfl, hg, hc⟩ := (H.out.kept hk).get hlt
        have HX := Lib.hid (drop_cons hx)
        clear hx
        have hl : ¬ 8 < l.length := by rw [H.out.len]; exact h8
        by_cases h1 : x < 1
        · go_wp2
          go_ret
          refine ⟨?_, hk⟩
          unfold chk; rw [if_neg hl, HC.out, HX.out]; unfold chkFrom; rw [if_pos (.inl h1)]; rfl
        · by_cases h2 : 65535 < x
          · go_wp2
            go_ret
            refine ⟨?_, hk⟩
            unfold chk; rw [if_neg hl, HC.out, HX.out]; unfold chkFrom; rw [if_pos (.inr h2)]; rfl
          · by_cases h3 : x ≤ y
            · go_wp2
              go_ret
              refine ⟨?_, hk⟩
              unfold chk; rw [if_neg hl, HC.out, HX.out]; unfold chkFrom; rw [if_neg (by omega), if_pos h3]; rfl
            · go_wp2
              go_roundw
              case rel => exact ⟨j + 1, x, by omega, by go_num, rfl, by rw [HC.out, HX.out]; conv => lhs; unfold chkFrom
                                                                        rw [if_neg (by omega), if_neg h3], hk⟩
              case measure => simp [RowKit.intOf]; omega
      · obtain rfl : j = n := by omega
        go_wp2
        go_ret
        refine ⟨?_, hk⟩
        unfold chk; rw [if_neg (by rw [H.out.len]; exact h8), HC.out, List.drop_of_length_le (Nat.le_of_eq H.out.len)]; rfl
end Go.Proofs.YtngojgocplmedaaR.In
