/-
  Layer 12, plain mathematics: the errors of starts, and what Count, Keep and Within return. (Nothing here speaks of the program.)
-/
import Derived.Test.YtojgbacdniagiaaYc
namespace Go.Proofs.Ytojgbacdniagiaa.Wi
open Go.RowKit Go.ChangeShapes Go.WideShapes Go.ChangeAt
set_option linter.unusedVariables false

/-- A number is a tick. -/
def tk (n : Int) : Bool := decide (0 ≤ n) && decide (n ≤ 1099511627776)
theorem tk_iff {n : Int} : tk n = true ↔ 0 ≤ n ∧ n ≤ 1099511627776 := by unfold tk; simp
theorem tk_not {n : Int} : tk n = false ↔ ¬ (0 ≤ n ∧ n ≤ 1099511627776) := by unfold tk; simp
/-- The error of starts, behind a start b. -/
def stFrom (b : Int) : List Int → Int
  | [] => 0
  | x :: r => if tk x = false then 3 else if x < b then 13 else stFrom x r
def st (l : List Int) : Int := stFrom 0 l
/-- Starts that have no error. -/
def Good (l : List Int) : Prop := (∀ x ∈ l, 0 ≤ x ∧ x ≤ 1099511627776) ∧ l.Pairwise (· ≤ ·)
theorem stFrom_iff {b : Int} {l : List Int} : stFrom b l = 0 ↔ (∀ x ∈ l, b ≤ x) ∧ Good l := by
  induction l generalizing b with
  | nil => simp [stFrom, Good]
  | cons y l ih =>
    unfold stFrom Good
    split
    · rename_i h
      rw [tk_not] at h
      constructor
      · intro e; omega
      · rintro ⟨_, h2, _⟩; exact absurd (h2 y (by simp)) h
    · rename_i h
      have h := tk_iff.1 (by simpa using h)
      split
      · constructor
        · intro e; omega
        · rintro ⟨h2, _⟩; have := h2 y (by simp); omega
      · rw [ih, List.pairwise_cons]
        unfold Good
        constructor
        · rintro ⟨h2, h3, h4⟩
          refine ⟨fun x hx => ?_, fun x hx => ?_, h2, h4⟩
          · rcases List.mem_cons.1 hx with rfl | hx
            · omega
            · have := h2 x hx; omega
          · rcases List.mem_cons.1 hx with rfl | hx
            · exact h
            · exact h3 x hx
        · rintro ⟨h2, h3, h4, h5⟩
          exact ⟨h4, fun x hx => h3 x (by simp [hx]), h5⟩
theorem st_iff {l : List Int} : st l = 0 ↔ Good l := by
  unfold st
  rw [stFrom_iff]
  exact ⟨fun h => h.2, fun h => ⟨fun x hx => (h.1 x hx).1, h⟩⟩
theorem Good.nil : Good [] := ⟨fun x hx => by simp at hx, List.Pairwise.nil⟩
/-- The error of all functions. -/
def chkW (l : List Int) (w : Int) : Int := if w < 1 ∨ 1099511627776 < w then 3 else st l
/-- The error of Count and of Keep. -/
def errT (l : List Int) (w t : Int) : Int := if chkW l w ≠ 0 then chkW l w else if tk t = false then 3 else 0
def errM (l : List Int) (w m : Int) : Int := if chkW l w ≠ 0 then chkW l w else if m < 0 then 3 else 0
def countV (l : List Int) (w t : Int) : Int := if errT l w t = 0 then (cnt l w t : Int) else 0
def keepV (l : List Int) (w t : Int) : List Int := if errT l w t = 0 then keep w t l else []
instance (l : List Int) (w : Int) (m : Nat) : Decidable (Within l w m) := inferInstanceAs (Decidable (∀ x, x ∈ l → cnt l w x ≤ m))
def withinV (l : List Int) (w m : Int) : Bool := decide (errM l w m = 0 ∧ Within l w m.toNat)
theorem errT_ok {l : List Int} {w t : Int} (hl : Good l) (h1 : 1 ≤ w) (h2 : w ≤ 1099511627776) (h3 : 0 ≤ t) (h4 : t ≤ 1099511627776) : errT l w t = 0 := by
  have e : chkW l w = 0 := by unfold chkW; rw [if_neg (by omega)]; exact st_iff.2 hl
  unfold errT
  rw [if_neg (by rw [e]; decide), if_neg (by rw [tk_iff.2 ⟨h3, h4⟩]; decide)]
theorem errM_ok {l : List Int} {w m : Int} (hl : Good l) (h1 : 1 ≤ w) (h2 : w ≤ 1099511627776) (h3 : 0 ≤ m) : errM l w m = 0 := by
  have e : chkW l w = 0 := by unfold chkW; rw [if_neg (by omega)]; exact st_iff.2 hl
  unfold errM
  rw [if_neg (by rw [e]; decide), if_neg (by omega)]
theorem errT_chk {l : List Int} {w t : Int} (h : chkW l w ≠ 0) : errT l w t = chkW l w := if_pos h
theorem errT_tick {l : List Int} {w t : Int} (h : chkW l w = 0) (ht : tk t = false) : errT l w t = 3 := by unfold errT; rw [if_neg (by rw [h]; decide), if_pos ht]
theorem errT_zero {l : List Int} {w t : Int} (h : chkW l w = 0) (ht : tk t = true) : errT l w t = 0 := by unfold errT; rw [if_neg (by rw [h]; decide), if_neg (by rw [ht]; decide)]
theorem errM_chk {l : List Int} {w m : Int} (h : chkW l w ≠ 0) : errM l w m = chkW l w := if_pos h
theorem errM_less {l : List Int} {w m : Int} (h : chkW l w = 0) (hm : m < 0) : errM l w m = 3 := by unfold errM; rw [if_neg (by rw [h]; decide), if_pos hm]
theorem errM_zero {l : List Int} {w m : Int} (h : chkW l w = 0) (hm : ¬ m < 0) : errM l w m = 0 := by unfold errM; rw [if_neg (by rw [h]; decide), if_neg hm]
theorem chkW_zero {l : List Int} {w : Int} (h : chkW l w = 0) : (1 ≤ w ∧ w ≤ 1099511627776) ∧ Good l := by
  unfold chkW at h
  split at h
  · omega
  · exact ⟨by omega, st_iff.1 h⟩
theorem drop_cons {l : List Int} {j : Nat} {x : Int} (h : l[j]? = some x) : l.drop j = x :: l.drop (j + 1) := by
  obtain ⟨hj, e⟩ := List.getElem?_eq_some_iff.1 h
  rw [List.drop_eq_getElem_cons hj, e]
theorem take_snoc {l : List Int} {j : Nat} {x : Int} (h : l[j]? = some x) : l.take (j + 1) = l.take j ++ [x] := by rw [List.take_add_one, h]; rfl
/-- What Keep has collected from the first j starts. -/
def kpv (l : List Int) (w t : Int) (j : Nat) : List Int := if j < l.length then (l.take j).filter (fun x => decide (t - w < x)) else keep w t l
theorem keep_snoc (w t x : Int) : ∀ l : List Int, keep w t (l ++ [x]) = l.filter (fun y => decide (t - w < y)) ++ [x]
  | [] => rfl
  | [y] => by
    show keep w t [y, x] = _
    rw [keep_cons]
    by_cases e : t - w < y
    · rw [if_pos e]; simp [e, keep]
    · rw [if_neg e]; simp [e, keep]
  | y :: z :: l => by
    have ih := keep_snoc w t x (z :: l)
    rw [List.cons_append, List.cons_append, keep_cons]
    rw [List.cons_append] at ih
    rw [ih]
    by_cases e : t - w < y
    · rw [if_pos e, List.filter_cons (x := y), if_pos (by simpa using e)]; rfl
    · rw [if_neg e, List.filter_cons (x := y), if_neg (by simpa using e)]
theorem kpv_zero (l : List Int) (w t : Int) : kpv l w t 0 = [] := by
  unfold kpv
  split
  · rfl
  · have : l = [] := List.eq_nil_of_length_eq_zero (by omega)
    rw [this]; rfl
theorem kpv_last (l : List Int) (w t : Int) : kpv l w t l.length = keep w t l := if_neg (Nat.lt_irrefl _)
theorem kpv_end {l : List Int} {w t x : Int} {j : Nat} (hx : l[j]? = some x) (hj : j + 1 = l.length) : keep w t l = (l.take j).filter (fun y => decide (t - w < y)) ++ [x] := by
  have e : l = l.take j ++ [x] := by rw [← take_snoc hx, hj, List.take_length]
  rw [e, keep_snoc, ← e]
theorem kpv_put {l : List Int} {w t x : Int} {j : Nat} (hx : l[j]? = some x) (h : t - w < x ∨ j + 1 = l.length) : kpv l w t (j + 1) = kpv l w t j ++ [x] := by
  have hj := (List.getElem?_eq_some_iff.1 hx).1
  unfold kpv
  rw [if_pos hj]
  by_cases e : j + 1 < l.length
  · rw [if_pos e, take_snoc hx, List.filter_append]
    rcases h with h | h
    · simp [h]
    · omega
  · rw [if_neg e]
    exact kpv_end hx (by omega)
theorem kpv_skip {l : List Int} {w t x : Int} {j : Nat} (hx : l[j]? = some x) (h : ¬ t - w < x) (h1 : ¬ j + 1 = l.length) : kpv l w t (j + 1) = kpv l w t j := by
  have hj := (List.getElem?_eq_some_iff.1 hx).1
  unfold kpv
  rw [if_pos hj, if_pos (by omega), take_snoc hx, List.filter_append]
  simp [h]
/-- Each but the last one of what is kept is in the interval. -/
theorem keep_but {w t : Int} {l : List Int} {i : Nat} {x : Int} (h : (keep w t l)[i]? = some x) (hi : i + 1 < (keep w t l).length) : t - w < x := by
  rcases List.eq_nil_or_concat l with rfl | ⟨m, y, rfl⟩
  · simp [keep] at h
  · rw [List.concat_eq_append, keep_snoc] at h hi
    rw [List.length_append] at hi
    rw [List.getElem?_append_left (by simp at hi; omega)] at h
    have := List.mem_filter.1 (List.mem_of_getElem? h)
    simpa using this.2
theorem keep_good {w t : Int} {l : List Int} (h : Good l) : Good (keep w t l) := by
  rw [keep_drop h.2]
  exact ⟨fun x hx => h.1 x (List.mem_of_mem_drop hx), h.2.sublist (List.drop_sublist _ _)⟩
theorem keepV_ok {l : List Int} {v t : Int} (h : errT l v t = 0) : keepV l v t = keep v t l := if_pos h
theorem keepV_bad {l : List Int} {v t : Int} (h : ¬ errT l v t = 0) : keepV l v t = [] := if_neg h
theorem withinV_ok {l : List Int} {v m : Int} (h : errM l v m = 0) : withinV l v m = decide (Within l v m.toNat) := by unfold withinV; simp [h]
theorem withinV_bad {l : List Int} {v m : Int} (h : ¬ errM l v m = 0) : withinV l v m = false := by unfold withinV; simp [h]
theorem last_all {l : List Int} {y : Int} (h : Good l) (hy : l[l.length - 1]? = some y) : ∀ x ∈ l, x ≤ y := by
  intro x hx
  obtain ⟨i, hi, rfl⟩ := List.getElem_of_mem hx
  obtain ⟨hj, rfl⟩ := List.getElem?_eq_some_iff.1 hy
  by_cases e : i = l.length - 1
  · subst e; exact Int.le_refl _
  · exact List.pairwise_iff_getElem.1 h.2 i (l.length - 1) hi hj (by omega)
/-! ### n modulo m, as the statements reckon it -/
theorem tmod_mod (x m : Int) (h : 1 ≤ m) : (x.tmod m + m).tmod m = x % m := by
  have h1 := Int.lt_tmod_of_pos x (b := m) (by omega)
  rw [Int.tmod_eq_emod_of_nonneg (by omega), Int.add_emod_right]
  have e := Int.mul_tdiv_add_tmod x m
  conv => rhs; rw [← e]
  rw [Int.mul_add_emod_self_left]
theorem red_eq (n m : Int) (h : 1 ≤ m) (h' : m ≤ 1099511627776) : ∃ N : Nat, (wrap64 (n.tmod m + m)).tmod m = (N : Int) ∧ (N : Int) < m := by
  have h1 := Int.lt_tmod_of_pos n (b := m) (by omega)
  have h2 := Int.tmod_lt_of_pos n (b := m) (by omega)
  have e1 : wrap64 (n.tmod m + m) = n.tmod m + m := by unfold wrap64; omega
  rw [e1, tmod_mod n m h]
  have h3 := Int.emod_nonneg n (b := m) (by omega)
  have h4 := Int.emod_lt_of_pos n (b := m) (by omega)
  exact ⟨(n % m).toNat, by omega, by omega⟩
/-- The starts that are given by distances, one more. -/
theorem Good.snoc {l : List Int} {y z : Int} (h : Good l) (hy : ∀ x ∈ l, x ≤ y) (hz : y ≤ z) (h0 : 0 ≤ z) (h1 : z ≤ 1099511627776) : Good (l ++ [z]) ∧ ∀ x ∈ l ++ [z], x ≤ z := by
  refine ⟨⟨fun x hx => ?_, ?_⟩, fun x hx => ?_⟩
  · rcases List.mem_append.1 hx with hx | hx
    · exact h.1 x hx
    · rw [List.mem_singleton] at hx; omega
  · refine List.pairwise_append.2 ⟨h.2, List.pairwise_singleton _ _, fun a ha b hb => ?_⟩
    rw [List.mem_singleton] at hb
    have := hy a ha; omega
  · rcases List.mem_append.1 hx with hx | hx
    · have := hy x hx; omega
    · rw [List.mem_singleton] at hx; omega
end Go.Proofs.Ytojgbacdniagiaa.Wi
