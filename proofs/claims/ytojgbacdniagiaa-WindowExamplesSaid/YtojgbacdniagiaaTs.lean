/-
  Layer 12, plain mathematics: starts in an interval lie side by side; what Keep keeps; Within by starts that follow each other. (Nothing here speaks of the program.)
-/
import Derived.Test.YtojgbacdniagiaaTa
namespace Go.Proofs.Ytojgbacdniagiaa.Wi
open Go.RowKit Go.ChangeShapes Go.WideShapes Go.ChangeAt
set_option linter.unusedVariables false

/-- How many numbers are at most a. -/
def lo (l : List Int) (a : Int) : Nat := l.countP (fun x => decide (x ≤ a))
theorem lo_le (l : List Int) (a : Int) : lo l a ≤ l.length := List.countP_le_length
theorem lo_snoc (l : List Int) (x a : Int) : lo (l ++ [x]) a = lo l a + if x ≤ a then 1 else 0 := by
  unfold lo; rw [List.countP_append, List.countP_cons, List.countP_nil]; simp
theorem drop_lo {a : Int} : ∀ {p : List Int}, p.Pairwise (· ≤ ·) → p.drop (lo p a) = p.filter (fun x => decide (a < x))
  | [], _ => rfl
  | x :: r, h => by
    obtain ⟨h1, h2⟩ := List.pairwise_cons.1 h
    by_cases e : x ≤ a
    · have : lo (x :: r) a = lo r a + 1 := by unfold lo; rw [List.countP_cons, if_pos (by simpa using e)]
      rw [this, List.drop_succ_cons, drop_lo h2, List.filter_cons, if_neg (by simp; omega)]
    · have h0 : lo (x :: r) a = 0 := by
        unfold lo
        refine List.countP_eq_zero.2 fun y hy => ?_
        rcases List.mem_cons.1 hy with rfl | hy
        · simpa using e
        · have := h1 y hy; simp; omega
      rw [h0, List.drop_zero]
      symm
      refine List.filter_eq_self.2 fun y hy => ?_
      rcases List.mem_cons.1 hy with rfl | hy
      · simp; omega
      · have := h1 y hy; simp; omega
/-- The starts that are greater than a and at most b. -/
def amg (l : List Int) (a b : Int) : List Int := l.filter (fun x => decide (a < x) && decide (x ≤ b))
theorem amg_cut {l : List Int} {a b : Int} {j : Nat} (h : l.Pairwise (· ≤ ·)) (h1 : ∀ x ∈ l.take j, x ≤ b) (h2 : ∀ x ∈ l.drop j, b < x) : amg l a b = (l.take j).drop (lo (l.take j) a) := by
  rw [drop_lo (h.sublist (List.take_sublist _ _))]
  conv => lhs; rw [← List.take_append_drop j l]
  unfold amg
  have e0 : (l.drop j).filter (fun x => decide (a < x) && decide (x ≤ b)) = [] := List.filter_eq_nil_iff.2 fun x hx => by have := h2 x hx; simp; omega
  rw [List.filter_append, e0, List.append_nil]
  refine List.filter_congr fun x hx => ?_
  have := h1 x hx
  rw [decide_eq_true (p := x ≤ b) this, Bool.and_true]
theorem amg_cnt (l : List Int) (v t : Int) : (amg l (t - v) t).length = cnt l v t := by
  unfold amg cnt
  rw [List.countP_eq_length_filter]
  rfl
/-- From a place on where a start is greater than b, all are. -/
theorem drop_gt {l : List Int} {j : Nat} {x b : Int} (h : l.Pairwise (· ≤ ·)) (hx : l[j]? = some x) (hb : b < x) : ∀ y ∈ l.drop j, b < y := by
  intro y hy
  have h2 := h.sublist (List.drop_sublist j l)
  rw [drop_cons hx] at hy h2
  rcases List.mem_cons.1 hy with rfl | hy
  · exact hb
  · have := (List.pairwise_cons.1 h2).1 y hy; omega
theorem amg_all {l : List Int} {a b : Int} (h : ∀ x ∈ l, x ≤ b) : amg l a b = l.filter (fun x => decide (a < x)) := by
  unfold amg
  refine List.filter_congr fun x hx => ?_
  rw [decide_eq_true (p := x ≤ b) (h x hx), Bool.and_true]
/-- What Keep keeps. -/
theorem keep_amg {l : List Int} {v t : Int} (h : Good l) (hne : amg l (t - v) 1099511627776 ≠ []) : keep v t l = amg l (t - v) 1099511627776 := by
  rw [amg_all (fun x hx => (h.1 x hx).2)] at *
  rcases List.eq_nil_or_concat l with rfl | ⟨m, y, rfl⟩
  · rfl
  · rw [List.concat_eq_append] at *
    rw [keep_snoc, List.filter_append]
    obtain ⟨z, hz⟩ := List.exists_mem_of_ne_nil _ hne
    obtain ⟨z1, z2⟩ := List.mem_filter.1 hz
    have z2 : t - v < z := by simpa using z2
    have hzy : z ≤ y := by
      rcases List.mem_append.1 z1 with z1 | z1
      · exact (List.pairwise_append.1 h.2).2.2 z z1 y (by simp)
      · rw [List.mem_singleton] at z1; omega
    congr 1
    rw [List.filter_cons, if_pos (by simp; omega)]; rfl
theorem keep_one {l : List Int} {v t : Int} (h : Good l) (he : amg l (t - v) 1099511627776 = []) : keep v t l = l.drop (l.length - 1) := by
  rw [amg_all (fun x hx => (h.1 x hx).2)] at *
  rcases List.eq_nil_or_concat l with rfl | ⟨m, y, rfl⟩
  · rfl
  · rw [List.concat_eq_append] at *
    rw [List.filter_append] at he
    rw [keep_snoc, (List.append_eq_nil_iff.1 he).1, List.nil_append, List.length_append]
    show [y] = (m ++ [y]).drop (m.length + 1 - 1)
    rw [Nat.add_sub_cancel, List.drop_left]
/-- Two starts with k others between them are less than v apart. -/
def Near (l : List Int) (v : Int) (k : Nat) : Prop := ∃ i x y, l[i + k]? = some x ∧ l[i]? = some y ∧ x - y < v
theorem near_not {l : List Int} {v : Int} {k : Nat} (h : Good l) (hn : Near l v k) : ¬ Within l v k := by
  obtain ⟨i, x, y, hx, hy, hd⟩ := hn
  intro hw
  have h1 := hw x (List.mem_of_getElem? hx)
  obtain ⟨hi, e⟩ := List.getElem?_eq_some_iff.1 hx
  obtain ⟨hi2, e2⟩ := List.getElem?_eq_some_iff.1 hy
  have hs : ((l.take (i + k + 1)).drop i).Sublist l := (List.drop_sublist _ _).trans (List.take_sublist _ _)
  have h2 : ((l.take (i + k + 1)).drop i).countP (inW v x) ≤ l.countP (inW v x) := hs.countP_le
  have h3 : ((l.take (i + k + 1)).drop i).countP (inW v x) = ((l.take (i + k + 1)).drop i).length := by
    refine List.countP_eq_length.2 fun z hz => ?_
    obtain ⟨q, hq, rfl⟩ := List.getElem_of_mem hz
    rw [List.length_drop, List.length_take] at hq
    have e3 : ((l.take (i + k + 1)).drop i)[q]'(by rw [List.length_drop, List.length_take]; exact hq) = l[i + q]'(by omega) := by simp
    rw [e3, inW_iff]
    have u1 : l[i + q]'(by omega) ≤ x := by
      rw [← e]
      by_cases eq : q = k
      · subst eq; exact Int.le_refl _
      · exact List.pairwise_iff_getElem.1 h.2 (i + q) (i + k) (by omega) hi (by omega)
    have u2 : y ≤ l[i + q]'(by omega) := by
      rw [← e2]
      by_cases eq : q = 0
      · subst eq; exact Int.le_refl _
      · exact List.pairwise_iff_getElem.1 h.2 i (i + q) hi2 (by omega) (by omega)
    omega
  rw [List.length_drop, List.length_take] at h3
  unfold cnt at h1
  omega
theorem not_near {l : List Int} {v : Int} {k : Nat} (h : Good l) (hn : ¬ Near l v k) : Within l v k := by
  intro x hx
  apply Classical.byContradiction
  intro hc
  apply hn
  have hc : k + 1 ≤ cnt l v x := by omega
  rw [← amg_cnt] at hc
  obtain ⟨i, hi, e⟩ := List.getElem_of_mem hx
  -- the starts that are at most x are the first ones
  have hj : ∃ j, (∀ y ∈ l.take j, y ≤ x) ∧ (∀ y ∈ l.drop j, x < y) := by
    refine ⟨lo l x, fun y hy => ?_, fun y hy => ?_⟩
    · obtain ⟨q, hq, rfl⟩ := List.getElem_of_mem hy
      rw [List.length_take] at hq
      rw [List.getElem_take]
      apply Classical.byContradiction
      intro hgt
      have hgt : x < l[q]'(by omega) := by omega
      have h5 := drop_gt (j := q) h.2 (List.getElem?_eq_getElem (by omega)) hgt
      have h6 : lo l x = lo (l.take q) x := by
        unfold lo
        conv => lhs; rw [← List.take_append_drop q l, List.countP_append]
        have e0 : (l.drop q).countP (fun z => decide (z ≤ x)) = 0 := List.countP_eq_zero.2 fun z hz => by have := h5 z hz; simp; omega
        rw [e0]; rfl
      have h7 := lo_le (l.take q) x
      rw [List.length_take] at h7
      omega
    · rw [drop_lo h.2] at hy
      simpa using (List.mem_filter.1 hy).2
  obtain ⟨j, j1, j2⟩ := hj
  have e2 := amg_cut (a := x - v) h.2 j1 j2
  generalize hf : lo (l.take j) (x - v) = f at e2
  have hm : ∀ y ∈ (l.take j).drop f, x - v < y ∧ y ≤ x := fun y hy => by
    rw [← e2] at hy
    have := (List.mem_filter.1 hy).2
    simpa using this
  rw [e2, List.length_drop, List.length_take] at hc
  have g1 : l[f + k]? = some (l[f + k]'(by omega)) := List.getElem?_eq_getElem (by omega)
  have g2 : l[f]? = some (l[f]'(by omega)) := List.getElem?_eq_getElem (by omega)
  refine ⟨f, _, _, g1, g2, ?_⟩
  have m1 := hm (l[f + k]'(by omega)) (List.mem_of_getElem? (i := k) (by rw [List.getElem?_drop, List.getElem?_take_of_lt (by omega)]; exact g1))
  have m2 := hm (l[f]'(by omega)) (List.mem_of_getElem? (i := 0) (by rw [List.getElem?_drop, List.getElem?_take_of_lt (by omega)]; exact g2))
  omega
theorem within_near {l : List Int} {v : Int} {k : Nat} (h : Good l) : Within l v k ↔ ¬ Near l v k := ⟨fun hw hn => near_not h hn hw, not_near h⟩
end Go.Proofs.Ytojgbacdniagiaa.Wi
