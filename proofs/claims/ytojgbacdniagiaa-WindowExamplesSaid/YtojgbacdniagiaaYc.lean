/-
  Layer 12, plain mathematics: how many starts lie in an interval. (Nothing here speaks of the program.)
-/
import Derived.Test.YtojgbacdniagiaaBa
namespace Go.Proofs.Ytojgbacdniagiaa.Wi
set_option linter.unusedVariables false

def inW (w t x : Int) : Bool := decide (t - w < x) && decide (x ≤ t)
theorem inW_iff {w t x : Int} : inW w t x = true ↔ t - w < x ∧ x ≤ t := by unfold inW; simp
def cnt (l : List Int) (w t : Int) : Nat := l.countP (inW w t)
theorem cnt_nil (w t : Int) : cnt [] w t = 0 := rfl
theorem cnt_cons (x : Int) (l : List Int) (w t : Int) : cnt (x :: l) w t = cnt l w t + if inW w t x = true then 1 else 0 := by unfold cnt; rw [List.countP_cons]
theorem cnt_append (l m : List Int) (w t : Int) : cnt (l ++ m) w t = cnt l w t + cnt m w t := by unfold cnt; rw [List.countP_append]
theorem cnt_snoc (l : List Int) (x w t : Int) : cnt (l ++ [x]) w t = cnt l w t + if inW w t x = true then 1 else 0 := by rw [cnt_append, cnt_cons, cnt_nil]; omega
theorem cnt_le (l : List Int) (w t : Int) : cnt l w t ≤ l.length := List.countP_le_length
/-- Where whatever is counted in one is counted in the other. -/
theorem cnt_mono {l : List Int} {w t w' t' : Int} (h : ∀ x, x ∈ l → inW w t x = true → inW w' t' x = true) : cnt l w t ≤ cnt l w' t' := by
  induction l with
  | nil => exact Nat.le_refl _
  | cons x l ih =>
    rw [cnt_cons, cnt_cons]
    have h1 := ih fun y hy => h y (by simp [hy])
    by_cases e : inW w t x = true
    · rw [if_pos e, if_pos (h x (by simp) e)]; omega
    · rw [if_neg e]; omega
theorem cnt_same {l : List Int} {w t w' t' : Int} (h : ∀ x, x ∈ l → (inW w t x = true ↔ inW w' t' x = true)) : cnt l w t = cnt l w' t' :=
  Nat.le_antisymm (cnt_mono fun x hx => (h x hx).1) (cnt_mono fun x hx => (h x hx).2)
theorem cnt_narrow {l : List Int} {w w' : Int} (h : w' ≤ w) (t : Int) : cnt l w' t ≤ cnt l w t := cnt_mono fun x _ hx => by rw [inW_iff] at hx ⊢; omega
theorem cnt_parts (l : List Int) {v u : Int} (hv : 0 ≤ v) (hu : 0 ≤ u) (t : Int) : cnt l (v + u) t = cnt l u t + cnt l v (t - u) := by
  induction l with
  | nil => rfl
  | cons x l ih =>
    rw [cnt_cons, cnt_cons, cnt_cons, ih]
    have key : (if inW (v + u) t x = true then 1 else 0) = (if inW u t x = true then 1 else 0) + (if inW v (t - u) x = true then 1 else 0) := by
      unfold inW
      by_cases a : t - u < x
      · have a2 : ¬ x ≤ t - u := by omega
        have a3 : t - (v + u) < x := by omega
        simp [a, a2, a3]
      · have a2 : x ≤ t - u := by omega
        have a4 : x ≤ t := by omega
        by_cases c : t - (v + u) < x
        · have c2 : t - u - v < x := by omega
          simp [a, a2, a4, c, c2]
        · have c2 : ¬ t - u - v < x := by omega
          simp [a, c, c2]
    omega
theorem cnt_move (l : List Int) (w t d : Int) : cnt (l.map (· + d)) w (t + d) = cnt l w t := by
  induction l with
  | nil => rfl
  | cons x l ih =>
    rw [List.map_cons, cnt_cons, cnt_cons, ih]
    have : inW w (t + d) (x + d) = inW w t x := by unfold inW; congr 1 <;> (simp only [decide_eq_decide]; omega)
    rw [this]
/-- An interval with any start in it may be moved until it ends with one. -/
theorem cnt_most {l : List Int} {w t : Int} (h : 0 < cnt l w t) : ∃ x, x ∈ l ∧ x ≤ t ∧ t - w < x ∧ ∀ y, y ∈ l → y ≤ t → y ≤ x := by
  induction l with
  | nil => exact absurd h (Nat.lt_irrefl _)
  | cons y l ih =>
    rw [cnt_cons] at h
    by_cases hy : inW w t y = true
    · have hy2 := inW_iff.1 hy
      by_cases hl : 0 < cnt l w t
      · obtain ⟨x, h1, h2, h3, h4⟩ := ih hl
        by_cases e : x < y
        · refine ⟨y, by simp, hy2.2, hy2.1, fun z hz hzt => ?_⟩
          rcases List.mem_cons.1 hz with rfl | hz
          · exact Int.le_refl _
          · have := h4 z hz hzt; omega
        · refine ⟨x, by simp [h1], h2, h3, fun z hz hzt => ?_⟩
          rcases List.mem_cons.1 hz with rfl | hz
          · omega
          · exact h4 z hz hzt
      · refine ⟨y, by simp, hy2.2, hy2.1, fun z hz hzt => ?_⟩
        rcases List.mem_cons.1 hz with rfl | hz
        · exact Int.le_refl _
        · by_cases hzw : t - w < z
          · exfalso
            apply hl
            unfold cnt
            exact List.countP_pos_iff.2 ⟨z, hz, inW_iff.2 ⟨hzw, hzt⟩⟩
          · omega
    · rw [if_neg hy] at h
      obtain ⟨x, h1, h2, h3, h4⟩ := ih h
      refine ⟨x, by simp [h1], h2, h3, fun z hz hzt => ?_⟩
      rcases List.mem_cons.1 hz with rfl | hz
      · rw [inW_iff] at hy; omega
      · exact h4 z hz hzt
theorem cnt_start {l : List Int} {w t : Int} (h : 0 < cnt l w t) : ∃ x, x ∈ l ∧ cnt l w t ≤ cnt l w x := by
  obtain ⟨x, h1, h2, h3, h4⟩ := cnt_most h
  refine ⟨x, h1, cnt_mono fun y hy hi => ?_⟩
  rw [inW_iff] at hi ⊢
  exact ⟨by omega, h4 y hy hi.2⟩
def Within (l : List Int) (w : Int) (m : Nat) : Prop := ∀ x, x ∈ l → cnt l w x ≤ m
theorem within_iff {l : List Int} {w : Int} {m : Nat} : Within l w m ↔ ∀ t, cnt l w t ≤ m := by
  constructor
  · intro h t
    by_cases e : 0 < cnt l w t
    · obtain ⟨x, hx, hc⟩ := cnt_start e
      exact Nat.le_trans hc (h x hx)
    · omega
  · exact fun h x _ => h x
theorem within_front {l m : List Int} {w : Int} {k : Nat} (h : Within (l ++ m) w k) : Within l w k := within_iff.2 fun t => by have := within_iff.1 h t; rw [cnt_append] at this; omega
theorem within_back {l m : List Int} {w : Int} {k : Nat} (h : Within (l ++ m) w k) : Within m w k := within_iff.2 fun t => by have := within_iff.1 h t; rw [cnt_append] at this; omega
theorem within_narrow {l : List Int} {w w' : Int} {k : Nat} (h : Within l w k) (hw : w' ≤ w) : Within l w' k := fun x hx => Nat.le_trans (cnt_narrow hw x) (h x hx)
theorem within_move {l : List Int} {w d : Int} {k : Nat} : Within (l.map (· + d)) w k ↔ Within l w k := by
  constructor
  · intro h x hx
    have := h (x + d) (List.mem_map.2 ⟨x, hx, rfl⟩)
    rwa [cnt_move] at this
  · intro h y hy
    obtain ⟨x, hx, rfl⟩ := List.mem_map.1 hy
    rw [cnt_move]
    exact h x hx
/-- A start appended behind a tick at which there is room. -/
theorem within_add {l : List Int} {w t s : Int} {k : Nat} (h : Within l w k) (hl : ∀ x, x ∈ l → x ≤ t) (hs : t ≤ s) (hc : cnt l w t < k) : Within (l ++ [s]) w k := fun x hx => by
  rw [cnt_snoc]
  have hle : x ≤ s := by
    rcases List.mem_append.1 hx with h1 | h1
    · exact Int.le_trans (hl x h1) hs
    · rw [List.mem_singleton] at h1; omega
  by_cases e : inW w x s = true
  · rw [if_pos e]
    have hxs : x = s := by rw [inW_iff] at e; omega
    subst hxs
    have : cnt l w x ≤ cnt l w t := cnt_mono fun y hy hi => by
      rw [inW_iff] at hi ⊢
      exact ⟨by omega, hl y hy⟩
    omega
  · rw [if_neg e]
    have := within_iff.1 h x
    omega
/-! ### What is kept -/
def keep (w t : Int) : List Int → List Int
  | [] => []
  | [x] => [x]
  | x :: y :: l => if t - w < x then x :: keep w t (y :: l) else keep w t (y :: l)
theorem keep_cons (w t x y : Int) (l : List Int) : keep w t (x :: y :: l) = if t - w < x then x :: keep w t (y :: l) else keep w t (y :: l) := rfl
theorem cnt_keep {w t t' : Int} (ht : t ≤ t') : ∀ l : List Int, cnt (keep w t l) w t' = cnt l w t'
  | [] => rfl
  | [x] => rfl
  | x :: y :: l => by
    have ih := cnt_keep (w := w) ht (y :: l)
    rw [keep_cons]
    split
    · rw [cnt_cons, ih, ← cnt_cons]
    · rename_i h
      rw [ih, cnt_cons x]
      have : ¬ inW w t' x = true := by rw [inW_iff]; omega
      rw [if_neg this]; rfl
theorem keep_ne {w t : Int} : ∀ {l : List Int}, l ≠ [] → keep w t l ≠ [] ∧ (keep w t l).getLast? = l.getLast?
  | [], h => absurd rfl h
  | [x], _ => ⟨by simp [keep], rfl⟩
  | x :: y :: l, _ => by
    obtain ⟨h1, h2⟩ := keep_ne (w := w) (t := t) (l := y :: l) (by simp)
    rw [keep_cons]
    split
    · refine ⟨by simp, ?_⟩
      rw [List.getLast?_cons, h2, List.getLast?_cons_cons, List.getLast?_cons]
      simp
    · exact ⟨h1, by rw [h2, List.getLast?_cons_cons]⟩
theorem keep_length (w t : Int) : ∀ l : List Int, (keep w t l).length ≤ l.length
  | [] => Nat.le_refl _
  | [x] => Nat.le_refl _
  | x :: y :: l => by
    have := keep_length w t (y :: l)
    rw [keep_cons]
    split
    · simp only [List.length_cons] at this ⊢; omega
    · simp only [List.length_cons] at this ⊢; omega
/-- Of an ascending list it is an end. -/
theorem keep_all {w t : Int} : ∀ {l : List Int}, (∀ x ∈ l, t - w < x) → keep w t l = l
  | [], _ => rfl
  | [x], _ => rfl
  | x :: y :: l, h => by rw [keep_cons, if_pos (h x (by simp)), keep_all (l := y :: l) (fun z hz => h z (by simp at hz ⊢; exact .inr hz))]
theorem keep_drop {w t : Int} : ∀ {l : List Int}, l.Pairwise (· ≤ ·) → keep w t l = l.drop (l.length - (keep w t l).length)
  | [], _ => rfl
  | [x], _ => rfl
  | x :: y :: l, h => by
    have h1 := List.pairwise_cons.1 h
    by_cases e : t - w < x
    · have : keep w t (x :: y :: l) = x :: y :: l := keep_all fun z hz => by
        rcases List.mem_cons.1 hz with rfl | hz
        · exact e
        · have := h1.1 z hz; omega
      rw [this, Nat.sub_self]; rfl
    · have ih := keep_drop (w := w) (t := t) h1.2
      have hl := keep_length w t (y :: l)
      rw [keep_cons, if_neg e]
      rw [show (x :: y :: l).length - (keep w t (y :: l)).length = ((y :: l).length - (keep w t (y :: l)).length) + 1 by simp only [List.length_cons] at hl ⊢; omega]
      exact ih
theorem keep_move (w t d : Int) : ∀ l : List Int, keep w (t + d) (l.map (· + d)) = (keep w t l).map (· + d)
  | [] => rfl
  | [x] => rfl
  | x :: y :: l => by
    have ih := keep_move w t d (y :: l)
    rw [List.map_cons, List.map_cons, keep_cons, keep_cons]
    rw [List.map_cons] at ih
    by_cases e : t - w < x
    · rw [if_pos e, if_pos (by omega), ih]; rfl
    · rw [if_neg e, if_neg (by omega), ih]
end Go.Proofs.Ytojgbacdniagiaa.Wi
