/-
  Sums do not depend on the order; sums of parts (plain mathematics of ResParts).
-/
import Derived.Test.YtdendciedodffaaVl
import Derived.Test.YtdendciedodffaaVj
import Derived.Test.YtdendciedodffaaVm
namespace Go.Proofs.Ytdendciedodffaa.Re
open Go Go.RowKit

def tot (X : Nat → Am) : Nat → Am
  | 0 => none3
  | n + 1 => (tot X n).plus (X n)
theorem plus_assoc (a b c : Am) : (a.plus b).plus c = a.plus (b.plus c) := by simp only [Am.plus]; congr 1 <;> omega
theorem plus_comm (a b : Am) : a.plus b = b.plus a := by simp only [Am.plus]; congr 1 <;> omega
theorem none_plus (a : Am) : none3.plus a = a := by cases a; simp only [Am.plus, none3, Am.mk.injEq]; omega
theorem plus_none (a : Am) : a.plus none3 = a := by rw [plus_comm]; exact none_plus a
theorem tot_congr {X Y : Nat → Am} {n : Nat} (e : ∀ i, i < n → X i = Y i) : tot X n = tot Y n := by
  induction n with
  | zero => rfl
  | succ n ih => rw [tot, tot, ih (fun i hi => e i (by omega)), e n (by omega)]
theorem tot_split (X : Nat → Am) (k m : Nat) : tot X (k + m) = (tot X k).plus (tot (fun i => X (k + i)) m) := by
  induction m with
  | zero => rw [tot, plus_none]; rfl
  | succ m ih => rw [show k + (m + 1) = (k + m) + 1 from rfl, tot, tot, ih, plus_assoc]
theorem tot_rev (X : Nat → Am) (n : Nat) : tot (fun i => X (n - 1 - i)) n = tot X n := by
  induction n with
  | zero => rfl
  | succ n ih =>
    rw [show n + 1 = 1 + n by omega, tot_split, show (1 + n) = n + 1 by omega]
    have e1 : tot (fun i => X (n + 1 - 1 - i)) 1 = X n := by rw [tot, tot, none_plus]; simp
    have e2 : tot (fun i => (fun i => X (n + 1 - 1 - i)) (1 + i)) n = tot X n := by
      rw [← ih]
      refine tot_congr fun i hi => ?_
      show X (n + 1 - 1 - (1 + i)) = X (n - 1 - i)
      congr 1
      omega
    rw [e1, e2, tot, plus_comm]
def allGood (X : Nat → Am) (n : Nat) : Prop := ∀ i, i < n → (X i).good = true
theorem tot_nonneg {X : Nat → Am} {n : Nat} (h : allGood X n) : 0 ≤ (tot X n).c ∧ 0 ≤ (tot X n).m ∧ 0 ≤ (tot X n).d := by
  induction n with
  | zero => exact ⟨Int.le_refl _, Int.le_refl _, Int.le_refl _⟩
  | succ n ih =>
    obtain ⟨h0, h1, h2⟩ := ih (fun i hi => h i (by omega))
    obtain ⟨⟨g0, _⟩, ⟨g1, _⟩, g2, _⟩ := good_iff.1 (h n (by omega))
    simp only [tot, Am.plus]
    omega
theorem tot_good {X : Nat → Am} {n : Nat} (h : allGood X (n + 1)) (g : (tot X (n + 1)).good = true) : (tot X n).good = true := by
  obtain ⟨h0, h1, h2⟩ := tot_nonneg (X := X) (n := n) (fun i hi => h i (by omega))
  obtain ⟨⟨g0, _⟩, ⟨g1, _⟩, g2, _⟩ := good_iff.1 (h n (by omega))
  have g := good_iff.1 g
  simp only [tot, Am.plus] at g
  exact good_iff.2 (by omega)
theorem sumN_yes {X : Nat → Am} {n : Nat} (h : allGood X n) (g : (tot X n).good = true) : sumN X n = (tot X n, true) := by
  induction n with
  | zero => rfl
  | succ n ih =>
    have h1 := ih (fun i hi => h i (by omega)) (tot_good h g)
    rw [sumN_succ h1]
    exact joins_ok (tot_good h g) (h n (by omega)) g
theorem sumN_good {X : Nat → Am} {n : Nat} (h : (sumN X n).2 = true) : allGood X n ∧ (tot X n).good = true := by
  induction n with
  | zero => exact ⟨fun i hi => absurd hi (by omega), rfl⟩
  | succ n ih =>
    cases e : (sumN X n).2 with
    | false => rw [sumN_past e (Nat.le_succ n)] at h; cases h
    | true =>
      obtain ⟨h1, h2⟩ := ih e
      have h3 := sumN_yes h1 h2
      rw [sumN_succ h3] at h
      obtain ⟨_, _, g1, g2⟩ := adds_ok h
      refine ⟨fun i hi => ?_, g2⟩
      by_cases e : i = n
      · subst e; exact g1
      · exact h1 i (by omega)
theorem sumN_is {X : Nat → Am} {n : Nat} (h : (sumN X n).2 = true) : sumN X n = (tot X n, true) := sumN_yes (sumN_good h).1 (sumN_good h).2
theorem sumN_same {X Y : Nat → Am} {n : Nat} (h : (sumN X n).2 = true → (sumN Y n).2 = true) (k : (sumN Y n).2 = true → (sumN X n).2 = true) (e : tot X n = tot Y n) : sumN X n = sumN Y n := by
  cases hx : (sumN X n).2 with
  | true => rw [sumN_is hx, sumN_is (h hx), e]
  | false =>
    cases hy : (sumN Y n).2 with
    | true => rw [k hy] at hx; cases hx
    | false => rw [sumN_no hx, sumN_no hy]
theorem sumN_rev (X : Nat → Am) (n : Nat) : sumN (fun i => X (n - 1 - i)) n = sumN X n := by
  have e := tot_rev X n
  refine sumN_same (fun h => ?_) (fun h => ?_) e
  · obtain ⟨h1, h2⟩ := sumN_good h
    rw [e] at h2
    have : allGood X n := fun i hi => by
      have := h1 (n - 1 - i) (by omega)
      simp only at this
      rw [show n - 1 - (n - 1 - i) = i by omega] at this
      exact this
    rw [sumN_yes this h2]
  · obtain ⟨h1, h2⟩ := sumN_good h
    rw [← e] at h2
    rw [sumN_yes (fun i hi => h1 (n - 1 - i) (by omega)) h2]
/-- One more behind the list turned round. -/
theorem sumN_more {X Y : Nat → Am} {n : Nat} {m : Am} (hY : ∀ i, i < n → Y i = X (n - 1 - i)) (hm : Y n = m) : sumN Y (n + 1) = if (sumN X n).2 = true then adds (sumN X n).1 m else (none3, false) := by
  show (if (sumN Y n).2 = true then adds (sumN Y n).1 (Y n) else (none3, false)) = _
  rw [sumN_congr hY, sumN_rev, hm]
/-- The two parts of a list. -/
theorem sumN_parts {X : Nat → Am} {k m : Nat} (h : (sumN X (k + m)).2 = true) :
    (sumN X k).2 = true ∧ (sumN (fun i => X (k + i)) m).2 = true ∧ adds (sumN X k).1 (sumN (fun i => X (k + i)) m).1 = sumN X (k + m) ∧ (sumN X k).1.fits (sumN X (k + m)).1 = true := by
  obtain ⟨h1, h2⟩ := sumN_good h
  have a1 : allGood X k := fun i hi => h1 i (by omega)
  have a2 : allGood (fun i => X (k + i)) m := fun i hi => h1 (k + i) (by omega)
  have hs := tot_split X k m
  obtain ⟨n0, n1, n2⟩ := tot_nonneg a1
  obtain ⟨p0, p1, p2⟩ := tot_nonneg a2
  have g := good_iff.1 h2
  rw [hs] at g
  simp only [Am.plus] at g
  have g1 : (tot X k).good = true := good_iff.2 (by omega)
  have g2 : (tot (fun i => X (k + i)) m).good = true := good_iff.2 (by omega)
  have e1 := sumN_yes a1 g1
  have e2 := sumN_yes a2 g2
  have e3 := sumN_yes h1 h2
  rw [e1, e2, e3]
  refine ⟨rfl, rfl, ?_, ?_⟩
  · rw [show adds (tot X k) (tot (fun i => X (k + i)) m) = _ from joins_ok g1 g2 (by rw [← hs]; exact h2), hs]
  · refine fits_iff.2 ?_
    rw [hs]
    simp only [Am.plus]
    omega
end Go.Proofs.Ytdendciedodffaa.Re
