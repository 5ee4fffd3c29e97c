/-
  Policies and specifications checked (the specification's Check of layers 11 and 13).
-/
import Derived.Test.YtngojgocplmedaaRZc
import Derived.Test.YtngojgocplmedaaRVd
import Derived.Test.YtngojgocplmedaaRWc
namespace Go.Proofs.YtngojgocplmedaaR.Ls
open Go.RowKit Go.Proofs.YtngojgocplmedaaR.Mem Go.Proofs.YtngojgocplmedaaR.Bx Go.Proofs.YtngojgocplmedaaR.In Go.Proofs.YtngojgocplmedaaR.Sp Go.ChangeShapes Go.WideShapes Go.ChangeAt
set_option linter.unusedVariables false

/-- A policy is valid. -/
def polGood (t : Tsk) : Prop := (1 ≤ t.lim ∧ t.lim ≤ 8) ∧ (1 ≤ t.win ∧ t.win ≤ 1099511627776) ∧ (1 ≤ t.most ∧ t.most ≤ 1099511627776) ∧ (1 ≤ t.bas ∧ t.bas ≤ t.most)
instance (t : Tsk) : Decidable (polGood t) := inferInstanceAs (Decidable (_ ∧ _ ∧ _ ∧ _))
def polSays (t : Tsk) : Int := if polGood t then 0 else 3
theorem pol_ok {t : Tsk} (h : (1 ≤ t.lim ∧ t.lim ≤ 8) ∧ (1 ≤ t.win ∧ t.win ≤ 1099511627776) ∧ (1 ≤ t.most ∧ t.most ≤ 1099511627776) ∧ (1 ≤ t.bas ∧ t.bas ≤ t.most)) : polSays t = 0 := if_pos h
theorem pol_bad {t : Tsk} (h : ¬ ((1 ≤ t.lim ∧ t.lim ≤ 8) ∧ (1 ≤ t.win ∧ t.win ≤ 1099511627776) ∧ (1 ≤ t.most ∧ t.most ≤ 1099511627776) ∧ (1 ≤ t.bas ∧ t.bas ≤ t.most))) : polSays t = 3 := if_neg h
set_option maxRecDepth 100000 in
theorem rpol_c (t : Tsk) (w : World) : Calls Try.prog 48 #[.agg #[.bool t.always, .int .i64 t.lim, .int .i64 t.win, .int .i64 t.bas, .int .i64 t.most]] w fun e w' => e = .returned (.int .i64 (polSays t)) ∧ Kept w w' := by
  obtain ⟨always, lim, win, bas, most, prb⟩ := t
  have kb : Kept w (w.alloc (.cells #[.bool always, .int .i64 lim, .int .i64 win, .int .i64 bas, .int .i64 most] 35)) := (Kept.refl w).alloc _
  go_enter Try.func48, Try.ntmps48
  by_cases h0 : lim < 1
  · go_wp2
    go_ret
    exact ⟨by rw [pol_bad (by simp only []; omega)]; rfl, kb⟩
  · skip
    by_cases h1 : 8 < lim
    · go_wp2
      go_ret
      exact ⟨by rw [pol_bad (by simp only []; omega)]; rfl, kb⟩
    · skip
      by_cases h2 : win < 1
      · go_wp2
        go_ret
        exact ⟨by rw [pol_bad (by simp only []; omega)]; rfl, kb⟩
      · skip
        by_cases h3 : 1099511627776 < win
        · go_wp2
          go_ret
          exact ⟨by rw [pol_bad (by simp only []; omega)]; rfl, kb⟩
        · skip
          by_cases h4 : most < 1
          · go_wp2
            go_ret
            exact ⟨by rw [pol_bad (by simp only []; omega)]; rfl, kb⟩
          · skip
            by_cases h5 : 1099511627776 < most
            · go_wp2
              go_ret
              exact ⟨by rw [pol_bad (by simp only []; omega)]; rfl, kb⟩
            · skip
              by_cases h6 : bas < 1
              · go_wp2
                go_ret
                exact ⟨by rw [pol_bad (by simp only []; omega)]; rfl, kb⟩
              · skip
                by_cases h7 : most < bas
                · go_wp2
                  go_ret
                  exact ⟨by rw [pol_bad (by simp only []; omega)]; rfl, kb⟩
                · skip
                  go_wp2
                  go_ret
                  exact ⟨by rw [pol_ok (by simp only []; omega)]; rfl, kb⟩
def tasksSay : List Tsk → Int
  | [] => 0
  | t :: r => if polSays t ≠ 0 then polSays t else if t.prb < 0 ∨ 1000 < t.prb then 3 else tasksSay r
def resSays (s : Sp) : Int := (⟨s.c, s.m, s.d⟩ : Re.Am).says
def spSays (s : Sp) : Int :=
  if s.id < 0 ∨ 2147483648 < s.id then 3 else if resSays s ≠ 0 then resSays s else if chk s.ports ≠ 0 then chk s.ports else if s.tasks.length = 0 then 2 else if 4 < s.tasks.length then 5 else tasksSay s.tasks
theorem tasks_say (l : List Tsk) : tasksSay l = 0 ↔ ∀ t ∈ l, t.good := by
  induction l with
  | nil => simp [tasksSay]
  | cons t l ih =>
    unfold tasksSay
    by_cases h : polGood t
    · have h0 : polSays t = 0 := if_pos h
      rw [if_neg (by rw [h0]; simp)]
      unfold polGood at h
      split
      · rename_i h1
        constructor
        · intro e; omega
        · intro e; have := (e t (by simp)).prb; omega
      · rename_i h1
        rw [ih]
        constructor
        · intro e x hx
          rcases List.mem_cons.1 hx with rfl | hx
          · exact ⟨h.1, h.2.1, h.2.2.2, h.2.2.1.2, by omega⟩
          · exact e x hx
        · exact fun e x hx => e x (by simp [hx])
    · have h0 : polSays t = 3 := if_neg h
      rw [if_pos (by rw [h0]; decide), h0]
      constructor
      · intro e; omega
      · intro e
        have g := e t (by simp)
        have g1 := g.lim
        have g2 := g.win
        have g3 := g.bas
        have g4 := g.most
        exact absurd (show polGood t from ⟨g1, g2, by omega, g3⟩) h
theorem res_say (s : Sp) : resSays s = 0 ↔ (0 ≤ s.c ∧ s.c ≤ 1099511627776) ∧ (0 ≤ s.m ∧ s.m ≤ 1099511627776) ∧ (0 ≤ s.d ∧ s.d ≤ 1099511627776) := by
  refine Iff.trans ?_ (Re.good_iff (x := ⟨s.c, s.m, s.d⟩))
  unfold resSays Re.Am.says
  split
  · rename_i h; simp [h]
  · rename_i h; simp [h]
/-- Check says nothing exactly of a good specification. -/
theorem sp_say (s : Sp) : spSays s = 0 ↔ s.good := by
  unfold spSays
  constructor
  · intro h
    split at h
    · omega
    · split at h
      · rename_i h1; exact absurd h h1
      · split at h
        · rename_i h1; exact absurd h h1
        · split at h
          · omega
          · split at h
            · omega
            · rename_i h0 h1 h2 h3 h4
              have h1 : resSays s = 0 := by simpa using h1
              have h2 : chk s.ports = 0 := by simpa using h2
              obtain ⟨g1, g2, g3⟩ := (res_say s).1 h1
              obtain ⟨p1, p2, p3⟩ := (chk_set s.ports).1 h2
              exact ⟨by omega, g1, g2, g3, p1, p3, p2, fun e => h3 (by rw [e]; rfl), by omega, (tasks_say s.tasks).1 h⟩
  · intro g
    have h1 := g.id
    rw [if_neg (by omega), if_neg (by rw [(res_say s).2 ⟨g.c, g.m, g.d⟩]; simp), if_neg (by rw [(chk_set s.ports).2 ⟨g.few, g.asc, g.port⟩]; simp), if_neg (fun e => g.some (List.eq_nil_of_length_eq_zero e)), if_neg (by have := g.most; omega)]
    exact (tasks_say s.tasks).2 g.task
end Go.Proofs.YtngojgocplmedaaR.Ls
