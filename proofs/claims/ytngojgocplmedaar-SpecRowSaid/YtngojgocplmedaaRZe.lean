/-
  A specification checked (the specification's Check of layer 13), copied (the kit's CopySpec).
-/
import Derived.Test.YtngojgocplmedaaRZd
namespace Go.Proofs.YtngojgocplmedaaR.Ls
open Go.RowKit Go.Proofs.YtngojgocplmedaaR.Mem Go.Proofs.YtngojgocplmedaaR.Bx Go.Proofs.YtngojgocplmedaaR.In Go.Proofs.YtngojgocplmedaaR.Sp Go.ChangeShapes Go.WideShapes Go.ChangeAt
set_option linter.unusedVariables false

/-- What is found task by task, from the j-th on. -/
theorem tasks_step {l : List Tsk} {j : Nat} {t : Tsk} (h : l[j]? = some t) : tasksSay (l.drop j) = if polSays t ≠ 0 then polSays t else if t.prb < 0 ∨ 1000 < t.prb then 3 else tasksSay (l.drop (j + 1)) := by
  obtain ⟨hj, e⟩ := List.getElem?_eq_some_iff.1 h
  rw [List.drop_eq_getElem_cons hj, e]; rfl
set_option maxHeartbeats 4000000 in
set_option maxRecDepth 100000 in
theorem rspec_c {w : World} {s : Sp} {p : Pl} (h : SpAt w s p) : Calls Try.prog 15 #[.agg (spC s p)] w fun e w' => e = .returned (.int .i64 (spSays s)) ∧ Kept w w' := by
  obtain ⟨po, pn, pc, to, tn, tc⟩ := p
  have hn := h.tasks.n62
  unfold maxLen at hn
  have hlen := h.tasks.len
  have H := Lib.hid h
  have HL := Lib.hid hlen
  clear h hlen
  have h0 : Mem.Own w [boxA w.heap.size #[.int .i64 s.id, .int .i64 s.c, .int .i64 s.m, .int .i64 s.d, .slice po pn pc, .slice to tn tc] 27] (w.alloc (.cells #[.int .i64 s.id, .int .i64 s.c, .int .i64 s.m, .int .i64 s.d, .slice po pn pc, .slice to tn tc] 27)) := (Own.nil w).box _ _
  unfold spC
  have hr := Re.rcheck_c ⟨s.c, s.m, s.d⟩
  obtain ⟨E1, hE1⟩ : ∃ E, E = resSays s := ⟨_, rfl⟩
  have hr : ∀ w, Calls Try.prog 46 #[.agg #[.int .i64 s.c, .int .i64 s.m, .int .i64 s.d]] w fun e w' => e = .returned (.int .i64 E1) ∧ Kept w w' := by rw [hE1]; exact hr
  obtain ⟨E2, hE2⟩ : ∃ E, E = chk s.ports := ⟨_, rfl⟩
  have HE := Lib.hid (And.intro hE1 hE2)
  clear hE1 hE2
  by_cases h1 : s.id < 0
  · have HF := Lib.hid (show spSays s = 3 by unfold spSays; rw [if_pos (.inl h1)])
    go_enter Try.func15, Try.ntmps15
    go_wp2
    go_ret
    exact ⟨by rw [HF.out]; rfl, h0.kept⟩
  · by_cases h2 : 2147483648 < s.id
    · have HF := Lib.hid (show spSays s = 3 by unfold spSays; rw [if_pos (.inr h2)])
      go_enter Try.func15, Try.ntmps15
      go_wp2
      go_ret
      exact ⟨by rw [HF.out]; rfl, h0.kept⟩
    · have hs0 : spSays s = if resSays s ≠ 0 then resSays s else if chk s.ports ≠ 0 then chk s.ports else if s.tasks.length = 0 then 2 else if 4 < s.tasks.length then 5 else tasksSay s.tasks := by
        unfold spSays; rw [if_neg (by omega)]
      rw [← HE.out.1, ← HE.out.2, HL.out] at hs0
      by_cases h3 : E1 = 0
      · have n3 : (E1 != 0) = false := by simp [h3]
        by_cases h4 : E2 = 0
        · have n4 : (E2 != 0) = false := by simp [h4]
          rw [if_neg (by simp [h3]), if_neg (by simp [h4])] at hs0
          clear h3 h4
          by_cases h5 : tn = 0
          · rw [if_pos h5] at hs0
            have HS := Lib.hid hs0
            have n5 : ((tn : Int) == 0) = true := by simp; omega
            clear hs0 h5
            go_enter Try.func15, Try.ntmps15
            go_wp2_with (first
            | (go_at_call 46; (with_reducible refine (hr _).mono ?_); rintro e w1 ⟨rfl, k1⟩; have h3 := h0.later k1; obtain ⟨⟨a0, a1, a2, a3, a4, a5⟩, _⟩ := box6 (h3.boxed 0 rfl))
            | (go_at_call 47; (with_reducible refine (rcheck_c (H.out.ports.kept h3.kept)).mono ?_); rintro e w2 ⟨rfl, k2⟩; rw [← HE.out.2]; have h4 := h3.later k2; obtain ⟨⟨b0, b1, b2, b3, b4, b5⟩, _⟩ := box6 (h4.boxed 0 rfl)))
            go_ret
            exact ⟨by rw [HS.out]; rfl, h4.kept⟩
          · by_cases h6 : 4 < tn
            · rw [if_neg h5, if_pos h6] at hs0
              have HS := Lib.hid hs0
              have n5 : ((tn : Int) == 0) = false := by simp; omega
              clear hs0 h5
              go_enter Try.func15, Try.ntmps15
              go_wp2_with (first
              | (go_at_call 46; (with_reducible refine (hr _).mono ?_); rintro e w1 ⟨rfl, k1⟩; have h3 := h0.later k1; obtain ⟨⟨a0, a1, a2, a3, a4, a5⟩, _⟩ := box6 (h3.boxed 0 rfl))
              | (go_at_call 47; (with_reducible refine (rcheck_c (H.out.ports.kept h3.kept)).mono ?_); rintro e w2 ⟨rfl, k2⟩; rw [← HE.out.2]; have h4 := h3.later k2; obtain ⟨⟨b0, b1, b2, b3, b4, b5⟩, _⟩ := box6 (h4.boxed 0 rfl)))
              go_ret
              exact ⟨by rw [HS.out]; rfl, h4.kept⟩
            · rw [if_neg h5, if_neg h6] at hs0
              have HS := Lib.hid hs0
              have n5 : ((tn : Int) == 0) = false := by simp; omega
              have h7 : tn ≤ 4 := by omega
              clear hs0 h5
              go_enter Try.func15, Try.ntmps15
              go_wp2_with (first
              | (go_at_call 46; (with_reducible refine (hr _).mono ?_); rintro e w1 ⟨rfl, k1⟩; have h3 := h0.later k1; obtain ⟨⟨a0, a1, a2, a3, a4, a5⟩, _⟩ := box6 (h3.boxed 0 rfl))
              | (go_at_call 47; (with_reducible refine (rcheck_c (H.out.ports.kept h3.kept)).mono ?_); rintro e w2 ⟨rfl, k2⟩; rw [← HE.out.2]; have h4 := h3.later k2; obtain ⟨⟨b0, b1, b2, b3, b4, b5⟩, _⟩ := box6 (h4.boxed 0 rfl)))
              have h5 := Lib.hid h4
              clear h0 h3 h4 a0 a1 a2 a3 a4 a5 b0 b1 b2 b3 b4 b5 k1 k2
              go_loopw [5] (fun i wr => ∃ j : Nat, j ≤ tn ∧ i = .int .i64 j ∧ tasksSay s.tasks = tasksSay (s.tasks.drop j) ∧ Mem.Own w [boxA w.heap.size #[.int .i64 s.id, .int .i64 s.c, .int .i64 s.m, .int .i64 s.d, .slice po pn pc, .slice to tn tc] 27] wr) (fun i _ => tn - (RowKit.intOf i).toNat)
              case atStart => exact ⟨0, Nat.zero_le _, rfl, rfl, h5.out⟩
              case round =>
                clear h5
                obtain ⟨j, hj, rfl, hsay, hO⟩ := hrel
                have HY := Lib.hid hsay
                clear hsay
                obtain ⟨⟨_, _, _, _, _, b5⟩, _⟩ := box6 (hO.boxed 0 rfl)
                by_cases hlt : j < tn
                · obtain ⟨t, g, o, ht, e9, hg, hc⟩ := (H.out.tasks.kept hO.kept).get hlt
                  have e9 : to = some ⟨g, o, none⟩ := e9
                  subst e9
                  obtain ⟨t0, t1, t2, t3, t4, t5⟩ := task_cells hc
                  have HT := Lib.hid (tasks_step ht)
                  clear hc ht
                  have hpol := rpol_c t
                  obtain ⟨E3, hE3⟩ : ∃ E, E = polSays t := ⟨_, rfl⟩
                  rw [← hE3] at hpol
                  have H3 := Lib.hid hE3
                  clear hE3
                  by_cases q1 : E3 = 0
                  · have m1 : (E3 != 0) = false := by simp [q1]
                    have Q1 := Lib.hid q1
                    clear q1
                    by_cases q2 : t.prb < 0
                    · go_wp2_with (go_at_call 48; (with_reducible refine (hpol _).mono ?_); rintro e w4 ⟨rfl, k4⟩; have h9 := hO.later k4; obtain ⟨⟨_, _, _, _, _, d5⟩, _⟩ := box6 (h9.boxed 0 rfl); have u5 := (k4.cell (p := ⟨g, _, none⟩) hg).trans t5)
                      go_ret
                      exact ⟨by rw [HS.out, HY.out, HT.out, ← H3.out, if_neg (by rw [Q1.out]; simp), if_pos (.inl q2)]; rfl, h9.kept⟩
                    · by_cases q3 : 1000 < t.prb
                      · go_wp2_with (go_at_call 48; (with_reducible refine (hpol _).mono ?_); rintro e w4 ⟨rfl, k4⟩; have h9 := hO.later k4; obtain ⟨⟨_, _, _, _, _, d5⟩, _⟩ := box6 (h9.boxed 0 rfl); have u5 := (k4.cell (p := ⟨g, _, none⟩) hg).trans t5)
                        go_ret
                        exact ⟨by rw [HS.out, HY.out, HT.out, ← H3.out, if_neg (by rw [Q1.out]; simp), if_pos (.inr q3)]; rfl, h9.kept⟩
                      · go_wp2_with (go_at_call 48; (with_reducible refine (hpol _).mono ?_); rintro e w4 ⟨rfl, k4⟩; have h9 := hO.later k4; obtain ⟨⟨_, _, _, _, _, d5⟩, _⟩ := box6 (h9.boxed 0 rfl); have u5 := (k4.cell (p := ⟨g, _, none⟩) hg).trans t5)
                        go_roundw
                        case rel => exact ⟨j + 1, by omega, by go_num, by rw [HY.out, HT.out, ← H3.out, if_neg (by rw [Q1.out]; simp), if_neg (by omega)], h9⟩
                        case measure => simp [RowKit.intOf]; omega
                  · have m1 : (E3 != 0) = true := by simpa using q1
                    have Q1 := Lib.hid q1
                    clear q1
                    go_wp2_with (go_at_call 48; (with_reducible refine (hpol _).mono ?_); rintro e w4 ⟨rfl, k4⟩)
                    go_ret
                    exact ⟨by rw [HS.out, HY.out, HT.out, ← H3.out, if_pos Q1.out]; rfl, hO.kept.trans k4⟩
                · obtain rfl : j = tn := by omega
                  go_wp2
                  go_ret
                  refine ⟨?_, hO.kept⟩
                  rw [HS.out, HY.out, List.drop_of_length_le (Nat.le_of_eq HL.out)]; rfl
        · have n4 : (E2 != 0) = true := by simpa using h4
          rw [if_neg (by simp [h3]), if_pos h4] at hs0
          have HS := Lib.hid hs0
          clear hs0 h3 h4
          go_enter Try.func15, Try.ntmps15
          go_wp2_with (first
            | (go_at_call 46; (with_reducible refine (hr _).mono ?_); rintro e w1 ⟨rfl, k1⟩; have h3 := h0.later k1; obtain ⟨⟨a0, a1, a2, a3, a4, a5⟩, _⟩ := box6 (h3.boxed 0 rfl))
            | (go_at_call 47; (with_reducible refine (rcheck_c (H.out.ports.kept h3.kept)).mono ?_); rintro e w2 ⟨rfl, k2⟩; rw [← HE.out.2]))
          go_ret
          exact ⟨by rw [HS.out]; rfl, h3.kept.trans k2⟩
      · have n3 : (E1 != 0) = true := by simpa using h3
        rw [if_pos h3] at hs0
        have HS := Lib.hid hs0
        clear hs0 h3
        go_enter Try.func15, Try.ntmps15
        go_wp2_with (go_at_call 46; (with_reducible refine (hr _).mono ?_); rintro e w1 ⟨rfl, k1⟩)
        go_ret
        exact ⟨by rw [HS.out]; rfl, h0.kept.trans k1⟩
end Go.Proofs.YtngojgocplmedaaR.Ls
