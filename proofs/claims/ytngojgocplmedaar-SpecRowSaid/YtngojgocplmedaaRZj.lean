/-
  Configurations (the specification's from, Need, Config of layer 13).
-/
import Derived.Test.YtngojgocplmedaaRZi
import Derived.BigQuiet
namespace Go.Proofs.YtngojgocplmedaaR.Ls
open Go.RowKit Go.Proofs.YtngojgocplmedaaR.Mem Go.Proofs.YtngojgocplmedaaR.Bx Go.Proofs.YtngojgocplmedaaR.In Go.Proofs.YtngojgocplmedaaR.Sp Go.Proofs.YtngojgocplmedaaR.Nr Go.Proofs.YtngojgocplmedaaR.Pk Go.ChangeShapes Go.WideShapes Go.ChangeAt
set_option linter.unusedVariables false

def inR (n lo hi : Int) : Bool := decide (lo ≤ n ∧ n ≤ hi)
set_option maxRecDepth 100000 in
theorem from_c (n lo hi : Int) (w : World) : Calls Try.prog 57 #[.int .i64 n, .int .i64 lo, .int .i64 hi] w fun e w' => e = .returned (.bool (inR n lo hi)) ∧ w' = w := by
  unfold inR
  by_cases h1 : lo ≤ n
  · by_cases h2 : n ≤ hi
    · rw [decide_eq_true (And.intro h1 h2)]
      go_enter Try.func57, Try.ntmps57
      go_wp2
      go_ret
      exact ⟨rfl, rfl⟩
    · rw [decide_eq_false (fun h => h2 h.2)]
      go_enter Try.func57, Try.ntmps57
      go_wp2
      go_ret
      exact ⟨rfl, rfl⟩
  · rw [decide_eq_false (fun h => h1 h.1)]
    go_enter Try.func57, Try.ntmps57
    go_wp2
    go_ret
    exact ⟨rfl, rfl⟩
def needV (a : Int) : Int := if inR a 1 8 then 16 * (a + 1) else 0
set_option maxRecDepth 100000 in
theorem rneed_c (a : Int) (w : World) : Calls Try.prog 23 #[.int .i64 a] w fun e w' => e = .returned (.int .i64 (needV a)) ∧ w' = w := by
  unfold needV
  have hf := from_c a 1 8
  obtain ⟨q, hq⟩ : ∃ q, q = inR a 1 8 := ⟨_, rfl⟩
  rw [← hq] at hf ⊢
  cases q with
  | true =>
    have h2 : 1 ≤ a ∧ a ≤ 8 := by unfold inR at hq; simpa using hq.symm
    clear hq
    rw [if_pos rfl]
    go_enter Try.func23, Try.ntmps23
    go_wp2_with (go_at_call 57; (with_reducible refine (hf _).mono ?_); rintro e w1 ⟨rfl, rfl⟩)
    go_ret
    exact ⟨rfl, rfl⟩
  | false =>
    clear hq
    rw [if_neg (by decide)]
    go_enter Try.func23, Try.ntmps23
    go_wp2_with (go_at_call 57; (with_reducible refine (hf _).mono ?_); rintro e w1 ⟨rfl, rfl⟩)
    go_ret
    exact ⟨rfl, rfl⟩
structure Cf where
  c : Int
  m : Int
  d : Int
  allocs : Int
  area : Int
  files : Int
  blocks : Int
  beat : Int
  lease : Int
  grace : Int
  wait : Int
def cfC (f : Cf) : Array Value := #[.int .i64 f.c, .int .i64 f.m, .int .i64 f.d, .int .i64 f.allocs, .int .i64 f.area, .int .i64 f.files, .int .i64 f.blocks, .int .i64 f.beat, .int .i64 f.lease, .int .i64 f.grace, .int .i64 f.wait]
def cfOk (f : Cf) : Bool := inR f.allocs 1 8 && (inR f.area (needV f.allocs) 1024 && (inR f.files 2 16 && (inR f.blocks 1 64 && (inR f.beat 1 1099511627776 && (inR f.lease 1 1099511627776 && (inR f.grace 0 1099511627776 && inR f.wait 0 1099511627776))))))
def cfSays (f : Cf) : Int := if (⟨f.c, f.m, f.d⟩ : Re.Am).says ≠ 0 then (⟨f.c, f.m, f.d⟩ : Re.Am).says else if cfOk f then 0 else 3
set_option maxHeartbeats 4000000 in
set_option maxRecDepth 100000 in
theorem rconf_c (f : Cf) (w : World) : Calls Try.prog 21 #[.agg (cfC f)] w fun e w' => e = .returned (.int .i64 (cfSays f)) ∧ Kept w w' := by
  have hr := Re.rcheck_c ⟨f.c, f.m, f.d⟩
  have hs : cfSays f = if (⟨f.c, f.m, f.d⟩ : Re.Am).says ≠ 0 then (⟨f.c, f.m, f.d⟩ : Re.Am).says else if cfOk f then 0 else 3 := rfl
  unfold cfOk at hs
  obtain ⟨E, hE⟩ : ∃ E, E = (⟨f.c, f.m, f.d⟩ : Re.Am).says := ⟨_, rfl⟩
  have hr : ∀ w, Calls Try.prog 46 #[.agg #[.int .i64 f.c, .int .i64 f.m, .int .i64 f.d]] w fun e w' => e = .returned (.int .i64 E) ∧ Kept w w' := by rw [hE]; exact hr
  rw [← hE] at hs
  clear hE
  have hneed := rneed_c f.allocs
  obtain ⟨V, hV⟩ : ∃ V, V = needV f.allocs := ⟨_, rfl⟩
  rw [← hV] at hneed hs
  clear hV
  have h0 := from_c f.allocs 1 8
  have h1 := from_c f.area V 1024
  have h2 := from_c f.files 2 16
  have h3 := from_c f.blocks 1 64
  have h4 := from_c f.beat 1 1099511627776
  have h5 := from_c f.lease 1 1099511627776
  have h6 := from_c f.grace 0 1099511627776
  have h7 := from_c f.wait 0 1099511627776
  obtain ⟨q0, e0⟩ : ∃ q, q = inR f.allocs 1 8 := ⟨_, rfl⟩
  rw [← e0] at h0 hs
  clear e0
  obtain ⟨q1, e1⟩ : ∃ q, q = inR f.area V 1024 := ⟨_, rfl⟩
  rw [← e1] at h1 hs
  clear e1
  obtain ⟨q2, e2⟩ : ∃ q, q = inR f.files 2 16 := ⟨_, rfl⟩
  rw [← e2] at h2 hs
  clear e2
  obtain ⟨q3, e3⟩ : ∃ q, q = inR f.blocks 1 64 := ⟨_, rfl⟩
  rw [← e3] at h3 hs
  clear e3
  obtain ⟨q4, e4⟩ : ∃ q, q = inR f.beat 1 1099511627776 := ⟨_, rfl⟩
  rw [← e4] at h4 hs
  clear e4
  obtain ⟨q5, e5⟩ : ∃ q, q = inR f.lease 1 1099511627776 := ⟨_, rfl⟩
  rw [← e5] at h5 hs
  clear e5
  obtain ⟨q6, e6⟩ : ∃ q, q = inR f.grace 0 1099511627776 := ⟨_, rfl⟩
  rw [← e6] at h6 hs
  clear e6
  obtain ⟨q7, e7⟩ : ∃ q, q = inR f.wait 0 1099511627776 := ⟨_, rfl⟩
  rw [← e7] at h7 hs
  clear e7
  obtain ⟨c, m, d, a0, a1, a2, a3, a4, a5, a6, a7⟩ := f
  have hO : Mem.Own w [boxA w.heap.size (cfC ⟨c, m, d, a0, a1, a2, a3, a4, a5, a6, a7⟩) 43] (w.alloc (.cells (cfC ⟨c, m, d, a0, a1, a2, a3, a4, a5, a6, a7⟩) 43)) := (Own.nil w).box _ _
  have HS := Lib.hid hs
  clear hs
  unfold cfC at hO ⊢
  have HB := Lib.hid (show ∀ W, Kept (w.alloc (.cells (cfC ⟨c, m, d, a0, a1, a2, a3, a4, a5, a6, a7⟩) 43)) W → (W.cell? ⟨w.heap.size, 3, none⟩ = some (.int .i64 a0) ∧ W.cell? ⟨w.heap.size, 4, none⟩ = some (.int .i64 a1) ∧ W.cell? ⟨w.heap.size, 5, none⟩ = some (.int .i64 a2) ∧ W.cell? ⟨w.heap.size, 6, none⟩ = some (.int .i64 a3) ∧ W.cell? ⟨w.heap.size, 7, none⟩ = some (.int .i64 a4) ∧ W.cell? ⟨w.heap.size, 8, none⟩ = some (.int .i64 a5) ∧ W.cell? ⟨w.heap.size, 9, none⟩ = some (.int .i64 a6) ∧ W.cell? ⟨w.heap.size, 10, none⟩ = some (.int .i64 a7)) from fun W k => by
    have hb := (hO.later k).boxed 0 rfl
    exact ⟨cell_of_row _ _ _ _ _ _ hb, cell_of_row _ _ _ _ _ _ hb, cell_of_row _ _ _ _ _ _ hb, cell_of_row _ _ _ _ _ _ hb, cell_of_row _ _ _ _ _ _ hb, cell_of_row _ _ _ _ _ _ hb, cell_of_row _ _ _ _ _ _ hb, cell_of_row _ _ _ _ _ _ hb⟩)
  unfold cfC at HB
  by_cases hz : E = 0
  · have n1 : (E != 0) = false := by simp [hz]
    have HZ := Lib.hid hz
    clear hz
    cases q0 with
    | false =>
      go_enter Try.func21, Try.ntmps21
      go_wp2_with (go_at_call 46; (with_reducible refine (hr _).mono ?_); rintro e w1 ⟨rfl, k1⟩; obtain ⟨b0, b1, b2, b3, b4, b5, b6, b7⟩ := HB.out _ k1)
      go_quiet (first | (go_at_call 23; with_reducible exact Calls.quiet_of_same (hneed _)) | (go_at_call 57; first | with_reducible exact Calls.quiet_of_same (h0 _) | with_reducible exact Calls.quiet_of_same (h1 _) | with_reducible exact Calls.quiet_of_same (h2 _) | with_reducible exact Calls.quiet_of_same (h3 _) | with_reducible exact Calls.quiet_of_same (h4 _) | with_reducible exact Calls.quiet_of_same (h5 _) | with_reducible exact Calls.quiet_of_same (h6 _) | with_reducible exact Calls.quiet_of_same (h7 _)))
      go_wp2_with fail
      go_ret
      exact ⟨by rw [HS.out, if_neg (by rw [HZ.out]; simp)]; rfl, (hO.kept.trans k1).drewN _⟩
    | true =>
      cases q1 with
      | false =>
        go_enter Try.func21, Try.ntmps21
        go_wp2_with (go_at_call 46; (with_reducible refine (hr _).mono ?_); rintro e w1 ⟨rfl, k1⟩; obtain ⟨b0, b1, b2, b3, b4, b5, b6, b7⟩ := HB.out _ k1)
        go_quiet (first | (go_at_call 23; with_reducible exact Calls.quiet_of_same (hneed _)) | (go_at_call 57; first | with_reducible exact Calls.quiet_of_same (h0 _) | with_reducible exact Calls.quiet_of_same (h1 _) | with_reducible exact Calls.quiet_of_same (h2 _) | with_reducible exact Calls.quiet_of_same (h3 _) | with_reducible exact Calls.quiet_of_same (h4 _) | with_reducible exact Calls.quiet_of_same (h5 _) | with_reducible exact Calls.quiet_of_same (h6 _) | with_reducible exact Calls.quiet_of_same (h7 _)))
        go_wp2_with fail
        go_ret
        exact ⟨by rw [HS.out, if_neg (by rw [HZ.out]; simp)]; rfl, (hO.kept.trans k1).drewN _⟩
      | true =>
        cases q2 with
        | false =>
          go_enter Try.func21, Try.ntmps21
          go_wp2_with (go_at_call 46; (with_reducible refine (hr _).mono ?_); rintro e w1 ⟨rfl, k1⟩; obtain ⟨b0, b1, b2, b3, b4, b5, b6, b7⟩ := HB.out _ k1)
          go_quiet (first | (go_at_call 23; with_reducible exact Calls.quiet_of_same (hneed _)) | (go_at_call 57; first | with_reducible exact Calls.quiet_of_same (h0 _) | with_reducible exact Calls.quiet_of_same (h1 _) | with_reducible exact Calls.quiet_of_same (h2 _) | with_reducible exact Calls.quiet_of_same (h3 _) | with_reducible exact Calls.quiet_of_same (h4 _) | with_reducible exact Calls.quiet_of_same (h5 _) | with_reducible exact Calls.quiet_of_same (h6 _) | with_reducible exact Calls.quiet_of_same (h7 _)))
          go_wp2_with fail
          go_ret
          exact ⟨by rw [HS.out, if_neg (by rw [HZ.out]; simp)]; rfl, (hO.kept.trans k1).drewN _⟩
        | true =>
          cases q3 with
          | false =>
            go_enter Try.func21, Try.ntmps21
            go_wp2_with (go_at_call 46; (with_reducible refine (hr _).mono ?_); rintro e w1 ⟨rfl, k1⟩; obtain ⟨b0, b1, b2, b3, b4, b5, b6, b7⟩ := HB.out _ k1)
            go_quiet (first | (go_at_call 23; with_reducible exact Calls.quiet_of_same (hneed _)) | (go_at_call 57; first | with_reducible exact Calls.quiet_of_same (h0 _) | with_reducible exact Calls.quiet_of_same (h1 _) | with_reducible exact Calls.quiet_of_same (h2 _) | with_reducible exact Calls.quiet_of_same (h3 _) | with_reducible exact Calls.quiet_of_same (h4 _) | with_reducible exact Calls.quiet_of_same (h5 _) | with_reducible exact Calls.quiet_of_same (h6 _) | with_reducible exact Calls.quiet_of_same (h7 _)))
            go_wp2_with fail
            go_ret
            exact ⟨by rw [HS.out, if_neg (by rw [HZ.out]; simp)]; rfl, (hO.kept.trans k1).drewN _⟩
          | true =>
            cases q4 with
            | false =>
              go_enter Try.func21, Try.ntmps21
              go_wp2_with (go_at_call 46; (with_reducible refine (hr _).mono ?_); rintro e w1 ⟨rfl, k1⟩; obtain ⟨b0, b1, b2, b3, b4, b5, b6, b7⟩ := HB.out _ k1)
              go_quiet (first | (go_at_call 23; with_reducible exact Calls.quiet_of_same (hneed _)) | (go_at_call 57; first | with_reducible exact Calls.quiet_of_same (h0 _) | with_reducible exact Calls.quiet_of_same (h1 _) | with_reducible exact Calls.quiet_of_same (h2 _) | with_reducible exact Calls.quiet_of_same (h3 _) | with_reducible exact Calls.quiet_of_same (h4 _) | with_reducible exact Calls.quiet_of_same (h5 _) | with_reducible exact Calls.quiet_of_same (h6 _) | with_reducible exact Calls.quiet_of_same (h7 _)))
              go_wp2_with fail
              go_ret
              exact ⟨by rw [HS.out, if_neg (by rw [HZ.out]; simp)]; rfl, (hO.kept.trans k1).drewN _⟩
            | true =>
              cases q5 with
              | false =>
                go_enter Try.func21, Try.ntmps21
                go_wp2_with (go_at_call 46; (with_reducible refine (hr _).mono ?_); rintro e w1 ⟨rfl, k1⟩; obtain ⟨b0, b1, b2, b3, b4, b5, b6, b7⟩ := HB.out _ k1)
                go_quiet (first | (go_at_call 23; with_reducible exact Calls.quiet_of_same (hneed _)) | (go_at_call 57; first | with_reducible exact Calls.quiet_of_same (h0 _) | with_reducible exact Calls.quiet_of_same (h1 _) | with_reducible exact Calls.quiet_of_same (h2 _) | with_reducible exact Calls.quiet_of_same (h3 _) | with_reducible exact Calls.quiet_of_same (h4 _) | with_reducible exact Calls.quiet_of_same (h5 _) | with_reducible exact Calls.quiet_of_same (h6 _) | with_reducible exact Calls.quiet_of_same (h7 _)))
                go_wp2_with fail
                go_ret
                exact ⟨by rw [HS.out, if_neg (by rw [HZ.out]; simp)]; rfl, (hO.kept.trans k1).drewN _⟩
              | true =>
                cases q6 with
                | false =>
                  go_enter Try.func21, Try.ntmps21
                  go_wp2_with (go_at_call 46; (with_reducible refine (hr _).mono ?_); rintro e w1 ⟨rfl, k1⟩; obtain ⟨b0, b1, b2, b3, b4, b5, b6, b7⟩ := HB.out _ k1)
                  go_quiet (first | (go_at_call 23; with_reducible exact Calls.quiet_of_same (hneed _)) | (go_at_call 57; first | with_reducible exact Calls.quiet_of_same (h0 _) | with_reducible exact Calls.quiet_of_same (h1 _) | with_reducible exact Calls.quiet_of_same (h2 _) | with_reducible exact Calls.quiet_of_same (h3 _) | with_reducible exact Calls.quiet_of_same (h4 _) | with_reducible exact Calls.quiet_of_same (h5 _) | with_reducible exact Calls.quiet_of_same (h6 _) | with_reducible exact Calls.quiet_of_same (h7 _)))
                  go_wp2_with fail
                  go_ret
                  exact ⟨by rw [HS.out, if_neg (by rw [HZ.out]; simp)]; rfl, (hO.kept.trans k1).drewN _⟩
                | true =>
                  cases q7 with
                  | false =>
                    go_enter Try.func21, Try.ntmps21
                    go_wp2_with (go_at_call 46; (with_reducible refine (hr _).mono ?_); rintro e w1 ⟨rfl, k1⟩; obtain ⟨b0, b1, b2, b3, b4, b5, b6, b7⟩ := HB.out _ k1)
                    go_quiet (first | (go_at_call 23; with_reducible exact Calls.quiet_of_same (hneed _)) | (go_at_call 57; first | with_reducible exact Calls.quiet_of_same (h0 _) | with_reducible exact Calls.quiet_of_same (h1 _) | with_reducible exact Calls.quiet_of_same (h2 _) | with_reducible exact Calls.quiet_of_same (h3 _) | with_reducible exact Calls.quiet_of_same (h4 _) | with_reducible exact Calls.quiet_of_same (h5 _) | with_reducible exact Calls.quiet_of_same (h6 _) | with_reducible exact Calls.quiet_of_same (h7 _)))
                    go_wp2_with fail
                    go_ret
                    exact ⟨by rw [HS.out, if_neg (by rw [HZ.out]; simp)]; rfl, (hO.kept.trans k1).drewN _⟩
                  | true =>
                    go_enter Try.func21, Try.ntmps21
                    go_wp2_with (go_at_call 46; (with_reducible refine (hr _).mono ?_); rintro e w1 ⟨rfl, k1⟩; obtain ⟨b0, b1, b2, b3, b4, b5, b6, b7⟩ := HB.out _ k1)
                    go_quiet (first | (go_at_call 23; with_reducible exact Calls.quiet_of_same (hneed _)) | (go_at_call 57; first | with_reducible exact Calls.quiet_of_same (h0 _) | with_reducible exact Calls.quiet_of_same (h1 _) | with_reducible exact Calls.quiet_of_same (h2 _) | with_reducible exact Calls.quiet_of_same (h3 _) | with_reducible exact Calls.quiet_of_same (h4 _) | with_reducible exact Calls.quiet_of_same (h5 _) | with_reducible exact Calls.quiet_of_same (h6 _) | with_reducible exact Calls.quiet_of_same (h7 _)))
                    go_wp2_with fail
                    go_ret
                    exact ⟨by rw [HS.out, if_neg (by rw [HZ.out]; simp)]; rfl, (hO.kept.trans k1).drewN _⟩
  · have n1 : (E != 0) = true := by simpa using hz
    have HZ := Lib.hid hz
    clear hz
    go_enter Try.func21, Try.ntmps21
    go_wp2_with (go_at_call 46; (with_reducible refine (hr _).mono ?_); rintro e w1 ⟨rfl, k1⟩)
    go_ret
    exact ⟨by rw [HS.out, if_pos HZ.out]; rfl, hO.kept.trans k1⟩
end Go.Proofs.YtngojgocplmedaaR.Ls
