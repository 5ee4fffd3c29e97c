/-
  Specifications copied and compared by the program (package spec's Copy and Equal, layer 13).
-/
import Derived.Test.YtngojgocplmedaaRZf
import Derived.Test.YtngojgocplmedaaRZc
import Derived.Test.YtngojgocplmedaaRWb
namespace Go.Proofs.YtngojgocplmedaaR.Ls
open Go.RowKit Go.Proofs.YtngojgocplmedaaR.Mem Go.Proofs.YtngojgocplmedaaR.Bx Go.Proofs.YtngojgocplmedaaR.In Go.Proofs.YtngojgocplmedaaR.Sp Go.ChangeShapes Go.WideShapes Go.ChangeAt
set_option linter.unusedVariables false

set_option maxRecDepth 100000 in
theorem sleqi_c {w : World} {ao bo : Option Addr} {n cap m c : Nat} {l k : List Int} (h : At w ao n cap l) (s : At w bo m c k) : Calls Try.prog 49 #[.slice ao n cap, .slice bo m c] w fun e w' => e = .returned (.bool (decide (l = k))) ∧ Kept w w' := by
  have hn := h.n62
  have hm := s.n62
  unfold maxLen at hn hm
  have H := Lib.hid h
  have S := Lib.hid s
  clear h s
  go_enter Try.func49, Try.ntmps49
  by_cases hnm : n = m
  · subst hnm
    have n0 : ((n : Int) != (n : Int)) = false := by simp
    go_wp2
    go_loopw [13] (fun i wr => ∃ j : Nat, j ≤ n ∧ i = .int .i64 j ∧ Kept w wr ∧ l.take j = k.take j) (fun i _ => n - (RowKit.intOf i).toNat)
    case atStart => exact ⟨0, Nat.zero_le _, rfl, Kept.refl _, rfl⟩
    case round =>
      obtain ⟨j, hj, rfl, hk, hsame⟩ := hrel
      have HE := Lib.hid hsame
      clear hsame
      by_cases hlt : j < n
      · obtain ⟨x, g, o, hx, _, rfl, hg, hc⟩ := (H.out.kept hk).get hlt
        obtain ⟨y, g2, o2, hy, _, rfl, hg2, hc2⟩ := (S.out.kept hk).get hlt
        have HX := Lib.hid (And.intro hx hy)
        clear hx hy
        by_cases hxy : x = y
        · subst hxy
          have n1 : (x != x) = false := by simp
          go_wp2_with fail
          go_quiet (fail)
          go_wp2_with fail
          go_roundw
          case rel => exact ⟨j + 1, by omega, by go_num, hk.drewN nq, take_eq_step HE.out HX.out.1 HX.out.2⟩
          case measure => simp [RowKit.intOf]; omega
        · have n1 : (x != y) = true := by simpa using hxy
          have HN := Lib.hid hxy
          clear hxy
          go_wp2_with fail
          go_quiet (fail)
          go_wp2_with fail
          go_ret
          exact ⟨by rw [decide_eq_false (ne_at HX.out.1 HX.out.2 HN.out)]; rfl, hk.drewN nq⟩
      · obtain rfl : j = n := by omega
        go_wp2
        go_ret
        refine ⟨?_, hk⟩
        have e := HE.out
        rw [List.take_of_length_le (Nat.le_of_eq H.out.len), List.take_of_length_le (Nat.le_of_eq S.out.len)] at e
        rw [decide_eq_true e]; rfl
  · have n0 : ((n : Int) != (m : Int)) = true := by simp; omega
    have hne : ¬ l = k := fun e => hnm (by rw [← H.out.len, ← S.out.len, e])
    have HN := Lib.hid hne
    clear hne
    go_wp2
    go_ret
    exact ⟨by rw [decide_eq_false HN.out]; rfl, Kept.refl _⟩
set_option maxRecDepth 100000 in
theorem sleqt_c {w : World} {ao bo : Option Addr} {n cap m c : Nat} {l k : List Tsk} (h : AtE elT w ao n cap l) (s : AtE elT w bo m c k) : Calls Try.prog 50 #[.slice ao n cap, .slice bo m c] w fun e w' => e = .returned (.bool (decide (l = k))) ∧ Kept w w' := by
  have hn := h.n62
  have hm := s.n62
  unfold maxLen at hn hm
  have H := Lib.hid h
  have S := Lib.hid s
  clear h s
  go_enter Try.func50, Try.ntmps50
  by_cases hnm : n = m
  · subst hnm
    have n0 : ((n : Int) != (n : Int)) = false := by simp
    go_wp2
    go_loopw [13] (fun i wr => ∃ j : Nat, j ≤ n ∧ i = .int .i64 j ∧ Kept w wr ∧ l.take j = k.take j) (fun i _ => n - (RowKit.intOf i).toNat)
    case atStart => exact ⟨0, Nat.zero_le _, rfl, Kept.refl _, rfl⟩
    case round =>
      obtain ⟨j, hj, rfl, hk, hsame⟩ := hrel
      have HE := Lib.hid hsame
      clear hsame
      by_cases hlt : j < n
      · obtain ⟨x, g, o, hx, rfl, hg, hc⟩ := (H.out.kept hk).get hlt
        obtain ⟨y, g2, o2, hy, rfl, hg2, hc2⟩ := (S.out.kept hk).get hlt
        obtain ⟨a0, a1, a2, a3, a4, a5⟩ := task_cells hc
        obtain ⟨b0, b1, b2, b3, b4, b5⟩ := task_cells hc2
        have HX := Lib.hid (And.intro hx hy)
        have hq := neqT x y
        obtain ⟨q, hq2⟩ : ∃ q, q = sameT x y := ⟨_, rfl⟩
        rw [← hq2] at hq
        have HQ := Lib.hid hq2
        clear hx hy hc hc2 hq2
        cases q with
        | true =>
          go_wp2_with fail
          go_quiet (fail)
          go_wp2_with fail
          go_roundw
          case rel => exact ⟨j + 1, by omega, by go_num, hk.drewN nq, take_eq_step HE.out HX.out.1 (by rw [(sameT_iff x y).1 HQ.out.symm]; exact HX.out.2)⟩
          case measure => simp [RowKit.intOf]; omega
        | false =>
          go_wp2_with fail
          go_quiet (fail)
          go_wp2_with fail
          go_ret
          exact ⟨by rw [decide_eq_false (ne_at HX.out.1 HX.out.2 (fun e => by have := (sameT_iff x y).2 e; rw [← HQ.out] at this; cases this))]; rfl, hk.drewN nq⟩
      · obtain rfl : j = n := by omega
        go_wp2
        go_ret
        refine ⟨?_, hk⟩
        have e := HE.out
        rw [List.take_of_length_le (Nat.le_of_eq H.out.len), List.take_of_length_le (Nat.le_of_eq S.out.len)] at e
        rw [decide_eq_true e]; rfl
  · have n0 : ((n : Int) != (m : Int)) = true := by simp; omega
    have hne : ¬ l = k := fun e => hnm (by rw [← H.out.len, ← S.out.len, e])
    have HN := Lib.hid hne
    clear hne
    go_wp2
    go_ret
    exact ⟨by rw [decide_eq_false HN.out]; rfl, Kept.refl _⟩
set_option maxHeartbeats 2000000 in
set_option maxRecDepth 100000 in
theorem sequal_c {w : World} {s t : Sp} {p q : Pl} (h : SpAt w s p) (k : SpAt w t q) : Calls Try.prog 16 #[.agg (spC s p), .agg (spC t q)] w fun e w' => e = .returned (.bool (decide (s = t))) ∧ Kept w w' := by
  have H := Lib.hid (And.intro h k)
  clear h k
  obtain ⟨po, pn, pc, ro, tn, tc⟩ := p
  obtain ⟨qo, qn, qc, uo, un, uc⟩ := q
  have h0 := boxes2 w (spC s ⟨po, pn, pc, ro, tn, tc⟩) (spC t ⟨qo, qn, qc, uo, un, uc⟩) 27
  unfold spC at h0 ⊢
  have n2 := eqlA s.c s.m s.d t.c t.m t.d
  have HS := Lib.hid (sp_eq s t)
  obtain ⟨Q, hQ⟩ : ∃ Q, Q = sameA s.c s.m s.d t.c t.m t.d := ⟨_, rfl⟩
  rw [← hQ] at n2
  have HQ := Lib.hid hQ
  obtain ⟨R, hR⟩ : ∃ R, R = decide (s.ports = t.ports) := ⟨_, rfl⟩
  have HR := Lib.hid hR
  clear hQ hR
  have fin0 : decide (s = t) = (decide (s.id = t.id) && (Q && (R && decide (s.tasks = t.tasks)))) := by
    rw [HQ.out, HR.out, Bool.eq_iff_iff]
    simp [HS.out]
  have fin := Lib.hid fin0
  clear fin0
  by_cases hid : s.id = t.id
  · have n1 : (s.id == t.id) = true := by simpa using hid
    cases Q with
    | false =>
      have HF0 : decide (s = t) = false := by rw [fin.out]; simp
      have HF := Lib.hid HF0
      clear HF0
      clear hid
      go_enter Try.func16, Try.ntmps16
      go_wp2
      go_ret
      exact ⟨by rw [HF.out]; rfl, h0.kept⟩
    | true =>
      cases R with
      | false =>
        have HF0 : decide (s = t) = false := by rw [fin.out]; simp
        have HF := Lib.hid HF0
        clear HF0
        clear hid
        go_enter Try.func16, Try.ntmps16
        go_wp2_with (go_at_call 49; (with_reducible refine (sleqi_c (H.out.1.kept h0.kept).ports (H.out.2.kept h0.kept).ports).mono ?_); rintro e w1 ⟨rfl, k1⟩; rw [← HR.out])
        go_ret
        exact ⟨by rw [HF.out]; rfl, h0.kept.trans k1⟩
      | true =>
        have HF0 : decide (s = t) = decide (s.tasks = t.tasks) := by rw [fin.out]; simp [hid]
        have HF := Lib.hid HF0
        clear HF0
        clear hid
        go_enter Try.func16, Try.ntmps16
        go_wp2_with (first
          | (go_at_call 49; (with_reducible refine (sleqi_c (H.out.1.kept h0.kept).ports (H.out.2.kept h0.kept).ports).mono ?_); rintro e w1 ⟨rfl, k1⟩; rw [← HR.out]; have h1 := h0.later k1; obtain ⟨⟨_, _, _, _, _, c5⟩, _⟩ := box6 (h1.boxed 1 rfl); obtain ⟨⟨_, _, _, _, _, d5⟩, _⟩ := box6 (h1.boxed 0 rfl))
          | (go_at_call 50; (with_reducible refine (sleqt_c (H.out.1.kept h1.kept).tasks (H.out.2.kept h1.kept).tasks).mono ?_); rintro e w2 ⟨rfl, k2⟩))
        go_ret
        exact ⟨by rw [HF.out]; rfl, h1.kept.trans k2⟩
  · have n1 : (s.id == t.id) = false := by simpa using hid
    have HF0 : decide (s = t) = false := by rw [fin.out]; simp [hid]
    have HF := Lib.hid HF0
    clear HF0
    clear hid
    go_enter Try.func16, Try.ntmps16
    go_wp2
    go_ret
    exact ⟨by rw [HF.out]; rfl, h0.kept⟩
theorem nil_eqI (w : World) : (binOp .eql 24 (.slice none 0 0) (.slice none 0 0)).run Try.prog w = .ok (.bool true) w := by kernel_rfl
theorem nil_neI (ad : Addr) (n cap : Nat) (w : World) : (binOp .eql 24 (.slice (some ad) n cap) (.slice none 0 0)).run Try.prog w = .ok (.bool false) w := by kernel_rfl
set_option maxRecDepth 100000 in
theorem clone_i {w : World} {ao : Option Addr} {n cap : Nat} {l : List Int} (h : At w ao n cap l) (hn : n ≤ 1000000) : Calls Try.prog 32 #[.slice ao n cap] w fun e w' => ∃ bo c, e = .returned (.slice bo n c) ∧ New w.heap.size w' bo n c l ∧ Kept w w' := by
  rcases ao with _ | ad
  · have h0 := h.nil rfl
    subst h0
    obtain rfl : n = 0 := Nat.le_zero.1 h.le
    obtain rfl : l = [] := List.eq_nil_of_length_eq_zero h.len
    have e1 := nil_eqI
    go_enter Try.func32, Try.ntmps32
    go_wp2
    go_ret
    exact ⟨none, 0, rfl, New.empty _ _, Kept.refl _⟩
  · have H := Lib.hid h
    clear h
    have e1 := nil_neI ad n cap
    go_enter Try.func32, Try.ntmps32
    go_wp2_with (at_builtin; refine wpList_app (New.lit (B := w.heap.size) w (Nat.le_refl _) [] (fun x hx => by simp at hx) (Nat.zero_le _)) (H.out.kept ((Kept.refl _).alloc _)) (by simp) (Nat.zero_add n) hn rfl _ _ rfl rfl rfl ?_; intro bo c w1 hnew hg hb)
    go_ret
    exact ⟨bo, c, rfl, by simpa using hnew, hb w (Nat.le_refl _) ((Kept.refl w).alloc _)⟩
theorem nil_eqT (w : World) : (binOp .eql 25 (.slice none 0 0) (.slice none 0 0)).run Try.prog w = .ok (.bool true) w := by kernel_rfl
theorem nil_neT (ad : Addr) (n cap : Nat) (w : World) : (binOp .eql 25 (.slice (some ad) n cap) (.slice none 0 0)).run Try.prog w = .ok (.bool false) w := by kernel_rfl
set_option maxRecDepth 100000 in
theorem clone_t {w : World} {ao : Option Addr} {n cap : Nat} {l : List Tsk} (h : AtE elT w ao n cap l) (hn : n ≤ 1000000) : Calls Try.prog 33 #[.slice ao n cap] w fun e w' => ∃ bo c, e = .returned (.slice bo n c) ∧ NewE elT w.heap.size w' bo n c l ∧ Kept w w' := by
  rcases ao with _ | ad
  · have h0 := h.nil rfl
    subst h0
    obtain rfl : n = 0 := Nat.le_zero.1 h.le
    obtain rfl : l = [] := List.eq_nil_of_length_eq_zero h.len
    have e1 := nil_eqT
    go_enter Try.func33, Try.ntmps33
    go_wp2
    go_ret
    exact ⟨none, 0, rfl, NewE.empty _ _ _, Kept.refl _⟩
  · have H := Lib.hid h
    clear h
    have e1 := nil_neT ad n cap
    go_enter Try.func33, Try.ntmps33
    go_wp2_with (at_builtin; refine wpList_appE elT_fine (NewE.lit elT_fine (B := w.heap.size) w (Nat.le_refl _) [] (Nat.zero_le _)) (H.out.kept ((Kept.refl _).alloc _)) (by simp) (Nat.zero_add n) hn rfl _ _ rfl rfl rfl ?_; intro bo c w1 hnew hg hb)
    go_ret
    exact ⟨bo, c, rfl, by simpa using hnew, hb w (Nat.le_refl _) ((Kept.refl w).alloc _)⟩

set_option maxHeartbeats 4000000 in
set_option maxRecDepth 100000 in
theorem scopy_c {w : World} {s : Sp} {p : Pl} (h : SpAt w s p) (hn : p.pn ≤ 1000000) (hm : p.tn ≤ 1000000) : Calls Try.prog 12 #[.agg (spC s p)] w fun e w' => ∃ q : Pl, e = .returned (.agg (spC s q)) ∧ SpNew w.heap.size w' s q ∧ Kept w w' := by
  obtain ⟨po, pn, pc, ro, tn, tc⟩ := p
  have H := Lib.hid (And.intro h (And.intro hn hm))
  clear h hn hm
  have h0 := boxes2 w (spC s ⟨po, pn, pc, ro, tn, tc⟩) spZ 27
  unfold spC spZ at h0
  unfold spC
  obtain ⟨⟨a0, a1, a2, a3, a4, a5⟩, _⟩ := box6 (h0.boxed 1 rfl)
  have hc1 := clone_i (show At _ po pn pc s.ports from H.out.1.ports.kept h0.kept) H.out.2.1
  have AT := Lib.hid (show AtE elT w ro tn tc s.tasks from H.out.1.tasks)
  have H0 := Lib.hid h0
  go_enter Try.func12, Try.ntmps12
  go_wp2_with (first
    | (go_at_call 32; (with_reducible refine (hc1).mono ?_); rintro e u1 ⟨bo, c, rfl, hnew, k1⟩; have h1 := h0.later k1; obtain ⟨⟨_, _, _, _, b4, b5⟩, bf⟩ := box6 (h1.boxed 1 rfl); have bf4 := bf 4; clear bf; have O1 := Lib.hid (h1.boxset 1 rfl 4 (.slice bo pn c)); have N1 := Lib.hid hnew; have K1 := Lib.hid k1; clear h1 hnew k1)
    | (go_at_call 33; (with_reducible refine (clone_t (AT.out.kept O1.out.kept) H.out.2.2).mono ?_); rintro e u2 ⟨bo2, c2, rfl, hnew2, k2⟩; have h2 := O1.out.later k2; obtain ⟨⟨d0, d1, d2, d3, d4, d5⟩, fd⟩ := box6 (h2.boxed 1 rfl); have f5 := fd 5; clear fd; obtain ⟨⟨z0, z1, z2, z3, z4, z5⟩, fz⟩ := box6 (h2.boxed 0 rfl); have y0 := fz 0; have y1 := fz 1; have y2 := fz 2; have y3 := fz 3; have y4 := fz 4; have y5 := fz 5; clear fz; have N2 := Lib.hid hnew2; have K2 := Lib.hid k2; have H2 := Lib.hid h2; clear hnew2 k2 h2))
  refine bodyPost_ret (v := .agg #[.int .i64 s.id, .int .i64 s.c, .int .i64 s.m, .int .i64 s.d, .slice bo pn c, .slice bo2 tn c2]) (by simp [results, Try.results12, go_sem, z0, z1, z2, z3, z4, z5]) rfl ?_
  have hF : w.heap.size ≤ w.heap.size ∧ w.heap.size < w.heap.size + 2 := by omega
  have hG : w.heap.size ≤ w.heap.size + 1 ∧ w.heap.size + 1 < w.heap.size + 2 := by omega
  have hB0 : w.heap.size + 2 ≤ u1.heap.size := by simpa using K1.out.size
  have o1 : Only w.heap.size (w.heap.size + 2) u1 (u1.setCell ⟨w.heap.size, 4, none⟩ (.slice bo pn c)) := (Only.refl _ _ u1).set hF
  have n1 := (N1.out.off fun g hg => o1.block g (by simp at hg; omega)).kept K2.out
  obtain ⟨q, e1, e2, _, _, e3⟩ := copys_end (u2 := u2) n1 N2.out H2.out.kept (by simp) (by simpa [World.setCell] using hB0) (((((((Only.refl w.heap.size (w.heap.size + 2) u2).set (p := ⟨w.heap.size, 5, none⟩) (v := .slice bo2 tn c2) hF).set (p := ⟨w.heap.size + 1, 0, none⟩) (v := .int .i64 s.id) hG).set (p := ⟨w.heap.size + 1, 1, none⟩) (v := .int .i64 s.c) hG).set (p := ⟨w.heap.size + 1, 2, none⟩) (v := .int .i64 s.m) hG).set (p := ⟨w.heap.size + 1, 3, none⟩) (v := .int .i64 s.d) hG).set (p := ⟨w.heap.size + 1, 4, none⟩) (v := .slice bo pn c) hG |>.set (p := ⟨w.heap.size + 1, 5, none⟩) (v := .slice bo2 tn c2) hG)
  exact ⟨q, e1, e2, e3⟩
end Go.Proofs.YtngojgocplmedaaR.Ls
