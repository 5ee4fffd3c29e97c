/-
  The specification's Read of a record: its contract.
-/
import Derived.Test.YtckbhjjflpobbaaGreatGq
import Derived.Test.YtckbhjjflpobbaaGreatGr
import Derived.Test.YtckbhjjflpobbaaGreatGz
namespace Go.Proofs.YtckbhjjflpobbaaGreat.Rc
open Go Go.RowKit Go.ChangeShapes Go.WideShapes Go.ChangeAt Go.Proofs.YtckbhjjflpobbaaGreat.Mem Go.Proofs.YtckbhjjflpobbaaGreat.Pk Go.Proofs.YtckbhjjflpobbaaGreat.Fk Go.Proofs.YtckbhjjflpobbaaGreat.Dz Go.Proofs.YtckbhjjflpobbaaGreat.Fz
set_option linter.unusedVariables false

theorem out_tests {s : Ds} {a e : Int} (h : a < 0 ∨ e < a ∨ (s.n : Int) < e) : a < 0 ∨ (0 ≤ a ∧ e < a) ∨ (0 ≤ a ∧ a ≤ e ∧ (s.n : Int) < e) := by omega
set_option maxRecDepth 100000 in
set_option maxHeartbeats 8000000 in
theorem rfetch_c (R G Sb : Nat) (pv : Value) (s : Ds) (hok : s.ok) (a e lsn boot : Int) (ha : -9223372036854775808 ≤ a ∧ a ≤ 9223372036854775807) (he : -9223372036854775808 ≤ e ∧ e ≤ 9223372036854775807) (w : World) (hd : Rk R G Sb pv s w) :
    Calls Tryz.prog 53 #[.pointer (some ⟨R, 0, none⟩), .int .i64 a, .int .i64 e, .int .i64 lsn, .int .i64 boot] w fun ed w' => ed = .returned (.tuple #[.agg #[.int .i64 (fetch s a e lsn boot).1.boot, .int .i64 (fetch s a e lsn boot).1.lsn, .int .i64 (fetch s a e lsn boot).1.part, .int .i64 (fetch s a e lsn boot).1.parts, .int .u8 ((fetch s a e lsn boot).1.kind : Int), .string (fetch s a e lsn boot).1.data], .int .i64 (fetch s a e lsn boot).2]) ∧ Kept w w' := by
  have hn1 := hok.lo
  have hn2 := hok.hi
  obtain ⟨w1, hw1⟩ : ∃ w1, w1 = w.alloc (.cells #[.int .i64 0, .int .i64 0, .int .i64 0, .int .i64 0, .int .u8 0, .string ⟨#[]⟩] 113) := ⟨_, rfl⟩
  have k1 : Kept w w1 := by rw [hw1]; exact (Kept.refl w).alloc _
  have hR1 : w1.heap[w.heap.size]? = some (.cells (fcells 0 0 0 0 0 ⟨#[]⟩) 113 (0, 0)) := by rw [hw1]; exact (MapKept.heap_alloc w (.cells (fcells 0 0 0 0 0 ⟨#[]⟩) 113)).1
  have hs1 : w1.heap.size = w.heap.size + 1 := by rw [hw1]; simp
  have H0 := Lib.hid (And.intro k1 hR1)
  have hry : ∀ (y : World) (f : Fr) (E : Int) (tm : Array Value), y.heap[w.heap.size]? = some (.cells (fcells f.boot f.lsn f.part f.parts f.kind f.data) 113 (0, 0)) → Kept w y → tm[10]?.getD undef = .pointer (some ⟨w.heap.size, 0, none⟩) → tm[11]?.getD undef = .int .i64 E → bodyPost Tryz.prog Tryz.f53 (fun e w' => e = .returned (.tuple #[.agg #[.int .i64 f.boot, .int .i64 f.lsn, .int .i64 f.part, .int .i64 f.parts, .int .u8 (f.kind : Int), .string f.data], .int .i64 E]) ∧ Kept w w') Exit.ret ⟨tm, []⟩ y := fun y f E tm hy ky htm htm7 => by
    obtain ⟨c0, c1, c2, c3, c4, c5⟩ := six_cells hy
    exact bodyPost_ret (v := .tuple #[.agg #[.int .i64 f.boot, .int .i64 f.lsn, .int .i64 f.part, .int .i64 f.parts, .int .u8 (f.kind : Int), .string f.data], .int .i64 E]) (by simp [results, Tryz.results53, go_sem, c0, c1, c2, c3, c4, c5, htm, htm7]) rfl ⟨rfl, ky⟩
  have hret : ∀ (W : World), Kept w1 W → ∀ (f : Fr) (E : Int) (tm : Array Value), tm[10]?.getD undef = .pointer (some ⟨w.heap.size, 0, none⟩) → tm[11]?.getD undef = .int .i64 E → bodyPost Tryz.prog Tryz.f53 (fun e w' => e = .returned (.tuple #[.agg #[.int .i64 f.boot, .int .i64 f.lsn, .int .i64 f.part, .int .i64 f.parts, .int .u8 (f.kind : Int), .string f.data], .int .i64 E]) ∧ Kept w w') Exit.ret ⟨tm, []⟩
      ((((((W.setCell ⟨w.heap.size, 0, none⟩ (.int .i64 f.boot)).setCell ⟨w.heap.size, 1, none⟩ (.int .i64 f.lsn)).setCell ⟨w.heap.size, 2, none⟩ (.int .i64 f.part)).setCell ⟨w.heap.size, 3, none⟩ (.int .i64 f.parts)).setCell ⟨w.heap.size, 4, none⟩ (.int .u8 (f.kind : Int))).setCell ⟨w.heap.size, 5, none⟩ (.string f.data)) := fun W hW f E tm htm htm7 => by
    have hR := hW.block H0.out.2
    have hy := six (b := f.boot) (l := f.lsn) (p := f.part) (q := f.parts) (k := (f.kind : Int)) (d := f.data) hR
    have ky := six_below (b := f.boot) (l := f.lsn) (p := f.part) (q := f.parts) (k := (f.kind : Int)) (d := f.data) (H0.out.1.trans hW) (Nat.le_refl w.heap.size)
    exact hry _ f E tm hy ky htm htm7
  have HRY := Lib.hid hry
  have HRET := Lib.hid hret
  have hd1 := hd.keep k1
  obtain ⟨s0, _, s2, _⟩ := hd1.cells w1 (Off.refl _ _)
  have sd := hd1.rf.dead
  rw [hw1] at s0 s2 sd
  have hrd : ∀ (m : Nat) (W : World), m < s.n → s.fu.dead = false → Kept w1 W → Calls Tryz.prog 47 #[.pointer (some ⟨R, 0, none⟩), .int .i64 (m : Int)] W fun e w' => e = .returned (.tuple #[.string (s.look m), .int .i64 0]) ∧ Kept W w' := fun m W hm hde hW => by
    have e : s.reads (m : Int) = (s.look m, 0) := by simp [Ds.reads, Ds.out_in hm, hde]
    have := rread_c R G Sb pv s (m : Int) W (hd1.keep hW)
    rw [e] at this
    exact this
  clear hret hry k1 hR1 hd hd1
  have HW := Lib.hid hw1
  clear hw1
  by_cases hbad : a < 0 ∨ e < a ∨ (s.n : Int) < e
  · rw [fetch_out hbad]
    clear hrd
    rcases out_tests hbad with h1 | ⟨h1, h2⟩ | ⟨h1, h2, h3⟩
    all_goals
      clear hbad
      go_enter Tryz.func53, Tryz.ntmps53
      go_wp2
      exact HRY.out _ Fr.nil 3 _ (HW.out ▸ H0.out.2) (HW.out ▸ H0.out.1) rfl rfl
  · obtain ⟨t, rfl⟩ := Int.eq_ofNat_of_zero_le (show 0 ≤ a by omega)
    obtain ⟨u, rfl⟩ := Int.eq_ofNat_of_zero_le (show 0 ≤ e by omega)
    have htu : t ≤ u := by omega
    have hun : u ≤ s.n := by omega
    clear hbad ha he
    cases hdead : s.fu.dead with
    | true =>
      rw [fetch_dead htu hun hdead]
      rw [hdead] at sd
      clear hrd hdead
      have g1 : decide ((u : Int) < (t : Int)) = false := by simp; omega
      have g2 : decide ((s.n : Int) < (u : Int)) = false := by simp; omega
      go_enter Tryz.func53, Tryz.ntmps53
      go_wp2
      exact HRY.out _ Fr.nil 10 _ (HW.out ▸ H0.out.2) (HW.out ▸ H0.out.1) rfl rfl
    | false =>
      rw [fetch_in htu hun hdead]
      rw [hdead] at sd
      have g1 : decide ((u : Int) < (t : Int)) = false := by simp; omega
      have g2 : decide ((s.n : Int) < (u : Int)) = false := by simp; omega
      by_cases htu2 : t = u
      · subst htu2
        rw [rd_same.1, rd_same.2]
        clear hrd hdead
        go_enter Tryz.func53, Tryz.ntmps53
        go_wp2
        exact HRY.out _ Fr.nil 12 _ (HW.out ▸ H0.out.2) (HW.out ▸ H0.out.1) rfl rfl
      · have hlt : t < u := by omega
        have g3 : ((t : Int) == (u : Int)) = false := by simp; omega
        have hr0 := hrd t _ (by omega) hdead (Kept.refl w1)
        rw [HW.out] at hr0
        have hcd := rdecode_c (s.look t)
        obtain ⟨X, hX⟩ : ∃ X, X = decF (s.look t) := ⟨_, rfl⟩
        obtain ⟨EE, hEE⟩ : ∃ EE, EE = decE (s.look t) := ⟨_, rfl⟩
        obtain ⟨L0, hL0⟩ : ∃ L0, L0 = s.look t := ⟨_, rfl⟩
        rw [← hX, ← hEE] at hcd
        rw [← hL0] at hcd hr0
        by_cases hh : EE ≠ 0 ∨ X.lsn ≠ lsn ∨ X.boot < boot ∨ X.part ≠ 0 ∨ (u : Int) - t < X.parts
        · have h12 := rdF_bad (rd_head (S := s.look) (t := t) (u := u) (lsn := lsn) (boot := boot) (.inr (by rw [← hX, ← hEE]; exact hh)))
          rw [h12.1, h12.2]
          have h5 : (EE != 0) = true ∨ ((EE != 0) = false ∧ (X.lsn != lsn) = true) ∨ ((EE != 0) = false ∧ (X.lsn != lsn) = false ∧ decide (X.boot < boot) = true) ∨ ((EE != 0) = false ∧ (X.lsn != lsn) = false ∧ decide (X.boot < boot) = false ∧ (X.part != 0) = true) ∨ ((EE != 0) = false ∧ (X.lsn != lsn) = false ∧ decide (X.boot < boot) = false ∧ (X.part != 0) = false ∧ decide ((u : Int) - (t : Int) < X.parts) = true) := by
            simp only [bne_iff_ne, ne_eq, bne_eq_false_iff_eq, decide_eq_true_eq, decide_eq_false_iff_not]
            by_cases a1 : EE = 0
            · by_cases a2 : X.lsn = lsn
              · by_cases a3 : X.boot < boot
                · exact .inr (.inr (.inl ⟨a1, a2, a3⟩))
                · by_cases a4 : X.part = 0
                  · refine .inr (.inr (.inr (.inr ⟨a1, a2, a3, a4, ?_⟩)))
                    rcases hh with h | h | h | h | h
                    · exact absurd a1 h
                    · exact absurd a2 h
                    · exact absurd h a3
                    · exact absurd a4 h
                    · exact h
                  · exact .inr (.inr (.inr (.inl ⟨a1, a2, a3, a4⟩)))
              · exact .inr (.inl ⟨a1, a2⟩)
            · exact .inl a1
          clear hrd hdead hX hEE hL0 h12 hh
          rcases h5 with b1 | ⟨b1, b2⟩ | ⟨b1, b2, b3⟩ | ⟨b1, b2, b3, b4⟩ | ⟨b1, b2, b3, b4, b5⟩
          all_goals
            go_enter Tryz.func53, Tryz.ntmps53
            go_wp2_with (first
              | (go_at_call 47; (with_reducible refine hr0.mono ?_); rintro e u1 ⟨rfl, k2⟩; rw [← HW.out] at k2)
              | (go_at_call 77; (with_reducible refine (hcd _).mono ?_); rintro e u2 ⟨rfl, k3⟩; have kz := Lib.hid (k2.trans k3); have hne1 : ¬ w.heap.size = u2.heap.size := (by have := kz.out.size; omega); have hne2 : ¬ u2.heap.size = w.heap.size := (by omega); clear k2 k3; obtain ⟨⟨r0, r1, r2, r3, r4, r5⟩, fz⟩ := rblock ((kz.out.alloc (.cells #[.int .i64 X.boot, .int .i64 X.lsn, .int .i64 X.part, .int .i64 X.parts, .int .u8 (X.kind : Int), .string X.data] 113)).block H0.out.2)))
            exact HRET.out _ (kz.out.alloc _) Fr.nil 12 _ rfl rfl
        · have a1 : EE = 0 := Classical.byContradiction fun h => hh (.inl h)
          have a2 : X.lsn = lsn := Classical.byContradiction fun h => hh (.inr (.inl h))
          have a3 : boot ≤ X.boot := Int.not_lt.1 fun h => hh (.inr (.inr (.inl h)))
          have a4 : X.part = 0 := Classical.byContradiction fun h => hh (.inr (.inr (.inr (.inl h))))
          have a5 : X.parts ≤ (u : Int) - t := Int.not_lt.1 fun h => hh (.inr (.inr (.inr (.inr h))))
          have hg := dec_good (s := s.look t) (by rw [← hEE]; exact a1)
          rw [← hX] at hg
          obtain ⟨p, hp, hp1, hp255⟩ : ∃ p : Nat, X.parts = (p : Int) ∧ 1 ≤ p ∧ p ≤ 255 := ⟨X.parts.toNat, by have := hg.1.q1; omega, by have := hg.1.q1; omega, by have := hg.1.q2; omega⟩
          exact rfetch_main w w1 R G Sb s.n t u p lsn boot s.look X hX hg.1 hg.2 (by rw [← hEE]; exact a1) a2 a3 a4 hp hp1 hp255 hlt (by omega) hun hn2 HW H0 hs1 s0 s2 sd (fun m W hm hW => hrd m W hm hdead hW) HRET
end Go.Proofs.YtckbhjjflpobbaaGreat.Rc
