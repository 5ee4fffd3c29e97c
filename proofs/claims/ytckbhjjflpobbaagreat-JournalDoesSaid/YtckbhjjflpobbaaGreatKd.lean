/-
  The greater one of two headers: head.compare, slices.MaxFunc over the array of both.
-/
import Derived.Test.YtckbhjjflpobbaaGreatKb
import Derived.Deep.RegionHeld3
import Derived.LoopN
namespace Go.Proofs.YtckbhjjflpobbaaGreat.Hk
open Go.RowKit Go.Proofs.YtckbhjjflpobbaaGreat.Mem Go.Proofs.YtckbhjjflpobbaaGreat.Pk

theorem isnan_c (a : Int) (w : World) : Calls Tryz.prog 122 #[.int .i64 a] w fun e w' => e = .returned (.bool false) ∧ w = w' := by
  have h : (a != a) = false := by simp
  go_enter Tryz.func122, Tryz.ntmps122
  go_wp2
  go_ret
  exact ⟨rfl, rfl⟩
def cmpI (a b : Int) : Int := if a < b then -1 else if b < a then 1 else 0
theorem cmp_c (a b : Int) (w : World) : Calls Tryz.prog 106 #[.int .i64 a, .int .i64 b] w fun e w' => e = .returned (.int .i64 (cmpI a b)) ∧ w = w' := by
  have ca := isnan_c a
  have cb := isnan_c b
  unfold cmpI
  by_cases h1 : a < b
  · rw [if_pos h1]
    have t1 : decide (a < b) = true := by simpa using h1
    clear h1
    go_enter Tryz.func106, Tryz.ntmps106
    go_wp2_with (first
      | (go_at_call 122; (with_reducible refine (ca _).mono ?_); rintro e w' ⟨rfl, rfl⟩)
      | (go_at_call 122; (with_reducible refine (cb _).mono ?_); rintro e w' ⟨rfl, rfl⟩))
    go_ret
    exact ⟨rfl, rfl⟩
  · rw [if_neg h1]
    have t1 : decide (a < b) = false := by simpa using h1
    by_cases h2 : b < a
    · rw [if_pos h2]
      have t2 : decide (b < a) = true := by simpa using h2
      clear h1 h2
      go_enter Tryz.func106, Tryz.ntmps106
      go_wp2_with (first
        | (go_at_call 122; (with_reducible refine (ca _).mono ?_); rintro e w' ⟨rfl, rfl⟩)
        | (go_at_call 122; (with_reducible refine (cb _).mono ?_); rintro e w' ⟨rfl, rfl⟩))
      go_ret
      exact ⟨rfl, rfl⟩
    · rw [if_neg h2]
      have t2 : decide (b < a) = false := by simpa using h2
      clear h1 h2
      go_enter Tryz.func106, Tryz.ntmps106
      go_wp2_with (first
        | (go_at_call 122; (with_reducible refine (ca _).mono ?_); rintro e w' ⟨rfl, rfl⟩)
        | (go_at_call 122; (with_reducible refine (cb _).mono ?_); rintro e w' ⟨rfl, rfl⟩))
      go_ret
      exact ⟨rfl, rfl⟩
theorem compare_c (q b a f n q' b' a' f' n' : Int) (w : World) :
    Calls Tryz.prog 94 #[.agg #[.int .i64 q, .int .i64 b, .int .i64 a, .int .i64 f, .int .i64 n], .agg #[.int .i64 q', .int .i64 b', .int .i64 a', .int .i64 f', .int .i64 n']] w fun e w' => e = .returned (.int .i64 (cmpI q q')) ∧ Kept w w' := by
  have hc := cmp_c q q'
  have hk0 := ((Kept.refl w).alloc (.cells #[.int .i64 q, .int .i64 b, .int .i64 a, .int .i64 f, .int .i64 n] 136)).alloc (.cells #[.int .i64 q', .int .i64 b', .int .i64 a', .int .i64 f', .int .i64 n'] 136)
  go_enter Tryz.func94, Tryz.ntmps94
  go_wp2_with (go_at_call 106; (with_reducible refine (hc _).mono ?_); rintro e w' ⟨rfl, rfl⟩)
  go_ret
  exact ⟨rfl, hk0⟩

/-- The cells of the array of both slots. -/
def acells (a b : Hd) : Array Value := #[.int .i64 a.seq, .int .i64 a.boot, .int .i64 a.area, .int .i64 a.first, .int .i64 a.snaps, .int .i64 b.seq, .int .i64 b.boot, .int .i64 b.area, .int .i64 b.first, .int .i64 b.snaps]
theorem ablock {y : World} {F : Nat} {T : TypeId} {a b : Hd} (h : y.heap[F]? = some (.cells (acells a b) T (0, 0))) :
    (y.cell? ⟨F, 0, none⟩ = some (.int .i64 a.seq) ∧ y.cell? ⟨F, 1, none⟩ = some (.int .i64 a.boot) ∧ y.cell? ⟨F, 2, none⟩ = some (.int .i64 a.area) ∧ y.cell? ⟨F, 3, none⟩ = some (.int .i64 a.first) ∧ y.cell? ⟨F, 4, none⟩ = some (.int .i64 a.snaps) ∧ y.cell? ⟨F, 5, none⟩ = some (.int .i64 b.seq) ∧ y.cell? ⟨F, 6, none⟩ = some (.int .i64 b.boot) ∧ y.cell? ⟨F, 7, none⟩ = some (.int .i64 b.area) ∧ y.cell? ⟨F, 8, none⟩ = some (.int .i64 b.first) ∧ y.cell? ⟨F, 9, none⟩ = some (.int .i64 b.snaps)) ∧ ∀ i, y.frozen? ⟨F, i, none⟩ = false :=
  ⟨⟨cell_of_row _ _ _ _ _ _ h, cell_of_row _ _ _ _ _ _ h, cell_of_row _ _ _ _ _ _ h, cell_of_row _ _ _ _ _ _ h, cell_of_row _ _ _ _ _ _ h, cell_of_row _ _ _ _ _ _ h, cell_of_row _ _ _ _ _ _ h, cell_of_row _ _ _ _ _ _ h, cell_of_row _ _ _ _ _ _ h, cell_of_row _ _ _ _ _ _ h⟩, fun i => frozen_of_row y F i _ _ h⟩

set_option maxHeartbeats 4000000 in
set_option maxRecDepth 100000 in
theorem max_c (A : Nat) (T : TypeId) (x y : Hd) (w : World) (hA : w.heap[A]? = some (.cells (acells x y) T (0, 0))) :
    Calls Tryz.prog 93 #[.slice (some ⟨A, 0, none⟩) 2 2, .func (.func 94) #[] #[]] w fun e w' => e = .returned (if x.seq < y.seq then .agg #[.int .i64 y.seq, .int .i64 y.boot, .int .i64 y.area, .int .i64 y.first, .int .i64 y.snaps] else .agg #[.int .i64 x.seq, .int .i64 x.boot, .int .i64 x.area, .int .i64 x.first, .int .i64 x.snaps]) ∧ Kept w w' := by
  have hc := compare_c y.seq y.boot y.area y.first y.snaps x.seq x.boot x.area x.first x.snaps
  have k0 := (Kept.refl w).alloc (.cells #[.int .i64 0, .int .i64 0, .int .i64 0, .int .i64 0, .int .i64 0] 136)
  have hA0 := k0.at hA
  obtain ⟨⟨_, _, _, _, _, _, _, _, _, _⟩, _⟩ := ablock hA0
  obtain ⟨v, hv⟩ : ∃ v, v = (w.alloc (.cells #[.int .i64 0, .int .i64 0, .int .i64 0, .int .i64 0, .int .i64 0] 136)).alloc (.cells #[.int .i64 x.seq, .int .i64 x.boot, .int .i64 x.area, .int .i64 x.first, .int .i64 x.snaps] 136) := ⟨_, rfl⟩
  have kv : Kept w v := by rw [hv]; exact k0.alloc _
  have hRv : v.heap[w.heap.size]? = some (.cells (hcells 0 0 0 0 0) 136 (0, 0)) := by rw [hv]; exact ((Kept.refl _).alloc _).at (MapKept.heap_alloc w _).1
  have hMv : v.heap[w.heap.size + 1]? = some (.cells (hcells x.seq x.boot x.area x.first x.snaps) 136 (0, 0)) := by
    rw [hv]
    have := (MapKept.heap_alloc (w.alloc (.cells #[.int .i64 0, .int .i64 0, .int .i64 0, .int .i64 0, .int .i64 0] 136)) (.cells #[.int .i64 x.seq, .int .i64 x.boot, .int .i64 x.area, .int .i64 x.first, .int .i64 x.snaps] 136)).1
    simpa [hcells] using this
  have HK := Lib.hid (And.intro kv (And.intro hRv (And.intro hMv (kv.at hA))))
  have hB : ∀ W, Kept v W → W.cell? ⟨A, 5, none⟩ = some (.int .i64 y.seq) ∧ W.cell? ⟨A, 6, none⟩ = some (.int .i64 y.boot) ∧ W.cell? ⟨A, 7, none⟩ = some (.int .i64 y.area) ∧ W.cell? ⟨A, 8, none⟩ = some (.int .i64 y.first) ∧ W.cell? ⟨A, 9, none⟩ = some (.int .i64 y.snaps) ∧ W.cell? ⟨w.heap.size + 1, 0, none⟩ = some (.int .i64 x.seq) ∧ W.cell? ⟨w.heap.size + 1, 1, none⟩ = some (.int .i64 x.boot) ∧ W.cell? ⟨w.heap.size + 1, 2, none⟩ = some (.int .i64 x.area) ∧ W.cell? ⟨w.heap.size + 1, 3, none⟩ = some (.int .i64 x.first) ∧ W.cell? ⟨w.heap.size + 1, 4, none⟩ = some (.int .i64 x.snaps) := fun W hW => by
    obtain ⟨⟨_, _, _, _, _, h5, h6, h7, h8, h9⟩, _⟩ := ablock (hW.at HK.out.2.2.2)
    obtain ⟨⟨m0, m1, m2, m3, m4⟩, _⟩ := hblock (hW.at HK.out.2.2.1)
    exact ⟨h5, h6, h7, h8, h9, m0, m1, m2, m3, m4⟩
  have HB := Lib.hid hB
  clear hB kv hRv hMv hA
  by_cases hlt : x.seq < y.seq
  · have tq : decide (0 < cmpI y.seq x.seq) = true := by unfold cmpI; rw [if_neg (by omega), if_pos hlt]; rfl
    rw [if_pos hlt]
    clear hlt
    go_enter Tryz.func93, Tryz.ntmps93
    go_wp2_with fail
    refine wp_loop_rounds 3 ?_
    rw [rounds_succ]
    go_wp2_with fail
    rw [← hv]
    clear hv
    have S1 := HB.out _ (Kept.refl v)
    have S1' := HB.out _ (Kept.refl v).drew
    have kd := (Kept.refl v).drew
    go_region_held3 (fun W => W.cell? ⟨A, 5, none⟩ = some (.int .i64 y.seq) ∧ W.cell? ⟨A, 6, none⟩ = some (.int .i64 y.boot) ∧ W.cell? ⟨A, 7, none⟩ = some (.int .i64 y.area) ∧ W.cell? ⟨A, 8, none⟩ = some (.int .i64 y.first) ∧ W.cell? ⟨A, 9, none⟩ = some (.int .i64 y.snaps) ∧ W.cell? ⟨w.heap.size + 1, 0, none⟩ = some (.int .i64 x.seq) ∧ W.cell? ⟨w.heap.size + 1, 1, none⟩ = some (.int .i64 x.boot) ∧ W.cell? ⟨w.heap.size + 1, 2, none⟩ = some (.int .i64 x.area) ∧ W.cell? ⟨w.heap.size + 1, 3, none⟩ = some (.int .i64 x.first) ∧ W.cell? ⟨w.heap.size + 1, 4, none⟩ = some (.int .i64 x.snaps))
      (first | assumption | exact HB.out _ ‹_›)
      (first
        | (go_at_call 94; (with_reducible refine (hc _).mono ?_); rintro e u1 ⟨rfl, k1⟩; have k1 := Kept.trans kd k1))
    have hR1 := k1.at HK.out.2.1
    have hM1 := k1.at HK.out.2.2.1
    have S2 := HB.out _ k1
    obtain ⟨_, _, _, _, _, _, _, _, _, _⟩ := S2
    obtain ⟨_, _⟩ := hblock hM1
    obtain ⟨⟨r0, r1, r2, r3, r4⟩, fr⟩ := hblock hR1
    clear S1 S1'
    go_wp2_with fail
    have hM2 := five (q := y.seq) (b := y.boot) (a := y.area) (f := y.first) (n := y.snaps) hM1
    have hR2 := (five_but u1 (w.heap.size + 1) y.seq y.boot y.area y.first y.snaps).at hR1 (by omega)
    have k2 := five_below (q := y.seq) (b := y.boot) (a := y.area) (f := y.first) (n := y.snaps) (HK.out.1.trans k1) (by omega : w.heap.size ≤ w.heap.size + 1)
    clear r0 r1 r2 r3 r4 fr
    generalize (((((u1.setCell ⟨w.heap.size + 1, 0, none⟩ (.int .i64 y.seq)).setCell ⟨w.heap.size + 1, 1, none⟩ (.int .i64 y.boot)).setCell ⟨w.heap.size + 1, 2, none⟩ (.int .i64 y.area)).setCell ⟨w.heap.size + 1, 3, none⟩ (.int .i64 y.first)).setCell ⟨w.heap.size + 1, 4, none⟩ (.int .i64 y.snaps)) = y1 at hM2 hR2 k2 ⊢
    obtain ⟨⟨_, _, _, _, _⟩, _⟩ := hblock hM2
    obtain ⟨⟨r0, r1, r2, r3, r4⟩, fr⟩ := hblock hR2
    rw [rounds_succ]
    go_wp2_with fail
    clear r0 r1 r2 r3 r4 fr
    have hy := five (q := y.seq) (b := y.boot) (a := y.area) (f := y.first) (n := y.snaps) hR2
    have ky := five_below (q := y.seq) (b := y.boot) (a := y.area) (f := y.first) (n := y.snaps) k2 (Nat.le_refl w.heap.size)
    generalize (((((y1.setCell ⟨w.heap.size, 0, none⟩ (.int .i64 y.seq)).setCell ⟨w.heap.size, 1, none⟩ (.int .i64 y.boot)).setCell ⟨w.heap.size, 2, none⟩ (.int .i64 y.area)).setCell ⟨w.heap.size, 3, none⟩ (.int .i64 y.first)).setCell ⟨w.heap.size, 4, none⟩ (.int .i64 y.snaps)) = Y at hy ky ⊢
    obtain ⟨⟨c0, c1, c2, c3, c4⟩, _⟩ := hblock hy
    exact bodyPost_ret (v := .agg #[.int .i64 y.seq, .int .i64 y.boot, .int .i64 y.area, .int .i64 y.first, .int .i64 y.snaps]) (by simp [results, Tryz.results93, go_sem, c0, c1, c2, c3, c4]) rfl ⟨rfl, ky⟩
  · have tq : decide (0 < cmpI y.seq x.seq) = false := by unfold cmpI; (split; · rfl); rfl
    rw [if_neg hlt]
    clear hlt
    go_enter Tryz.func93, Tryz.ntmps93
    go_wp2_with fail
    refine wp_loop_rounds 3 ?_
    rw [rounds_succ]
    go_wp2_with fail
    rw [← hv]
    clear hv
    have S1 := HB.out _ (Kept.refl v)
    have S1' := HB.out _ (Kept.refl v).drew
    have kd := (Kept.refl v).drew
    go_region_held3 (fun W => W.cell? ⟨A, 5, none⟩ = some (.int .i64 y.seq) ∧ W.cell? ⟨A, 6, none⟩ = some (.int .i64 y.boot) ∧ W.cell? ⟨A, 7, none⟩ = some (.int .i64 y.area) ∧ W.cell? ⟨A, 8, none⟩ = some (.int .i64 y.first) ∧ W.cell? ⟨A, 9, none⟩ = some (.int .i64 y.snaps) ∧ W.cell? ⟨w.heap.size + 1, 0, none⟩ = some (.int .i64 x.seq) ∧ W.cell? ⟨w.heap.size + 1, 1, none⟩ = some (.int .i64 x.boot) ∧ W.cell? ⟨w.heap.size + 1, 2, none⟩ = some (.int .i64 x.area) ∧ W.cell? ⟨w.heap.size + 1, 3, none⟩ = some (.int .i64 x.first) ∧ W.cell? ⟨w.heap.size + 1, 4, none⟩ = some (.int .i64 x.snaps))
      (first | assumption | exact HB.out _ ‹_›)
      (first
        | (go_at_call 94; (with_reducible refine (hc _).mono ?_); rintro e u1 ⟨rfl, k1⟩; have k1 := Kept.trans kd k1))
    have hR1 := k1.at HK.out.2.1
    have hM1 := k1.at HK.out.2.2.1
    clear S1 S1'
    go_wp2_with fail
    obtain ⟨⟨_, _, _, _, _⟩, _⟩ := hblock hM1
    obtain ⟨⟨r0, r1, r2, r3, r4⟩, fr⟩ := hblock hR1
    have k2 := HK.out.1.trans k1
    rw [rounds_succ]
    go_wp2_with fail
    clear r0 r1 r2 r3 r4 fr
    have hy := five (q := x.seq) (b := x.boot) (a := x.area) (f := x.first) (n := x.snaps) hR1
    have ky := five_below (q := x.seq) (b := x.boot) (a := x.area) (f := x.first) (n := x.snaps) k2 (Nat.le_refl w.heap.size)
    generalize (((((u1.setCell ⟨w.heap.size, 0, none⟩ (.int .i64 x.seq)).setCell ⟨w.heap.size, 1, none⟩ (.int .i64 x.boot)).setCell ⟨w.heap.size, 2, none⟩ (.int .i64 x.area)).setCell ⟨w.heap.size, 3, none⟩ (.int .i64 x.first)).setCell ⟨w.heap.size, 4, none⟩ (.int .i64 x.snaps)) = Y at hy ky ⊢
    obtain ⟨⟨c0, c1, c2, c3, c4⟩, _⟩ := hblock hy
    exact bodyPost_ret (v := .agg #[.int .i64 x.seq, .int .i64 x.boot, .int .i64 x.area, .int .i64 x.first, .int .i64 x.snaps]) (by simp [results, Tryz.results93, go_sem, c0, c1, c2, c3, c4]) rfl ⟨rfl, ky⟩
end Go.Proofs.YtckbhjjflpobbaaGreat.Hk
