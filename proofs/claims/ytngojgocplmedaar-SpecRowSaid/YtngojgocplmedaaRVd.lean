/-
  The specification's functions of layer 9.
-/
import Derived.Test.YtngojgocplmedaaRVc
namespace Go.Proofs.YtngojgocplmedaaR.Re
open Go.RowKit Go.Proofs.YtngojgocplmedaaR.Mem Go.Proofs.YtngojgocplmedaaR.Bx Go.ChangeShapes Go.WideShapes Go.ChangeAt

set_option maxRecDepth 100000 in
theorem ramounts_c (x : Am) (w : World) : Calls Try.prog 66 #[.agg #[.int .i64 x.c, .int .i64 x.m, .int .i64 x.d]] w fun e w' => e = .returned (.slice (some ⟨w.heap.size + 1, 0, none⟩) 3 3) ∧ Own w [boxA (w.heap.size + 1) #[.int .i64 x.c, .int .i64 x.m, .int .i64 x.d] 3] w' := by
  go_enter Try.func66, Try.ntmps66
  have h0 := ((Own.start ((Kept.refl w).alloc (.cells #[.int .i64 x.c, .int .i64 x.m, .int .i64 x.d] 23))).box #[.int .i64 x.c, .int .i64 x.m, .int .i64 x.d] 3)
  have e : (w.alloc (.cells #[.int .i64 x.c, .int .i64 x.m, .int .i64 x.d] 23)).heap.size = w.heap.size + 1 := by simp
  rw [e] at h0
  go_wp2
  go_ret
  exact ⟨rfl, h0⟩
set_option maxRecDepth 100000 in
theorem rcheck_c (x : Am) (w : World) : Calls Try.prog 46 #[.agg #[.int .i64 x.c, .int .i64 x.m, .int .i64 x.d]] w fun e w' => e = .returned (.int .i64 x.says) ∧ Kept w w' := by
  go_enter Try.func46, Try.ntmps46
  have hk0 := (Kept.refl w).alloc (.cells #[.int .i64 x.c, .int .i64 x.m, .int .i64 x.d] 23)
  have e : (w.alloc (.cells #[.int .i64 x.c, .int .i64 x.m, .int .i64 x.d] 23)).heap.size + 1 = w.heap.size + 1 + 1 := by simp
  have hc := ramounts_c x (w.alloc (.cells #[.int .i64 x.c, .int .i64 x.m, .int .i64 x.d] 23))
  rw [e] at hc
  go_wp2_with (go_at_call 66; refine hc.mono ?_; rintro e w1 ⟨rfl, h1⟩)
  have HB := Lib.hid (box_at x (h1.boxed 0 rfl))
  have hk := hk0.trans h1.kept
  clear h1 hc
  go_loopw [4] (fun i wr => ∃ j : Nat, j ≤ 3 ∧ i = .int .i64 j ∧ wr = w1 ∧ ∀ l, l < j → fine (x.at l) = true) (fun i _ => 3 - (intOf i).toNat)
  case atStart => exact ⟨0, by omega, rfl, rfl, fun l h => absurd h (by omega)⟩
  case round =>
    obtain ⟨j, hj, rfl, hw, hg⟩ := hrel
    obtain rfl : w1 = wr := hw.symm
    by_cases hlt : j < 3
    · have hx := HB.out j hlt
      obtain ⟨v, hv⟩ : ∃ v, v = x.at j := ⟨_, rfl⟩
      rw [← hv] at hx
      have HV := Lib.hid hv
      clear hv
      by_cases h0 : v < 0
      · go_wp2
        go_ret
        exact ⟨by unfold Am.says; rw [bad_at j hlt (by rw [← HV.out]; exact fine_not.2 (by omega))]; rfl, hk⟩
      · by_cases h1 : v > 1099511627776
        · go_wp2
          go_ret
          exact ⟨by unfold Am.says; rw [bad_at j hlt (by rw [← HV.out]; exact fine_not.2 (by omega))]; rfl, hk⟩
        · go_wp2
          go_roundw
          case rel => exact ⟨j + 1, by omega, by go_num, trivial, fun l hl => by
            by_cases e : l = j
            · subst e; rw [← HV.out]; exact fine_iff.2 (by omega)
            · exact hg l (by omega)⟩
          case measure => simp [intOf]; omega
    · go_wp2
      go_ret
      exact ⟨by unfold Am.says; rw [good_at (fun l hl => hg l (by omega))]; rfl, hk⟩
theorem fits_less {a b : Am} (h : (Am.less a b).good = true) : b.fits a = true := by
  obtain ⟨⟨h0, _⟩, ⟨h1, _⟩, h2, _⟩ := good_iff.1 h
  simp only [Am.less] at h0 h1 h2
  exact fits_iff.2 ⟨by omega, by omega, by omega⟩
theorem less_fits {a b : Am} (ha : a.good = true) (hb : b.good = true) (h : (Am.less a b).good = false) : b.fits a = false := by
  by_cases e : b.fits a = true
  · obtain ⟨⟨a0, a1⟩, ⟨a2, a3⟩, a4, a5⟩ := good_iff.1 ha
    obtain ⟨⟨b0, b1⟩, ⟨b2, b3⟩, b4, b5⟩ := good_iff.1 hb
    obtain ⟨f0, f1, f2⟩ := fits_iff.1 e
    have : (Am.less a b).good = true := good_iff.2 (by simp only [Am.less]; omega)
    rw [this] at h; cases h
  · simpa using e
end Go.Proofs.YtngojgocplmedaaR.Re
