/-
  Save, as the program does it.
-/
import Derived.Test.YtckbhjjflpobbaaGreatKe
namespace Go.Proofs.YtckbhjjflpobbaaGreat.Hk
open Go.RowKit Go.Proofs.YtckbhjjflpobbaaGreat.Mem Go.Proofs.YtckbhjjflpobbaaGreat.Pk Go.Proofs.YtckbhjjflpobbaaGreat.Dz Go.Proofs.YtckbhjjflpobbaaGreat.Fz

/-- What Save returns, and the disk behind it. -/
def saves (s : Ds) (c : Hd) : Int × Ds :=
  if c.err ≠ 0 then (c.err, s) else if s.n < 2 then (3, s) else
    if (s.writes (c.seq % 2) c.enc).1 ≠ 0 then ((s.writes (c.seq % 2) c.enc).1, (s.writes (c.seq % 2) c.enc).2) else (s.writes (c.seq % 2) c.enc).2.syncs
set_option maxRecDepth 100000 in
theorem save_nil (q b a f n : Int) (w : World) :
    Calls Tryz.prog 64 #[.pointer none, .agg #[.int .i64 q, .int .i64 b, .int .i64 a, .int .i64 f, .int .i64 n]] w fun e w' => e = .returned (.int .i64 1) ∧ Kept w w' := by
  have k0 := (Kept.refl w).alloc (.cells #[.int .i64 q, .int .i64 b, .int .i64 a, .int .i64 f, .int .i64 n] 74)
  go_enter Tryz.func64, Tryz.ntmps64
  go_wp2
  go_ret
  exact ⟨rfl, k0⟩
set_option maxHeartbeats 4000000 in
set_option maxRecDepth 100000 in
theorem o_save {w0 w : World} {L : List As} (h : Own w0 L w) (i : Nat) {F D : Nat} {s : Ds} (hi : L[i]? = some (dk F D s)) (hroom : s.pend.length < 4294967296) (c : Hd) :
    Calls Tryz.prog 64 #[.pointer (some ⟨D, 0, none⟩), .agg #[.int .i64 c.seq, .int .i64 c.boot, .int .i64 c.area, .int .i64 c.first, .int .i64 c.snaps]] w fun e w' => e = .returned (.int .i64 (saves s c).1) ∧ Own w0 (L.set i (dk F D (saves s c).2)) w' := by
  have ls : ∀ a b : As, (a :: L).set (i + 1) b = a :: L.set i b := fun _ _ => rfl
  have h1 := h.box #[.int .i64 c.seq, .int .i64 c.boot, .int .i64 c.area, .int .i64 c.first, .int .i64 c.snaps] 74
  have hi1 : (boxA w.heap.size #[.int .i64 c.seq, .int .i64 c.boot, .int .i64 c.area, .int .i64 c.first, .int .i64 c.snaps] 74 :: L)[i + 1]? = some (dk F D s) := hi
  have cells : ∀ (W : World) (M : List As), Own w0 (boxA w.heap.size #[.int .i64 c.seq, .int .i64 c.boot, .int .i64 c.area, .int .i64 c.first, .int .i64 c.snaps] 74 :: M) W → W.cell? ⟨w.heap.size, 0, none⟩ = some (.int .i64 c.seq) ∧ W.cell? ⟨w.heap.size, 1, none⟩ = some (.int .i64 c.boot) ∧ W.cell? ⟨w.heap.size, 2, none⟩ = some (.int .i64 c.area) ∧ W.cell? ⟨w.heap.size, 3, none⟩ = some (.int .i64 c.first) ∧ W.cell? ⟨w.heap.size, 4, none⟩ = some (.int .i64 c.snaps) := fun W M hW => (hblock (hW.boxed 0 rfl)).1
  have ce := encode_c c
  obtain ⟨R, hR⟩ : ∃ R, R = saves s c := ⟨_, rfl⟩
  rw [← hR]
  unfold saves at hR
  obtain ⟨E, hE⟩ : ∃ E, E = c.err := ⟨_, rfl⟩
  rw [← hE] at ce hR
  have HC := Lib.hid cells
  clear cells
  by_cases he : E = 0
  · have hg : c.good := (Hd.err_zero c).mp (hE ▸ he)
    have hq : c.seq.tmod 2 = c.seq % 2 := tmod2 hg.s1
    have cs := slot_c c.seq c.boot c.area c.first c.snaps
    rw [hq] at cs
    rw [if_neg (by simpa using he)] at hR
    subst he
    clear hE hg hq
    have hsec := fun (W : World) (hW : Own w0 _ W) => o_sectors hW (i + 1) hi1
    by_cases h2 : s.n < 2
    · have t2 : decide ((s.n : Int) < 2) = true := by simp; omega
      rw [if_pos h2] at hR
      subst hR
      generalize c.enc = X at ce
      clear h2 hroom
      go_enter Tryz.func64, Tryz.ntmps64
      go_wp2_with (first
        | (go_at_call 84; (with_reducible refine (ce _).mono ?_); rintro e u1 ⟨rfl, k1⟩; have h2 := h1.later k1; obtain ⟨_, _, _, _, _⟩ := HC.out _ _ h2)
        | (go_at_call 45; (with_reducible refine (hsec _ h2).mono ?_); rintro e u2 ⟨rfl, h3⟩))
      go_ret
      refine ⟨rfl, ?_⟩
      have := h3.tail
      rwa [show L.set i (dk F D s) = L from by
        apply List.ext_getElem?
        intro j
        rw [List.getElem?_set]
        split
        · rename_i hj; subst hj; split
          · exact hi.symm
          · rename_i hlt; exact (List.getElem?_eq_none (by omega)).symm
        · rfl]
    · have t2 : decide ((s.n : Int) < 2) = false := by simp; omega
      rw [if_neg h2] at hR
      have hw := fun (W : World) (hW : Own w0 _ W) => o_write hW (i + 1) hi1 hroom (c.seq % 2) c.enc
      have hi2 : (boxA w.heap.size #[.int .i64 c.seq, .int .i64 c.boot, .int .i64 c.area, .int .i64 c.first, .int .i64 c.snaps] 74 :: L.set i (dk F D (s.writes (c.seq % 2) c.enc).2))[i + 1]? = some (dk F D (s.writes (c.seq % 2) c.enc).2) := by
        show (L.set i _)[i]? = _
        rw [List.getElem?_set]
        obtain ⟨hlt, _⟩ := List.getElem?_eq_some_iff.mp hi
        simp [hlt]
      have hy := fun (W : World) (hW : Own w0 _ W) => o_sync hW (i + 1) hi2
      generalize s.writes (c.seq % 2) c.enc = Y at hw hR hi2 hy
      generalize c.enc = X at ce hw
      clear h2 hroom
      by_cases hY : Y.1 = 0
      · have tY : (Y.1 != 0) = false := by simpa using hY
        rw [if_neg (by simpa using hY)] at hR
        subst hR
        clear hY
        go_enter Tryz.func64, Tryz.ntmps64
        go_wp2_with (first
          | (go_at_call 84; (with_reducible refine (ce _).mono ?_); rintro e u1 ⟨rfl, k1⟩; have h2 := h1.later k1; obtain ⟨_, _, _, _, _⟩ := HC.out _ _ h2)
          | (go_at_call 45; (with_reducible refine (hsec _ h2).mono ?_); rintro e u2 ⟨rfl, h3⟩; obtain ⟨_, _, _, _, _⟩ := HC.out _ _ h3)
          | (go_at_call 85; (with_reducible refine (cs _).mono ?_); rintro e u3 ⟨rfl, k3⟩; have h4 := h3.later k3)
          | (go_at_call 57; (with_reducible refine (hw _ h4).mono ?_); rintro e u4 ⟨rfl, h5⟩; rw [ls] at h5; have h6 := Lib.hid h5)
          | (go_at_call 59; (with_reducible refine (hy _ h6.out).mono ?_); rintro e u5 ⟨rfl, h7⟩))
        go_ret
        refine ⟨rfl, ?_⟩
        have := h7.tail
        simpa using this
      · have tY : (Y.1 != 0) = true := by simpa using hY
        rw [if_pos (by simpa using hY)] at hR
        subst hR
        clear hY hy
        go_enter Tryz.func64, Tryz.ntmps64
        go_wp2_with (first
          | (go_at_call 84; (with_reducible refine (ce _).mono ?_); rintro e u1 ⟨rfl, k1⟩; have h2 := h1.later k1; obtain ⟨_, _, _, _, _⟩ := HC.out _ _ h2)
          | (go_at_call 45; (with_reducible refine (hsec _ h2).mono ?_); rintro e u2 ⟨rfl, h3⟩; obtain ⟨_, _, _, _, _⟩ := HC.out _ _ h3)
          | (go_at_call 85; (with_reducible refine (cs _).mono ?_); rintro e u3 ⟨rfl, k3⟩; have h4 := h3.later k3)
          | (go_at_call 57; (with_reducible refine (hw _ h4).mono ?_); rintro e u4 ⟨rfl, h5⟩; rw [ls] at h5; have h6 := Lib.hid h5))
        go_ret
        refine ⟨rfl, ?_⟩
        exact h6.out.tail
  · rw [if_pos (by simpa using he)] at hR
    subst hR
    have tE : (E != 0) = true := by simpa using he
    generalize c.enc = X at ce
    clear he hE hroom
    go_enter Tryz.func64, Tryz.ntmps64
    go_wp2_with (go_at_call 84; (with_reducible refine (ce _).mono ?_); rintro e u1 ⟨rfl, k1⟩; have h2 := h1.later k1)
    go_ret
    refine ⟨rfl, ?_⟩
    have := h2.tail
    rwa [show L.set i (dk F D s) = L from by
      apply List.ext_getElem?
      intro j
      rw [List.getElem?_set]
      split
      · rename_i hj; subst hj; split
        · exact hi.symm
        · rename_i hlt; exact (List.getElem?_eq_none (by omega)).symm
      · rfl]
end Go.Proofs.YtckbhjjflpobbaaGreat.Hk
