/-
  The specification's fuse beside the fuse.
-/
import Derived.Test.YtbjheldocmgnkaaFo
namespace Go.Proofs.Ytbjheldocmgnkaa.Fz
open Go.RowKit Go.Proofs.Ytbjheldocmgnkaa.Mem

def St.ref : St → Array Value
  | .idle => #[.bool false, .bool false, .int .i64 0]
  | .armed n => #[.bool true, .bool false, .int .i64 n]
  | .blown => #[.bool true, .bool true, .int .i64 0]
/-- Block B is the specification's fuse in state s. -/
def Rf (B : Nat) (s : St) (w : World) : Prop := w.heap[B]? = some (.cells s.ref 28 (0, 0))
theorem Rf.kept {B : Nat} {s : St} {w w' : World} (h : Rf B s w) (k : Kept w w') : Rf B s w' := Kept.block k h
theorem Rf.but {B C : Nat} {s : St} {w w' : World} (h : Rf B s w) (k : But C w w') (hn : B ≠ C) : Rf B s w' := k.at h hn
theorem Rf.lt {B : Nat} {s : St} {w : World} (h : Rf B s w) : B < w.heap.size := lt_of_block h
theorem Rf.cell {B : Nat} {s : St} {w : World} (h : Rf B s w) (i : Nat) : w.cell? ⟨B, i, none⟩ = s.ref[i]? := cell_of_row _ _ _ _ _ _ h
theorem Rf.free {B : Nat} {s : St} {w : World} (h : Rf B s w) (i : Nat) : w.frozen? ⟨B, i, none⟩ = false := frozen_of_row _ _ _ _ _ h
theorem Rf.dead {B : Nat} {s : St} {w : World} (h : Rf B s w) : w.cell? ⟨B, 1, none⟩ = some (.bool s.dead) := by
  rw [h.cell 1]; cases s <;> rfl

theorem rburn_c (B : Nat) (s : St) (hs : s.ok) (w : World) (h : Rf B s w) :
    Calls Try.prog 10 #[.pointer (some ⟨B, 0, none⟩)] w fun e w' => e = .returned (.int .i64 s.says) ∧ But B w w' ∧ Rf B s.burnt w' := by
  have h0 := h.cell 0
  have h1 := h.cell 1
  have h2 := h.cell 2
  have f0 := h.free 0
  have f1 := h.free 1
  have f2 := h.free 2
  have H := Lib.hid h
  clear h
  match s, hs with
  | .idle, _ =>
    simp [St.ref] at h0 h1 h2
    go_enter Try.func10, Try.ntmps10
    go_wp2
    go_ret
    exact ⟨rfl, But.refl _ _, H.out⟩
  | .armed 0, _ =>
    simp [St.ref] at h0 h1 h2
    go_enter Try.func10, Try.ntmps10
    go_wp2
    go_ret
    refine ⟨rfl, (But.refl B w).setc _ _, ?_⟩
    have := heap_setCell_same w B 1 _ _ (.bool true) H.out
    simpa [Rf, St.ref, St.burnt] using this
  | .armed (n + 1), hn =>
    have hn : n + 1 < 9223372036854775808 := hn
    simp [St.ref] at h0 h1 h2
    go_enter Try.func10, Try.ntmps10
    go_wp2
    go_ret
    refine ⟨rfl, (But.refl B w).setc _ _, ?_⟩
    have := heap_setCell_same w B 2 _ _ (.int .i64 n) H.out
    simpa [Rf, St.ref, St.burnt] using this
  | .blown, _ =>
    simp [St.ref] at h0 h1 h2
    go_enter Try.func10, Try.ntmps10
    go_wp2
    go_ret
    exact ⟨rfl, But.refl _ _, H.out⟩
theorem rarm_c (B : Nat) (s : St) (k : Int) (w : World) (h : Rf B s w) :
    Calls Try.prog 12 #[.pointer (some ⟨B, 0, none⟩), .int .i64 k] w fun e w' => e = .returned (.int .i64 (s.armSays k)) ∧ But B w w' ∧ Rf B (s.arm k) w' := by
  have h0 := h.cell 0
  have h1 := h.cell 1
  have h2 := h.cell 2
  have f0 := h.free 0
  have f1 := h.free 1
  have f2 := h.free 2
  by_cases hk : k < 0
  · have e1 : s.armSays k = 3 := by cases s <;> simp [St.armSays, hk]
    have e2 : s.arm k = s := by cases s <;> simp [St.arm, hk]
    rw [e1, e2]
    go_enter Try.func12, Try.ntmps12
    go_wp2
    go_ret
    exact ⟨rfl, But.refl _ _, h⟩
  · have hk0 : 0 ≤ k := by omega
    have H := Lib.hid h
    clear h
    have e : ((k.toNat : Nat) : Int) = k := by omega
    have E := Lib.hid e
    clear e
    cases s with
    | blown =>
      simp [St.ref] at h0 h1 h2
      have e1 : St.blown.armSays k = 7 := by simp [St.armSays]; omega
      have e2 : St.blown.arm k = .blown := rfl
      rw [e1, e2]
      go_enter Try.func12, Try.ntmps12
      go_wp2
      go_ret
      exact ⟨rfl, But.refl _ _, H.out⟩
    | idle =>
      simp [St.ref] at h0 h1 h2
      have e1 : St.idle.armSays k = 0 := by simp [St.armSays]; omega
      have e2 : St.idle.arm k = .armed k.toNat := by simp [St.arm]; omega
      rw [e1, e2]
      go_enter Try.func12, Try.ntmps12
      go_wp2
      go_ret
      refine ⟨rfl, ((But.refl B w).setc _ _).setc _ _, ?_⟩
      have := heap_setCell_same _ B 2 _ _ (.int .i64 k) (heap_setCell_same w B 0 _ _ (.bool true) H.out)
      simpa [Rf, St.ref, E.out] using this
    | armed n =>
      simp [St.ref] at h0 h1 h2
      have e1 : (St.armed n).armSays k = 0 := by simp [St.armSays]; omega
      have e2 : (St.armed n).arm k = .armed k.toNat := by simp [St.arm]; omega
      rw [e1, e2]
      go_enter Try.func12, Try.ntmps12
      go_wp2
      go_ret
      refine ⟨rfl, ((But.refl B w).setc _ _).setc _ _, ?_⟩
      have := heap_setCell_same _ B 2 _ _ (.int .i64 k) (heap_setCell_same w B 0 _ _ (.bool true) H.out)
      simpa [Rf, St.ref, E.out] using this
theorem rreset_c (B : Nat) (s : St) (w : World) (h : Rf B s w) :
    Calls Try.prog 14 #[.pointer (some ⟨B, 0, none⟩)] w fun e w' => e = .returned (.tuple #[]) ∧ But B w w' ∧ Rf B .idle w' := by
  have h0 := h.cell 0
  have h1 := h.cell 1
  have h2 := h.cell 2
  have f0 := h.free 0
  have f1 := h.free 1
  have f2 := h.free 2
  have H := Lib.hid h
  clear h
  have HC : ∃ a b c, s.ref = #[a, b, c] := by cases s <;> exact ⟨_, _, _, rfl⟩
  obtain ⟨a, b, c, hc⟩ := HC
  rw [hc] at h0 h1 h2
  simp at h0 h1 h2
  have HC := Lib.hid hc
  clear hc
  go_enter Try.func14, Try.ntmps14
  go_wp2
  go_end0
  refine ⟨rfl, (((But.refl B w).setc _ _).setc _ _).setc _ _, ?_⟩
  have H' : w.heap[B]? = some (.cells #[a, b, c] 28 (0, 0)) := by rw [← HC.out]; exact H.out
  have := heap_setCell_same _ B 2 _ _ (.int .i64 0) (heap_setCell_same _ B 1 _ _ (.bool false) (heap_setCell_same w B 0 _ _ (.bool false) H'))
  simpa [Rf, St.ref] using this

/-- The fuse F in state s and the specification's R in state t, both new since w0. -/
structure Pair (w0 : World) (F R : Nat) (s t : St) (w : World) : Prop where
  f : Own w0 F s w
  le : w0.heap.size ≤ R
  rf : Rf R t w
  ok : t.ok
  ne : F ≠ R
theorem Pair.kept {w0 w : World} {F R : Nat} {s t : St} (h : Pair w0 F R s t w) : Kept w0 w := h.f.kept
theorem Pair.drew {w0 w : World} {F R : Nat} {s t : St} (h : Pair w0 F R s t w) : Pair w0 F R s t w.drew := ⟨h.f.drew, h.le, h.rf, h.ok, h.ne⟩
theorem p_burn {w0 w : World} {F R : Nat} {s t : St} (h : Pair w0 F R s t w) :
    Calls Try.prog 9 #[.pointer (some ⟨F, 0, none⟩)] w fun e w' => e = .returned (.int .i64 s.says) ∧ Pair w0 F R s.burnt t w' :=
  (burn_c F s h.f.ok w h.f.fz).mono fun _ _ ⟨he, hb, hf⟩ => ⟨he, h.f.to hb hf (ok_burnt h.f.ok), h.le, h.rf.but hb h.ne.symm, h.ok, h.ne⟩
theorem p_rburn {w0 w : World} {F R : Nat} {s t : St} (h : Pair w0 F R s t w) :
    Calls Try.prog 10 #[.pointer (some ⟨R, 0, none⟩)] w fun e w' => e = .returned (.int .i64 t.says) ∧ Pair w0 F R s t.burnt w' :=
  (rburn_c R t h.ok w h.rf).mono fun _ _ ⟨he, hb, hf⟩ => ⟨he, h.f.but hb h.ne h.le, h.le, hf, ok_burnt h.ok, h.ne⟩
theorem p_arm {w0 w : World} {F R : Nat} {s t : St} {k : Int} (h : Pair w0 F R s t w) (hk : k < 9223372036854775808) :
    Calls Try.prog 11 #[.pointer (some ⟨F, 0, none⟩), .int .i64 k] w fun e w' => e = .returned (.int .i64 (s.armSays k)) ∧ Pair w0 F R (s.arm k) t w' :=
  (arm_c F s k w h.f.fz).mono fun _ _ ⟨he, hb, hf⟩ => ⟨he, h.f.to hb hf (ok_arm h.f.ok hk), h.le, h.rf.but hb h.ne.symm, h.ok, h.ne⟩
theorem p_rarm {w0 w : World} {F R : Nat} {s t : St} {k : Int} (h : Pair w0 F R s t w) (hk : k < 9223372036854775808) :
    Calls Try.prog 12 #[.pointer (some ⟨R, 0, none⟩), .int .i64 k] w fun e w' => e = .returned (.int .i64 (t.armSays k)) ∧ Pair w0 F R s (t.arm k) w' :=
  (rarm_c R t k w h.rf).mono fun _ _ ⟨he, hb, hf⟩ => ⟨he, h.f.but hb h.ne h.le, h.le, hf, ok_arm h.ok hk, h.ne⟩
theorem p_reset {w0 w : World} {F R : Nat} {s t : St} (h : Pair w0 F R s t w) :
    Calls Try.prog 13 #[.pointer (some ⟨F, 0, none⟩)] w fun e w' => e = .returned (.tuple #[]) ∧ Pair w0 F R .idle t w' :=
  (reset_c F s w h.f.fz).mono fun _ _ ⟨he, hb, hf⟩ => ⟨he, h.f.to hb hf trivial, h.le, h.rf.but hb h.ne.symm, h.ok, h.ne⟩
theorem p_rreset {w0 w : World} {F R : Nat} {s t : St} (h : Pair w0 F R s t w) :
    Calls Try.prog 14 #[.pointer (some ⟨R, 0, none⟩)] w fun e w' => e = .returned (.tuple #[]) ∧ Pair w0 F R s .idle w' :=
  (rreset_c R t w h.rf).mono fun _ _ ⟨he, hb, hf⟩ => ⟨he, h.f.but hb h.ne h.le, h.le, hf, trivial, h.ne⟩
theorem p_blown {w0 w : World} {F R : Nat} {s t : St} (h : Pair w0 F R s t w) :
    Calls Try.prog 16 #[.pointer (some ⟨F, 0, none⟩)] w fun e w' => e = .returned (.bool s.dead) ∧ w = w' := blown_c F s w h.f.fz
theorem Pair.drewN {w0 w : World} {F R : Nat} {s t : St} (h : Pair w0 F R s t w) (n : Nat) : Pair w0 F R s t (w.drewN n) := by
  induction n with
  | zero => exact h
  | succ n ih => exact ih.drew
theorem p_quiet {w0 w : World} {F R : Nat} {s t : St} (h : Pair w0 F R s t w) (n : Nat) :
    Calls Try.prog 16 #[.pointer (some ⟨F, 0, none⟩)] (w.drewN n) fun e w'' => e = .returned (.bool s.dead) ∧ ∃ m, w'' = w.drewN m :=
  Calls.quiet_of_same ((p_blown (h.drewN n)).mono fun _ _ ⟨he, hw⟩ => ⟨he, hw.symm⟩)
/-- A copy C beside the pair's old fuse F. -/
structure Copied (w0 : World) (F C R : Nat) (old s t : St) (w : World) : Prop where
  p : Pair w0 C R s t w
  old : Own w0 F old w
  fc : F ≠ C
  fr : F ≠ R
theorem p_copy {w0 w : World} {F R : Nat} {s t : St} (h : Pair w0 F R s t w) :
    Calls Try.prog 15 #[.pointer (some ⟨F, 0, none⟩)] w fun e w' => e = .returned (.pointer (some ⟨w.heap.size, 0, none⟩)) ∧ Copied w0 F w.heap.size R s s t w' :=
  (copy_c F s w h.f.fz).mono fun _ _ ⟨he, hk, hf⟩ => ⟨he, ⟨⟨h.f.kept.trans hk, h.f.kept.size, hf, h.f.ok⟩, h.le, h.rf.kept hk, h.ok, (Nat.ne_of_lt h.rf.lt).symm⟩, h.f.later hk, Nat.ne_of_lt h.f.fz.lt, h.ne⟩
theorem o_arm {w0 w : World} {F C R : Nat} {old s t : St} (h : Copied w0 F C R old s t w) :
    Calls Try.prog 11 #[.pointer (some ⟨F, 0, none⟩), .int .i64 0] w fun e w' => e = .returned (.int .i64 (old.armSays 0)) ∧ Copied w0 F C R (old.arm 0) s t w' :=
  (arm_c F old 0 w h.old.fz).mono fun _ _ ⟨he, hb, hf⟩ =>
    ⟨he, ⟨h.p.f.but hb h.fc.symm h.old.le, h.p.le, h.p.rf.but hb h.fr.symm, h.p.ok, h.p.ne⟩, h.old.to hb hf (ok_arm h.old.ok (by decide)), h.fc, h.fr⟩
theorem o_burn {w0 w : World} {F C R : Nat} {old s t : St} (h : Copied w0 F C R old s t w) :
    Calls Try.prog 9 #[.pointer (some ⟨F, 0, none⟩)] w fun e w' => e = .returned (.int .i64 old.says) ∧ Copied w0 F C R old.burnt s t w' :=
  (burn_c F old h.old.ok w h.old.fz).mono fun _ _ ⟨he, hb, hf⟩ =>
    ⟨he, ⟨h.p.f.but hb h.fc.symm h.old.le, h.p.le, h.p.rf.but hb h.fr.symm, h.p.ok, h.p.ne⟩, h.old.to hb hf (ok_burnt h.old.ok), h.fc, h.fr⟩
end Go.Proofs.Ytbjheldocmgnkaa.Fz
