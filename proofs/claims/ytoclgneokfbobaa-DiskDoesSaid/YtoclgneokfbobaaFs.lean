/-
  The specification's fuse (layer 3).
-/
import Derived.Test.YtoclgneokfbobaaFz
namespace Go.Proofs.Ytoclgneokfbobaa.Fz
open Go.RowKit Go.Proofs.Ytoclgneokfbobaa.Mem

def St.ref : St → Array Value
  | .idle => #[.bool false, .bool false, .int .i64 0]
  | .armed n => #[.bool true, .bool false, .int .i64 n]
  | .blown => #[.bool true, .bool true, .int .i64 0]
/-- Block B is the specification's fuse in state s. -/
def Rf (B : Nat) (s : St) (w : World) : Prop := w.heap[B]? = some (.cells s.ref 71 (0, 0))
theorem Rf.kept {B : Nat} {s : St} {w w' : World} (h : Rf B s w) (k : Kept w w') : Rf B s w' := Kept.block k h
theorem Rf.but {B C : Nat} {s : St} {w w' : World} (h : Rf B s w) (k : But C w w') (hn : B ≠ C) : Rf B s w' := k.at h hn
theorem Rf.lt {B : Nat} {s : St} {w : World} (h : Rf B s w) : B < w.heap.size := lt_of_block h
theorem Rf.cell {B : Nat} {s : St} {w : World} (h : Rf B s w) (i : Nat) : w.cell? ⟨B, i, none⟩ = s.ref[i]? := cell_of_row _ _ _ _ _ _ h
theorem Rf.free {B : Nat} {s : St} {w : World} (h : Rf B s w) (i : Nat) : w.frozen? ⟨B, i, none⟩ = false := frozen_of_row _ _ _ _ _ h
theorem Rf.dead {B : Nat} {s : St} {w : World} (h : Rf B s w) : w.cell? ⟨B, 1, none⟩ = some (.bool s.dead) := by
  rw [h.cell 1]; cases s <;> rfl

theorem rburn_c (B : Nat) (s : St) (hs : s.ok) (w : World) (h : Rf B s w) :
    Calls Try.prog 52 #[.pointer (some ⟨B, 0, none⟩)] w fun e w' => e = .returned (.int .i64 s.says) ∧ But B w w' ∧ Rf B s.burnt w' := by
  have h0 := h.cell 0
  have h1 := h.cell 1
  have h2 := h.cell 2
  have f0 := h.free 0
  have f1 := h.free 1
  have f2 := h.free 2
  have H := Lib.hid h
  clear h
  match s, hs with
  | .idle, _ =>
    simp [St.ref] at h0 h1 h2
    go_enter Try.func52, Try.ntmps52
    go_wp2
    go_ret
    exact ⟨rfl, But.refl _ _, H.out⟩
  | .armed 0, _ =>
    simp [St.ref] at h0 h1 h2
    go_enter Try.func52, Try.ntmps52
    go_wp2
    go_ret
    refine ⟨rfl, (But.refl B w).setc _ _, ?_⟩
    have := heap_setCell_same w B 1 _ _ (.bool true) H.out
    simpa [Rf, St.ref, St.burnt] using this
  | .armed (n + 1), hn =>
    have hn : n + 1 < 9223372036854775808 := hn
    simp [St.ref] at h0 h1 h2
    go_enter Try.func52, Try.ntmps52
    go_wp2
    go_ret
    refine ⟨rfl, (But.refl B w).setc _ _, ?_⟩
    have := heap_setCell_same w B 2 _ _ (.int .i64 n) H.out
    simpa [Rf, St.ref, St.burnt] using this
  | .blown, _ =>
    simp [St.ref] at h0 h1 h2
    go_enter Try.func52, Try.ntmps52
    go_wp2
    go_ret
    exact ⟨rfl, But.refl _ _, H.out⟩
theorem rarm_c (B : Nat) (s : St) (k : Int) (w : World) (h : Rf B s w) :
    Calls Try.prog 56 #[.pointer (some ⟨B, 0, none⟩), .int .i64 k] w fun e w' => e = .returned (.int .i64 (s.armSays k)) ∧ But B w w' ∧ Rf B (s.arm k) w' := by
  have h0 := h.cell 0
  have h1 := h.cell 1
  have h2 := h.cell 2
  have f0 := h.free 0
  have f1 := h.free 1
  have f2 := h.free 2
  by_cases hk : k < 0
  · have e1 : s.armSays k = 3 := by cases s <;> simp [St.armSays, hk]
    have e2 : s.arm k = s := by cases s <;> simp [St.arm, hk]
    rw [e1, e2]
    go_enter Try.func56, Try.ntmps56
    go_wp2
    go_ret
    exact ⟨rfl, But.refl _ _, h⟩
  · have hk0 : 0 ≤ k := by omega
    have H := Lib.hid h
    clear h
    have e : ((k.toNat : Nat) : Int) = k := by omega
    have E := Lib.hid e
    clear e
    cases s with
    | blown =>
      simp [St.ref] at h0 h1 h2
      have e1 : St.blown.armSays k = 7 := by simp [St.armSays]; omega
      have e2 : St.blown.arm k = .blown := rfl
      rw [e1, e2]
      go_enter Try.func56, Try.ntmps56
      go_wp2
      go_ret
      exact ⟨rfl, But.refl _ _, H.out⟩
    | idle =>
      simp [St.ref] at h0 h1 h2
      have e1 : St.idle.armSays k = 0 := by simp [St.armSays]; omega
      have e2 : St.idle.arm k = .armed k.toNat := by simp [St.arm]; omega
      rw [e1, e2]
      go_enter Try.func56, Try.ntmps56
      go_wp2
      go_ret
      refine ⟨rfl, ((But.refl B w).setc _ _).setc _ _, ?_⟩
      have := heap_setCell_same _ B 2 _ _ (.int .i64 k) (heap_setCell_same w B 0 _ _ (.bool true) H.out)
      simpa [Rf, St.ref, E.out] using this
    | armed n =>
      simp [St.ref] at h0 h1 h2
      have e1 : (St.armed n).armSays k = 0 := by simp [St.armSays]; omega
      have e2 : (St.armed n).arm k = .armed k.toNat := by simp [St.arm]; omega
      rw [e1, e2]
      go_enter Try.func56, Try.ntmps56
      go_wp2
      go_ret
      refine ⟨rfl, ((But.refl B w).setc _ _).setc _ _, ?_⟩
      have := heap_setCell_same _ B 2 _ _ (.int .i64 k) (heap_setCell_same w B 0 _ _ (.bool true) H.out)
      simpa [Rf, St.ref, E.out] using this
theorem rreset_c (B : Nat) (s : St) (w : World) (h : Rf B s w) :
    Calls Try.prog 55 #[.pointer (some ⟨B, 0, none⟩)] w fun e w' => e = .returned (.tuple #[]) ∧ But B w w' ∧ Rf B .idle w' := by
  have h0 := h.cell 0
  have h1 := h.cell 1
  have h2 := h.cell 2
  have f0 := h.free 0
  have f1 := h.free 1
  have f2 := h.free 2
  have H := Lib.hid h
  clear h
  have HC : ∃ a b c, s.ref = #[a, b, c] := by cases s <;> exact ⟨_, _, _, rfl⟩
  obtain ⟨a, b, c, hc⟩ := HC
  rw [hc] at h0 h1 h2
  simp at h0 h1 h2
  have HC := Lib.hid hc
  clear hc
  go_enter Try.func55, Try.ntmps55
  go_wp2
  go_end0
  refine ⟨rfl, (((But.refl B w).setc _ _).setc _ _).setc _ _, ?_⟩
  have H' : w.heap[B]? = some (.cells #[a, b, c] 71 (0, 0)) := by rw [← HC.out]; exact H.out
  have := heap_setCell_same _ B 2 _ _ (.int .i64 0) (heap_setCell_same _ B 1 _ _ (.bool false) (heap_setCell_same w B 0 _ _ (.bool false) H'))
  simpa [Rf, St.ref] using this

end Go.Proofs.Ytoclgneokfbobaa.Fz
