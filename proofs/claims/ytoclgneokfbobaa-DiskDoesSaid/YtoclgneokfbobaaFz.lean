/-
  What the calls of package fuse do.
-/
import Derived.Test.YtoclgneokfbobaaBut
import Derived.RegionTactic
import Derived.Deep.QuietTactic
import Derived.BigQuiet
import Derived.Laws.Rows
import Derived.Laws.EntriesVeiled
import Derived.Laws.Pointers
import Derived.Outline
namespace Go.Proofs.Ytoclgneokfbobaa.Fz
open Go.RowKit Go.Proofs.Ytoclgneokfbobaa.Mem

/-- A fuse's state. -/
inductive St | idle | armed (n : Nat) | blown
def St.cells : St → Array Value
  | .idle => #[.int .u8 0, .int .i64 0, .nilFunc]
  | .armed n => #[.int .u8 1, .int .i64 n, .func (.func 51) #[] #[]]
  | .blown => #[.int .u8 2, .int .i64 0, .func (.func 60) #[] #[]]
def St.dead : St → Bool
  | .blown => true
  | _ => false
/-- Block B is a fuse in state s. -/
def Fz (B : Nat) (s : St) (w : World) : Prop := w.heap[B]? = some (.cells s.cells 92 (0, 0))
theorem Fz.kept {B : Nat} {s : St} {w w' : World} (h : Fz B s w) (k : Kept w w') : Fz B s w' := Kept.block k h
theorem Fz.but {B C : Nat} {s : St} {w w' : World} (h : Fz B s w) (k : But C w w') (hn : B ≠ C) : Fz B s w' := k.at h hn
theorem Fz.lt {B : Nat} {s : St} {w : World} (h : Fz B s w) : B < w.heap.size := lt_of_block h
theorem Fz.cell {B : Nat} {s : St} {w : World} (h : Fz B s w) (i : Nat) : w.cell? ⟨B, i, none⟩ = s.cells[i]? := cell_of_row _ _ _ _ _ _ h
theorem Fz.free {B : Nat} {s : St} {w : World} (h : Fz B s w) (i : Nat) : w.frozen? ⟨B, i, none⟩ = false := frozen_of_row _ _ _ _ _ h

theorem new_c (w : World) : Calls Try.prog 21 #[] w fun e w' => e = .returned (.pointer (some ⟨w.heap.size, 0, none⟩)) ∧ Kept w w' ∧ Fz w.heap.size .idle w' := by
  go_enter Try.func21, Try.ntmps21
  go_wp2
  go_ret
  exact ⟨rfl, Kept.alloc (Kept.refl _) _, heap_alloc_new _ _⟩

theorem blown_c (B : Nat) (s : St) (w : World) (h : Fz B s w) : Calls Try.prog 43 #[.pointer (some ⟨B, 0, none⟩)] w fun e w' => e = .returned (.bool s.dead) ∧ w = w' := by
  have h0 := h.cell 0
  cases s <;> simp [St.cells] at h0
  all_goals
    go_enter Try.func43, Try.ntmps43
    go_wp2
    go_ret
    exact ⟨rfl, rfl⟩

/-- What Burn answers and leaves. -/
def St.burnt : St → St
  | .idle => .idle
  | .armed 0 => .blown
  | .armed (n + 1) => .armed n
  | .blown => .blown
def St.says : St → Int
  | .idle => 0
  | .armed 0 => 10
  | .armed (_ + 1) => 0
  | .blown => 10
theorem count_c (B n : Nat) (hn : n < 9223372036854775808) (w : World) (h : Fz B (.armed n) w) :
    Calls Try.prog 51 #[.pointer (some ⟨B, 0, none⟩)] w fun e w' => e = .returned (.int .i64 (St.armed n).says) ∧ But B w w' ∧ Fz B (St.armed n).burnt w' := by
  have h0 := h.cell 0
  have h1 := h.cell 1
  have h2 := h.cell 2
  have f0 := h.free 0
  have f1 := h.free 1
  have f2 := h.free 2
  simp [St.cells] at h0 h1 h2
  have H := Lib.hid h
  clear h
  cases n with
  | zero =>
    go_enter Try.func51, Try.ntmps51
    go_wp2
    go_ret
    refine ⟨rfl, ((But.refl B w).setc _ _).setc _ _, ?_⟩
    have := heap_setCell_same _ B 2 _ _ (.func (.func 60) #[] #[]) (heap_setCell_same w B 0 _ _ (.int .u8 2) H.out)
    simpa [Fz, St.cells, St.burnt] using this
  | succ n =>
    go_enter Try.func51, Try.ntmps51
    go_wp2
    go_ret
    refine ⟨rfl, (But.refl B w).setc _ _, ?_⟩
    have := heap_setCell_same w B 1 _ _ (.int .i64 n) H.out
    simpa [Fz, St.cells, St.burnt] using this
theorem refuse_c (p : Value) (w : World) : Calls Try.prog 60 #[p] w fun e w' => e = .returned (.int .i64 10) ∧ w = w' := by
  go_enter Try.func60, Try.ntmps60
  go_wp2
  go_ret
  exact ⟨rfl, rfl⟩
/-- The number fits an int. -/
def St.ok : St → Prop
  | .armed n => n < 9223372036854775808
  | _ => True
theorem burn_c (B : Nat) (s : St) (hs : s.ok) (w : World) (h : Fz B s w) :
    Calls Try.prog 41 #[.pointer (some ⟨B, 0, none⟩)] w fun e w' => e = .returned (.int .i64 s.says) ∧ But B w w' ∧ Fz B s.burnt w' := by
  have h2 := h.cell 2
  cases s with
  | idle =>
    simp [St.cells] at h2
    have hrun : Sem.run Try.prog (binOp BinOp.eql 90 Value.nilFunc Value.nilFunc) w = .ok (.bool true) w := by kernel_rfl
    go_enter Try.func41, Try.ntmps41
    go_wp2
    go_ret
    exact ⟨rfl, But.refl _ _, h⟩
  | armed n =>
    simp [St.cells] at h2
    have hrun : Sem.run Try.prog (binOp BinOp.eql 90 (Value.func (.func 51) #[] #[]) Value.nilFunc) w = .ok (.bool false) w := by kernel_rfl
    go_enter Try.func41, Try.ntmps41
    go_wp2_with (go_at_call 51; refine (count_c B n hs _ h).mono ?_; rintro e u ⟨rfl, hk, hf⟩)
    go_ret
    exact ⟨rfl, hk, hf⟩
  | blown =>
    simp [St.cells] at h2
    have hrun : Sem.run Try.prog (binOp BinOp.eql 90 (Value.func (.func 60) #[] #[]) Value.nilFunc) w = .ok (.bool false) w := by kernel_rfl
    go_enter Try.func41, Try.ntmps41
    go_wp2_with (go_at_call 60; refine (refuse_c _ _).mono ?_; rintro e u ⟨rfl, rfl⟩)
    go_ret
    exact ⟨rfl, But.refl _ _, h⟩
/-- What Arm answers and leaves. -/
def St.arm (k : Int) : St → St
  | .blown => .blown
  | s => if k < 0 then s else .armed k.toNat
def St.armSays (k : Int) : St → Int
  | .blown => if k < 0 then 3 else 7
  | _ => if k < 0 then 3 else 0
theorem arm_c (B : Nat) (s : St) (k : Int) (w : World) (h : Fz B s w) :
    Calls Try.prog 25 #[.pointer (some ⟨B, 0, none⟩), .int .i64 k] w fun e w' => e = .returned (.int .i64 (s.armSays k)) ∧ But B w w' ∧ Fz B (s.arm k) w' := by
  have h0 := h.cell 0
  have h1 := h.cell 1
  have h2 := h.cell 2
  have f0 := h.free 0
  have f1 := h.free 1
  have f2 := h.free 2
  by_cases hk : k < 0
  · have e1 : s.armSays k = 3 := by cases s <;> simp [St.armSays, hk]
    have e2 : s.arm k = s := by cases s <;> simp [St.arm, hk]
    rw [e1, e2]
    go_enter Try.func25, Try.ntmps25
    go_wp2
    go_ret
    exact ⟨rfl, But.refl _ _, h⟩
  · have hk0 : 0 ≤ k := by omega
    have H := Lib.hid h
    clear h
    cases s with
    | blown =>
      simp [St.cells] at h0 h1 h2
      have e1 : St.blown.armSays k = 7 := by simp [St.armSays]; omega
      have e2 : St.blown.arm k = .blown := rfl
      rw [e1, e2]
      go_enter Try.func25, Try.ntmps25
      go_wp2
      go_ret
      exact ⟨rfl, But.refl _ _, H.out⟩
    | idle =>
      simp [St.cells] at h0 h1 h2
      have e1 : St.idle.armSays k = 0 := by simp [St.armSays]; omega
      have e2 : St.idle.arm k = .armed k.toNat := by simp [St.arm]; omega
      rw [e1, e2]
      go_enter Try.func25, Try.ntmps25
      go_wp2
      go_ret
      refine ⟨rfl, (((But.refl B w).setc _ _).setc _ _).setc _ _, ?_⟩
      have := heap_setCell_same _ B 1 _ _ (.int .i64 k) (heap_setCell_same _ B 2 _ _ (.func (.func 51) #[] #[]) (heap_setCell_same w B 0 _ _ (.int .u8 1) H.out))
      have e : ((k.toNat : Nat) : Int) = k := by omega
      simpa [Fz, St.cells, e] using this
    | armed n =>
      simp [St.cells] at h0 h1 h2
      have e1 : (St.armed n).armSays k = 0 := by simp [St.armSays]; omega
      have e2 : (St.armed n).arm k = .armed k.toNat := by simp [St.arm]; omega
      rw [e1, e2]
      go_enter Try.func25, Try.ntmps25
      go_wp2
      go_ret
      refine ⟨rfl, (But.refl B w).setc _ _, ?_⟩
      have := heap_setCell_same w B 1 _ _ (.int .i64 k) H.out
      have e : ((k.toNat : Nat) : Int) = k := by omega
      simpa [Fz, St.cells, e] using this
theorem reset_c (B : Nat) (s : St) (w : World) (h : Fz B s w) :
    Calls Try.prog 54 #[.pointer (some ⟨B, 0, none⟩)] w fun e w' => e = .returned (.tuple #[]) ∧ But B w w' ∧ Fz B .idle w' := by
  have h0 := h.cell 0
  have h1 := h.cell 1
  have h2 := h.cell 2
  have f0 := h.free 0
  have f1 := h.free 1
  have f2 := h.free 2
  have H := Lib.hid h
  clear h
  have HC : ∃ a b c, s.cells = #[a, b, c] := by cases s <;> exact ⟨_, _, _, rfl⟩
  obtain ⟨a, b, c, hc⟩ := HC
  rw [hc] at h0 h1 h2
  simp at h0 h1 h2
  have HC := Lib.hid hc
  clear hc
  go_enter Try.func54, Try.ntmps54
  go_wp2
  go_end0
  refine ⟨rfl, (((But.refl B w).setc _ _).setc _ _).setc _ _, ?_⟩
  have H' : w.heap[B]? = some (.cells #[a, b, c] 92 (0, 0)) := by rw [← HC.out]; exact H.out
  have := heap_setCell_same _ B 2 _ _ .nilFunc (heap_setCell_same _ B 1 _ _ (.int .i64 0) (heap_setCell_same w B 0 _ _ (.int .u8 0) H'))
  simpa [Fz, St.cells] using this
theorem copy_c (B : Nat) (s : St) (w : World) (h : Fz B s w) :
    Calls Try.prog 38 #[.pointer (some ⟨B, 0, none⟩)] w fun e w' => e = .returned (.pointer (some ⟨w.heap.size, 0, none⟩)) ∧ Kept w w' ∧ Fz w.heap.size s w' := by
  have h0 := h.cell 0
  have h1 := h.cell 1
  have h2 := h.cell 2
  clear h
  cases s <;> simp [St.cells] at h0 h1 h2
  all_goals
    go_enter Try.func38, Try.ntmps38
    go_wp2
    go_ret
    exact ⟨rfl, Kept.alloc (Kept.refl _) _, heap_alloc_new _ _⟩
/-! Nil. -/
theorem arm_nil (k : Int) (w : World) : Calls Try.prog 25 #[.pointer none, .int .i64 k] w fun e w' => e = .returned (.int .i64 1) ∧ w = w' := by
  go_enter Try.func25, Try.ntmps25
  go_wp2
  go_ret
  exact ⟨rfl, rfl⟩
theorem burn_nil (w : World) : Calls Try.prog 41 #[.pointer none] w fun e w' => e = .returned (.int .i64 1) ∧ w = w' := by
  go_enter Try.func41, Try.ntmps41
  go_wp2
  go_ret
  exact ⟨rfl, rfl⟩
theorem blown_nil (w : World) : Calls Try.prog 43 #[.pointer none] w fun e w' => e = .returned (.bool false) ∧ w = w' := by
  go_enter Try.func43, Try.ntmps43
  go_wp2
  go_ret
  exact ⟨rfl, rfl⟩
theorem reset_nil (w : World) : Calls Try.prog 54 #[.pointer none] w fun e w' => e = .returned (.tuple #[]) ∧ w = w' := by
  go_enter Try.func54, Try.ntmps54
  go_wp2
  go_end0
  exact ⟨rfl, rfl⟩
theorem copy_nil (w : World) : Calls Try.prog 38 #[.pointer none] w fun e w' => e = .returned (.pointer none) ∧ w = w' := by
  go_enter Try.func38, Try.ntmps38
  go_wp2
  go_ret
  exact ⟨rfl, rfl⟩
end Go.Proofs.Ytoclgneokfbobaa.Fz
