/-
  Blocks and rows of the call's own, as things in 'Own' (namespace Bx).
-/
import Derived.Test.YtngojgocplmedaaRBa
import Derived.Laws.EntriesVeiled
namespace Go.Proofs.YtngojgocplmedaaR.Bx
open Go.RowKit Go.ChangeShapes Go.WideShapes Go.ChangeAt Go.Proofs.YtngojgocplmedaaR.Mem
set_option linter.unusedVariables false

theorem row_at {w w' : World} {e : TypeId} {size : Nat} {v : Value} {n : Nat} {xs : List Value} (h : w.ownsRow 0 e size v n xs) (hg : ∀ g, v.ownBlock = some g → w'.heap[g]? = w.heap[g]?) : w'.ownsRow 0 e size v n xs := by
  refine ⟨h.1, ?_⟩
  rcases h.2 with h2 | ⟨g, cap, cur, rfl, hb, hh, r⟩
  · exact .inl h2
  · exact .inr ⟨g, cap, cur, rfl, hb, (hg g rfl).trans hh, r⟩
/-- A row of the call's own, behind the slice v. -/
def rowA (e : TypeId) (size : Nat) (v : Value) (n : Nat) (xs : List Value) : As where
  p S w := w.ownsRow 0 e size v n xs ∧ ∀ g, v.ownBlock = some g → S g
  mono := fun S T w ⟨h, h1⟩ hs => ⟨h, fun g hg => hs _ (h1 g hg)⟩
  loc := fun S w w' ⟨h, h1⟩ hs => ⟨row_at h fun g hg => hs _ (h1 g hg) (h.lt g hg).2, h1⟩
theorem _root_.Go.Proofs.YtngojgocplmedaaR.Mem.Own.row {w0 w : World} {L : List As} (h : Own w0 L w) (i : Nat) {e : TypeId} {size n : Nat} {v : Value} {xs : List Value} (hi : L[i]? = some (rowA e size v n xs)) : w.ownsRow 0 e size v n xs := by
  obtain ⟨S, hp, _⟩ := h.see i hi
  exact hp.1
theorem _root_.Go.Proofs.YtngojgocplmedaaR.Mem.Own.newRow {w0 w : World} {L : List As} (h : Own w0 L w) (e : TypeId) (size : Nat) : Own w0 (L ++ [rowA e size (.slice none 0 0) 0 []]) w :=
  h.push (Kept.refl w) ⟨World.ownsRow_nil _ _ _ _, fun g hg => by simp [Value.ownBlock] at hg⟩
/-- A block of the call's own. -/
def boxA (B : Nat) (cs : Array Value) (T : TypeId) : As where
  p S w := w.heap[B]? = some (.cells cs T (0, 0)) ∧ S B
  mono := fun S T w ⟨h, h1⟩ hs => ⟨h, hs _ h1⟩
  loc := fun S w w' ⟨h, h1⟩ hs => ⟨(hs _ h1 (lt_of_block h)).trans h, h1⟩
theorem _root_.Go.Proofs.YtngojgocplmedaaR.Mem.Own.box {w0 w : World} {L : List As} (h : Own w0 L w) (cs : Array Value) (T : TypeId) : Own w0 (boxA w.heap.size cs T :: L) (w.alloc (.cells cs T)) :=
  (h.push (b := boxA w.heap.size cs T) ((Kept.refl w).alloc _) ⟨heap_alloc_new _ _, .inr ⟨Nat.le_refl _, by simp⟩⟩).front
theorem _root_.Go.Proofs.YtngojgocplmedaaR.Mem.Own.boxed {w0 w : World} {L : List As} (h : Own w0 L w) (i : Nat) {B : Nat} {cs : Array Value} {T : TypeId} (hi : L[i]? = some (boxA B cs T)) : w.heap[B]? = some (.cells cs T (0, 0)) := by
  obtain ⟨S, hp, _⟩ := h.see i hi
  exact hp.1
theorem _root_.Go.Proofs.YtngojgocplmedaaR.Mem.Own.boxset {w0 w : World} {L : List As} (h : Own w0 L w) (i : Nat) {B : Nat} {cs : Array Value} {T : TypeId} (hi : L[i]? = some (boxA B cs T)) (j : Nat) (v : Value) : Own w0 (L.set i (boxA B (cs.setIfInBounds j v) T)) (w.setCell ⟨B, j, none⟩ v) := by
  obtain ⟨S, hp, hs, back⟩ := h.open i hi
  exact back _ _ ((Off.refl S w).setc B j v (.inl hp.2)) ⟨heap_setCell_same w B j _ _ v hp.1, .inl hp.2⟩
theorem box3 {y : World} {F : Nat} {T : TypeId} {a b c : Value} (h : y.heap[F]? = some (.cells #[a, b, c] T (0, 0))) :
    (y.cell? ⟨F, 0, none⟩ = some a ∧ y.cell? ⟨F, 1, none⟩ = some b ∧ y.cell? ⟨F, 2, none⟩ = some c) ∧ ∀ i, y.frozen? ⟨F, i, none⟩ = false :=
  ⟨⟨cell_of_row _ _ _ _ _ _ h, cell_of_row _ _ _ _ _ _ h, cell_of_row _ _ _ _ _ _ h⟩, fun i => frozen_of_row y F i _ _ h⟩
end Go.Proofs.YtngojgocplmedaaR.Bx
