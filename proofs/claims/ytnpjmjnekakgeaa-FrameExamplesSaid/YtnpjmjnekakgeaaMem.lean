/-
  What a call may do to the world: every block that was there is as it was ('Kept'); a block of the call's own that holds bytes ('Row').
-/
import Derived.Test.YtnpjmjnekakgeaaRows
import Derived.WalkKit
import Derived.Laws.IdiomStrings
import Derived.ProofKit
import Derived.Lib.Hide
import Derived.Deep.QuietTactic
namespace Go.Proofs.Ytnpjmjnekakgeaa.Mem
open Go.ChangeShapes Go.WideShapes Go.ChangeAt Go.RowKit

def Kept (w w' : World) : Prop := Below w.heap.size w w'
theorem Kept.refl (w : World) : Kept w w := Below.refl _ _
theorem Kept.trans {a b c : World} (h : Kept a b) (k : Kept b c) : Kept a c := Below.trans h (Below.mono k h.size)
theorem Kept.block {a b : World} (h : Kept a b) {k : Nat} {o : Obj} (hb : a.heap[k]? = some o) : b.heap[k]? = some o := by
  rw [Below.block h k (lt_of_block hb)]; exact hb
theorem Kept.cell {a b : World} (h : Kept a b) {p : Addr} (hp : p.block < a.heap.size) : b.cell? p = a.cell? p := Below.cell h hp
theorem Kept.drew {a b : World} (h : Kept a b) : Kept a b.drew := Below.drew h
theorem Kept.drewN {a b : World} (h : Kept a b) (n : Nat) : Kept a (b.drewN n) := by
  induction n with
  | zero => exact h
  | succ n ih => exact Below.drew ih
theorem Kept.alloc {a b : World} (h : Kept a b) (o : Obj) : Kept a (b.alloc o) := Below.alloc h h.size o

/-- Block B holds the bytes l; below B the world is as w was. -/
structure Row (w : World) (B : Nat) (l : List UInt8) (w' : World) : Prop where
  bel : Below B w w'
  lt : B < w'.heap.size
  cell : ∀ j (h : j < l.length), w'.cell? ⟨B, j, none⟩ = some (.int .u8 (l[j].toNat : Int))
  free : ∀ j, j < l.length → w'.frozen? ⟨B, j, none⟩ = false
theorem Row.drew {w w' : World} {B : Nat} {l : List UInt8} (h : Row w B l w') : Row w B l w'.drew := ⟨h.bel.drew, h.lt, h.cell, h.free⟩
theorem Row.set {w w' : World} {B : Nat} {l : List UInt8} (h : Row w B l w') (j : Nat) (c : UInt8) {v : Int} (hv : v = (c.toNat : Int)) (hj : j < l.length) :
    Row w B (l.set j c) (w'.setCell ⟨B, j, none⟩ (.int .u8 v)) := by
  subst hv
  refine ⟨h.bel.setCell (Nat.le_refl _) _, by simpa [World.setCell] using h.lt, fun i hi => ?_, fun i hi => ?_⟩
  · have hi' : i < l.length := by simpa using hi
    by_cases e : i = j
    · subst e
      rw [World.cell?_setCell_same _ _ _ (h.cell i hi')]; simp
    · rw [World.cell?_setCell_other _ _ _ _ (by simp), h.cell i hi', List.getElem_set_ne (by omega)]
  · rw [List.length_set] at hi
    rw [World.frozen?_setCell]; exact h.free i hi
theorem Row.kept {w a b : World} {B : Nat} {l : List UInt8} (h : Row w B l a) (k : Kept a b) : Row w B l b :=
  ⟨h.bel.trans (Below.mono k (Nat.le_of_lt h.lt)), Nat.lt_of_lt_of_le h.lt k.size, fun j hj => by rw [Below.cell k h.lt]; exact h.cell j hj, fun j hj => by rw [Below.frozen k h.lt]; exact h.free j hj⟩
theorem Row.at {w w' : World} {B : Nat} {l : List UInt8} (h : Row w B l w') (j : Nat) (hj : j < l.length) : (∃ v, w'.cell? ⟨B, j, none⟩ = some (.int .u8 v)) ∧ w'.frozen? ⟨B, j, none⟩ = false :=
  ⟨⟨_, h.cell j hj⟩, h.free j hj⟩
/-- A beginning of the row, as a string. -/
theorem Row.str {w w' : World} {B : Nat} {l : List UInt8} (h : Row w B l w') (n cap : Nat) (hn : n ≤ l.length) :
    (convert 36 9 (.slice (some ⟨B, 0, none⟩) n cap)).run Try.prog w' = .ok (.string ⟨(l.take n).toArray⟩) w' := by
  have hlen : (l.take n).length = n := by rw [List.length_take]; omega
  have key := run_convert_bytes_back (P := Try.prog) w' 36 9 5 ⟨B, 0, none⟩ cap (l.take n) Try.underlying36 Try.underlying5 Try.underlying9 (fun j hj => by
    have e : (⟨B, 0, none⟩ : Addr).add j = ⟨B, j, none⟩ := by rw [add_plain]; simp
    have hj' : j < l.length := by rw [hlen] at hj; omega
    rw [e, List.getElem_take]; exact h.cell j hj')
  rw [hlen] at key
  exact key
/-- A new block of zeros. -/
theorem Row.start (w : World) (n : Nat) (T : TypeId) : Row w w.heap.size (List.replicate n 0) (w.alloc (.cells (Array.replicate n (.int .u8 0)) T)) := by
  have e := (MapKept.heap_alloc w (.cells (Array.replicate n (.int .u8 0)) T)).1
  refine ⟨(Below.refl _ _).alloc (Nat.le_refl _) _, by simp, fun j hj => ?_, fun j hj => ?_⟩
  · have hj' : j < n := by simpa using hj
    show (match (w.alloc _).heap[w.heap.size]? with | some (.cells c _ _) => c[j]? | _ => none) = _
    rw [e]
    simp [hj']
  · show (match (w.alloc _).heap[w.heap.size]? with | some (.cells _ _ (lo, hi)) => decide (lo ≤ j) && decide (j < hi) | _ => false) = _
    rw [e]
    simp
theorem Row.keptOf {w w' : World} {l : List UInt8} (h : Row w w.heap.size l w') : Kept w w' := h.bel
end Go.Proofs.Ytnpjmjnekakgeaa.Mem
