/-
  What a call may do to the world: every block that was there, but one, is as it was ('But').
-/
import Derived.Test.YtnpjmjnekakgeaaMem
import Derived.Laws.Rows
namespace Go.Proofs.Ytnpjmjnekakgeaa.Mem
open Go.RowKit

/-- Every block that was there is as it was, but block B. -/
structure But (B : Nat) (w w' : World) : Prop where
  os : w'.os = w.os
  tape : w'.tape = w.tape
  output : w'.output = w.output
  size : w.heap.size ≤ w'.heap.size
  block : ∀ k, k < w.heap.size → k ≠ B → w'.heap[k]? = w.heap[k]?
theorem But.refl (B : Nat) (w : World) : But B w w := ⟨rfl, rfl, rfl, Nat.le_refl _, fun _ _ _ => rfl⟩
theorem But.trans {B : Nat} {a b c : World} (h : But B a b) (k : But B b c) : But B a c :=
  ⟨k.os.trans h.os, k.tape.trans h.tape, k.output.trans h.output, Nat.le_trans h.size k.size, fun i hi hb => (k.block i (Nat.lt_of_lt_of_le hi h.size) hb).trans (h.block i hi hb)⟩
theorem But.set (B i : Nat) (w : World) (v : Value) : But B w (w.setCell ⟨B, i, none⟩ v) :=
  ⟨rfl, rfl, rfl, by simp, fun k _ hb => heap_setCell_other _ _ _ _ hb⟩
theorem But.setc {B : Nat} {a w : World} (h : But B a w) (i : Nat) (v : Value) : But B a (w.setCell ⟨B, i, none⟩ v) := h.trans (But.set B i w v)
theorem But.drew {B : Nat} {a w : World} (h : But B a w) : But B a w.drew := h.trans ⟨rfl, rfl, rfl, Nat.le_refl _, fun _ _ _ => rfl⟩
theorem But.row {B : Nat} {a w : World} (h : But B a w) (cs : Array Value) : But B a (w.setRow B cs) :=
  h.trans ⟨rfl, rfl, rfl, by simp, fun k _ hb => setRow_other _ _ _ _ hb⟩
theorem But.alloc {B : Nat} {a w : World} (h : But B a w) (o : Obj) : But B a (w.alloc o) :=
  h.trans ⟨rfl, rfl, rfl, by simp, fun k hk _ => Below.heap_alloc _ _ k hk⟩
theorem Kept.but {w w' : World} (h : Kept w w') (B : Nat) : But B w w' := ⟨h.os, h.tape, h.output, h.size, fun k hk _ => Below.block h k hk⟩
/-- Below n, where B is not. -/
theorem But.below {B n : Nat} {a w : World} (h : But B a w) (hn : n ≤ B) (hs : n ≤ a.heap.size) : Below n a w :=
  ⟨h.os, h.tape, h.output, h.size, fun k hk => h.block k (by omega) (by omega)⟩
/-- What was kept stays kept by what happens to a block of the call's own. -/
theorem But.kept {B : Nat} {w a b : World} (h : But B a b) (k : Kept w a) (hB : w.heap.size ≤ B) : Kept w b :=
  Below.trans k (h.below hB k.size)
theorem But.at {B k : Nat} {w w' : World} {o : Obj} (h : But B w w') (hb : w.heap[k]? = some o) (hk : k ≠ B) : w'.heap[k]? = some o := by
  rw [h.block k (lt_of_block hb) hk]; exact hb
theorem Kept.at {k : Nat} {w w' : World} {o : Obj} (h : Kept w w') (hb : w.heap[k]? = some o) : w'.heap[k]? = some o := h.block hb
end Go.Proofs.Ytnpjmjnekakgeaa.Mem
