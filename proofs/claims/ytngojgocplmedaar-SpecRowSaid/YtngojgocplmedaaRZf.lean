/-
  A specification copied (the kit's CopySpec).
-/
import Derived.Test.YtngojgocplmedaaRZc
import Derived.Deep.RegionHeld3
namespace Go.Proofs.YtngojgocplmedaaR.Ls
open Go.RowKit Go.Proofs.YtngojgocplmedaaR.Mem Go.Proofs.YtngojgocplmedaaR.Bx Go.Proofs.YtngojgocplmedaaR.In Go.Proofs.YtngojgocplmedaaR.Sp Go.ChangeShapes Go.WideShapes Go.ChangeAt
set_option linter.unusedVariables false

theorem _root_.Go.Proofs.YtngojgocplmedaaR.In.New.off {B : Nat} {w w' : World} {ao : Option Addr} {n cap : Nat} {l : List Int} (h : New B w ao n cap l) (k : ∀ g, B ≤ g → w'.heap[g]? = w.heap[g]?) : New B w' ao n cap l :=
  ⟨⟨h.row.1, by
    rcases h.row.2 with h2 | ⟨g, c, cur, e, hb, hh, r⟩
    · exact .inl h2
    · exact .inr ⟨g, c, cur, e, hb, (k g hb).trans hh, r⟩⟩, h.fit⟩
theorem NewE.off {α : Type} {E : El α} {B : Nat} {w w' : World} {ao : Option Addr} {n cap : Nat} {l : List α} (h : NewE E B w ao n cap l) (k : ∀ g, B ≤ g → w'.heap[g]? = w.heap[g]?) : NewE E B w' ao n cap l := by
  refine ⟨h.1, h.2.1, ?_⟩
  rcases h.2.2 with h2 | ⟨g, c, cur, e, hb, hh, r⟩
  · exact .inl h2
  · exact .inr ⟨g, c, cur, e, hb, (k g hb).trans hh, r⟩
/-- Nothing but the blocks from B on, below N, has turned. -/
structure Only (B N : Nat) (u w : World) : Prop where
  os : w.os = u.os
  tape : w.tape = u.tape
  output : w.output = u.output
  size : w.heap.size = u.heap.size
  block : ∀ k, ¬ (B ≤ k ∧ k < N) → w.heap[k]? = u.heap[k]?
theorem Only.refl (B N : Nat) (u : World) : Only B N u u := ⟨rfl, rfl, rfl, rfl, fun _ _ => rfl⟩
theorem Only.set {B N : Nat} {u w : World} (h : Only B N u w) {p : Addr} {v : Value} (hp : B ≤ p.block ∧ p.block < N) : Only B N u (w.setCell p v) :=
  ⟨h.os, h.tape, h.output, by simpa [World.setCell] using h.size, fun k hk => (heap_setCell_other w p k v (fun e => hk (e ▸ hp))).trans (h.block k hk)⟩
theorem Only.kept {B N : Nat} {x u w : World} (h : Only B N u w) (k : Kept x u) (hB : x.heap.size ≤ B) : Kept x w :=
  ⟨h.os.trans k.os, h.tape.trans k.tape, h.output.trans k.output, by rw [h.size]; exact k.size, fun i hi => (h.block i (fun e => by omega)).trans (Below.block k i hi)⟩
def spZ : Array Value := #[.int .i64 0, .int .i64 0, .int .i64 0, .int .i64 0, .slice none 0 0, .slice none 0 0]
theorem copys_end {w u2 w' : World} {s : Sp} {bo bo2 : Option Addr} {pn c tn c2 B B2 : Nat} (h1 : New B u2 bo pn c s.ports) (h2 : NewE elT B2 u2 bo2 tn c2 s.tasks) (k : Kept w u2) (hB : B = w.heap.size + 2) (hB2 : w.heap.size + 2 ≤ B2) (h : Only w.heap.size (w.heap.size + 2) u2 w') :
    ∃ q : Pl, Ending.returned (.agg #[.int .i64 s.id, .int .i64 s.c, .int .i64 s.m, .int .i64 s.d, .slice bo pn c, .slice bo2 tn c2]) = .returned (.agg (spC s q)) ∧ SpNew w.heap.size w' s q ∧ q.pn = pn ∧ q.tn = tn ∧ Kept w w' :=
  ⟨⟨bo, pn, c, bo2, tn, c2⟩, rfl, ⟨(h1.off fun g hg => h.block g (fun e => by omega)).base (by omega), (h2.off fun g hg => h.block g (fun e => by omega)).base (by omega)⟩, rfl, rfl, h.kept k (Nat.le_refl _)⟩
end Go.Proofs.YtngojgocplmedaaR.Ls
