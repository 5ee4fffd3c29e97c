/-
  What a call may do to the world: every block that was there is as it was ('Kept'); a block of the call's own that holds bytes ('Row').
  What a call may do to the world: every block that was there, but one, is as it was ('But').
  Things in memory, each in blocks of its own ('As'), several at once ('Own'); what a call may do to the blocks of one of them ('Off').
  Maps of the call's own from numbers below N to strings ('Mp').
  Arguments opened: what is so of any slice of structs.
  Arguments opened: numbers, strings, bools.
-/
import Derived.Test.YtngojgocplmedaaRRows
import Derived.WalkKit
import Derived.Laws.IdiomStrings
import Derived.ProofKit
import Derived.Lib.Hide
import Derived.Deep.QuietTactic
import Derived.Laws.Rows
import Derived.Maps.OwnSet
import Derived.Maps.Range
import Derived.Maps.StringElems
import Derived.Deep.Slices
import Derived.OpenShut
import Derived.Carry
import Derived.ShutString
namespace Go.Proofs.YtngojgocplmedaaR.Mem
open Go.ChangeShapes Go.WideShapes Go.ChangeAt Go.RowKit

def Kept (w w' : World) : Prop := Below w.heap.size w w'
theorem Kept.refl (w : World) : Kept w w := Below.refl _ _
theorem Kept.trans {a b c : World} (h : Kept a b) (k : Kept b c) : Kept a c := Below.trans h (Below.mono k h.size)
theorem Kept.block {a b : World} (h : Kept a b) {k : Nat} {o : Obj} (hb : a.heap[k]? = some o) : b.heap[k]? = some o := by
  rw [Below.block h k (lt_of_block hb)]; exact hb
theorem Kept.cell {a b : World} (h : Kept a b) {p : Addr} (hp : p.block < a.heap.size) : b.cell? p = a.cell? p := Below.cell h hp
theorem Kept.drew {a b : World} (h : Kept a b) : Kept a b.drew := Below.drew h
theorem Kept.drewN {a b : World} (h : Kept a b) (n : Nat) : Kept a (b.drewN n) := by
  induction n with
  | zero => exact h
  | succ n ih => exact Below.drew ih
theorem Kept.alloc {a b : World} (h : Kept a b) (o : Obj) : Kept a (b.alloc o) := Below.alloc h h.size o

/-- Block B holds the bytes l; below B the world is as w was. -/
structure Row (w : World) (B : Nat) (l : List UInt8) (w' : World) : Prop where
  bel : Below B w w'
  lt : B < w'.heap.size
  cell : ∀ j (h : j < l.length), w'.cell? ⟨B, j, none⟩ = some (.int .u8 (l[j].toNat : Int))
  free : ∀ j, j < l.length → w'.frozen? ⟨B, j, none⟩ = false
theorem Row.drew {w w' : World} {B : Nat} {l : List UInt8} (h : Row w B l w') : Row w B l w'.drew := ⟨h.bel.drew, h.lt, h.cell, h.free⟩
theorem Row.set {w w' : World} {B : Nat} {l : List UInt8} (h : Row w B l w') (j : Nat) (c : UInt8) {v : Int} (hv : v = (c.toNat : Int)) (hj : j < l.length) :
    Row w B (l.set j c) (w'.setCell ⟨B, j, none⟩ (.int .u8 v)) := by
  subst hv
  refine ⟨h.bel.setCell (Nat.le_refl _) _, by simpa [World.setCell] using h.lt, fun i hi => ?_, fun i hi => ?_⟩
  · have hi' : i < l.length := by simpa using hi
    by_cases e : i = j
    · subst e
      rw [World.cell?_setCell_same _ _ _ (h.cell i hi')]; simp
    · rw [World.cell?_setCell_other _ _ _ _ (by simp), h.cell i hi', List.getElem_set_ne (by omega)]
  · rw [List.length_set] at hi
    rw [World.frozen?_setCell]; exact h.free i hi
theorem Row.kept {w a b : World} {B : Nat} {l : List UInt8} (h : Row w B l a) (k : Kept a b) : Row w B l b :=
  ⟨h.bel.trans (Below.mono k (Nat.le_of_lt h.lt)), Nat.lt_of_lt_of_le h.lt k.size, fun j hj => by rw [Below.cell k h.lt]; exact h.cell j hj, fun j hj => by rw [Below.frozen k h.lt]; exact h.free j hj⟩
theorem Row.at {w w' : World} {B : Nat} {l : List UInt8} (h : Row w B l w') (j : Nat) (hj : j < l.length) : (∃ v, w'.cell? ⟨B, j, none⟩ = some (.int .u8 v)) ∧ w'.frozen? ⟨B, j, none⟩ = false :=
  ⟨⟨_, h.cell j hj⟩, h.free j hj⟩
/-- A beginning of the row, as a string. -/
theorem Row.str {w w' : World} {B : Nat} {l : List UInt8} (h : Row w B l w') (n cap : Nat) (hn : n ≤ l.length) :
    (convert 53 9 (.slice (some ⟨B, 0, none⟩) n cap)).run Try.prog w' = .ok (.string ⟨(l.take n).toArray⟩) w' := by
  have hlen : (l.take n).length = n := by rw [List.length_take]; omega
  have key := run_convert_bytes_back (P := Try.prog) w' 53 9 5 ⟨B, 0, none⟩ cap (l.take n) Try.underlying53 Try.underlying5 Try.underlying9 (fun j hj => by
    have e : (⟨B, 0, none⟩ : Addr).add j = ⟨B, j, none⟩ := by rw [add_plain]; simp
    have hj' : j < l.length := by rw [hlen] at hj; omega
    rw [e, List.getElem_take]; exact h.cell j hj')
  rw [hlen] at key
  exact key
/-- A new block of zeros. -/
theorem Row.start (w : World) (n : Nat) (T : TypeId) : Row w w.heap.size (List.replicate n 0) (w.alloc (.cells (Array.replicate n (.int .u8 0)) T)) := by
  have e := (MapKept.heap_alloc w (.cells (Array.replicate n (.int .u8 0)) T)).1
  refine ⟨(Below.refl _ _).alloc (Nat.le_refl _) _, by simp, fun j hj => ?_, fun j hj => ?_⟩
  · have hj' : j < n := by simpa using hj
    show (match (w.alloc _).heap[w.heap.size]? with | some (.cells c _ _) => c[j]? | _ => none) = _
    rw [e]
    simp [hj']
  · show (match (w.alloc _).heap[w.heap.size]? with | some (.cells _ _ (lo, hi)) => decide (lo ≤ j) && decide (j < hi) | _ => false) = _
    rw [e]
    simp
theorem Row.keptOf {w w' : World} {l : List UInt8} (h : Row w w.heap.size l w') : Kept w w' := h.bel
end Go.Proofs.YtngojgocplmedaaR.Mem

namespace Go.Proofs.YtngojgocplmedaaR.Mem
open Go.RowKit

/-- Every block that was there is as it was, but block B. -/
structure But (B : Nat) (w w' : World) : Prop where
  os : w'.os = w.os
  tape : w'.tape = w.tape
  output : w'.output = w.output
  size : w.heap.size ≤ w'.heap.size
  block : ∀ k, k < w.heap.size → k ≠ B → w'.heap[k]? = w.heap[k]?
theorem But.refl (B : Nat) (w : World) : But B w w := ⟨rfl, rfl, rfl, Nat.le_refl _, fun _ _ _ => rfl⟩
theorem But.trans {B : Nat} {a b c : World} (h : But B a b) (k : But B b c) : But B a c :=
  ⟨k.os.trans h.os, k.tape.trans h.tape, k.output.trans h.output, Nat.le_trans h.size k.size, fun i hi hb => (k.block i (Nat.lt_of_lt_of_le hi h.size) hb).trans (h.block i hi hb)⟩
theorem But.set (B i : Nat) (w : World) (v : Value) : But B w (w.setCell ⟨B, i, none⟩ v) :=
  ⟨rfl, rfl, rfl, by simp, fun k _ hb => heap_setCell_other _ _ _ _ hb⟩
theorem But.setc {B : Nat} {a w : World} (h : But B a w) (i : Nat) (v : Value) : But B a (w.setCell ⟨B, i, none⟩ v) := h.trans (But.set B i w v)
theorem But.drew {B : Nat} {a w : World} (h : But B a w) : But B a w.drew := h.trans ⟨rfl, rfl, rfl, Nat.le_refl _, fun _ _ _ => rfl⟩
theorem But.row {B : Nat} {a w : World} (h : But B a w) (cs : Array Value) : But B a (w.setRow B cs) :=
  h.trans ⟨rfl, rfl, rfl, by simp, fun k _ hb => setRow_other _ _ _ _ hb⟩
theorem But.alloc {B : Nat} {a w : World} (h : But B a w) (o : Obj) : But B a (w.alloc o) :=
  h.trans ⟨rfl, rfl, rfl, by simp, fun k hk _ => Below.heap_alloc _ _ k hk⟩
theorem Kept.but {w w' : World} (h : Kept w w') (B : Nat) : But B w w' := ⟨h.os, h.tape, h.output, h.size, fun k hk _ => Below.block h k hk⟩
/-- Below n, where B is not. -/
theorem But.below {B n : Nat} {a w : World} (h : But B a w) (hn : n ≤ B) (hs : n ≤ a.heap.size) : Below n a w :=
  ⟨h.os, h.tape, h.output, h.size, fun k hk => h.block k (by omega) (by omega)⟩
/-- What was kept stays kept by what happens to a block of the call's own. -/
theorem But.kept {B : Nat} {w a b : World} (h : But B a b) (k : Kept w a) (hB : w.heap.size ≤ B) : Kept w b :=
  Below.trans k (h.below hB k.size)
theorem But.at {B k : Nat} {w w' : World} {o : Obj} (h : But B w w') (hb : w.heap[k]? = some o) (hk : k ≠ B) : w'.heap[k]? = some o := by
  rw [h.block k (lt_of_block hb) hk]; exact hb
theorem Kept.at {k : Nat} {w w' : World} {o : Obj} (h : Kept w w') (hb : w.heap[k]? = some o) : w'.heap[k]? = some o := h.block hb
end Go.Proofs.YtngojgocplmedaaR.Mem

namespace Go.Proofs.YtngojgocplmedaaR.Mem
open Go.RowKit

/-- Outside S every block that was there is as it was. -/
structure Off (S : Nat → Prop) (w w' : World) : Prop where
  os : w'.os = w.os
  tape : w'.tape = w.tape
  output : w'.output = w.output
  size : w.heap.size ≤ w'.heap.size
  block : ∀ k, k < w.heap.size → ¬ S k → w'.heap[k]? = w.heap[k]?
/-- S, and all that was made between w and w'. -/
def grew (S : Nat → Prop) (w w' : World) (k : Nat) : Prop := S k ∨ (w.heap.size ≤ k ∧ k < w'.heap.size)
theorem Off.refl (S : Nat → Prop) (w : World) : Off S w w := ⟨rfl, rfl, rfl, Nat.le_refl _, fun _ _ _ => rfl⟩
theorem Off.trans {S : Nat → Prop} {a b c : World} (h : Off S a b) (k : Off S b c) : Off S a c :=
  ⟨k.os.trans h.os, k.tape.trans h.tape, k.output.trans h.output, Nat.le_trans h.size k.size, fun i hi hs => (k.block i (Nat.lt_of_lt_of_le hi h.size) hs).trans (h.block i hi hs)⟩
theorem Off.mono {S T : Nat → Prop} {a b : World} (h : Off S a b) (hs : ∀ k, k < a.heap.size → S k → T k) : Off T a b :=
  ⟨h.os, h.tape, h.output, h.size, fun k hk ht => h.block k hk fun hk' => ht (hs k hk hk')⟩
/-- Two steps, of which the second may also write what the first has made. -/
theorem Off.then {S : Nat → Prop} {a b c : World} (h : Off S a b) (k : Off (grew S a b) b c) : Off S a c :=
  ⟨k.os.trans h.os, k.tape.trans h.tape, k.output.trans h.output, Nat.le_trans h.size k.size, fun i hi hs =>
    (k.block i (Nat.lt_of_lt_of_le hi h.size) (fun hg => hg.elim hs fun h2 => absurd hi (Nat.not_lt.2 h2.1))).trans (h.block i hi hs)⟩
theorem Off.drew {S : Nat → Prop} {a w : World} (h : Off S a w) : Off S a w.drew := h.trans ⟨rfl, rfl, rfl, Nat.le_refl _, fun _ _ _ => rfl⟩
theorem Off.alloc {S : Nat → Prop} {a w : World} (h : Off S a w) (o : Obj) : Off S a (w.alloc o) :=
  h.trans ⟨rfl, rfl, rfl, by simp, fun k hk _ => Below.heap_alloc _ _ k hk⟩
theorem Off.setc {S : Nat → Prop} {a w : World} (h : Off S a w) (B i : Nat) (v : Value) (hB : S B ∨ a.heap.size ≤ B) : Off S a (w.setCell ⟨B, i, none⟩ v) :=
  ⟨h.os, h.tape, h.output, by simpa using h.size, fun k hk hs => by
    have hne : k ≠ B := fun e => by subst e; exact hB.elim hs fun h2 => absurd hk (Nat.not_lt.2 h2)
    rw [heap_setCell_other _ _ _ _ hne]; exact h.block k hk hs⟩
theorem Off.but {S : Nat → Prop} {a b c : World} {B : Nat} (h : Off S a b) (k : But B b c) (hB : S B ∨ a.heap.size ≤ B) : Off S a c :=
  ⟨k.os.trans h.os, k.tape.trans h.tape, k.output.trans h.output, Nat.le_trans h.size k.size, fun i hi hs =>
    (k.block i (Nat.lt_of_lt_of_le hi h.size) (fun e => by subst e; exact hB.elim hs fun h2 => absurd hi (Nat.not_lt.2 h2))).trans (h.block i hi hs)⟩
theorem Off.kept {S : Nat → Prop} {a b c : World} (h : Off S a b) (k : Kept b c) : Off S a c :=
  ⟨k.os.trans h.os, k.tape.trans h.tape, k.output.trans h.output, Nat.le_trans h.size k.size, fun i hi hs => (Below.block k i (Nat.lt_of_lt_of_le hi h.size)).trans (h.block i hi hs)⟩
theorem Kept.off {a b : World} (k : Kept a b) (S : Nat → Prop) : Off S a b := (Off.refl S a).kept k
theorem But.off {B : Nat} {a b : World} (k : But B a b) {S : Nat → Prop} (hB : S B) : Off S a b := (Off.refl S a).but k (.inl hB)
/-- Below n, where S is not. -/
theorem Off.below {S : Nat → Prop} {n : Nat} {a b : World} (h : Off S a b) (hn : ∀ k, S k → n ≤ k) (hs : n ≤ a.heap.size) : Below n a b :=
  ⟨h.os, h.tape, h.output, h.size, fun k hk => h.block k (by omega) fun hk' => absurd (hn k hk') (by omega)⟩
/-- Nothing but new blocks. -/
theorem Off.keptOf {a b : World} {S : Nat → Prop} (h : Off S a b) (hs : ∀ k, ¬ S k) : Kept a b := h.below (fun k hk => absurd hk (hs k)) (Nat.le_refl _)
theorem Off.cell {S : Nat → Prop} {a b : World} (h : Off S a b) {p : Addr} {v : Value} (hc : a.cell? p = some v) (hp : ¬ S p.block) : b.cell? p = some v := by
  have hlt : p.block < a.heap.size := World.block_lt_of_cell? a p hc
  rw [World.cell?_of_block (h.block _ hlt hp)]; exact hc
theorem Off.at {S : Nat → Prop} {a b : World} (h : Off S a b) {k : Nat} {o : Obj} (hb : a.heap[k]? = some o) (hk : ¬ S k) : b.heap[k]? = some o := by
  rw [h.block k (lt_of_block hb) hk]; exact hb

/-- A thing in memory: it lies in the blocks S of w. -/
structure As where
  p : (Nat → Prop) → World → Prop
  mono : ∀ S T w, p S w → (∀ k, S k → T k) → p T w
  loc : ∀ S w w', p S w → (∀ k, S k → k < w.heap.size → w'.heap[k]? = w.heap[k]?) → p S w'
/-- One that comes out of another. -/
theorem As.keep {a : As} {S : Nat → Prop} {w w' : World} (h : a.p S w) (k : Kept w w') : a.p S w' := a.loc S w w' h fun i _ hi => Below.block k i hi
theorem As.off {a : As} {S T : Nat → Prop} {w w' : World} (h : a.p S w) (k : Off T w w') (hd : ∀ i, S i → ¬ T i) : a.p S w' := a.loc S w w' h fun i hs hi => k.block i hi (hd i hs)

/-- Since w0 nothing that was there has changed, and there are new things, each in blocks of its own. -/
structure Own (w0 : World) (L : List As) (w : World) : Prop where
  kept : Kept w0 w
  ex : ∃ f : Nat → Nat → Prop, (∀ i (a : As), L[i]? = some a → a.p (f i) w) ∧ (∀ i k, f i k → w0.heap.size ≤ k ∧ k < w.heap.size) ∧ (∀ i j k, f i k → f j k → i = j)
theorem Own.nil (w : World) : Own w [] w := ⟨Kept.refl w, fun _ _ => False, fun i a h => by simp at h, fun _ _ h => h.elim, fun _ _ _ h => h.elim⟩
theorem Own.start {w w' : World} (h : Kept w w') : Own w [] w' := ⟨h, fun _ _ => False, fun i a h => by simp at h, fun _ _ h => h.elim, fun _ _ _ h => h.elim⟩
theorem Own.later {w0 w w' : World} {L : List As} (h : Own w0 L w) (k : Kept w w') : Own w0 L w' := by
  obtain ⟨hk, f, h1, h2, h3⟩ := h
  exact ⟨hk.trans k, f, fun i a hi => As.keep (h1 i a hi) k, fun i j hf => ⟨(h2 i j hf).1, Nat.lt_of_lt_of_le (h2 i j hf).2 k.size⟩, h3⟩
theorem Own.drew {w0 w : World} {L : List As} (h : Own w0 L w) : Own w0 L w.drew := h.later (Kept.refl w).drew
theorem Own.drewN {w0 w : World} {L : List As} (h : Own w0 L w) (n : Nat) : Own w0 L (w.drewN n) := h.later ((Kept.refl w).drewN n)
theorem Own.alloc {w0 w : World} {L : List As} (h : Own w0 L w) (o : Obj) : Own w0 L (w.alloc o) := h.later ((Kept.refl w).alloc o)
/-- Thing i is taken in hand, written, and laid back. -/
theorem Own.open {w0 w : World} {L : List As} (h : Own w0 L w) (i : Nat) {a : As} (hi : L[i]? = some a) :
    ∃ S, a.p S w ∧ (∀ k, S k → k < w.heap.size) ∧ ∀ w' b, Off S w w' → b.p (grew S w w') w' → Own w0 (L.set i b) w' := by
  obtain ⟨hk, f, h1, h2, h3⟩ := h
  refine ⟨f i, h1 i a hi, fun k hk => (h2 i k hk).2, fun w' b ho hb => ?_⟩
  have hil : i < L.length := (List.getElem?_eq_some_iff.1 hi).1
  refine ⟨Below.trans hk (ho.below (fun k hf => (h2 i k hf).1) hk.size), fun j => if j = i then grew (f i) w w' else f j, ?_, ?_, ?_⟩
  · intro j c hj
    by_cases e : j = i
    · subst e
      rw [List.getElem?_set_self hil] at hj
      obtain rfl : b = c := by simpa using hj
      simpa using hb
    · rw [List.getElem?_set_ne (fun e' => e e'.symm)] at hj
      simp only [e, if_false]
      exact As.off (h1 j c hj) ho fun k hk hk' => e (h3 _ _ _ hk hk')
  · intro j k hf
    by_cases e : j = i
    · simp only [e, if_true] at hf
      rcases hf with hf | hf
      · exact ⟨(h2 i k hf).1, Nat.lt_of_lt_of_le (h2 i k hf).2 ho.size⟩
      · exact ⟨Nat.le_trans hk.size hf.1, hf.2⟩
    · simp only [e, if_false] at hf
      exact ⟨(h2 j k hf).1, Nat.lt_of_lt_of_le (h2 j k hf).2 ho.size⟩
  · intro j l k hf hg
    by_cases e : j = i <;> by_cases e' : l = i
    · rw [e, e']
    · simp only [e, e', if_true, if_false] at hf hg
      rcases hf with hf | hf
      · exact absurd (h3 _ _ _ hf hg).symm e'
      · exact absurd (h2 l k hg).2 (by omega)
    · simp only [e, e', if_true, if_false] at hf hg
      rcases hg with hg | hg
      · exact absurd (h3 _ _ _ hf hg) e
      · exact absurd (h2 j k hf).2 (by omega)
    · simp only [e, e', if_false] at hf hg
      exact h3 _ _ _ hf hg
/-- A new thing. -/
theorem Own.push {w0 w w' : World} {L : List As} (h : Own w0 L w) {b : As} (k : Kept w w') (hb : b.p (grew (fun _ => False) w w') w') : Own w0 (L ++ [b]) w' := by
  obtain ⟨hk, f, h1, h2, h3⟩ := h
  refine ⟨hk.trans k, fun j => if j = L.length then grew (fun _ => False) w w' else if j < L.length then f j else fun _ => False, ?_, ?_, ?_⟩
  · intro j c hj
    by_cases e : j = L.length
    · subst e
      obtain rfl : b = c := by simpa using hj
      simpa using hb
    · have hlt : j < L.length := by
        have := (List.getElem?_eq_some_iff.1 hj).1
        simp at this; omega
      rw [List.getElem?_append_left hlt] at hj
      simp only [e, hlt, if_false, if_true]
      exact As.keep (h1 j c hj) k
  · intro j i hf
    by_cases e : j = L.length
    · simp only [e, if_true] at hf
      rcases hf with hf | hf
      · exact hf.elim
      · exact ⟨Nat.le_trans hk.size hf.1, hf.2⟩
    · by_cases e2 : j < L.length
      · simp only [e, e2, if_false, if_true] at hf
        exact ⟨(h2 j i hf).1, Nat.lt_of_lt_of_le (h2 j i hf).2 k.size⟩
      · simp only [e, e2, if_false] at hf
  · intro j l i hf hg
    by_cases e : j = L.length <;> by_cases e' : l = L.length
    · rw [e, e']
    · simp only [e, e', if_true, if_false] at hf hg
      by_cases e2 : l < L.length
      · simp only [e2, if_true] at hg
        rcases hf with hf | hf
        · exact hf.elim
        · exact absurd (h2 l i hg).2 (by omega)
      · simp only [e2, if_false] at hg
    · simp only [e, e', if_true, if_false] at hf hg
      by_cases e2 : j < L.length
      · simp only [e2, if_true] at hf
        rcases hg with hg | hg
        · exact hg.elim
        · exact absurd (h2 j i hf).2 (by omega)
      · simp only [e2, if_false] at hf
    · simp only [e, e', if_false] at hf hg
      by_cases e2 : j < L.length <;> by_cases e3 : l < L.length
      · simp only [e2, e3, if_true] at hf hg
        exact h3 _ _ _ hf hg
      · simp only [e3, if_false] at hg
      · simp only [e2, if_false] at hf
      · simp only [e2, if_false] at hf
/-- Things that are no longer looked at: the list may lose any of its places, in order. -/
theorem Own.pick {w0 w : World} {L M : List As} (h : Own w0 L w) (g : Nat → Nat) (hg : ∀ i j, i < M.length → j < M.length → g i = g j → i = j) (hM : ∀ i a, M[i]? = some a → L[g i]? = some a) : Own w0 M w := by
  obtain ⟨hk, f, h1, h2, h3⟩ := h
  refine ⟨hk, fun j k => j < M.length ∧ f (g j) k, ?_, fun i k hf => h2 _ k hf.2, fun i j k hf hf' => hg i j hf.1 hf'.1 (h3 _ _ _ hf.2 hf'.2)⟩
  intro i a hi
  have hlt := (List.getElem?_eq_some_iff.1 hi).1
  exact a.mono _ _ _ (h1 _ a (hM i a hi)) fun k hk => ⟨hlt, hk⟩
theorem Own.front {w0 w : World} {L : List As} {b : As} (h : Own w0 (L ++ [b]) w) : Own w0 (b :: L) w :=
  h.pick (fun i => if i = 0 then L.length else i - 1) (fun i j hi hj e => by
    simp only [List.length_cons] at hi hj
    by_cases hi0 : i = 0 <;> by_cases hj0 : j = 0 <;> simp [hi0, hj0] at e ⊢ <;> omega) fun i a hi => by
    cases i with
    | zero => simp at hi; subst hi; simp
    | succ i =>
      simp only [List.getElem?_cons_succ] at hi
      have := (List.getElem?_eq_some_iff.1 hi).1
      simp only [Nat.succ_ne_zero, if_false, Nat.add_sub_cancel]
      rw [List.getElem?_append_left this]; exact hi
theorem Own.tail {w0 w : World} {L : List As} {b : As} (h : Own w0 (b :: L) w) : Own w0 L w :=
  h.pick (fun i => i + 1) (fun i j _ _ e => by omega) fun i a hi => by simpa using hi
theorem Own.second {w0 w : World} {L : List As} {a b : As} (h : Own w0 (a :: b :: L) w) : Own w0 (a :: L) w :=
  h.pick (fun i => if i = 0 then 0 else i + 1) (fun i j _ _ e => by by_cases hi0 : i = 0 <;> by_cases hj0 : j = 0 <;> simp [hi0, hj0] at e ⊢ <;> omega) fun i c hi => by
    cases i with
    | zero => simpa using hi
    | succ i => simpa using hi
/-- What is so of thing i. -/
theorem Own.see {w0 w : World} {L : List As} (h : Own w0 L w) (i : Nat) {a : As} (hi : L[i]? = some a) : ∃ S, a.p S w ∧ (∀ k, S k → w0.heap.size ≤ k ∧ k < w.heap.size) := by
  obtain ⟨hk, f, h1, h2, h3⟩ := h
  exact ⟨f i, h1 i a hi, fun k hf => h2 i k hf⟩
theorem Own.lift {P : Program} {fn : Nat} {args : Array Value} {w0 w : World} {L : List As} (h : Own w0 L w) (i : Nat) {a : As} (hi : L[i]? = some a) {X : Type} {R : X → Ending → Prop} {b : X → As}
    (c : ∀ S, a.p S w → (∀ k, S k → k < w.heap.size) → Calls P fn args w fun e w' => ∃ x, R x e ∧ Off S w w' ∧ (b x).p (grew S w w') w') :
    Calls P fn args w fun e w' => ∃ x, R x e ∧ Own w0 (L.set i (b x)) w' := by
  obtain ⟨S, ha, hs, back⟩ := h.open i hi
  exact (c S ha hs).mono fun e w' ⟨x, hr, ho, hb⟩ => ⟨x, hr, back _ _ ho hb⟩
theorem Own.lift1 {P : Program} {fn : Nat} {args : Array Value} {w0 w : World} {L : List As} (h : Own w0 L w) (i : Nat) {a : As} (hi : L[i]? = some a) {R : Ending → Prop} {b : As}
    (c : ∀ S, a.p S w → (∀ k, S k → k < w.heap.size) → Calls P fn args w fun e w' => R e ∧ Off S w w' ∧ b.p (grew S w w') w') :
    Calls P fn args w fun e w' => R e ∧ Own w0 (L.set i b) w' := by
  obtain ⟨S, ha, hs, back⟩ := h.open i hi
  exact (c S ha hs).mono fun e w' ⟨hr, ho, hb⟩ => ⟨hr, back _ _ ho hb⟩
theorem set0 {a b : As} {L : List As} : (a :: L).set 0 b = b :: L := rfl
theorem set1 {a b c : As} {L : List As} : (a :: b :: L).set 1 c = a :: c :: L := rfl
theorem set2 {a b c d : As} {L : List As} : (a :: b :: c :: L).set 2 d = a :: b :: d :: L := rfl
theorem set3 {a b c d e : As} {L : List As} : (a :: b :: c :: d :: L).set 3 e = a :: b :: c :: e :: L := rfl
end Go.Proofs.YtngojgocplmedaaR.Mem

namespace Go.Proofs.YtngojgocplmedaaR.Mem
open Go.RowKit Go.Maps Go.MapKept Go.ChangeMaps

theorem mp_law : Keyed Try.prog 3 := int_keyed Try.underlying3
theorem mp_zero (w : World) : (zeroValue 9).run Try.prog w = .ok (.string ByteArray.empty) w := by kernel_rfl
theorem mp_key {i : Nat} (hi : i < 9223372036854775808) : keyOf Try.prog 3 (.int .i64 (i : Int)) = some (.int .i64 (i : Int)) :=
  keyOf_int_mk Try.underlying3 (WalkArith.wf_i64 (by omega))
theorem mp_ne {i j : Nat} (h : j ≠ i) : (Lit.int .i64 (j : Int)) ≠ .int .i64 (i : Int) := fun e => h (by injection e with _ e; omega)
theorem ownsMap_tight {P : Program} {k : TypeId} {R : Value → Option (DataW Unit × List MemPlace)} {w : World} {b n : Nat} {D : DataW Unit} (h : w.ownsMap P k R b n D) : w.ownsMap P k R b (Maps.size D) D := by
  obtain ⟨es, clock, hb, F, hs, rfl⟩ := h
  exact ⟨es, clock, hb, F, by simp [Maps.size, length_sorted], rfl⟩
/-- A map whose keys are numbers below N has at most N entries. -/
theorem size_keys {R : Value → Option (DataW Unit × List MemPlace)} {t : TypeId} (ht : Try.prog.underlying t = some (.map 3 9)) : ∀ (N : Nat), N < 9223372036854775808 → ∀ {w : World} {b n : Nat} {D : DataW Unit},
    w.ownsMap Try.prog 3 R b n D → (∀ k, Maps.has D k = true → ∃ i : Nat, i < N ∧ k = .int .i64 (i : Int)) → Maps.size D ≤ N
  | 0, _, w, b, n, D, h, hk => by
    obtain ⟨es, rfl, _, hl⟩ := h.entries mp_law
    match es with
    | [] => exact Nat.le_refl _
    | p :: r =>
      obtain ⟨i, hi, _⟩ := hk p.1 (by rw [Maps.has_eq]; simp [WideAt.sameKey_self (hl p (by simp))])
      omega
  | N + 1, hN, w, b, n, D, h, hk => by
    obtain ⟨w', _, h', _⟩ := h.drop mp_law ht (mp_key (i := N) (by omega)) 0
    have := size_keys ht N (by omega) h' fun k hk' => by
      by_cases e : k = .int .i64 (N : Int)
      · subst e; rw [has_del_same] at hk'; cases hk'
      · rw [has_del_other e] at hk'
        obtain ⟨i, hi, rfl⟩ := hk k hk'
        exact ⟨i, by
          have : i ≠ N := fun e' => e (by rw [e'])
          omega, rfl⟩
    have h2 := size_del (k := .int .i64 (N : Int)) (h.tidy mp_law)
    split at h2 <;> omega

/-- What a map's datum says of the string at i. -/
def Says (D : DataW Unit) (N : Nat) (g : Nat → Option ByteArray) : Prop :=
  (∀ k, Maps.has D k = true → ∃ i : Nat, i < N ∧ k = .int .i64 (i : Int)) ∧
  ∀ i, i < N → Maps.has D (.int .i64 (i : Int)) = (g i).isSome ∧ ∀ z, D.atKey (.int .i64 (i : Int)) z = (g i).elim z fun s => .lit (.string s.data.toList)
/-- Block b is a map from numbers below N to strings; g i is what it has at i. -/
def Mp (b N : Nat) (g : Nat → Option ByteArray) (w : World) : Prop :=
  N < 9223372036854775808 ∧ ∃ (n : Nat) (D : DataW Unit), w.ownsMap Try.prog 3 (plainElem Try.prog 9) b n D ∧ Says D N g
def upd (g : Nat → Option ByteArray) (i : Nat) (v : Option ByteArray) (j : Nat) : Option ByteArray := if j = i then v else g j
theorem Mp.lt {b N : Nat} {g : Nat → Option ByteArray} {w : World} (h : Mp b N g w) : b < w.heap.size := by obtain ⟨_, n, D, h, _⟩ := h; exact h.lt
theorem Mp.obj {b N : Nat} {g : Nat → Option ByteArray} {w : World} (h : Mp b N g w) : ∃ es clock, w.heap[b]? = some (.map es clock) := by
  obtain ⟨_, n, D, ⟨es, clock, hb, _⟩, _⟩ := h; exact ⟨es, clock, hb⟩
theorem Mp.at {b N : Nat} {g : Nat → Option ByteArray} {w w' : World} (h : Mp b N g w) (he : w'.heap[b]? = w.heap[b]?) : Mp b N g w' := by
  obtain ⟨hN, n, D, ⟨es, clock, hb, r⟩, hs⟩ := h
  exact ⟨hN, n, D, ⟨es, clock, he.trans hb, r⟩, hs⟩
theorem Mp.keep {b N : Nat} {g : Nat → Option ByteArray} {w w' : World} (h : Mp b N g w) (k : Kept w w') : Mp b N g w' := h.at (Below.block k b h.lt)
theorem Mp.off {b N : Nat} {g : Nat → Option ByteArray} {w w' : World} {S : Nat → Prop} (h : Mp b N g w) (k : Off S w w') (hs : ¬ S b) : Mp b N g w' := h.at (k.block b h.lt hs)
theorem Mp.but {b B N : Nat} {g : Nat → Option ByteArray} {w w' : World} (h : Mp b N g w) (k : But B w w') (hs : b ≠ B) : Mp b N g w' := h.at (k.block b h.lt hs)
theorem Mp.drew {b N : Nat} {g : Nat → Option ByteArray} {w : World} (h : Mp b N g w) : Mp b N g w.drew := h
theorem Mp.same {b N : Nat} {g g' : Nat → Option ByteArray} {w : World} (h : Mp b N g w) (he : ∀ i, i < N → g' i = g i) : Mp b N g' w := by
  obtain ⟨hN, n, D, ho, hk, hs⟩ := h
  exact ⟨hN, n, D, ho, hk, fun i hi => by rw [he i hi]; exact hs i hi⟩
theorem Mp.made (w : World) {N : Nat} (hN : N < 9223372036854775808) : Mp w.heap.size N (fun _ => none) (w.alloc (.map #[] 0)) :=
  ⟨hN, 0, .map [], World.ownsMap_made _ _ _ _, fun k hk => by simp [Maps.has_eq] at hk, fun i hi => ⟨rfl, fun z => rfl⟩⟩
theorem turned_but {w w' : World} {b : Nat} (h : w.mapTurned w' b) : But b w w' := by
  obtain ⟨es, clock, es', clock', hb, rfl⟩ := h
  exact ⟨rfl, rfl, rfl, by simp [setBlock], fun k _ hk => heap_setBlock_other hb _ hk⟩
theorem Mp.look {b N : Nat} {g : Nat → Option ByteArray} {w : World} (h : Mp b N g w) {t : TypeId} (ht : Try.prog.underlying t = some (.map 3 9)) {i : Nat} (hi : i < N) :
    (Instr.lookup t (.map (some b)) (.int .i64 (i : Int)) true).run Try.prog w = .ok (.tuple #[.string ((g i).getD ByteArray.empty), .bool (g i).isSome]) w := by
  obtain ⟨hN, n, D, ho, hk, hs⟩ := h
  obtain ⟨v, ps, hrun, hv⟩ := ho.look_ok mp_law ht (mp_zero w) (plainElem_string Try.underlying9 (by decide)) (mp_key (i := i) (by omega))
  rw [hrun, (hs i hi).1]
  rw [(hs i hi).2] at hv
  obtain ⟨s, rfl, hz, _⟩ := plainElem_string_inv Try.underlying9 hv
  cases hg : g i with
  | none =>
    rw [hg] at hz
    have : s = ByteArray.empty := by
      have e : s.data = #[] ∧ ps = [] := by simpa using hz.symm
      have e := e.1
      cases s; simp at e; subst e; rfl
    subst this
    rfl
  | some q =>
    rw [hg] at hz
    have : s = q := by
      have e : q.data = s.data ∧ ps = [] := by simpa using hz
      have e := e.1
      cases s; cases q; simpa using e.symm
    subst this
    rfl
theorem Mp.store {b N : Nat} {g : Nat → Option ByteArray} {w : World} (h : Mp b N g w) {t : TypeId} (ht : Try.prog.underlying t = some (.map 3 9)) {i : Nat} (hi : i < N) {s : ByteArray} (hs : s.size ≤ maxLen) (hN2 : N < maxLen) :
    ∃ w', (Instr.mapUpdate t (.map (some b)) (.int .i64 (i : Int)) (.string s)).run Try.prog w = .ok () w' ∧ Mp b N (upd g i (some s)) w' ∧ But b w w' := by
  obtain ⟨hN, n, D, ho, hk, hsa⟩ := h
  have hsz := size_keys ht N hN ho hk
  obtain ⟨w', hrun, h1, h2⟩ := (ownsMap_tight ho).store mp_law ht (by omega) (mp_key (i := i) (by omega)) (plainElem_string Try.underlying9 hs)
  have hM := ho.isMap
  have hkey : WideAt.IsKeyLit (.int .i64 (i : Int)) := mp_law.key (mp_key (i := i) (by omega))
  refine ⟨w', hrun, ⟨hN, _, _, h1, fun k hk' => ?_, fun j hj => ?_⟩, turned_but h2⟩
  · by_cases e : k = .int .i64 (i : Int)
    · exact ⟨i, hi, e⟩
    · rw [has_put_other e] at hk'; exact hk k hk'
  · by_cases e : j = i
    · subst e
      rw [has_put_same hM hkey]
      exact ⟨by simp [upd], fun z => by rw [atKey_put_same hM hkey]; simp [upd]⟩
    · rw [has_put_other (mp_ne e)]
      exact ⟨by simp [upd, e, (hsa j hj).1], fun z => by rw [atKey_put_other (mp_ne e), (hsa j hj).2]; simp [upd, e]⟩
theorem Mp.drop {b N : Nat} {g : Nat → Option ByteArray} {w : World} (h : Mp b N g w) {t : TypeId} (ht : Try.prog.underlying t = some (.map 3 9)) {i : Nat} (hi : i < N) (ty : TypeId) :
    ∃ w', (Builtin.delete_ #[t, 3] ty #[.map (some b), .int .i64 (i : Int)]).run Try.prog w = .ok (.tuple #[]) w' ∧ Mp b N (upd g i none) w' ∧ But b w w' := by
  obtain ⟨hN, n, D, ho, hk, hsa⟩ := h
  obtain ⟨w', hrun, h1, h2⟩ := ho.drop mp_law ht (mp_key (i := i) (by omega)) ty
  refine ⟨w', hrun, ⟨hN, _, _, h1, fun k hk' => ?_, fun j hj => ?_⟩, turned_but h2⟩
  · by_cases e : k = .int .i64 (i : Int)
    · exact ⟨i, hi, e⟩
    · rw [has_del_other e] at hk'; exact hk k hk'
  · by_cases e : j = i
    · subst e
      rw [has_del_same]
      exact ⟨by simp [upd], fun z => by rw [atKey_del_same]; simp [upd]⟩
    · rw [has_del_other (mp_ne e)]
      exact ⟨by simp [upd, e, (hsa j hj).1], fun z => by rw [atKey_del_other (mp_ne e), (hsa j hj).2]; simp [upd, e]⟩
/-- A copy of the block. -/
theorem Mp.copy {b N : Nat} {g : Nat → Option ByteArray} {w : World} (h : Mp b N g w) {es : Array MapEntry} {clock : Nat} (hb : w.heap[b]? = some (.map es clock)) : Mp w.heap.size N g (w.alloc (.map es clock)) := by
  obtain ⟨hN, n, D, ⟨es', clock', hb', r⟩, hs⟩ := h
  rw [hb] at hb'
  obtain ⟨rfl, rfl⟩ : es = es' ∧ clock = clock' := by simpa using hb'
  exact ⟨hN, n, D, ⟨es, clock, (MapKept.heap_alloc w _).1, r⟩, hs⟩
end Go.Proofs.YtngojgocplmedaaR.Mem

namespace Go.Proofs.YtngojgocplmedaaR.Mem
open Go.RowKit Go.ChangeShapes Go.WideShapes Go.ChangeAt

theorem lt_of_cell {W : World} {a : Addr} {v : Value} (h : W.cell? a = some v) : a.block < W.heap.size ∧ a.spot = none := by
  unfold World.cell? at h
  cases hb : W.heap[a.block]? with
  | none => rw [hb] at h; cases h
  | some o =>
    refine ⟨(Array.getElem?_eq_some_iff.1 hb).1, ?_⟩
    rw [hb] at h
    cases o with
    | cells c t f =>
      cases hs : a.spot with
      | none => rfl
      | some _ => simp [hs] at h
    | _ => simp at h
section
variable {H : Type} {enc : TypeId × Value → H} {P : Program} {w : World} {base : Nat} {spare : Nat → Bool} {held : Bool}
/-- Types and places of a struct's fields. -/
def fieldsOf (P : Program) (t : TypeId) : Option (List (TypeId × Nat)) :=
  (P.underlying t).bind fun d => match d with | .struct fs => some (fs.toList.map fun f => (f.type, f.offset)) | _ => none
theorem trod_fields {t : TypeId} {L : List (TypeId × Nat)} {fuel : Nat} {cs : List Value} {x : DataW H × List MemPlace} (hL : fieldsOf P t = some L) (h : DataW.trod enc P w base spare held fuel t cs = some x) :
    ∃ n, cs.length = P.cellsOf t ∧ ∀ (j : Nat) (q : TypeId × Nat), L[j]? = some q → ∃ y, DataW.trod enc P w base spare held n q.1 ((cs.drop q.2).take (P.cellsOf q.1)) = some y := by
  unfold fieldsOf at hL
  cases hu : P.underlying t with
  | none => rw [hu] at hL; cases hL
  | some d =>
    rw [hu] at hL
    cases d with
    | struct fs =>
      have hL' : L = fs.toList.map fun f => (f.type, f.offset) := by simpa using hL.symm
      obtain ⟨xs, n, _, _, hl, hx, hf⟩ := DataW.trod_struct hu h
      refine ⟨n, hl, fun j q hq => ?_⟩
      rw [hL', List.getElem?_map] at hq
      cases hj : fs.toList[j]? with
      | none => rw [hj] at hq; cases hq
      | some f =>
        rw [hj] at hq
        obtain rfl : (f.type, f.offset) = q := by simpa using hq
        have hj' : fs[j]? = some f := by simpa using hj
        have hlt : j < fs.size := (Array.getElem?_eq_some_iff.1 hj').1
        exact ⟨xs[j]'(by omega), by rw [hf j f hj']; exact List.getElem?_eq_getElem (by omega)⟩
    | _ => simp at hL
end
theorem add_zero (a : Addr) : a.add 0 = a := by unfold Addr.add; simp
end Go.Proofs.YtngojgocplmedaaR.Mem

namespace Go.Proofs.YtngojgocplmedaaR.Mem
set_option maxRecDepth 100000
open Go.RowKit Go.ChangeShapes Go.WideShapes Go.ChangeAt

section
variable {H : Type} {enc : TypeId × Value → H} {W : World} {v : Value} {d : DataW H} {p : List MemPlace} {r : Reach} {b0 : Nat}
theorem open_u8 (hv : Value.okWide Try.prog W r b0 5 v) (h : DataW.Trod enc Try.prog W 0 (fun _ => true) true 5 v d p) : ∃ n : Nat, n ≤ 255 ∧ v = .int .u8 (n : Int) := by
  obtain ⟨n, rfl, _, _, hw⟩ := open_int Try.underlying5 hv h
  have b := bounds_u8 hw
  obtain ⟨m, rfl⟩ := Int.eq_ofNat_of_zero_le b.1
  exact ⟨m, by omega, rfl⟩
theorem open_i64 (hv : Value.okWide Try.prog W r b0 3 v) (h : DataW.Trod enc Try.prog W 0 (fun _ => true) true 3 v d p) : ∃ n : Int, (-9223372036854775808 ≤ n ∧ n ≤ 9223372036854775807) ∧ v = .int .i64 n := by
  obtain ⟨n, rfl, _, _, hw⟩ := open_int Try.underlying3 hv h
  exact ⟨n, bounds_i64 hw, rfl⟩
theorem open_str (hv : Value.okWide Try.prog W r b0 9 v) (h : DataW.Trod enc Try.prog W 0 (fun _ => true) true 9 v d p) : ∃ s : ByteArray, s.size ≤ maxLen ∧ v = .string s := by
  obtain ⟨s, rfl⟩ := okWide_string Try.underlying9 hv
  obtain ⟨fuel, hf⟩ := h
  obtain ⟨s', e, _, hs⟩ := DataW.trod_string Try.underlying9 hf
  obtain rfl : s = s' := by simpa [Value.cells] using e
  exact ⟨s, hs, rfl⟩
theorem open_u32 (hv : Value.okWide Try.prog W r b0 109 v) (h : DataW.Trod enc Try.prog W 0 (fun _ => true) true 109 v d p) : ∃ n : Nat, n ≤ 4294967295 ∧ v = .int .u32 (n : Int) := by
  obtain ⟨n, rfl, _, _, hw⟩ := open_int Try.underlying109 hv h
  have b := bounds_u32 hw
  obtain ⟨m, rfl⟩ := Int.eq_ofNat_of_zero_le b.1
  exact ⟨m, by omega, rfl⟩
theorem open_b (hv : Value.okWide Try.prog W r b0 4 v) (_h : DataW.Trod enc Try.prog W 0 (fun _ => true) true 4 v d p) : ∃ q : Bool, True ∧ v = .bool q := by
  obtain ⟨q, rfl⟩ := okWide_bool Try.underlying4 hv
  exact ⟨q, trivial, rfl⟩
end
end Go.Proofs.YtngojgocplmedaaR.Mem
