/-
  The fixed record of layer 6's statements.
  RecordExamples: what its calls return (closed).
  Arguments opened: slices of strings.
-/
import Derived.Test.YtckbhjjflpobbaaGreatGq
import Derived.Test.YtckbhjjflpobbaaGreatRb
import Derived.Deep.Slices
namespace Go.Proofs.YtckbhjjflpobbaaGreat.Rc
open Go Go.RowKit Go.ChangeShapes Go.WideShapes Go.ChangeAt Go.Proofs.YtckbhjjflpobbaaGreat.Mem Go.Proofs.YtckbhjjflpobbaaGreat.Pk Go.Proofs.YtckbhjjflpobbaaGreat.Fk Go.Proofs.YtckbhjjflpobbaaGreat.Dz Go.Proofs.YtckbhjjflpobbaaGreat.Fz

def hello : ByteArray := ⟨#[104, 101, 108, 108, 111]⟩
theorem hello_num : num 3 4 := ⟨by decide, by decide, by decide, by decide⟩
theorem hello_parts : parts hello.size = 1 := by decide
theorem hello_secs : secE 3 4 hello = 0 ∧ nS 3 4 hello = 1 := by
  obtain ⟨e1, e2⟩ := secE_ok (d := hello) (by decide) hello_num
  exact ⟨e1, e2.trans hello_parts⟩
end Go.Proofs.YtckbhjjflpobbaaGreat.Rc

namespace Go.Proofs.YtckbhjjflpobbaaGreat.Rc
open Go Go.RowKit Go.ChangeShapes Go.WideShapes Go.ChangeAt Go.Proofs.YtckbhjjflpobbaaGreat.Mem Go.Proofs.YtckbhjjflpobbaaGreat.Pk Go.Proofs.YtckbhjjflpobbaaGreat.Fk Go.Proofs.YtckbhjjflpobbaaGreat.Dz Go.Proofs.YtckbhjjflpobbaaGreat.Fz
set_option linter.unusedVariables false

def repB (b n : Nat) : ByteArray := ⟨(List.replicate n (UInt8.ofNat b)).toArray⟩
theorem repB_size (b n : Nat) : (repB b n).size = n := by simp [repB, ByteArray.size]
def repTo (b n k : Nat) : List UInt8 := (List.range n).map fun i => if i < k then UInt8.ofNat b else 0
theorem repTo_len (b n k : Nat) : (repTo b n k).length = n := by simp [repTo]
theorem repTo_zero (b n : Nat) : repTo b n 0 = List.replicate n 0 := by
  apply List.ext_getElem
  · simp [repTo]
  · intro i h1 h2; rw [List.getElem_replicate]; simp [repTo]
theorem repTo_all (b n : Nat) : repTo b n n = List.replicate n (UInt8.ofNat b) := by
  apply List.ext_getElem
  · simp [repTo]
  · intro i h1 h2
    have : i < n := by simpa [repTo] using h1
    rw [List.getElem_replicate]; simp [repTo, this]
theorem repTo_succ (b n k : Nat) : (repTo b n k).set k (UInt8.ofNat b) = repTo b n (k + 1) := by
  apply List.ext_getElem
  · simp [repTo]
  · intro i h1 h2
    rw [List.getElem_set]
    by_cases e : k = i
    · subst e; simp [repTo]
    · have : i < k + 1 ↔ i < k := by omega
      simp [repTo, e, this]
end Go.Proofs.YtckbhjjflpobbaaGreat.Rc

namespace Go.Proofs.YtckbhjjflpobbaaGreat.Rc
set_option maxRecDepth 100000
open Go Go.RowKit Go.ChangeShapes Go.WideShapes Go.ChangeAt Go.Proofs.YtckbhjjflpobbaaGreat.Mem Go.Proofs.YtckbhjjflpobbaaGreat.Dz

/-- A slice of strings as the call gets it. -/
structure Strs (W : World) (v : Value) (ao : Option Addr) (len cap : Nat) (X : Nat → ByteArray) : Prop where
  eq : v = .slice ao len cap
  cell : 0 < len → ∃ b off, ao = some ⟨b, off, none⟩ ∧ b < W.heap.size ∧ ∀ i, i < len → W.cell? ⟨b, off + i, none⟩ = some (.string (X i))
  ok : ∀ i, i < len → (X i).size ≤ maxLen
  max : len ≤ maxLen
theorem str_slice : Tryz.prog.underlying 33 = some (.slice 9) := by kernel_rfl
theorem str_cells : Tryz.prog.cellsOf 9 = 1 := by kernel_rfl
theorem str_one {H : Type} {enc : TypeId × Value → H} {W : World} {base : Nat} {spare : Nat → Bool} {held : Bool} {n : Nat} {a : Addr} {cs : List Value} {y : DataW H × List MemPlace}
    (hc : W.cells? base a 1 = some cs) (h : DataW.trod enc Tryz.prog W base spare held n 9 cs = some y) :
    ∃ x : ByteArray, x.size ≤ maxLen ∧ W.cell? (a.add 0) = some (.string x) := by
  obtain ⟨_, hl, hat⟩ := World.cells?_some hc
  match cs, hl with
  | [c0], _ =>
    obtain ⟨v0, e0, _, w0⟩ := DataW.trod_string Tryz.underlying9 h
    obtain rfl : c0 = .string v0 := by simpa using e0
    exact ⟨v0, w0, hat 0 (by decide)⟩
theorem open_strs {H : Type} {enc : TypeId × Value → H} {W : World} {v : Value} {d : DataW H} {p : List MemPlace} {r : Reach} {b0 : Nat} (hv : Value.okWide Tryz.prog W r b0 33 v) (h : DataW.Trod enc Tryz.prog W 0 (fun _ => true) true 33 v d p) :
    ∃ ao len cap X, Strs W v ao len cap X := by
  obtain ⟨ao, l, c, rfl⟩ := okWide_slice str_slice hv
  obtain ⟨fuel, hf⟩ := h
  rcases Go.Deep.open_slice str_slice hf with ⟨hcs, _⟩ | ⟨a, len, cap, m, n, D, Pl, hcs, hb, hl, hm, hmm, hx, hi⟩
  · simp only [Value.cells, List.cons.injEq, Value.slice.injEq, and_true] at hcs
    obtain ⟨rfl, rfl, rfl⟩ := hcs
    exact ⟨none, 0, 0, fun _ => default, rfl, fun h => absurd h (by omega), fun i h => absurd h (by omega), by decide⟩
  · simp only [Value.cells, List.cons.injEq, Value.slice.injEq, and_true] at hcs
    obtain ⟨rfl, rfl, rfl⟩ := hcs
    have hmc : m = c := by simpa using hmm
    have each : ∀ i, i < l → ∃ x : ByteArray, x.size ≤ maxLen ∧ W.cell? ((a.add (i * 1)).add 0) = some (.string x) := by
      intro i hil
      obtain ⟨cs', hc, ht⟩ := hi i (by omega)
      rw [str_cells] at hc
      exact str_one hc ht
    obtain ⟨X, hX⟩ := Go.Deep.choose_lt each
    refine ⟨some a, l, c, X, rfl, fun h0 => ?_, fun i h => (hX i h).1, Nat.le_trans hl hm⟩
    have hp := lt_of_cell (hX 0 h0).2
    rw [Nat.zero_mul, add_zero, add_zero] at hp
    obtain ⟨b, off, sp⟩ := a
    obtain ⟨hb2, rfl⟩ := hp
    refine ⟨b, off, rfl, hb2, fun i h => ?_⟩
    have k0 := (hX i h).2
    simp only [add_plain, Nat.mul_one, Nat.add_zero] at k0
    exact k0
end Go.Proofs.YtckbhjjflpobbaaGreat.Rc
