/-
  An argument that is a slice of sacristan/sacristanlaw04.Put, opened. (Written by gen_open.py.)
-/
import Derived.Test.YtoclgneokfbobaaOpen
import Derived.Test.YtoclgneokfbobaaDo
namespace Go.Proofs.Ytoclgneokfbobaa.Dz
open Go.RowKit Go.Proofs.Ytoclgneokfbobaa.Mem Go.ChangeShapes Go.WideShapes Go.ChangeAt

structure Put where
  i : Nat
  b : Nat
deriving Inhabited
structure Put.ok (x : Put) : Prop where
  hi_i : x.i ≤ 255
  hi_b : x.b ≤ 255
/-- The cells at o of block b hold x. -/
structure Put.at (x : Put) (b o : Nat) (W : World) : Prop where
  ci : W.cell? ⟨b, o, none⟩ = some (.int .u8 x.i)
  cb : W.cell? ⟨b, o + 1, none⟩ = some (.int .u8 x.b)
theorem Put.at.kept {x : Put} {b o : Nat} {W V : World} (h : x.at b o W) (k : Kept W V) (hb : b < W.heap.size) : x.at b o V :=
  ⟨by rw [Kept.cell k hb]; exact h.ci, by rw [Kept.cell k hb]; exact h.cb⟩
theorem put_fields : fieldsOf Try.prog 64 = some [(5, 0), (5, 1)] := by kernel_rfl
theorem put_cells : Try.prog.cellsOf 64 = 2 := by kernel_rfl
theorem put_cells_u8 : Try.prog.cellsOf 5 = 1 := by kernel_rfl
theorem put_slice : Try.prog.underlying 58 = some (.slice 64) := by kernel_rfl
/-- A slice of them as the call gets it. -/
structure Puts (W : World) (v : Value) (ao : Option Addr) (len cap : Nat) (X : Nat → Put) : Prop where
  eq : v = .slice ao len cap
  cell : 0 < len → ∃ b off, ao = some ⟨b, off, none⟩ ∧ b < W.heap.size ∧ ∀ i, i < len → (X i).at b (off + i * 2) W
  ok : ∀ i, i < len → (X i).ok
  max : len ≤ maxLen
theorem put_one {H : Type} {enc : TypeId × Value → H} {W : World} {base : Nat} {spare : Nat → Bool} {held : Bool} {n : Nat} {a : Addr} {cs : List Value} {y : DataW H × List MemPlace}
    (hc : W.cells? base a 2 = some cs) (h : DataW.trod enc Try.prog W base spare held n 64 cs = some y) :
    ∃ x : Put, x.ok ∧ W.cell? (a.add 0) = some (.int .u8 x.i) ∧ W.cell? (a.add 1) = some (.int .u8 x.b) := by
  obtain ⟨_, hl, hat⟩ := World.cells?_some hc
  obtain ⟨m, _, hq⟩ := trod_fields put_fields h
  match cs, hl with
  | [c0, c1], _ =>
    obtain ⟨y0, h0⟩ := hq 0 _ rfl
    rw [put_cells_u8] at h0
    obtain ⟨y1, h1⟩ := hq 1 _ rfl
    rw [put_cells_u8] at h1
    obtain ⟨v0, e0, _, w0⟩ := DataW.trod_int Try.underlying5 h0
    have b0 := bounds_u8 w0
    obtain ⟨v0, rfl⟩ := Int.eq_ofNat_of_zero_le b0.1
    obtain rfl : c0 = .int .u8 v0 := by simpa using e0
    obtain ⟨v1, e1, _, w1⟩ := DataW.trod_int Try.underlying5 h1
    have b1 := bounds_u8 w1
    obtain ⟨v1, rfl⟩ := Int.eq_ofNat_of_zero_le b1.1
    obtain rfl : c1 = .int .u8 v1 := by simpa using e1
    exact ⟨⟨v0, v1⟩, ⟨by show v0 ≤ _; omega, by show v1 ≤ _; omega⟩, hat 0 (by decide), hat 1 (by decide)⟩
theorem open_puts {H : Type} {enc : TypeId × Value → H} {W : World} {v : Value} {d : DataW H} {p : List MemPlace} {r : Reach} {b0 : Nat} (hv : Value.okWide Try.prog W r b0 58 v) (h : DataW.Trod enc Try.prog W 0 (fun _ => true) true 58 v d p) :
    ∃ ao len cap X, Puts W v ao len cap X := by
  obtain ⟨ao, l, c, rfl⟩ := okWide_slice put_slice hv
  obtain ⟨fuel, hf⟩ := h
  rcases Go.Deep.open_slice put_slice hf with ⟨hcs, _⟩ | ⟨a, len, cap, m, n, D, Pl, hcs, hb, hl, hm, hmm, hx, hi⟩
  · simp only [Value.cells, List.cons.injEq, Value.slice.injEq, and_true] at hcs
    obtain ⟨rfl, rfl, rfl⟩ := hcs
    exact ⟨none, 0, 0, fun _ => default, rfl, fun h => absurd h (by omega), fun i h => absurd h (by omega), by decide⟩
  · simp only [Value.cells, List.cons.injEq, Value.slice.injEq, and_true] at hcs
    obtain ⟨rfl, rfl, rfl⟩ := hcs
    have hmc : m = c := by simpa using hmm
    have each : ∀ i, i < l → ∃ x : Put, x.ok ∧ W.cell? ((a.add (i * 2)).add 0) = some (.int .u8 x.i) ∧ W.cell? ((a.add (i * 2)).add 1) = some (.int .u8 x.b) := by
      intro i hil
      obtain ⟨cs', hc, ht⟩ := hi i (by omega)
      rw [put_cells] at hc
      exact put_one hc ht
    obtain ⟨X, hX⟩ := Go.Deep.choose_lt each
    refine ⟨some a, l, c, X, rfl, fun h0 => ?_, fun i h => (hX i h).1, Nat.le_trans hl hm⟩
    have hp := lt_of_cell (hX 0 h0).2.1
    rw [Nat.zero_mul, add_zero, add_zero] at hp
    obtain ⟨b, off, sp⟩ := a
    obtain ⟨hb2, rfl⟩ := hp
    refine ⟨b, off, rfl, hb2, fun i h => ?_⟩
    obtain ⟨_, k0, k1⟩ := hX i h
    simp only [add_plain] at k0 k1
    exact ⟨k0, k1⟩
end Go.Proofs.Ytoclgneokfbobaa.Dz
