/-
  An argument that is a slice of sacristan/sacristanlaw03.Act, opened. (Written by gen_open.py.)
-/
import Derived.Test.YtbjheldocmgnkaaOpen
import Derived.Test.YtbjheldocmgnkaaFo
namespace Go.Proofs.Ytbjheldocmgnkaa.Fz
open Go.RowKit Go.Proofs.Ytbjheldocmgnkaa.Mem Go.ChangeShapes Go.WideShapes Go.ChangeAt

structure Deed where
  a : Nat
  k : Int
deriving Inhabited
structure Deed.ok (x : Deed) : Prop where
  hi_a : x.a ≤ 255
  lo_k : -9223372036854775808 ≤ x.k
  hi_k : x.k ≤ 9223372036854775807
/-- The cells at o of block b hold x. -/
structure Deed.at (x : Deed) (b o : Nat) (W : World) : Prop where
  ca : W.cell? ⟨b, o, none⟩ = some (.int .u8 x.a)
  ck : W.cell? ⟨b, o + 1, none⟩ = some (.int .i64 x.k)
theorem Deed.at.kept {x : Deed} {b o : Nat} {W V : World} (h : x.at b o W) (k : Kept W V) (hb : b < W.heap.size) : x.at b o V :=
  ⟨by rw [Kept.cell k hb]; exact h.ca, by rw [Kept.cell k hb]; exact h.ck⟩
theorem deed_fields : fieldsOf Try.prog 30 = some [(5, 0), (3, 1)] := by kernel_rfl
theorem deed_cells : Try.prog.cellsOf 30 = 2 := by kernel_rfl
theorem deed_cells_i64 : Try.prog.cellsOf 3 = 1 := by kernel_rfl
theorem deed_cells_u8 : Try.prog.cellsOf 5 = 1 := by kernel_rfl
theorem deed_slice : Try.prog.underlying 22 = some (.slice 30) := by kernel_rfl
/-- A slice of them as the call gets it. -/
structure Deeds (W : World) (v : Value) (ao : Option Addr) (len cap : Nat) (X : Nat → Deed) : Prop where
  eq : v = .slice ao len cap
  cell : 0 < len → ∃ b off, ao = some ⟨b, off, none⟩ ∧ b < W.heap.size ∧ ∀ i, i < len → (X i).at b (off + i * 2) W
  ok : ∀ i, i < len → (X i).ok
  max : len ≤ maxLen
theorem deed_one {H : Type} {enc : TypeId × Value → H} {W : World} {base : Nat} {spare : Nat → Bool} {held : Bool} {n : Nat} {a : Addr} {cs : List Value} {y : DataW H × List MemPlace}
    (hc : W.cells? base a 2 = some cs) (h : DataW.trod enc Try.prog W base spare held n 30 cs = some y) :
    ∃ x : Deed, x.ok ∧ W.cell? (a.add 0) = some (.int .u8 x.a) ∧ W.cell? (a.add 1) = some (.int .i64 x.k) := by
  obtain ⟨_, hl, hat⟩ := World.cells?_some hc
  obtain ⟨m, _, hq⟩ := trod_fields deed_fields h
  match cs, hl with
  | [c0, c1], _ =>
    obtain ⟨y0, h0⟩ := hq 0 _ rfl
    rw [deed_cells_u8] at h0
    obtain ⟨y1, h1⟩ := hq 1 _ rfl
    rw [deed_cells_i64] at h1
    obtain ⟨v0, e0, _, w0⟩ := DataW.trod_int Try.underlying5 h0
    have b0 := bounds_u8 w0
    obtain ⟨v0, rfl⟩ := Int.eq_ofNat_of_zero_le b0.1
    obtain rfl : c0 = .int .u8 v0 := by simpa using e0
    obtain ⟨v1, e1, _, w1⟩ := DataW.trod_int Try.underlying3 h1
    have b1 := bounds_i64 w1
    obtain rfl : c1 = .int .i64 v1 := by simpa using e1
    exact ⟨⟨v0, v1⟩, ⟨by show v0 ≤ _; omega, b1.1, b1.2⟩, hat 0 (by decide), hat 1 (by decide)⟩
theorem open_deeds {H : Type} {enc : TypeId × Value → H} {W : World} {v : Value} {d : DataW H} {p : List MemPlace} {r : Reach} {b0 : Nat} (hv : Value.okWide Try.prog W r b0 22 v) (h : DataW.Trod enc Try.prog W 0 (fun _ => true) true 22 v d p) :
    ∃ ao len cap X, Deeds W v ao len cap X := by
  obtain ⟨ao, l, c, rfl⟩ := okWide_slice deed_slice hv
  obtain ⟨fuel, hf⟩ := h
  rcases Go.Deep.open_slice deed_slice hf with ⟨hcs, _⟩ | ⟨a, len, cap, m, n, D, Pl, hcs, hb, hl, hm, hmm, hx, hi⟩
  · simp only [Value.cells, List.cons.injEq, Value.slice.injEq, and_true] at hcs
    obtain ⟨rfl, rfl, rfl⟩ := hcs
    exact ⟨none, 0, 0, fun _ => default, rfl, fun h => absurd h (by omega), fun i h => absurd h (by omega), by decide⟩
  · simp only [Value.cells, List.cons.injEq, Value.slice.injEq, and_true] at hcs
    obtain ⟨rfl, rfl, rfl⟩ := hcs
    have hmc : m = c := by simpa using hmm
    have each : ∀ i, i < l → ∃ x : Deed, x.ok ∧ W.cell? ((a.add (i * 2)).add 0) = some (.int .u8 x.a) ∧ W.cell? ((a.add (i * 2)).add 1) = some (.int .i64 x.k) := by
      intro i hil
      obtain ⟨cs', hc, ht⟩ := hi i (by omega)
      rw [deed_cells] at hc
      exact deed_one hc ht
    obtain ⟨X, hX⟩ := Go.Deep.choose_lt each
    refine ⟨some a, l, c, X, rfl, fun h0 => ?_, fun i h => (hX i h).1, Nat.le_trans hl hm⟩
    have hp := lt_of_cell (hX 0 h0).2.1
    rw [Nat.zero_mul, add_zero, add_zero] at hp
    obtain ⟨b, off, sp⟩ := a
    obtain ⟨hb2, rfl⟩ := hp
    refine ⟨b, off, rfl, hb2, fun i h => ?_⟩
    obtain ⟨_, k0, k1⟩ := hX i h
    simp only [add_plain] at k0 k1
    exact ⟨k0, k1⟩
end Go.Proofs.Ytbjheldocmgnkaa.Fz
