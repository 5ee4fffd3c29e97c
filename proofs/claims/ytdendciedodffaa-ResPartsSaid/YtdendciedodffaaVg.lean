/-
  An argument that is a slice of sacristan/api.Res, opened. (Written by gen_open.py.)
-/
import Derived.Test.YtdendciedodffaaBa
import Derived.Test.YtdendciedodffaaVa
namespace Go.Proofs.Ytdendciedodffaa.Re
set_option maxRecDepth 100000
open Go.RowKit Go.Proofs.Ytdendciedodffaa.Mem Go.ChangeShapes Go.WideShapes Go.ChangeAt

structure Rz where
  c : Int
  m : Int
  d : Int
deriving Inhabited
structure Rz.ok (x : Rz) : Prop where
  lo_c : -9223372036854775808 ≤ x.c
  hi_c : x.c ≤ 9223372036854775807
  lo_m : -9223372036854775808 ≤ x.m
  hi_m : x.m ≤ 9223372036854775807
  lo_d : -9223372036854775808 ≤ x.d
  hi_d : x.d ≤ 9223372036854775807
/-- The cells at o of block b hold x. -/
structure Rz.at (x : Rz) (b o : Nat) (W : World) : Prop where
  cc : W.cell? ⟨b, o, none⟩ = some (.int .i64 x.c)
  cm : W.cell? ⟨b, o + 1, none⟩ = some (.int .i64 x.m)
  cd : W.cell? ⟨b, o + 2, none⟩ = some (.int .i64 x.d)
theorem Rz.at.kept {x : Rz} {b o : Nat} {W V : World} (h : x.at b o W) (k : Kept W V) (hb : b < W.heap.size) : x.at b o V :=
  ⟨by rw [Kept.cell k hb]; exact h.cc, by rw [Kept.cell k hb]; exact h.cm, by rw [Kept.cell k hb]; exact h.cd⟩
theorem rz_fields : fieldsOf Try.prog 23 = some [(3, 0), (3, 1), (3, 2)] := by kernel_rfl
theorem rz_cells : Try.prog.cellsOf 23 = 3 := by kernel_rfl
theorem rz_cells_i64 : Try.prog.cellsOf 3 = 1 := by kernel_rfl
theorem rz_slice : Try.prog.underlying 30 = some (.slice 23) := by kernel_rfl
/-- A slice of them as the call gets it. -/
structure Rzs (W : World) (v : Value) (ao : Option Addr) (len cap : Nat) (X : Nat → Rz) : Prop where
  eq : v = .slice ao len cap
  cell : 0 < len → ∃ b off, ao = some ⟨b, off, none⟩ ∧ b < W.heap.size ∧ ∀ i, i < len → (X i).at b (off + i * 3) W
  ok : ∀ i, i < len → (X i).ok
  max : len ≤ maxLen
  le : len ≤ cap
  cmax : cap ≤ maxLen
  nil : ao = none → cap = 0
theorem rz_one {H : Type} {enc : TypeId × Value → H} {W : World} {base : Nat} {spare : Nat → Bool} {held : Bool} {n : Nat} {a : Addr} {cs : List Value} {y : DataW H × List MemPlace}
    (hc : W.cells? base a 3 = some cs) (h : DataW.trod enc Try.prog W base spare held n 23 cs = some y) :
    ∃ x : Rz, x.ok ∧ W.cell? (a.add 0) = some (.int .i64 x.c) ∧ W.cell? (a.add 1) = some (.int .i64 x.m) ∧ W.cell? (a.add 2) = some (.int .i64 x.d) := by
  obtain ⟨_, hl, hat⟩ := World.cells?_some hc
  obtain ⟨m, _, hq⟩ := trod_fields rz_fields h
  match cs, hl with
  | [c0, c1, c2], _ =>
    obtain ⟨y0, h0⟩ := hq 0 _ rfl
    rw [rz_cells_i64] at h0
    obtain ⟨y1, h1⟩ := hq 1 _ rfl
    rw [rz_cells_i64] at h1
    obtain ⟨y2, h2⟩ := hq 2 _ rfl
    rw [rz_cells_i64] at h2
    obtain ⟨v0, e0, _, w0⟩ := DataW.trod_int Try.underlying3 h0
    have b0 := bounds_i64 w0
    obtain rfl : c0 = .int .i64 v0 := by simpa using e0
    obtain ⟨v1, e1, _, w1⟩ := DataW.trod_int Try.underlying3 h1
    have b1 := bounds_i64 w1
    obtain rfl : c1 = .int .i64 v1 := by simpa using e1
    obtain ⟨v2, e2, _, w2⟩ := DataW.trod_int Try.underlying3 h2
    have b2 := bounds_i64 w2
    obtain rfl : c2 = .int .i64 v2 := by simpa using e2
    exact ⟨⟨v0, v1, v2⟩, ⟨b0.1, b0.2, b1.1, b1.2, b2.1, b2.2⟩, hat 0 (by decide), hat 1 (by decide), hat 2 (by decide)⟩
theorem open_rzs {H : Type} {enc : TypeId × Value → H} {W : World} {v : Value} {d : DataW H} {p : List MemPlace} {r : Reach} {b0 : Nat} (hv : Value.okWide Try.prog W r b0 30 v) (h : DataW.Trod enc Try.prog W 0 (fun _ => true) true 30 v d p) :
    ∃ ao len cap X, Rzs W v ao len cap X := by
  obtain ⟨ao, l, c, rfl⟩ := okWide_slice rz_slice hv
  obtain ⟨fuel, hf⟩ := h
  rcases Go.Deep.open_slice rz_slice hf with ⟨hcs, _⟩ | ⟨a, len, cap, m, n, D, Pl, hcs, hb, hl, hm, hmm, hx, hi⟩
  · simp only [Value.cells, List.cons.injEq, Value.slice.injEq, and_true] at hcs
    obtain ⟨rfl, rfl, rfl⟩ := hcs
    exact ⟨none, 0, 0, fun _ => default, rfl, fun h => absurd h (by omega), fun i h => absurd h (by omega), by decide, by decide, by decide, fun _ => rfl⟩
  · simp only [Value.cells, List.cons.injEq, Value.slice.injEq, and_true] at hcs
    obtain ⟨rfl, rfl, rfl⟩ := hcs
    have hmc : m = c := by simpa using hmm
    have each : ∀ i, i < l → ∃ x : Rz, x.ok ∧ W.cell? ((a.add (i * 3)).add 0) = some (.int .i64 x.c) ∧ W.cell? ((a.add (i * 3)).add 1) = some (.int .i64 x.m) ∧ W.cell? ((a.add (i * 3)).add 2) = some (.int .i64 x.d) := by
      intro i hil
      obtain ⟨cs', hc, ht⟩ := hi i (by omega)
      rw [rz_cells] at hc
      exact rz_one hc ht
    obtain ⟨X, hX⟩ := Go.Deep.choose_lt each
    refine ⟨some a, l, c, X, rfl, fun h0 => ?_, fun i h => (hX i h).1, Nat.le_trans hl hm, hl, hm, fun h => by cases h⟩
    have hp := lt_of_cell (hX 0 h0).2.1
    rw [Nat.zero_mul, add_zero, add_zero] at hp
    obtain ⟨b, off, sp⟩ := a
    obtain ⟨hb2, rfl⟩ := hp
    refine ⟨b, off, rfl, hb2, fun i h => ?_⟩
    obtain ⟨_, k0, k1, k2⟩ := hX i h
    simp only [add_plain] at k0 k1 k2
    exact ⟨k0, k1, k2⟩
end Go.Proofs.Ytdendciedodffaa.Re
