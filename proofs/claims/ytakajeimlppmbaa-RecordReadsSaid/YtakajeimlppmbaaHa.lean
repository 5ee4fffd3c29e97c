/-
  An argument that is a slice of sacristan/sacristanlaw06.Put, opened. (Written by gen_open.py.)
-/
import Derived.Test.YtakajeimlppmbaaBa
import Derived.Test.YtakajeimlppmbaaDb
namespace Go.Proofs.Ytakajeimlppmbaa.Rc
set_option maxRecDepth 100000
open Go.RowKit Go.Proofs.Ytakajeimlppmbaa.Mem Go.ChangeShapes Go.WideShapes Go.ChangeAt

structure PutR where
  pos : Nat
  boot : Nat
  lsn : Nat
  kind : Nat
  data : ByteArray
  cut : Nat
deriving Inhabited
structure PutR.ok (x : PutR) : Prop where
  hi_pos : x.pos ≤ 255
  hi_boot : x.boot ≤ 255
  hi_lsn : x.lsn ≤ 255
  hi_kind : x.kind ≤ 255
  hi_data : x.data.size ≤ maxLen
  hi_cut : x.cut ≤ 255
/-- The cells at o of block b hold x. -/
structure PutR.at (x : PutR) (b o : Nat) (W : World) : Prop where
  cpos : W.cell? ⟨b, o, none⟩ = some (.int .u8 x.pos)
  cboot : W.cell? ⟨b, o + 1, none⟩ = some (.int .u8 x.boot)
  clsn : W.cell? ⟨b, o + 2, none⟩ = some (.int .u8 x.lsn)
  ckind : W.cell? ⟨b, o + 3, none⟩ = some (.int .u8 x.kind)
  cdata : W.cell? ⟨b, o + 4, none⟩ = some (.string x.data)
  ccut : W.cell? ⟨b, o + 5, none⟩ = some (.int .u8 x.cut)
theorem PutR.at.kept {x : PutR} {b o : Nat} {W V : World} (h : x.at b o W) (k : Kept W V) (hb : b < W.heap.size) : x.at b o V :=
  ⟨by rw [Kept.cell k hb]; exact h.cpos, by rw [Kept.cell k hb]; exact h.cboot, by rw [Kept.cell k hb]; exact h.clsn, by rw [Kept.cell k hb]; exact h.ckind, by rw [Kept.cell k hb]; exact h.cdata, by rw [Kept.cell k hb]; exact h.ccut⟩
theorem putr_fields : fieldsOf Try.prog 33 = some [(5, 0), (5, 1), (5, 2), (5, 3), (9, 4), (5, 5)] := by kernel_rfl
theorem putr_cells : Try.prog.cellsOf 33 = 6 := by kernel_rfl
theorem putr_cells_string : Try.prog.cellsOf 9 = 1 := by kernel_rfl
theorem putr_cells_u8 : Try.prog.cellsOf 5 = 1 := by kernel_rfl
theorem putr_slice : Try.prog.underlying 31 = some (.slice 33) := by kernel_rfl
/-- A slice of them as the call gets it. -/
structure PutRs (W : World) (v : Value) (ao : Option Addr) (len cap : Nat) (X : Nat → PutR) : Prop where
  eq : v = .slice ao len cap
  cell : 0 < len → ∃ b off, ao = some ⟨b, off, none⟩ ∧ b < W.heap.size ∧ ∀ i, i < len → (X i).at b (off + i * 6) W
  ok : ∀ i, i < len → (X i).ok
  max : len ≤ maxLen
theorem putr_one {H : Type} {enc : TypeId × Value → H} {W : World} {base : Nat} {spare : Nat → Bool} {held : Bool} {n : Nat} {a : Addr} {cs : List Value} {y : DataW H × List MemPlace}
    (hc : W.cells? base a 6 = some cs) (h : DataW.trod enc Try.prog W base spare held n 33 cs = some y) :
    ∃ x : PutR, x.ok ∧ W.cell? (a.add 0) = some (.int .u8 x.pos) ∧ W.cell? (a.add 1) = some (.int .u8 x.boot) ∧ W.cell? (a.add 2) = some (.int .u8 x.lsn) ∧ W.cell? (a.add 3) = some (.int .u8 x.kind) ∧ W.cell? (a.add 4) = some (.string x.data) ∧ W.cell? (a.add 5) = some (.int .u8 x.cut) := by
  obtain ⟨_, hl, hat⟩ := World.cells?_some hc
  obtain ⟨m, _, hq⟩ := trod_fields putr_fields h
  match cs, hl with
  | [c0, c1, c2, c3, c4, c5], _ =>
    obtain ⟨y0, h0⟩ := hq 0 _ rfl
    rw [putr_cells_u8] at h0
    obtain ⟨y1, h1⟩ := hq 1 _ rfl
    rw [putr_cells_u8] at h1
    obtain ⟨y2, h2⟩ := hq 2 _ rfl
    rw [putr_cells_u8] at h2
    obtain ⟨y3, h3⟩ := hq 3 _ rfl
    rw [putr_cells_u8] at h3
    obtain ⟨y4, h4⟩ := hq 4 _ rfl
    rw [putr_cells_string] at h4
    obtain ⟨y5, h5⟩ := hq 5 _ rfl
    rw [putr_cells_u8] at h5
    obtain ⟨v0, e0, _, w0⟩ := DataW.trod_int Try.underlying5 h0
    have b0 := bounds_u8 w0
    obtain ⟨v0, rfl⟩ := Int.eq_ofNat_of_zero_le b0.1
    obtain rfl : c0 = .int .u8 v0 := by simpa using e0
    obtain ⟨v1, e1, _, w1⟩ := DataW.trod_int Try.underlying5 h1
    have b1 := bounds_u8 w1
    obtain ⟨v1, rfl⟩ := Int.eq_ofNat_of_zero_le b1.1
    obtain rfl : c1 = .int .u8 v1 := by simpa using e1
    obtain ⟨v2, e2, _, w2⟩ := DataW.trod_int Try.underlying5 h2
    have b2 := bounds_u8 w2
    obtain ⟨v2, rfl⟩ := Int.eq_ofNat_of_zero_le b2.1
    obtain rfl : c2 = .int .u8 v2 := by simpa using e2
    obtain ⟨v3, e3, _, w3⟩ := DataW.trod_int Try.underlying5 h3
    have b3 := bounds_u8 w3
    obtain ⟨v3, rfl⟩ := Int.eq_ofNat_of_zero_le b3.1
    obtain rfl : c3 = .int .u8 v3 := by simpa using e3
    obtain ⟨v4, e4, _, w4⟩ := DataW.trod_string Try.underlying9 h4
    obtain rfl : c4 = .string v4 := by simpa using e4
    obtain ⟨v5, e5, _, w5⟩ := DataW.trod_int Try.underlying5 h5
    have b5 := bounds_u8 w5
    obtain ⟨v5, rfl⟩ := Int.eq_ofNat_of_zero_le b5.1
    obtain rfl : c5 = .int .u8 v5 := by simpa using e5
    exact ⟨⟨v0, v1, v2, v3, v4, v5⟩, ⟨by show v0 ≤ _; omega, by show v1 ≤ _; omega, by show v2 ≤ _; omega, by show v3 ≤ _; omega, w4, by show v5 ≤ _; omega⟩, hat 0 (by decide), hat 1 (by decide), hat 2 (by decide), hat 3 (by decide), hat 4 (by decide), hat 5 (by decide)⟩
theorem open_putrs {H : Type} {enc : TypeId × Value → H} {W : World} {v : Value} {d : DataW H} {p : List MemPlace} {r : Reach} {b0 : Nat} (hv : Value.okWide Try.prog W r b0 31 v) (h : DataW.Trod enc Try.prog W 0 (fun _ => true) true 31 v d p) :
    ∃ ao len cap X, PutRs W v ao len cap X := by
  obtain ⟨ao, l, c, rfl⟩ := okWide_slice putr_slice hv
  obtain ⟨fuel, hf⟩ := h
  rcases Go.Deep.open_slice putr_slice hf with ⟨hcs, _⟩ | ⟨a, len, cap, m, n, D, Pl, hcs, hb, hl, hm, hmm, hx, hi⟩
  · simp only [Value.cells, List.cons.injEq, Value.slice.injEq, and_true] at hcs
    obtain ⟨rfl, rfl, rfl⟩ := hcs
    exact ⟨none, 0, 0, fun _ => default, rfl, fun h => absurd h (by omega), fun i h => absurd h (by omega), by decide⟩
  · simp only [Value.cells, List.cons.injEq, Value.slice.injEq, and_true] at hcs
    obtain ⟨rfl, rfl, rfl⟩ := hcs
    have hmc : m = c := by simpa using hmm
    have each : ∀ i, i < l → ∃ x : PutR, x.ok ∧ W.cell? ((a.add (i * 6)).add 0) = some (.int .u8 x.pos) ∧ W.cell? ((a.add (i * 6)).add 1) = some (.int .u8 x.boot) ∧ W.cell? ((a.add (i * 6)).add 2) = some (.int .u8 x.lsn) ∧ W.cell? ((a.add (i * 6)).add 3) = some (.int .u8 x.kind) ∧ W.cell? ((a.add (i * 6)).add 4) = some (.string x.data) ∧ W.cell? ((a.add (i * 6)).add 5) = some (.int .u8 x.cut) := by
      intro i hil
      obtain ⟨cs', hc, ht⟩ := hi i (by omega)
      rw [putr_cells] at hc
      exact putr_one hc ht
    obtain ⟨X, hX⟩ := Go.Deep.choose_lt each
    refine ⟨some a, l, c, X, rfl, fun h0 => ?_, fun i h => (hX i h).1, Nat.le_trans hl hm⟩
    have hp := lt_of_cell (hX 0 h0).2.1
    rw [Nat.zero_mul, add_zero, add_zero] at hp
    obtain ⟨b, off, sp⟩ := a
    obtain ⟨hb2, rfl⟩ := hp
    refine ⟨b, off, rfl, hb2, fun i h => ?_⟩
    obtain ⟨_, k0, k1, k2, k3, k4, k5⟩ := hX i h
    simp only [add_plain] at k0 k1 k2 k3 k4 k5
    exact ⟨k0, k1, k2, k3, k4, k5⟩
end Go.Proofs.Ytakajeimlppmbaa.Rc
