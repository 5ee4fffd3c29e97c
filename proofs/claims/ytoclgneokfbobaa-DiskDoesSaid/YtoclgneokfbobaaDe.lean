/-
  An argument that is a slice of acts, opened.
-/
import Derived.Test.YtoclgneokfbobaaDh
namespace Go.Proofs.Ytoclgneokfbobaa.Dz
open Go.RowKit Go.Proofs.Ytoclgneokfbobaa.Mem Go.ChangeShapes Go.WideShapes Go.ChangeAt

structure Deed where
  d : Nat
  i : Int
  b : Nat
  c : Ch
structure Deed.ok (x : Deed) : Prop where
  hd : x.d ≤ 255
  hi : x.i ≤ 9223372036854775807
  hb : x.b ≤ 255
  hc : x.c.ok
structure Deed.at (x : Deed) (b o : Nat) (W : World) : Prop where
  c0 : W.cell? ⟨b, o, none⟩ = some (.int .u8 x.d)
  c1 : W.cell? ⟨b, o + 1, none⟩ = some (.int .i64 x.i)
  c2 : W.cell? ⟨b, o + 2, none⟩ = some (.int .u8 x.b)
  c3 : W.cell? ⟨b, o + 3, none⟩ = some (.int .u64 x.c.keep)
  c4 : W.cell? ⟨b, o + 4, none⟩ = some (.int .i64 x.c.torn)
  c5 : W.cell? ⟨b, o + 5, none⟩ = some (.int .i64 x.c.bytes)
theorem Deed.at.kept {x : Deed} {b o : Nat} {W V : World} (h : x.at b o W) (k : Kept W V) (hb : b < W.heap.size) : x.at b o V :=
  ⟨by rw [Kept.cell k hb]; exact h.c0, by rw [Kept.cell k hb]; exact h.c1, by rw [Kept.cell k hb]; exact h.c2, by rw [Kept.cell k hb]; exact h.c3, by rw [Kept.cell k hb]; exact h.c4, by rw [Kept.cell k hb]; exact h.c5⟩
theorem deed_fields : fieldsOf Try.prog 31 = some [(5, 0), (3, 1), (5, 2), (29, 3)] := by kernel_rfl
theorem deed_cells : Try.prog.cellsOf 31 = 6 := by kernel_rfl
theorem deed_u8 : Try.prog.cellsOf 5 = 1 := by kernel_rfl
theorem deed_slice : Try.prog.underlying 22 = some (.slice 31) := by kernel_rfl
structure Deeds (W : World) (v : Value) (ao : Option Addr) (len cap : Nat) (X : Nat → Deed) : Prop where
  eq : v = .slice ao len cap
  cell : 0 < len → ∃ b off, ao = some ⟨b, off, none⟩ ∧ b < W.heap.size ∧ ∀ i, i < len → (X i).at b (off + i * 6) W
  ok : ∀ i, i < len → (X i).ok
  max : len ≤ maxLen
theorem deed_one {H : Type} {enc : TypeId × Value → H} {W : World} {base : Nat} {spare : Nat → Bool} {held : Bool} {n : Nat} {a : Addr} {cs : List Value} {y : DataW H × List MemPlace}
    (hc : W.cells? base a 6 = some cs) (h : DataW.trod enc Try.prog W base spare held n 31 cs = some y) :
    ∃ x : Deed, x.ok ∧ W.cell? (a.add 0) = some (.int .u8 x.d) ∧ W.cell? (a.add 1) = some (.int .i64 x.i) ∧ W.cell? (a.add 2) = some (.int .u8 x.b) ∧ W.cell? (a.add 3) = some (.int .u64 x.c.keep) ∧ W.cell? (a.add 4) = some (.int .i64 x.c.torn) ∧ W.cell? (a.add 5) = some (.int .i64 x.c.bytes) := by
  obtain ⟨_, hl, hat⟩ := World.cells?_some hc
  obtain ⟨m, _, hq⟩ := trod_fields deed_fields h
  match cs, hl with
  | [c0, c1, c2, c3, c4, c5], _ =>
    obtain ⟨y0, h0⟩ := hq 0 _ rfl
    rw [deed_u8] at h0
    obtain ⟨y1, h1⟩ := hq 1 _ rfl
    rw [choice_i64] at h1
    obtain ⟨y2, h2⟩ := hq 2 _ rfl
    rw [deed_u8] at h2
    obtain ⟨y3, h3⟩ := hq 3 _ rfl
    rw [choice_cells] at h3
    obtain ⟨v0, e0, _, w0⟩ := DataW.trod_int Try.underlying5 h0
    have b0 := bounds_u8 w0
    obtain ⟨v0, rfl⟩ := Int.eq_ofNat_of_zero_le b0.1
    obtain rfl : c0 = .int .u8 v0 := by simpa using e0
    obtain ⟨v1, e1, _, w1⟩ := DataW.trod_int Try.underlying3 h1
    have b1 := bounds_i64 w1
    obtain rfl : c1 = .int .i64 v1 := by simpa using e1
    obtain ⟨v2, e2, _, w2⟩ := DataW.trod_int Try.underlying5 h2
    have b2 := bounds_u8 w2
    obtain ⟨v2, rfl⟩ := Int.eq_ofNat_of_zero_le b2.1
    obtain rfl : c2 = .int .u8 v2 := by simpa using e2
    obtain ⟨c, hcok, e3⟩ := choice_of h3
    have e3' : c3 = .int .u64 (c.keep : Int) ∧ c4 = .int .i64 c.torn ∧ c5 = .int .i64 c.bytes := by simpa [Ch.cells] using e3
    obtain ⟨rfl, rfl, rfl⟩ := e3'
    exact ⟨⟨v0, v1, v2, c⟩, ⟨by show v0 ≤ _; omega, by have := b1.2; show v1 ≤ _; omega, by show v2 ≤ _; omega, hcok⟩, hat 0 (by decide), hat 1 (by decide), hat 2 (by decide), hat 3 (by decide), hat 4 (by decide), hat 5 (by decide)⟩
theorem open_deeds {H : Type} {enc : TypeId × Value → H} {W : World} {v : Value} {d : DataW H} {p : List MemPlace} {r : Reach} {b0 : Nat} (hv : Value.okWide Try.prog W r b0 22 v) (h : DataW.Trod enc Try.prog W 0 (fun _ => true) true 22 v d p) :
    ∃ ao len cap X, Deeds W v ao len cap X := by
  obtain ⟨ao, l, c, rfl⟩ := okWide_slice deed_slice hv
  obtain ⟨fuel, hf⟩ := h
  rcases Go.Deep.open_slice deed_slice hf with ⟨hcs, _⟩ | ⟨a, len, cap, m, n, D, Pl, hcs, hb, hl, hm, hmm, hx, hi⟩
  · simp only [Value.cells, List.cons.injEq, Value.slice.injEq, and_true] at hcs
    obtain ⟨rfl, rfl, rfl⟩ := hcs
    exact ⟨none, 0, 0, fun _ => ⟨0, 0, 0, ⟨0, 0, 0⟩⟩, rfl, fun h => absurd h (by omega), fun i h => absurd h (by omega), by decide⟩
  · simp only [Value.cells, List.cons.injEq, Value.slice.injEq, and_true] at hcs
    obtain ⟨rfl, rfl, rfl⟩ := hcs
    have hmc : m = c := by simpa using hmm
    have each : ∀ i, i < l → ∃ x : Deed, x.ok ∧ W.cell? ((a.add (i * 6)).add 0) = some (.int .u8 x.d) ∧ W.cell? ((a.add (i * 6)).add 1) = some (.int .i64 x.i) ∧ W.cell? ((a.add (i * 6)).add 2) = some (.int .u8 x.b) ∧ W.cell? ((a.add (i * 6)).add 3) = some (.int .u64 x.c.keep) ∧ W.cell? ((a.add (i * 6)).add 4) = some (.int .i64 x.c.torn) ∧ W.cell? ((a.add (i * 6)).add 5) = some (.int .i64 x.c.bytes) := by
      intro i hil
      obtain ⟨cs', hc, ht⟩ := hi i (by omega)
      rw [deed_cells] at hc
      exact deed_one hc ht
    have : Nonempty Deed := ⟨⟨0, 0, 0, ⟨0, 0, 0⟩⟩⟩
    have inst : Inhabited Deed := ⟨⟨0, 0, 0, ⟨0, 0, 0⟩⟩⟩
    obtain ⟨X, hX⟩ := Go.Deep.choose_lt each
    refine ⟨some a, l, c, X, rfl, fun h0 => ?_, fun i h => (hX i h).1, Nat.le_trans hl hm⟩
    have hp := lt_of_cell (hX 0 h0).2.1
    rw [Nat.zero_mul, add_zero, add_zero] at hp
    obtain ⟨b, off, sp⟩ := a
    obtain ⟨hb2, rfl⟩ := hp
    refine ⟨b, off, rfl, hb2, fun i h => ?_⟩
    obtain ⟨_, k0, k1, k2, k3, k4, k5⟩ := hX i h
    simp only [add_plain] at k0 k1 k2 k3 k4 k5
    exact ⟨k0, k1, k2, k3, k4, k5⟩
end Go.Proofs.Ytoclgneokfbobaa.Dz
