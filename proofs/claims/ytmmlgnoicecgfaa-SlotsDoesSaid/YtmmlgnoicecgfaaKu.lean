/-
  An argument that is a slice of sacristan/sacristanlaw07.Act, opened. (Written by gen_open.py.)
-/
import Derived.Test.YtmmlgnoicecgfaaBa
import Derived.Test.YtmmlgnoicecgfaaKi
import Derived.Test.YtmmlgnoicecgfaaDh
namespace Go.Proofs.Ytmmlgnoicecgfaa.Hk
set_option maxRecDepth 100000
open Go.RowKit Go.Proofs.Ytmmlgnoicecgfaa.Mem Go.ChangeShapes Go.WideShapes Go.ChangeAt Go.Proofs.Ytmmlgnoicecgfaa.Dz

instance : Inhabited Ch := ⟨⟨0, 0, 0⟩⟩
instance : Inhabited Hd := ⟨⟨0, 0, 0, 0, 0⟩⟩
structure Step where
  d : Nat
  h : Hd
  k : Int
  c : Ch
deriving Inhabited
structure Step.ok (x : Step) : Prop where
  hi_d : x.d ≤ 255
  hi_h : x.h.fits
  lo_k : -9223372036854775808 ≤ x.k
  hi_k : x.k ≤ 9223372036854775807
  hi_c : x.c.ok
/-- The cells at o of block b hold x. -/
structure Step.at (x : Step) (b o : Nat) (W : World) : Prop where
  cd : W.cell? ⟨b, o, none⟩ = some (.int .u8 x.d)
  ch_seq : W.cell? ⟨b, o + 1, none⟩ = some (.int .i64 x.h.seq)
  ch_boot : W.cell? ⟨b, o + 2, none⟩ = some (.int .i64 x.h.boot)
  ch_area : W.cell? ⟨b, o + 3, none⟩ = some (.int .i64 x.h.area)
  ch_first : W.cell? ⟨b, o + 4, none⟩ = some (.int .i64 x.h.first)
  ch_snaps : W.cell? ⟨b, o + 5, none⟩ = some (.int .i64 x.h.snaps)
  ck : W.cell? ⟨b, o + 6, none⟩ = some (.int .i64 x.k)
  cc_keep : W.cell? ⟨b, o + 7, none⟩ = some (.int .u64 (x.c.keep : Int))
  cc_torn : W.cell? ⟨b, o + 8, none⟩ = some (.int .i64 x.c.torn)
  cc_bytes : W.cell? ⟨b, o + 9, none⟩ = some (.int .i64 x.c.bytes)
theorem Step.at.kept {x : Step} {b o : Nat} {W V : World} (h : x.at b o W) (k : Kept W V) (hb : b < W.heap.size) : x.at b o V :=
  ⟨by rw [Kept.cell k hb]; exact h.cd, by rw [Kept.cell k hb]; exact h.ch_seq, by rw [Kept.cell k hb]; exact h.ch_boot, by rw [Kept.cell k hb]; exact h.ch_area, by rw [Kept.cell k hb]; exact h.ch_first, by rw [Kept.cell k hb]; exact h.ch_snaps, by rw [Kept.cell k hb]; exact h.ck, by rw [Kept.cell k hb]; exact h.cc_keep, by rw [Kept.cell k hb]; exact h.cc_torn, by rw [Kept.cell k hb]; exact h.cc_bytes⟩
theorem step_fields : fieldsOf Try.prog 61 = some [(5, 0), (50, 1), (3, 6), (59, 7)] := by kernel_rfl
theorem step_cells : Try.prog.cellsOf 61 = 10 := by kernel_rfl
theorem step_cells_choice : Try.prog.cellsOf 59 = 3 := by kernel_rfl
theorem step_cells_head : Try.prog.cellsOf 50 = 5 := by kernel_rfl
theorem step_cells_i64 : Try.prog.cellsOf 3 = 1 := by kernel_rfl
theorem step_cells_u8 : Try.prog.cellsOf 5 = 1 := by kernel_rfl
theorem step_slice : Try.prog.underlying 56 = some (.slice 61) := by kernel_rfl
/-- A slice of them as the call gets it. -/
structure Steps (W : World) (v : Value) (ao : Option Addr) (len cap : Nat) (X : Nat → Step) : Prop where
  eq : v = .slice ao len cap
  cell : 0 < len → ∃ b off, ao = some ⟨b, off, none⟩ ∧ b < W.heap.size ∧ ∀ i, i < len → (X i).at b (off + i * 10) W
  ok : ∀ i, i < len → (X i).ok
  max : len ≤ maxLen
theorem step_one {H : Type} {enc : TypeId × Value → H} {W : World} {base : Nat} {spare : Nat → Bool} {held : Bool} {n : Nat} {a : Addr} {cs : List Value} {y : DataW H × List MemPlace}
    (hc : W.cells? base a 10 = some cs) (h : DataW.trod enc Try.prog W base spare held n 61 cs = some y) :
    ∃ x : Step, x.ok ∧ W.cell? (a.add 0) = some (.int .u8 x.d) ∧ W.cell? (a.add 1) = some (.int .i64 x.h.seq) ∧ W.cell? (a.add 2) = some (.int .i64 x.h.boot) ∧ W.cell? (a.add 3) = some (.int .i64 x.h.area) ∧ W.cell? (a.add 4) = some (.int .i64 x.h.first) ∧ W.cell? (a.add 5) = some (.int .i64 x.h.snaps) ∧ W.cell? (a.add 6) = some (.int .i64 x.k) ∧ W.cell? (a.add 7) = some (.int .u64 (x.c.keep : Int)) ∧ W.cell? (a.add 8) = some (.int .i64 x.c.torn) ∧ W.cell? (a.add 9) = some (.int .i64 x.c.bytes) := by
  obtain ⟨_, hl, hat⟩ := World.cells?_some hc
  obtain ⟨m, _, hq⟩ := trod_fields step_fields h
  match cs, hl with
  | [c0, c1, c2, c3, c4, c5, c6, c7, c8, c9], _ =>
    obtain ⟨y0, h0⟩ := hq 0 _ rfl
    rw [step_cells_u8] at h0
    obtain ⟨y1, h1⟩ := hq 1 _ rfl
    rw [step_cells_head] at h1
    obtain ⟨y2, h2⟩ := hq 2 _ rfl
    rw [step_cells_i64] at h2
    obtain ⟨y3, h3⟩ := hq 3 _ rfl
    rw [step_cells_choice] at h3
    obtain ⟨v0, e0, _, w0⟩ := DataW.trod_int Try.underlying5 h0
    have b0 := bounds_u8 w0
    obtain ⟨v0, rfl⟩ := Int.eq_ofNat_of_zero_le b0.1
    obtain rfl : c0 = .int .u8 v0 := by simpa using e0
    obtain ⟨v1, w1, e1⟩ := head_of h1
    have e1' : c1 = .int .i64 v1.seq ∧ c2 = .int .i64 v1.boot ∧ c3 = .int .i64 v1.area ∧ c4 = .int .i64 v1.first ∧ c5 = .int .i64 v1.snaps := by simpa using e1
    obtain ⟨rfl, rfl, rfl, rfl, rfl⟩ := e1'
    obtain ⟨v2, e2, _, w2⟩ := DataW.trod_int Try.underlying3 h2
    have b2 := bounds_i64 w2
    obtain rfl : c6 = .int .i64 v2 := by simpa using e2
    obtain ⟨v3, w3, e3⟩ := choice_of h3
    have e3' : c7 = .int .u64 (v3.keep : Int) ∧ c8 = .int .i64 v3.torn ∧ c9 = .int .i64 v3.bytes := by simpa [Ch.cells] using e3
    obtain ⟨rfl, rfl, rfl⟩ := e3'
    exact ⟨⟨v0, v1, v2, v3⟩, ⟨by show v0 ≤ _; omega, w1, b2.1, b2.2, w3⟩, hat 0 (by decide), hat 1 (by decide), hat 2 (by decide), hat 3 (by decide), hat 4 (by decide), hat 5 (by decide), hat 6 (by decide), hat 7 (by decide), hat 8 (by decide), hat 9 (by decide)⟩
theorem open_steps {H : Type} {enc : TypeId × Value → H} {W : World} {v : Value} {d : DataW H} {p : List MemPlace} {r : Reach} {b0 : Nat} (hv : Value.okWide Try.prog W r b0 56 v) (h : DataW.Trod enc Try.prog W 0 (fun _ => true) true 56 v d p) :
    ∃ ao len cap X, Steps W v ao len cap X := by
  obtain ⟨ao, l, c, rfl⟩ := okWide_slice step_slice hv
  obtain ⟨fuel, hf⟩ := h
  rcases Go.Deep.open_slice step_slice hf with ⟨hcs, _⟩ | ⟨a, len, cap, m, n, D, Pl, hcs, hb, hl, hm, hmm, hx, hi⟩
  · simp only [Value.cells, List.cons.injEq, Value.slice.injEq, and_true] at hcs
    obtain ⟨rfl, rfl, rfl⟩ := hcs
    exact ⟨none, 0, 0, fun _ => default, rfl, fun h => absurd h (by omega), fun i h => absurd h (by omega), by decide⟩
  · simp only [Value.cells, List.cons.injEq, Value.slice.injEq, and_true] at hcs
    obtain ⟨rfl, rfl, rfl⟩ := hcs
    have hmc : m = c := by simpa using hmm
    have each : ∀ i, i < l → ∃ x : Step, x.ok ∧ W.cell? ((a.add (i * 10)).add 0) = some (.int .u8 x.d) ∧ W.cell? ((a.add (i * 10)).add 1) = some (.int .i64 x.h.seq) ∧ W.cell? ((a.add (i * 10)).add 2) = some (.int .i64 x.h.boot) ∧ W.cell? ((a.add (i * 10)).add 3) = some (.int .i64 x.h.area) ∧ W.cell? ((a.add (i * 10)).add 4) = some (.int .i64 x.h.first) ∧ W.cell? ((a.add (i * 10)).add 5) = some (.int .i64 x.h.snaps) ∧ W.cell? ((a.add (i * 10)).add 6) = some (.int .i64 x.k) ∧ W.cell? ((a.add (i * 10)).add 7) = some (.int .u64 (x.c.keep : Int)) ∧ W.cell? ((a.add (i * 10)).add 8) = some (.int .i64 x.c.torn) ∧ W.cell? ((a.add (i * 10)).add 9) = some (.int .i64 x.c.bytes) := by
      intro i hil
      obtain ⟨cs', hc, ht⟩ := hi i (by omega)
      rw [step_cells] at hc
      exact step_one hc ht
    obtain ⟨X, hX⟩ := Go.Deep.choose_lt each
    refine ⟨some a, l, c, X, rfl, fun h0 => ?_, fun i h => (hX i h).1, Nat.le_trans hl hm⟩
    have hp := lt_of_cell (hX 0 h0).2.1
    rw [Nat.zero_mul, add_zero, add_zero] at hp
    obtain ⟨b, off, sp⟩ := a
    obtain ⟨hb2, rfl⟩ := hp
    refine ⟨b, off, rfl, hb2, fun i h => ?_⟩
    obtain ⟨_, k0, k1, k2, k3, k4, k5, k6, k7, k8, k9⟩ := hX i h
    simp only [add_plain] at k0 k1 k2 k3 k4 k5 k6 k7 k8 k9
    exact ⟨k0, k1, k2, k3, k4, k5, k6, k7, k8, k9⟩
end Go.Proofs.Ytmmlgnoicecgfaa.Hk
