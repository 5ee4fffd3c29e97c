/-
  An argument that is a slice of sacristan/sacristanlaw08.Act, opened (one of its fields is a slice of strings).
-/
import Derived.Test.YtjbcpfndpfeepaaJv
import Derived.Test.YtjbcpfndpfeepaaGw
import Derived.Test.YtjbcpfndpfeepaaDh
namespace Go.Proofs.Ytjbcpfndpfeepaa.Jk
set_option maxRecDepth 100000
open Go Go.RowKit Go.ChangeShapes Go.WideShapes Go.ChangeAt Go.Proofs.Ytjbcpfndpfeepaa.Mem Go.Proofs.Ytjbcpfndpfeepaa.Dz Go.Proofs.Ytjbcpfndpfeepaa.Rc

instance : Inhabited Ch := ⟨⟨0, 0, 0⟩⟩
structure Deed where
  d : Nat
  s : ByteArray
  a : Option Addr
  m : Nat
  cap : Nat
  x : Nat → ByteArray
  k : Int
  c : Ch
instance : Inhabited Deed := ⟨⟨0, ByteArray.empty, none, 0, 0, fun _ => ByteArray.empty, 0, ⟨0, 0, 0⟩⟩⟩
structure Deed.ok (x : Deed) (W : World) : Prop where
  d : x.d ≤ 255
  s : x.s.size ≤ maxLen
  c : x.c.ok
  max : x.m ≤ maxLen
  nil : x.a = none → x.m = 0 ∧ x.cap = 0
  row : SAo W x.a x.m x.x
  le : ∀ i, i < x.m → (x.x i).size ≤ maxLen
/-- The seven cells. -/
def Deed.cells (x : Deed) : List Value := [.int .u8 (x.d : Int), .string x.s, .slice x.a x.m x.cap, .int .i64 x.k, .int .u64 (x.c.keep : Int), .int .i64 x.c.torn, .int .i64 x.c.bytes]
theorem act_fields : fieldsOf Try.prog 34 = some [(5, 0), (9, 1), (29, 2), (3, 3), (32, 4)] := by kernel_rfl
theorem act_cells : Try.prog.cellsOf 34 = 7 := by kernel_rfl
theorem cells_choice : Try.prog.cellsOf 32 = 3 := by kernel_rfl
theorem cells_i64 : Try.prog.cellsOf 3 = 1 := by kernel_rfl
theorem cells_u8 : Try.prog.cellsOf 5 = 1 := by kernel_rfl
theorem cells_str : Try.prog.cellsOf 9 = 1 := by kernel_rfl
theorem cells_strs : Try.prog.cellsOf 29 = 1 := by kernel_rfl
theorem act_slice : Try.prog.underlying 22 = some (.slice 34) := by kernel_rfl
theorem strs_of {H : Type} {enc : TypeId × Value → H} {W : World} {base : Nat} {spare : Nat → Bool} {held : Bool} {n : Nat} {c0 : Value} {y : DataW H × List MemPlace}
    (h : DataW.trod enc Try.prog W base spare held n 29 [c0] = some y) :
    ∃ ao len cap X, c0 = .slice ao len cap ∧ len ≤ maxLen ∧ (ao = none → len = 0 ∧ cap = 0) ∧ SAo W ao len X ∧ ∀ i, i < len → (X i).size ≤ maxLen := by
  rcases Go.Deep.open_slice str_slice h with ⟨hcs, _⟩ | ⟨a, len, cap, m, n, D, Pl, hcs, hb, hl, hm, hmm, hx, hi⟩
  · obtain rfl : c0 = .slice none 0 0 := by simpa using hcs
    exact ⟨none, 0, 0, fun _ => ByteArray.empty, rfl, by decide, fun _ => ⟨rfl, rfl⟩, fun i h => absurd h (by omega), fun i h => absurd h (by omega)⟩
  · obtain rfl : c0 = .slice (some a) len cap := by simpa using hcs
    have hmm2 : len ≤ m := by rw [hmm]; split <;> omega
    have each : ∀ i, i < len → ∃ x : ByteArray, x.size ≤ maxLen ∧ W.cell? ((a.add (i * 1)).add 0) = some (.string x) := by
      intro i hil
      obtain ⟨cs', hc, ht⟩ := hi i (by omega)
      rw [str_cells] at hc
      exact str_one hc ht
    obtain ⟨X, hX⟩ := Go.Deep.choose_lt each
    refine ⟨some a, len, cap, X, rfl, Nat.le_trans hl hm, (fun h => by cases h), fun i hi => ?_, fun i h => (hX i h).1⟩
    have hp := lt_of_cell (hX 0 (by omega)).2
    rw [Nat.zero_mul, add_zero, add_zero] at hp
    have k0 := (hX i hi).2
    obtain ⟨b, off, sp⟩ := a
    obtain ⟨hb2, rfl⟩ := hp
    simp only [add_plain, Nat.mul_one, Nat.add_zero] at k0
    exact ⟨b, off, rfl, k0⟩
theorem act_one {H : Type} {enc : TypeId × Value → H} {W : World} {base : Nat} {spare : Nat → Bool} {held : Bool} {n : Nat} {cs : List Value} {y : DataW H × List MemPlace}
    (hl : cs.length = 7) (h : DataW.trod enc Try.prog W base spare held n 34 cs = some y) : ∃ x : Deed, x.ok W ∧ cs = x.cells := by
  obtain ⟨m, _, hq⟩ := trod_fields act_fields h
  match cs, hl with
  | [c0, c1, c2, c3, c4, c5, c6], _ =>
    obtain ⟨y0, h0⟩ := hq 0 _ rfl
    rw [cells_u8] at h0
    obtain ⟨y1, h1⟩ := hq 1 _ rfl
    rw [cells_str] at h1
    obtain ⟨y2, h2⟩ := hq 2 _ rfl
    rw [cells_strs] at h2
    obtain ⟨y3, h3⟩ := hq 3 _ rfl
    rw [cells_i64] at h3
    obtain ⟨y4, h4⟩ := hq 4 _ rfl
    rw [cells_choice] at h4
    obtain ⟨v0, e0, _, w0⟩ := DataW.trod_int Try.underlying5 h0
    have b0 := bounds_u8 w0
    obtain ⟨v0, rfl⟩ := Int.eq_ofNat_of_zero_le b0.1
    obtain rfl : c0 = .int .u8 v0 := by simpa using e0
    obtain ⟨v1, e1, _, w1⟩ := DataW.trod_string Try.underlying9 h1
    obtain rfl : c1 = .string v1 := by simpa using e1
    obtain ⟨ao, len, cap, X, rfl, g1, g2, g3, g4⟩ := strs_of h2
    obtain ⟨v3, e3, _, w3⟩ := DataW.trod_int Try.underlying3 h3
    obtain rfl : c3 = .int .i64 v3 := by simpa using e3
    obtain ⟨v4, w4, e4⟩ := choice_of h4
    have e4' : c4 = .int .u64 (v4.keep : Int) ∧ c5 = .int .i64 v4.torn ∧ c6 = .int .i64 v4.bytes := by simpa [Ch.cells] using e4
    obtain ⟨rfl, rfl, rfl⟩ := e4'
    exact ⟨⟨v0, v1, ao, len, cap, X, v3, v4⟩, ⟨by show v0 ≤ _; omega, w1, w4, g1, g2, g3, g4⟩, rfl⟩
/-- A slice of acts as the call gets it. -/
structure Deeds (W : World) (v : Value) (ao : Option Addr) (len cap : Nat) (X : Nat → Deed) : Prop where
  eq : v = .slice ao len cap
  cell : 0 < len → ∃ b off, ao = some ⟨b, off, none⟩ ∧ b < W.heap.size ∧ ∀ i, i < len → ∀ j u, (X i).cells[j]? = some u → W.cell? ⟨b, off + i * 7 + j, none⟩ = some u
  ok : ∀ i, i < len → (X i).ok W
  max : len ≤ maxLen
theorem open_deeds {H : Type} {enc : TypeId × Value → H} {W : World} {v : Value} {d : DataW H} {p : List MemPlace} {r : Reach} {b0 : Nat} (hv : Value.okWide Try.prog W r b0 22 v) (h : DataW.Trod enc Try.prog W 0 (fun _ => true) true 22 v d p) :
    ∃ ao len cap X, Deeds W v ao len cap X := by
  obtain ⟨ao, l, c, rfl⟩ := okWide_slice act_slice hv
  obtain ⟨fuel, hf⟩ := h
  rcases Go.Deep.open_slice act_slice hf with ⟨hcs, _⟩ | ⟨a, len, cap, m, n, D, Pl, hcs, hb, hl, hm, hmm, hx, hi⟩
  · simp only [Value.cells, List.cons.injEq, Value.slice.injEq, and_true] at hcs
    obtain ⟨rfl, rfl, rfl⟩ := hcs
    exact ⟨none, 0, 0, fun _ => default, rfl, fun h => absurd h (by omega), fun i h => absurd h (by omega), by decide⟩
  · simp only [Value.cells, List.cons.injEq, Value.slice.injEq, and_true] at hcs
    obtain ⟨rfl, rfl, rfl⟩ := hcs
    have hmc : m = c := by simpa using hmm
    have each : ∀ i, i < l → ∃ x : Deed, x.ok W ∧ ∀ j u, x.cells[j]? = some u → W.cell? ((a.add (i * 7)).add j) = some u := by
      intro i hil
      obtain ⟨cs', hc, ht⟩ := hi i (by omega)
      rw [act_cells] at hc
      obtain ⟨_, hl7, hat⟩ := World.cells?_some hc
      obtain ⟨x, hx, rfl⟩ := act_one hl7 ht
      refine ⟨x, hx, fun j u hj => ?_⟩
      have hlt := (List.getElem?_eq_some_iff.1 hj).1
      have := hat j (by have : x.cells.length = 7 := rfl; omega)
      rw [this, hj]
    obtain ⟨X, hX⟩ := Go.Deep.choose_lt each
    refine ⟨some a, l, c, X, rfl, fun h0 => ?_, fun i h => (hX i h).1, Nat.le_trans hl hm⟩
    have hp := lt_of_cell ((hX 0 h0).2 0 _ rfl)
    rw [Nat.zero_mul, add_zero, add_zero] at hp
    obtain ⟨b, off, sp⟩ := a
    obtain ⟨hb2, rfl⟩ := hp
    refine ⟨b, off, rfl, hb2, fun i h j u hj => ?_⟩
    have k0 := (hX i h).2 j u hj
    simpa only [add_plain] using k0
theorem bytes_slice : Try.prog.underlying 23 = some (.slice 5) := by kernel_rfl
/-- A slice of bytes as the call gets it. -/
structure Byts (W : World) (v : Value) (ao : Option Addr) (len cap : Nat) : Prop where
  eq : v = .slice ao len cap
  cell : ∀ i, i < len → ∃ g f y, ao = some ⟨g, f, none⟩ ∧ y ≤ 255 ∧ g < W.heap.size ∧ W.cell? ⟨g, f + i, none⟩ = some (.int .u8 ((y : Nat) : Int))
  max : len ≤ maxLen
  le : len ≤ cap
theorem open_bytes {H : Type} {enc : TypeId × Value → H} {W : World} {v : Value} {d : DataW H} {p : List MemPlace} {r : Reach} {b0 : Nat} (hv : Value.okWide Try.prog W r b0 23 v) (h : DataW.Trod enc Try.prog W 0 (fun _ => true) true 23 v d p) :
    ∃ ao len cap, Byts W v ao len cap := by
  obtain ⟨ao, l, c, rfl⟩ := okWide_slice bytes_slice hv
  obtain ⟨fuel, hf⟩ := h
  rcases Go.Deep.open_slice bytes_slice hf with ⟨hcs, _⟩ | ⟨a, len, cap, m, n, D, Pl, hcs, hb, hl, hm, hmm, hx, hi⟩
  · simp only [Value.cells, List.cons.injEq, Value.slice.injEq, and_true] at hcs
    obtain ⟨rfl, rfl, rfl⟩ := hcs
    exact ⟨none, 0, 0, rfl, fun i h => absurd h (by omega), by decide, by decide⟩
  · simp only [Value.cells, List.cons.injEq, Value.slice.injEq, and_true] at hcs
    obtain ⟨rfl, rfl, rfl⟩ := hcs
    have hmc : m = c := by simpa using hmm
    have each : ∀ i, i < l → ∃ y : Nat, y ≤ 255 ∧ W.cell? ((a.add (i * 1)).add 0) = some (.int .u8 (y : Int)) := by
      intro i hil
      obtain ⟨cs', hc, ht⟩ := hi i (by omega)
      rw [cells_u8] at hc
      obtain ⟨_, hl1, hat⟩ := World.cells?_some hc
      match cs', hl1 with
      | [c0], _ =>
        obtain ⟨v0, e0, _, w0⟩ := DataW.trod_int Try.underlying5 ht
        have b0 := bounds_u8 w0
        obtain ⟨v0, rfl⟩ := Int.eq_ofNat_of_zero_le b0.1
        obtain rfl : c0 = .int .u8 v0 := by simpa using e0
        exact ⟨v0, by omega, hat 0 (by decide)⟩
    refine ⟨some a, l, c, rfl, fun i h => ?_, Nat.le_trans hl hm, hl⟩
    obtain ⟨y0, _, k00⟩ := each 0 (by omega)
    have hp := lt_of_cell k00
    rw [Nat.zero_mul, add_zero, add_zero] at hp
    obtain ⟨b, off, sp⟩ := a
    obtain ⟨hb2, rfl⟩ := hp
    obtain ⟨y, hy, k0⟩ := each i h
    simp only [add_plain, Nat.mul_one, Nat.add_zero] at k0
    exact ⟨b, off, y, rfl, hy, hb2, k0⟩
end Go.Proofs.Ytjbcpfndpfeepaa.Jk
