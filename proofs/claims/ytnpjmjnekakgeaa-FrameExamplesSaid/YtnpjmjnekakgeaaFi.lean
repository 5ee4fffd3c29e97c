/-
  Arguments opened: frames.
-/
import Derived.Test.YtnpjmjnekakgeaaOa
import Derived.Test.YtnpjmjnekakgeaaFh
namespace Go.Proofs.Ytnpjmjnekakgeaa.Fk
open Go.RowKit Go.Proofs.Ytnpjmjnekakgeaa.Mem Go.ChangeShapes Go.WideShapes Go.ChangeAt

structure Fr.ok (f : Fr) : Prop where
  b : -9223372036854775808 ≤ f.boot ∧ f.boot ≤ 9223372036854775807
  l : -9223372036854775808 ≤ f.lsn ∧ f.lsn ≤ 9223372036854775807
  p : -9223372036854775808 ≤ f.part ∧ f.part ≤ 9223372036854775807
  q : -9223372036854775808 ≤ f.parts ∧ f.parts ≤ 9223372036854775807
  k : f.kind < 256
  d : f.data.size ≤ maxLen
section
variable {H : Type} {enc : TypeId × Value → H} {W : World} {v : Value} {d : DataW H} {p : List MemPlace} {r : Reach} {b0 : Nat}
theorem frame_fields : fieldsOf Try.prog 23 = some [(3, 0), (3, 1), (3, 2), (3, 3), (5, 4), (9, 5)] := by kernel_rfl
theorem frame_cells : Try.prog.cellsOf 23 = 6 := by kernel_rfl
theorem cells_u8 : Try.prog.cellsOf 5 = 1 := by kernel_rfl
theorem cells_i64 : Try.prog.cellsOf 3 = 1 := by kernel_rfl
theorem cells_str : Try.prog.cellsOf 9 = 1 := by kernel_rfl
theorem frame_of {base : Nat} {sp : Nat → Bool} {held : Bool} {n : Nat} {cs : List Value} {y : DataW H × List MemPlace} (h : DataW.trod enc Try.prog W base sp held n 23 cs = some y) : ∃ f : Fr, f.ok ∧ cs = [.int .i64 f.boot, .int .i64 f.lsn, .int .i64 f.part, .int .i64 f.parts, .int .u8 f.kind, .string f.data] := by
  obtain ⟨m, hl, hq⟩ := trod_fields frame_fields h
  rw [frame_cells] at hl
  match cs, hl with
  | [c0, c1, c2, c3, c4, c5], _ =>
    obtain ⟨y0, h0⟩ := hq 0 _ rfl
    rw [cells_i64] at h0
    obtain ⟨y1, h1⟩ := hq 1 _ rfl
    rw [cells_i64] at h1
    obtain ⟨y2, h2⟩ := hq 2 _ rfl
    rw [cells_i64] at h2
    obtain ⟨y3, h3⟩ := hq 3 _ rfl
    rw [cells_i64] at h3
    obtain ⟨y4, h4⟩ := hq 4 _ rfl
    rw [cells_u8] at h4
    obtain ⟨y5, h5⟩ := hq 5 _ rfl
    rw [cells_str] at h5
    obtain ⟨v0, e0, _, w0⟩ := DataW.trod_int Try.underlying3 h0
    have b0 := bounds_i64 w0
    obtain rfl : c0 = .int .i64 v0 := by simpa using e0
    obtain ⟨v1, e1, _, w1⟩ := DataW.trod_int Try.underlying3 h1
    have b1 := bounds_i64 w1
    obtain rfl : c1 = .int .i64 v1 := by simpa using e1
    obtain ⟨v2, e2, _, w2⟩ := DataW.trod_int Try.underlying3 h2
    have b2 := bounds_i64 w2
    obtain rfl : c2 = .int .i64 v2 := by simpa using e2
    obtain ⟨v3, e3, _, w3⟩ := DataW.trod_int Try.underlying3 h3
    have b3 := bounds_i64 w3
    obtain rfl : c3 = .int .i64 v3 := by simpa using e3
    obtain ⟨v4, e4, _, w4⟩ := DataW.trod_int Try.underlying5 h4
    have b4 := bounds_u8 w4
    obtain ⟨v4, rfl⟩ := Int.eq_ofNat_of_zero_le b4.1
    obtain rfl : c4 = .int .u8 v4 := by simpa using e4
    obtain ⟨v5, e5, _, w5⟩ := DataW.trod_string Try.underlying9 h5
    obtain rfl : c5 = .string v5 := by simpa using e5
    exact ⟨⟨v0, v1, v2, v3, v4, v5⟩, ⟨b0, b1, b2, b3, by show v4 < _; omega, w5⟩, rfl⟩
theorem open_frame (hv : Value.okWide Try.prog W r b0 23 v) (h : DataW.Trod enc Try.prog W 0 (fun _ => true) true 23 v d p) : ∃ f : Fr, f.ok ∧ v = .agg #[.int .i64 f.boot, .int .i64 f.lsn, .int .i64 f.part, .int .i64 f.parts, .int .u8 f.kind, .string f.data] := by
  obtain ⟨cs, rfl, _⟩ := okWide_struct Try.underlying23 hv
  obtain ⟨fuel, hf⟩ := h
  obtain ⟨f, hc, e⟩ := frame_of hf
  have e' : cs = #[.int .i64 f.boot, .int .i64 f.lsn, .int .i64 f.part, .int .i64 f.parts, .int .u8 f.kind, .string f.data] := by
    have : (Value.agg cs).cells = cs := by simp [Value.cells]
    rw [this] at e
    exact Array.toList_inj.1 e
  exact ⟨f, hc, by rw [e']⟩
end
end Go.Proofs.Ytnpjmjnekakgeaa.Fk
