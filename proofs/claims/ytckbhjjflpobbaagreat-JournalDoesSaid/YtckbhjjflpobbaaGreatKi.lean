/-
  Arguments opened: headers.
-/
import Derived.Test.YtckbhjjflpobbaaGreatKh
namespace Go.Proofs.YtckbhjjflpobbaaGreat.Hk
set_option maxRecDepth 100000
open Go.RowKit Go.Proofs.YtckbhjjflpobbaaGreat.Mem Go.ChangeShapes Go.WideShapes Go.ChangeAt

structure Hd.fits (h : Hd) : Prop where
  seq : -9223372036854775808 ≤ h.seq ∧ h.seq ≤ 9223372036854775807
  boot : -9223372036854775808 ≤ h.boot ∧ h.boot ≤ 9223372036854775807
  area : -9223372036854775808 ≤ h.area ∧ h.area ≤ 9223372036854775807
  first : -9223372036854775808 ≤ h.first ∧ h.first ≤ 9223372036854775807
  snaps : -9223372036854775808 ≤ h.snaps ∧ h.snaps ≤ 9223372036854775807
section
variable {H : Type} {enc : TypeId × Value → H} {W : World} {v : Value} {d : DataW H} {p : List MemPlace} {r : Reach} {b0 : Nat}
theorem head_fields : fieldsOf Tryz.prog 74 = some [(3, 0), (3, 1), (3, 2), (3, 3), (3, 4)] := by kernel_rfl
theorem head_cells : Tryz.prog.cellsOf 74 = 5 := by kernel_rfl
theorem cells_int : Tryz.prog.cellsOf 3 = 1 := by kernel_rfl
theorem head_of {base : Nat} {sp : Nat → Bool} {held : Bool} {n : Nat} {cs : List Value} {y : DataW H × List MemPlace} (h : DataW.trod enc Tryz.prog W base sp held n 74 cs = some y) : ∃ f : Hd, f.fits ∧ cs = [.int .i64 f.seq, .int .i64 f.boot, .int .i64 f.area, .int .i64 f.first, .int .i64 f.snaps] := by
  obtain ⟨m, hl, hq⟩ := trod_fields head_fields h
  rw [head_cells] at hl
  match cs, hl with
  | [c0, c1, c2, c3, c4], _ =>
    obtain ⟨y0, h0⟩ := hq 0 _ rfl
    rw [cells_int] at h0
    obtain ⟨y1, h1⟩ := hq 1 _ rfl
    rw [cells_int] at h1
    obtain ⟨y2, h2⟩ := hq 2 _ rfl
    rw [cells_int] at h2
    obtain ⟨y3, h3⟩ := hq 3 _ rfl
    rw [cells_int] at h3
    obtain ⟨y4, h4⟩ := hq 4 _ rfl
    rw [cells_int] at h4
    obtain ⟨v0, e0, _, w0⟩ := DataW.trod_int Tryz.underlying3 h0
    have b0 := bounds_i64 w0
    obtain rfl : c0 = .int .i64 v0 := by simpa using e0
    obtain ⟨v1, e1, _, w1⟩ := DataW.trod_int Tryz.underlying3 h1
    have b1 := bounds_i64 w1
    obtain rfl : c1 = .int .i64 v1 := by simpa using e1
    obtain ⟨v2, e2, _, w2⟩ := DataW.trod_int Tryz.underlying3 h2
    have b2 := bounds_i64 w2
    obtain rfl : c2 = .int .i64 v2 := by simpa using e2
    obtain ⟨v3, e3, _, w3⟩ := DataW.trod_int Tryz.underlying3 h3
    have b3 := bounds_i64 w3
    obtain rfl : c3 = .int .i64 v3 := by simpa using e3
    obtain ⟨v4, e4, _, w4⟩ := DataW.trod_int Tryz.underlying3 h4
    have b4 := bounds_i64 w4
    obtain rfl : c4 = .int .i64 v4 := by simpa using e4
    exact ⟨⟨v0, v1, v2, v3, v4⟩, ⟨b0, b1, b2, b3, b4⟩, rfl⟩
theorem open_head (hv : Value.okWide Tryz.prog W r b0 74 v) (h : DataW.Trod enc Tryz.prog W 0 (fun _ => true) true 74 v d p) : ∃ f : Hd, f.fits ∧ v = .agg #[.int .i64 f.seq, .int .i64 f.boot, .int .i64 f.area, .int .i64 f.first, .int .i64 f.snaps] := by
  obtain ⟨cs, rfl, _⟩ := okWide_struct Tryz.underlying74 hv
  obtain ⟨fuel, hf⟩ := h
  obtain ⟨f, hc, e⟩ := head_of hf
  have e' : cs = #[.int .i64 f.seq, .int .i64 f.boot, .int .i64 f.area, .int .i64 f.first, .int .i64 f.snaps] := by
    have : (Value.agg cs).cells = cs := by simp [Value.cells]
    rw [this] at e
    exact Array.toList_inj.1 e
  exact ⟨f, hc, by rw [e']⟩
end
end Go.Proofs.YtckbhjjflpobbaaGreat.Hk
