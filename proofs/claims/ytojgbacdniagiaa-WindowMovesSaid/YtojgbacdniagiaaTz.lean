/-
  An array of two numbers as an argument; the box that holds it.
-/
import Derived.Test.YtojgbacdniagiaaVb
namespace Go.Proofs.Ytojgbacdniagiaa.Wi
open Go.RowKit Go.Proofs.Ytojgbacdniagiaa.Mem Go.Proofs.Ytojgbacdniagiaa.Bx Go.ChangeShapes Go.WideShapes Go.ChangeAt
set_option linter.unusedVariables false
set_option maxRecDepth 100000
section
variable {H : Type} {enc : TypeId × Value → H} {W : World} {v : Value} {d : DataW H} {p : List MemPlace} {r : Reach} {b0 : Nat}
theorem int_size : Try.prog.cellsOf 3 = 1 := by kernel_rfl
/-- Two numbers. -/
structure Duo where
  x : Int
  y : Int
structure Duo.ok (p : Duo) : Prop where
  x : -9223372036854775808 ≤ p.x ∧ p.x ≤ 9223372036854775807
  y : -9223372036854775808 ≤ p.y ∧ p.y ≤ 9223372036854775807
theorem open_duo (hv : Value.okWide Try.prog W r b0 38 v) (h : DataW.Trod enc Try.prog W 0 (fun _ => true) true 38 v d p) : ∃ f : Duo, f.ok ∧ v = .agg #[.int .i64 f.x, .int .i64 f.y] := by
  obtain ⟨cs, rfl, hc⟩ : ∃ cs, v = .agg cs ∧ cs.size = Try.prog.cellsOf 38 := by
    simp only [Value.okWide, Try.underlying38] at hv
    obtain ⟨cs, h1, h2, _⟩ := hv
    exact ⟨cs, h1, h2⟩
  obtain ⟨fuel, hf⟩ := h
  have hz : Try.prog.cellsOf 38 = 2 := by kernel_rfl
  rw [hz] at hc
  obtain ⟨xs, m, rfl, _, hl, hn, hq⟩ := DataW.trod_array Try.underlying38 hf
  have hcs : (Value.agg cs).cells = cs := by simp [Value.cells]
  rw [hcs, int_size] at hq
  obtain ⟨a, b, rfl⟩ : ∃ a b, cs = #[a, b] := by
    match hcs : cs.toList, (show cs.toList.length = 2 by simpa using hc) with
    | [a, b], _ => exact ⟨a, b, Array.toList_inj.1 hcs⟩
  have q0 := hq 0 (by omega)
  have q1 := hq 1 (by omega)
  obtain ⟨y0, hy0⟩ : ∃ y0, xs[0]? = some y0 := ⟨xs[0], List.getElem?_eq_getElem (by omega)⟩
  obtain ⟨y1, hy1⟩ : ∃ y1, xs[1]? = some y1 := ⟨xs[1], List.getElem?_eq_getElem (by omega)⟩
  rw [hy0] at q0
  rw [hy1] at q1
  obtain ⟨v0, e0, _, w0⟩ := DataW.trod_int Try.underlying3 q0
  have b0 := bounds_i64 w0
  obtain rfl : a = .int .i64 v0 := by simpa using e0
  obtain ⟨v1, e1, _, w1⟩ := DataW.trod_int Try.underlying3 q1
  have b1 := bounds_i64 w1
  obtain rfl : b = .int .i64 v1 := by simpa using e1
  exact ⟨⟨v0, v1⟩, ⟨b0, b1⟩, rfl⟩
end
theorem box2 {y : World} {F : Nat} {T : TypeId} {a b : Value} (h : y.heap[F]? = some (.cells #[a, b] T (0, 0))) :
    (y.cell? ⟨F, 0, none⟩ = some a ∧ y.cell? ⟨F, 1, none⟩ = some b) ∧ ∀ i, y.frozen? ⟨F, i, none⟩ = false :=
  ⟨⟨cell_of_row _ _ _ _ _ _ h, cell_of_row _ _ _ _ _ _ h⟩, fun i => frozen_of_row y F i _ _ h⟩
end Go.Proofs.Ytojgbacdniagiaa.Wi
