/-
  Arguments opened (layer 11): a policy, an array of two numbers.
-/
import Derived.Test.YthhmfebnnkcmmaaUa
namespace Go.Proofs.Ythhmfebnnkcmmaa.De
open Go.RowKit Go.Proofs.Ythhmfebnnkcmmaa.Mem Go.Proofs.Ythhmfebnnkcmmaa.Bx Go.ChangeShapes Go.WideShapes Go.ChangeAt
set_option linter.unusedVariables false
set_option maxRecDepth 100000
structure Pol.fit (p : Pol) : Prop where
  lim : -9223372036854775808 ≤ p.lim ∧ p.lim ≤ 9223372036854775807
  win : -9223372036854775808 ≤ p.win ∧ p.win ≤ 9223372036854775807
  bas : -9223372036854775808 ≤ p.bas ∧ p.bas ≤ 9223372036854775807
  most : -9223372036854775808 ≤ p.most ∧ p.most ≤ 9223372036854775807
section
variable {H : Type} {enc : TypeId × Value → H} {W : World} {v : Value} {d : DataW H} {p : List MemPlace} {r : Reach} {b0 : Nat}
theorem pol_fields : fieldsOf Try.prog 23 = some [(4, 0), (3, 1), (3, 2), (3, 3), (3, 4)] := by kernel_rfl
theorem pol_size : Try.prog.cellsOf 23 = 5 := by kernel_rfl
theorem int_size : Try.prog.cellsOf 3 = 1 := by kernel_rfl
theorem bool_size : Try.prog.cellsOf 4 = 1 := by kernel_rfl
theorem pol_of {base : Nat} {sp : Nat → Bool} {held : Bool} {n : Nat} {cs : List Value} {y : DataW H × List MemPlace} (h : DataW.trod enc Try.prog W base sp held n 23 cs = some y) : ∃ f : Pol, f.fit ∧ cs = [.bool f.al, .int .i64 f.lim, .int .i64 f.win, .int .i64 f.bas, .int .i64 f.most] := by
  obtain ⟨m, hl, hq⟩ := trod_fields pol_fields h
  rw [pol_size] at hl
  match cs, hl with
  | [c0, c1, c2, c3, c4], _ =>
    obtain ⟨y0, h0⟩ := hq 0 _ rfl
    rw [bool_size] at h0
    obtain ⟨y1, h1⟩ := hq 1 _ rfl
    rw [int_size] at h1
    obtain ⟨y2, h2⟩ := hq 2 _ rfl
    rw [int_size] at h2
    obtain ⟨y3, h3⟩ := hq 3 _ rfl
    rw [int_size] at h3
    obtain ⟨y4, h4⟩ := hq 4 _ rfl
    rw [int_size] at h4
    obtain ⟨v0, e0, _⟩ := DataW.trod_bool Try.underlying4 h0
    obtain rfl : c0 = .bool v0 := by simpa using e0
    obtain ⟨v1, e1, _, w1⟩ := DataW.trod_int Try.underlying3 h1
    have b1 := bounds_i64 w1
    obtain rfl : c1 = .int .i64 v1 := by simpa using e1
    obtain ⟨v2, e2, _, w2⟩ := DataW.trod_int Try.underlying3 h2
    have b2 := bounds_i64 w2
    obtain rfl : c2 = .int .i64 v2 := by simpa using e2
    obtain ⟨v3, e3, _, w3⟩ := DataW.trod_int Try.underlying3 h3
    have b3 := bounds_i64 w3
    obtain rfl : c3 = .int .i64 v3 := by simpa using e3
    obtain ⟨v4, e4, _, w4⟩ := DataW.trod_int Try.underlying3 h4
    have b4 := bounds_i64 w4
    obtain rfl : c4 = .int .i64 v4 := by simpa using e4
    exact ⟨⟨v0, v1, v2, v3, v4⟩, ⟨b1, b2, b3, b4⟩, rfl⟩
theorem open_pol (hv : Value.okWide Try.prog W r b0 23 v) (h : DataW.Trod enc Try.prog W 0 (fun _ => true) true 23 v d p) : ∃ f : Pol, f.fit ∧ v = .agg #[.bool f.al, .int .i64 f.lim, .int .i64 f.win, .int .i64 f.bas, .int .i64 f.most] := by
  obtain ⟨cs, rfl, _⟩ := okWide_struct Try.underlying23 hv
  obtain ⟨fuel, hf⟩ := h
  obtain ⟨f, hc, e⟩ := pol_of hf
  have e' : cs = #[.bool f.al, .int .i64 f.lim, .int .i64 f.win, .int .i64 f.bas, .int .i64 f.most] := by
    have : (Value.agg cs).cells = cs := by simp [Value.cells]
    rw [this] at e
    exact Array.toList_inj.1 e
  exact ⟨f, hc, by rw [e']⟩
/-- Two numbers. -/
structure Duo where
  x : Int
  y : Int
structure Duo.ok (p : Duo) : Prop where
  x : -9223372036854775808 ≤ p.x ∧ p.x ≤ 9223372036854775807
  y : -9223372036854775808 ≤ p.y ∧ p.y ≤ 9223372036854775807
theorem open_duo (hv : Value.okWide Try.prog W r b0 33 v) (h : DataW.Trod enc Try.prog W 0 (fun _ => true) true 33 v d p) : ∃ f : Duo, f.ok ∧ v = .agg #[.int .i64 f.x, .int .i64 f.y] := by
  obtain ⟨cs, rfl, hc⟩ : ∃ cs, v = .agg cs ∧ cs.size = Try.prog.cellsOf 33 := by
    simp only [Value.okWide, Try.underlying33] at hv
    obtain ⟨cs, h1, h2, _⟩ := hv
    exact ⟨cs, h1, h2⟩
  obtain ⟨fuel, hf⟩ := h
  have hz : Try.prog.cellsOf 33 = 2 := by kernel_rfl
  rw [hz] at hc
  obtain ⟨xs, m, rfl, _, hl, hn, hq⟩ := DataW.trod_array Try.underlying33 hf
  have hcs : (Value.agg cs).cells = cs := by simp [Value.cells]
  rw [hcs, int_size] at hq
  obtain ⟨a, b, rfl⟩ : ∃ a b, cs = #[a, b] := by
    match hcs : cs.toList, (show cs.toList.length = 2 by simpa using hc) with
    | [a, b], _ => exact ⟨a, b, Array.toList_inj.1 hcs⟩
  have q0 := hq 0 (by omega)
  have q1 := hq 1 (by omega)
  obtain ⟨y0, hy0⟩ : ∃ y0, xs[0]? = some y0 := ⟨xs[0], List.getElem?_eq_getElem (by omega)⟩
  obtain ⟨y1, hy1⟩ : ∃ y1, xs[1]? = some y1 := ⟨xs[1], List.getElem?_eq_getElem (by omega)⟩
  rw [hy0] at q0
  rw [hy1] at q1
  obtain ⟨v0, e0, _, w0⟩ := DataW.trod_int Try.underlying3 q0
  have b0 := bounds_i64 w0
  obtain rfl : a = .int .i64 v0 := by simpa using e0
  obtain ⟨v1, e1, _, w1⟩ := DataW.trod_int Try.underlying3 q1
  have b1 := bounds_i64 w1
  obtain rfl : b = .int .i64 v1 := by simpa using e1
  exact ⟨⟨v0, v1⟩, ⟨b0, b1⟩, rfl⟩
end
end Go.Proofs.Ythhmfebnnkcmmaa.De
