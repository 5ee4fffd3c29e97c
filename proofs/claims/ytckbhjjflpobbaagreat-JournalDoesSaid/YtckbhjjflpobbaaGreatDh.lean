/-
  Arguments opened: numbers, strings, choices.
-/
import Derived.Test.YtckbhjjflpobbaaGreatBa
import Derived.Test.YtckbhjjflpobbaaGreatDb
namespace Go.Proofs.YtckbhjjflpobbaaGreat.Dz
set_option maxRecDepth 100000
open Go.RowKit Go.Proofs.YtckbhjjflpobbaaGreat.Mem Go.ChangeShapes Go.WideShapes Go.ChangeAt

section
variable {H : Type} {enc : TypeId × Value → H} {W : World} {v : Value} {d : DataW H} {p : List MemPlace} {r : Reach} {b0 : Nat}
theorem choice_fields : fieldsOf Tryz.prog 36 = some [(34, 0), (3, 1), (3, 2)] := by kernel_rfl
theorem choice_cells : Tryz.prog.cellsOf 36 = 3 := by kernel_rfl
theorem choice_u64 : Tryz.prog.cellsOf 34 = 1 := by kernel_rfl
theorem choice_i64 : Tryz.prog.cellsOf 3 = 1 := by kernel_rfl
theorem choice_of {base : Nat} {sp : Nat → Bool} {held : Bool} {n : Nat} {cs : List Value} {y : DataW H × List MemPlace} (h : DataW.trod enc Tryz.prog W base sp held n 36 cs = some y) : ∃ c : Ch, c.ok ∧ cs = c.cells.toList := by
  obtain ⟨m, hl, hq⟩ := trod_fields choice_fields h
  rw [choice_cells] at hl
  match cs, hl with
  | [c0, c1, c2], _ =>
    obtain ⟨y0, h0⟩ := hq 0 _ rfl
    rw [choice_u64] at h0
    obtain ⟨y1, h1⟩ := hq 1 _ rfl
    rw [choice_i64] at h1
    obtain ⟨y2, h2⟩ := hq 2 _ rfl
    rw [choice_i64] at h2
    obtain ⟨v0, e0, _, w0⟩ := DataW.trod_int Tryz.underlying34 h0
    have b0 := bounds_u64 w0
    obtain ⟨v0, rfl⟩ := Int.eq_ofNat_of_zero_le b0.1
    obtain rfl : c0 = .int .u64 v0 := by simpa using e0
    obtain ⟨v1, e1, _, w1⟩ := DataW.trod_int Tryz.underlying3 h1
    have b1 := bounds_i64 w1
    obtain rfl : c1 = .int .i64 v1 := by simpa using e1
    obtain ⟨v2, e2, _, w2⟩ := DataW.trod_int Tryz.underlying3 h2
    have b2 := bounds_i64 w2
    obtain rfl : c2 = .int .i64 v2 := by simpa using e2
    exact ⟨⟨v0, v1, v2⟩, ⟨by show v0 < _; omega, b1.1, b1.2, b2.1, b2.2⟩, rfl⟩
theorem open_choice (hs : ∃ fs, Tryz.prog.underlying 36 = some (.struct fs)) (hv : Value.okWide Tryz.prog W r b0 36 v) (h : DataW.Trod enc Tryz.prog W 0 (fun _ => true) true 36 v d p) : ∃ c : Ch, c.ok ∧ v = .agg c.cells := by
  obtain ⟨fs, hu⟩ := hs
  obtain ⟨cs, rfl, _⟩ := okWide_struct hu hv
  obtain ⟨fuel, hf⟩ := h
  obtain ⟨c, hc, e⟩ := choice_of hf
  have e' : cs = c.cells := by
    have : (Value.agg cs).cells = cs := by simp [Value.cells]
    rw [this] at e
    exact Array.toList_inj.1 e
  exact ⟨c, hc, by rw [e']⟩
theorem choice_struct : ∃ fs, Tryz.prog.underlying 36 = some (.struct fs) := ⟨_, Tryz.underlying36⟩
end
end Go.Proofs.YtckbhjjflpobbaaGreat.Dz
