/-
  Arguments opened (layer 13): a specification, a configuration, a slice of specifications.
-/
import Derived.Test.YtngojgocplmedaaRZp
import Derived.Test.YtngojgocplmedaaRWj
namespace Go.Proofs.YtngojgocplmedaaR.Ls
open Go.RowKit Go.Proofs.YtngojgocplmedaaR.Mem Go.Proofs.YtngojgocplmedaaR.Bx Go.Proofs.YtngojgocplmedaaR.In Go.Proofs.YtngojgocplmedaaR.Sp Go.ChangeShapes Go.WideShapes Go.ChangeAt
set_option linter.unusedVariables false
set_option maxRecDepth 100000

section
variable {H : Type} {enc : TypeId × Value → H} {W : World} {base : Nat} {sp : Nat → Bool} {held : Bool} {n : Nat} {cs : List Value} {y : DataW H × List MemPlace}
theorem size_int : Try.prog.cellsOf 3 = 1 := by kernel_rfl
theorem size_bool : Try.prog.cellsOf 4 = 1 := by kernel_rfl
theorem size_ints : Try.prog.cellsOf 24 = 1 := by kernel_rfl
theorem size_tasks : Try.prog.cellsOf 25 = 1 := by kernel_rfl
theorem size_res : Try.prog.cellsOf 23 = 3 := by kernel_rfl
theorem size_pol : Try.prog.cellsOf 35 = 5 := by kernel_rfl
theorem size_task : Try.prog.cellsOf 37 = 6 := by kernel_rfl
theorem size_spec : Try.prog.cellsOf 27 = 6 := by kernel_rfl
theorem fields_res : fieldsOf Try.prog 23 = some [(3, 0), (3, 1), (3, 2)] := by kernel_rfl
theorem fields_pol : fieldsOf Try.prog 35 = some [(4, 0), (3, 1), (3, 2), (3, 3), (3, 4)] := by kernel_rfl
theorem fields_task : fieldsOf Try.prog 37 = some [(35, 0), (3, 5)] := by kernel_rfl
theorem fields_spec : fieldsOf Try.prog 27 = some [(3, 0), (23, 1), (24, 4), (25, 5)] := by kernel_rfl
theorem at_ints (h : DataW.trod enc Try.prog W base sp held n 24 cs = some y) : ∃ ao m c l, cs = [.slice ao m c] ∧ At W ao m c l := by
  rcases Go.ChangeShapes.open_ints Try.underlying24 Try.underlying3 (by kernel_rfl) h with ⟨hcs, _⟩ | ⟨a, len, cap, zs, hcs, _, hl, hm, hz, _, hc, hw⟩
  · exact ⟨none, 0, 0, [], hcs, At.empty W⟩
  · have hzl : len ≤ zs.length := by rw [hz]; split <;> omega
    refine ⟨some a, len, cap, zs.take len, hcs, ⟨by rw [List.length_take]; omega, hl, hm, nofun, fun x hx => ?_, fun j x hx => ?_⟩⟩
    · have b := bounds_i64 (hw x (List.mem_of_mem_take hx))
      unfold isI; omega
    · have hj : j < len := by have := (List.getElem?_eq_some_iff.1 hx).1; rw [List.length_take] at this; omega
      rw [List.getElem?_take_of_lt hj] at hx
      obtain ⟨g, o, rfl, hg⟩ := plain_of (hc 0 (by omega))
      refine ⟨g, o, rfl, hg, ?_⟩
      have h := hc j (by omega)
      rw [add_plain] at h
      rw [h, List.getD_eq_getElem?_getD, hx]; rfl
theorem of_int (h : DataW.trod enc Try.prog W base sp held n 3 cs = some y) : ∃ v : Int, cs = [.int .i64 v] ∧ isI v := by
  obtain ⟨v, e, _, w⟩ := DataW.trod_int Try.underlying3 h
  have b := bounds_i64 w
  exact ⟨v, e, by unfold isI; omega⟩
theorem of_pol (h : DataW.trod enc Try.prog W base sp held n 35 cs = some y) : ∃ (a : Bool) (l w b m : Int), cs = [.bool a, .int .i64 l, .int .i64 w, .int .i64 b, .int .i64 m] := by
  obtain ⟨m, hl, hq⟩ := trod_fields fields_pol h
  rw [size_pol] at hl
  match cs, hl with
  | [c0, c1, c2, c3, c4], _ =>
    obtain ⟨y0, h0⟩ := hq 0 _ rfl
    obtain ⟨y1, h1⟩ := hq 1 _ rfl
    obtain ⟨y2, h2⟩ := hq 2 _ rfl
    obtain ⟨y3, h3⟩ := hq 3 _ rfl
    obtain ⟨y4, h4⟩ := hq 4 _ rfl
    rw [size_bool] at h0
    rw [size_int] at h1 h2 h3 h4
    obtain ⟨v0, e0, _⟩ := DataW.trod_bool Try.underlying4 h0
    obtain ⟨v1, e1, _⟩ := of_int h1
    obtain ⟨v2, e2, _⟩ := of_int h2
    obtain ⟨v3, e3, _⟩ := of_int h3
    obtain ⟨v4, e4, _⟩ := of_int h4
    obtain rfl : c0 = .bool v0 := by simpa using e0
    obtain rfl : c1 = .int .i64 v1 := by simpa using e1
    obtain rfl : c2 = .int .i64 v2 := by simpa using e2
    obtain rfl : c3 = .int .i64 v3 := by simpa using e3
    obtain rfl : c4 = .int .i64 v4 := by simpa using e4
    exact ⟨v0, v1, v2, v3, v4, rfl⟩
theorem of_task (h : DataW.trod enc Try.prog W base sp held n 37 cs = some y) : ∃ t : Tsk, cs = elT.cs t := by
  obtain ⟨m, hl, hq⟩ := trod_fields fields_task h
  rw [size_task] at hl
  match cs, hl with
  | [c0, c1, c2, c3, c4, c5], _ =>
    obtain ⟨y0, h0⟩ := hq 0 _ rfl
    obtain ⟨y1, h1⟩ := hq 1 _ rfl
    rw [size_pol] at h0
    rw [size_int] at h1
    obtain ⟨a, l, w, b, mo, e0⟩ := of_pol h0
    obtain ⟨v1, e1, _⟩ := of_int h1
    simp only [List.drop_zero, List.take_succ_cons, List.take_zero, List.cons.injEq, and_true] at e0
    obtain ⟨rfl, rfl, rfl, rfl, rfl⟩ := e0
    obtain rfl : c5 = .int .i64 v1 := by simpa using e1
    exact ⟨⟨a, l, w, b, mo, v1⟩, rfl⟩
theorem at_tasks (h : DataW.trod enc Try.prog W base sp held n 25 cs = some y) : ∃ ao m c l, cs = [.slice ao m c] ∧ AtE elT W ao m c l := by
  rcases Go.Deep.open_slice Try.underlying25 h with ⟨hcs, _⟩ | ⟨a, len, cap, m, n, D, Ql, hcs, hb, hl, hm, hmm, hx, hi⟩
  · exact ⟨none, 0, 0, [], hcs, AtE.empty elT W⟩
  · have hml : len ≤ m := by rw [hmm]; split <;> omega
    have each : ∀ i, i < len → ∃ x : Tsk, ∀ q u, (elT.cs x)[q]? = some u → W.cell? ((a.add (i * 6)).add q) = some u := by
      intro i hil
      obtain ⟨cs', hc, ht⟩ := hi i (by omega)
      rw [size_task] at hc
      obtain ⟨x, rfl⟩ := of_task ht
      obtain ⟨_, hl2, hat⟩ := World.cells?_some hc
      refine ⟨x, fun q u hu => ?_⟩
      have hq : q < 6 := by have := (List.getElem?_eq_some_iff.1 hu).1; exact this
      rw [hat q hq]; exact hu
    obtain ⟨X, hX⟩ := Go.Deep.choose_lt each
    refine ⟨some a, len, cap, (List.range len).map X, hcs, ⟨by simp, hl, hm, nofun, fun j x hx => ?_⟩⟩
    have hj : j < len := by have := (List.getElem?_eq_some_iff.1 hx).1; simpa using this
    obtain rfl : x = X j := by rw [List.getElem?_map, List.getElem?_range hj] at hx; simpa using hx.symm
    have hp := lt_of_cell (hX 0 (by omega) 0 _ rfl)
    rw [Nat.zero_mul, add_zero, add_zero] at hp
    obtain ⟨b, off, sp⟩ := a
    obtain ⟨hb2, rfl⟩ := hp
    refine ⟨b, off, rfl, hb2, fun i u hu => ?_⟩
    have h1 := hX j hj i u hu
    simp only [add_plain] at h1
    exact h1
theorem of_spec (h : DataW.trod enc Try.prog W base sp held n 27 cs = some y) : ∃ (s : Sp) (p : Pl), cs = (spC s p).toList ∧ SpAt W s p := by
  obtain ⟨m, hl, hq⟩ := trod_fields fields_spec h
  rw [size_spec] at hl
  match cs, hl with
  | [c0, c1, c2, c3, c4, c5], _ =>
    obtain ⟨y0, h0⟩ := hq 0 _ rfl
    obtain ⟨y1, h1⟩ := hq 1 _ rfl
    obtain ⟨y2, h2⟩ := hq 2 _ rfl
    obtain ⟨y3, h3⟩ := hq 3 _ rfl
    rw [size_int] at h0
    rw [size_res] at h1
    rw [size_ints] at h2
    rw [size_tasks] at h3
    obtain ⟨v0, e0, _⟩ := of_int h0
    obtain ⟨m1, hl1, hq1⟩ := trod_fields fields_res h1
    obtain ⟨z0, k0⟩ := hq1 0 _ rfl
    obtain ⟨z1, k1⟩ := hq1 1 _ rfl
    obtain ⟨z2, k2⟩ := hq1 2 _ rfl
    rw [size_int] at k0 k1 k2
    obtain ⟨a1, f1, _⟩ := of_int k0
    obtain ⟨a2, f2, _⟩ := of_int k1
    obtain ⟨a3, f3, _⟩ := of_int k2
    obtain ⟨po, pn, pc, ps, e2, hP⟩ := at_ints h2
    obtain ⟨uo, un, uc, ts, e3, hT⟩ := at_tasks h3
    obtain rfl : c0 = .int .i64 v0 := by simpa using e0
    obtain rfl : c1 = .int .i64 a1 := by simpa using f1
    obtain rfl : c2 = .int .i64 a2 := by simpa using f2
    obtain rfl : c3 = .int .i64 a3 := by simpa using f3
    obtain rfl : c4 = .slice po pn pc := by simpa using e2
    obtain rfl : c5 = .slice uo un uc := by simpa using e3
    exact ⟨⟨v0, a1, a2, a3, ps, ts⟩, ⟨po, pn, pc, uo, un, uc⟩, rfl, ⟨hP, hT⟩⟩
end
section
variable {H : Type} {enc : TypeId × Value → H} {W : World} {v : Value} {d : DataW H} {p : List MemPlace} {r : Reach} {b0 : Nat}
theorem open_spec (hv : Value.okWide Try.prog W r b0 27 v) (h : DataW.Trod enc Try.prog W 0 (fun _ => true) true 27 v d p) : ∃ (s : Sp) (q : Pl), SpAt W s q ∧ v = .agg (spC s q) := by
  obtain ⟨cs, rfl, _⟩ := okWide_struct Try.underlying27 hv
  obtain ⟨fuel, hf⟩ := h
  obtain ⟨s, q, e, hc⟩ := of_spec hf
  have e' : cs = spC s q := by
    have : (Value.agg cs).cells = cs := by simp [Value.cells]
    rw [this] at e
    exact Array.toList_inj.1 e
  exact ⟨s, q, hc, by rw [e']⟩
instance : Inhabited Sp := ⟨⟨0, 0, 0, 0, [], []⟩⟩
instance : Inhabited Pl := ⟨⟨none, 0, 0, none, 0, 0⟩⟩
/-- A slice of specifications in memory. -/
structure Sps (W : World) (ao : Option Addr) (len cap : Nat) (X : Nat → Sp × Pl) : Prop where
  cell : ∀ i, i < len → ∃ g o, ao = some ⟨g, o, none⟩ ∧ g < W.heap.size ∧ (∀ q u, (spC (X i).1 (X i).2)[q]? = some u → W.cell? ⟨g, o + i * 6 + q, none⟩ = some u) ∧ SpAt W (X i).1 (X i).2
  le : len ≤ cap
  max : cap ≤ maxLen
theorem open_specs (hv : Value.okWide Try.prog W r b0 48 v) (h : DataW.Trod enc Try.prog W 0 (fun _ => true) true 48 v d p) : ∃ ao len cap X, v = .slice ao len cap ∧ Sps W ao len cap X := by
  obtain ⟨ao, l, c, rfl⟩ := okWide_slice (e := 27) (by kernel_rfl) hv
  obtain ⟨fuel, hf⟩ := h
  rcases Go.Deep.open_slice (e := 27) (by kernel_rfl) hf with ⟨hcs, _⟩ | ⟨a, len, cap, m, n, D, Ql, hcs, hb, hl, hm, hmm, hx, hi⟩
  · simp only [Value.cells, List.cons.injEq, Value.slice.injEq, and_true] at hcs
    obtain ⟨rfl, rfl, rfl⟩ := hcs
    exact ⟨none, 0, 0, fun _ => (⟨0, 0, 0, 0, [], []⟩, ⟨none, 0, 0, none, 0, 0⟩), rfl, fun i hi => absurd hi (by omega), Nat.le_refl _, Nat.zero_le _⟩
  · simp only [Value.cells, List.cons.injEq, Value.slice.injEq, and_true] at hcs
    obtain ⟨rfl, rfl, rfl⟩ := hcs
    have hmc : m = c := by simpa using hmm
    have each : ∀ i, i < l → ∃ x : Sp × Pl, (∀ q u, (spC x.1 x.2)[q]? = some u → W.cell? ((a.add (i * 6)).add q) = some u) ∧ SpAt W x.1 x.2 := by
      intro i hil
      obtain ⟨cs', hc, ht⟩ := hi i (by omega)
      rw [size_spec] at hc
      obtain ⟨s, q, rfl, hS⟩ := of_spec ht
      obtain ⟨_, hl2, hat⟩ := World.cells?_some hc
      refine ⟨(s, q), fun j u hu => ?_, hS⟩
      have hq : j < 6 := by have := (Array.getElem?_eq_some_iff.1 hu).1; exact this
      rw [hat j hq, Array.getElem?_toList]; exact hu
    obtain ⟨X, hX⟩ := Go.Deep.choose_lt each
    refine ⟨some a, l, c, X, rfl, fun i hil => ?_, hl, hm⟩
    have hp := lt_of_cell ((hX 0 (by omega)).1 0 _ rfl)
    rw [Nat.zero_mul, add_zero, add_zero] at hp
    obtain ⟨b, off, sp⟩ := a
    obtain ⟨hb2, rfl⟩ := hp
    refine ⟨b, off, rfl, hb2, fun q u hu => ?_, (hX i hil).2⟩
    have h1 := (hX i hil).1 q u hu
    simp only [add_plain] at h1
    exact h1
end
end Go.Proofs.YtngojgocplmedaaR.Ls
