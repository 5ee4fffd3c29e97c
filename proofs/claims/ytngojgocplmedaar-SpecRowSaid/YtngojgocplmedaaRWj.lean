/-
  Arguments opened: a slice of numbers, a slice of slices of numbers.
-/
import Derived.Test.YtngojgocplmedaaRWa
import Derived.Deep.Matrix
import Derived.OpenShut
namespace Go.Proofs.YtngojgocplmedaaR.In
open Go.RowKit Go.Proofs.YtngojgocplmedaaR.Mem Go.ChangeShapes Go.WideShapes Go.ChangeAt

theorem plain_of {W : World} {a : Addr} {v : Value} (h : W.cell? (a.add 0) = some v) : ∃ g o, a = ⟨g, o, none⟩ ∧ g < W.heap.size := by
  have hp := lt_of_cell h
  rw [add_zero] at hp
  obtain ⟨b, off, sp⟩ := a
  obtain ⟨hb, rfl⟩ := hp
  exact ⟨b, off, rfl, hb⟩
theorem at_of {W : World} {a : Addr} {len cap : Nat} {zs : List Int} (hl : len ≤ cap) (hm : cap ≤ maxLen) (hz : zs.length = cap) (hc : ∀ i, i < cap → W.cell? (a.add i) = some (.int .i64 (zs.getD i 0))) (hw : ∀ n ∈ zs, (Lit.int .i64 n).wf = true) : At W (some a) len cap (zs.take len) := by
  refine ⟨by rw [List.length_take]; omega, hl, hm, nofun, fun x hx => ?_, fun j x hx => ?_⟩
  · have b := bounds_i64 (hw x (List.mem_of_mem_take hx))
    unfold isI; omega
  · have hj : j < len := by have := (List.getElem?_eq_some_iff.1 hx).1; rw [List.length_take] at this; omega
    rw [List.getElem?_take_of_lt hj] at hx
    obtain ⟨g, o, rfl, hg⟩ := plain_of (hc 0 (by omega))
    refine ⟨g, o, rfl, hg, ?_⟩
    have h := hc j (by omega)
    rw [add_plain] at h
    rw [h, List.getD_eq_getElem?_getD, hx]; rfl
theorem open_list {H : Type} {enc : TypeId × Value → H} {W : World} {v : Value} {d : DataW H} {p : List MemPlace} {r : Reach} {b0 : Nat} (hv : Value.okWide Try.prog W r b0 24 v) (h : DataW.Trod enc Try.prog W 0 (fun _ => true) true 24 v d p) :
    ∃ ao n cap l, v = .slice ao n cap ∧ At W ao n cap l := by
  obtain ⟨ao, l, c, rfl⟩ := okWide_slice Try.underlying24 hv
  obtain ⟨fuel, hf⟩ := h
  rcases Go.ChangeShapes.open_ints Try.underlying24 Try.underlying3 (by kernel_rfl) hf with ⟨hcs, _⟩ | ⟨a, len, cap, zs, hcs, _, hl, hm, hz, _, hc, hw⟩
  · simp only [Value.cells, List.cons.injEq, Value.slice.injEq, and_true] at hcs
    obtain ⟨rfl, rfl, rfl⟩ := hcs
    exact ⟨none, 0, 0, [], rfl, At.empty W⟩
  · simp only [Value.cells, List.cons.injEq, Value.slice.injEq, and_true] at hcs
    obtain ⟨rfl, rfl, rfl⟩ := hcs
    simp only [if_true] at hz
    exact ⟨_, _, _, _, rfl, at_of hl hm hz (fun i hi => hc i (by omega)) hw⟩
end Go.Proofs.YtngojgocplmedaaR.In
