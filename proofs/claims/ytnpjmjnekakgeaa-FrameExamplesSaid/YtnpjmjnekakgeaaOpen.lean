/-
  Arguments opened: what is so of any slice of structs.
-/
import Derived.Test.YtnpjmjnekakgeaaBut
import Derived.Deep.Slices
import Derived.ProofKit
import Derived.OpenShut
import Derived.Carry
namespace Go.Proofs.Ytnpjmjnekakgeaa.Mem
open Go.RowKit Go.ChangeShapes Go.WideShapes Go.ChangeAt

theorem lt_of_cell {W : World} {a : Addr} {v : Value} (h : W.cell? a = some v) : a.block < W.heap.size ∧ a.spot = none := by
  unfold World.cell? at h
  cases hb : W.heap[a.block]? with
  | none => rw [hb] at h; cases h
  | some o =>
    refine ⟨(Array.getElem?_eq_some_iff.1 hb).1, ?_⟩
    rw [hb] at h
    cases o with
    | cells c t f =>
      cases hs : a.spot with
      | none => rfl
      | some _ => simp [hs] at h
    | _ => simp at h
section
variable {H : Type} {enc : TypeId × Value → H} {P : Program} {w : World} {base : Nat} {spare : Nat → Bool} {held : Bool}
/-- Types and places of a struct's fields. -/
def fieldsOf (P : Program) (t : TypeId) : Option (List (TypeId × Nat)) :=
  (P.underlying t).bind fun d => match d with | .struct fs => some (fs.toList.map fun f => (f.type, f.offset)) | _ => none
theorem trod_fields {t : TypeId} {L : List (TypeId × Nat)} {fuel : Nat} {cs : List Value} {x : DataW H × List MemPlace} (hL : fieldsOf P t = some L) (h : DataW.trod enc P w base spare held fuel t cs = some x) :
    ∃ n, cs.length = P.cellsOf t ∧ ∀ (j : Nat) (q : TypeId × Nat), L[j]? = some q → ∃ y, DataW.trod enc P w base spare held n q.1 ((cs.drop q.2).take (P.cellsOf q.1)) = some y := by
  unfold fieldsOf at hL
  cases hu : P.underlying t with
  | none => rw [hu] at hL; cases hL
  | some d =>
    rw [hu] at hL
    cases d with
    | struct fs =>
      have hL' : L = fs.toList.map fun f => (f.type, f.offset) := by simpa using hL.symm
      obtain ⟨xs, n, _, _, hl, hx, hf⟩ := DataW.trod_struct hu h
      refine ⟨n, hl, fun j q hq => ?_⟩
      rw [hL', List.getElem?_map] at hq
      cases hj : fs.toList[j]? with
      | none => rw [hj] at hq; cases hq
      | some f =>
        rw [hj] at hq
        obtain rfl : (f.type, f.offset) = q := by simpa using hq
        have hj' : fs[j]? = some f := by simpa using hj
        have hlt : j < fs.size := (Array.getElem?_eq_some_iff.1 hj').1
        exact ⟨xs[j]'(by omega), by rw [hf j f hj']; exact List.getElem?_eq_getElem (by omega)⟩
    | _ => simp at hL
end
theorem add_zero (a : Addr) : a.add 0 = a := by unfold Addr.add; simp
end Go.Proofs.Ytnpjmjnekakgeaa.Mem
