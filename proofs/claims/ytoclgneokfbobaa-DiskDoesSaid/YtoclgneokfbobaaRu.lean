/-
  The pair's act.
-/
import Derived.Test.YtoclgneokfbobaaRq
namespace Go.Proofs.Ytoclgneokfbobaa.Dz
open Go.RowKit Go.ChangeShapes Go.WideShapes Go.ChangeAt Go.Proofs.Ytoclgneokfbobaa.Mem Go.Proofs.Ytoclgneokfbobaa.Fz
set_option linter.unusedVariables false

def actCells (d : Nat) (i : Int) (b : Nat) (c : Ch) : Array Value := #[.int .u8 (d : Int), .int .i64 i, .int .u8 (b : Int), .int .u64 (c.keep : Int), .int .i64 c.torn, .int .i64 c.bytes]
theorem act_cells {w0 u : World} {X F D G R B : Nat} {d : Nat} {i : Int} {b : Nat} {c : Ch} {L : List As} (h : Own w0 (boxA B (actCells d i b c) 31 :: boxA X #[.pointer (some ⟨F, 0, none⟩), .pointer (some ⟨D, 0, none⟩), .pointer (some ⟨G, 0, none⟩), .pointer (some ⟨R, 0, none⟩)] 40 :: L) u) :
    (u.cell? ⟨X, 1, none⟩ = some (.pointer (some ⟨D, 0, none⟩)) ∧ u.cell? ⟨X, 3, none⟩ = some (.pointer (some ⟨R, 0, none⟩))) ∧ (u.cell? ⟨B, 0, none⟩ = some (.int .u8 (d : Int)) ∧ u.cell? ⟨B, 1, none⟩ = some (.int .i64 i) ∧ u.cell? ⟨B, 2, none⟩ = some (.int .u8 (b : Int))) := by
  obtain ⟨h0, h1, h2, h3, _⟩ := box4 (Own.boxed h 1 rfl)
  have hb := Own.boxed h 0 rfl
  exact ⟨⟨h1, h3⟩, cell_of_row _ _ _ _ _ _ hb, cell_of_row _ _ _ _ _ _ hb, cell_of_row _ _ _ _ _ _ hb⟩
/-- What an act ends in. -/
def Acted (w0 : World) (X G R : Nat) (m : Nat) (e : Ending) (w' : World) : Prop := e = .returned (.bool true) ∧ ∃ F D s L, Own w0 (pair X F D G R s L) w' ∧ s.pend.length ≤ m + 1
theorem pend_writes (s : Ds) (k : Int) (d : ByteArray) : (s.writes k d).2.pend.length ≤ s.pend.length + 1 := by
  unfold Ds.writes
  split
  · simp
  · split
    · simp
    · split <;> simp [Ds.wrote, Ds.burnt]
theorem pend_syncs (s : Ds) : s.syncs.2.pend.length ≤ s.pend.length + 1 := by
  unfold Ds.syncs
  split <;> simp [Ds.burnt, Ds.settled]

theorem o_rfull {w0 w : World} {L : List As} (h : Own w0 L w) (i : Nat) {G R : Nat} {s : Ds} (hi : L[i]? = some (rk G R s)) (b : Bool) : Own w0 (L.set i (rk G R { s with full := b })) (w.setCell ⟨R, 3, none⟩ (.bool b)) := by
  obtain ⟨S, ⟨Sb, pv, hd, h1, h2, h3, h4⟩, hs, back⟩ := h.open i hi
  refine back _ _ ((Off.refl S w).setc R 3 _ (.inl h2)) ⟨Sb, pv, ?_, .inl h1, .inl h2, .inl h3, fun g hg => .inl (h4 g hg)⟩
  have a := hd.apart
  refine ⟨?_, ?_, ?_, ?_, ⟨hd.ok.lo, hd.ok.hi, hd.ok.fu, hd.ok.dur, hd.ok.pend⟩⟩
  · show (w.setCell _ _).heap[G]? = _
    rw [heap_setCell_other _ _ _ _ a.RG.symm]; exact hd.rf
  · have := heap_setCell_same w R 3 _ _ (.bool b) hd.blk
    simpa [rblock] using this
  · rw [heap_setCell_other _ _ _ _ a.RS.symm]; exact hd.srow
  · exact row_at hd.prow fun g hg => heap_setCell_other _ _ _ _ (a.p g hg).1
theorem o_rcells {w0 w : World} {L : List As} (h : Own w0 L w) (i : Nat) {G R : Nat} {s : Ds} (hi : L[i]? = some (rk G R s)) : w.cell? ⟨R, 3, none⟩ = some (.bool s.full) ∧ w.frozen? ⟨R, 3, none⟩ = false := by
  obtain ⟨S, ⟨Sb, pv, hd, _⟩, _⟩ := h.see i hi
  obtain ⟨_, _, _, h3, hf⟩ := hd.cells w (Off.refl _ _)
  exact ⟨h3, hf 3⟩
end Go.Proofs.Ytoclgneokfbobaa.Dz
