/-
  What SlotsDoes takes from its calls. (Written by gen_slotsdoes.py.)
-/
import Derived.Test.YtmmlgnoicecgfaaKr
import Derived.Test.YtmmlgnoicecgfaaKi
namespace Go.Proofs.Ytmmlgnoicecgfaa.Hk
open Go.RowKit Go.Proofs.Ytmmlgnoicecgfaa.Mem Go.Proofs.Ytmmlgnoicecgfaa.Pk Go.Proofs.Ytmmlgnoicecgfaa.Dz Go.Proofs.Ytmmlgnoicecgfaa.Fz
theorem pend_writes7 (s : Ds) (k : Int) (d : ByteArray) : (s.writes k d).2.pend.length ≤ s.pend.length + 1 := by
  unfold Ds.writes
  split
  · simp
  · split
    · simp
    · split <;> simp [Ds.wrote, Ds.burnt]
theorem pend_saves (s : Ds) (c : Hd) : (saves s c).2.pend.length ≤ s.pend.length + 1 := by
  unfold saves
  split
  · simp
  · split
    · simp
    · split
      · exact pend_writes7 _ _ _
      · unfold Ds.syncs
        split
        · exact pend_writes7 _ _ _
        · simp [Ds.burnt, Ds.settled]
theorem pair_ok {w0 w : World} {X F D G R : Nat} {s : Ds} {L : List As} (h : Own w0 (pair X F D G R s L) w) : s.ok := by
  obtain ⟨_, ⟨M1, M2, pv, hd, _⟩, _⟩ := h.see 2 rfl
  exact hd.ok
theorem step_box {w0 u : World} {X F D G R B : Nat} {s1 s2 : Ds} {d : Nat} {q bo a f m i : Int} {keep : Nat} {torn bytes : Int} (h : Own w0 [boxA X #[.pointer (some ⟨F, 0, none⟩), .pointer (some ⟨D, 0, none⟩), .pointer (some ⟨G, 0, none⟩), .pointer (some ⟨R, 0, none⟩)] 38, rk G R s1, dk F D s2, boxA B #[.int .u8 (d : Int), .int .i64 q, .int .i64 bo, .int .i64 a, .int .i64 f, .int .i64 m, .int .i64 i, .int .u64 (keep : Int), .int .i64 torn, .int .i64 bytes] 61] u) (W : World) (hW : Kept u W) :
    W.cell? ⟨X, 1, none⟩ = some (.pointer (some ⟨D, 0, none⟩)) ∧ W.cell? ⟨X, 3, none⟩ = some (.pointer (some ⟨R, 0, none⟩)) ∧ W.cell? ⟨B, 0, none⟩ = some (.int .u8 (d : Int)) ∧ W.cell? ⟨B, 1, none⟩ = some (.int .i64 q) ∧ W.cell? ⟨B, 2, none⟩ = some (.int .i64 bo) ∧ W.cell? ⟨B, 3, none⟩ = some (.int .i64 a) ∧ W.cell? ⟨B, 4, none⟩ = some (.int .i64 f) ∧ W.cell? ⟨B, 5, none⟩ = some (.int .i64 m) ∧ W.cell? ⟨B, 6, none⟩ = some (.int .i64 i) ∧ W.cell? ⟨B, 7, none⟩ = some (.int .u64 (keep : Int)) ∧ W.cell? ⟨B, 8, none⟩ = some (.int .i64 torn) ∧ W.cell? ⟨B, 9, none⟩ = some (.int .i64 bytes) := by
  have hw := h.later hW
  obtain ⟨_, h1, _, h3, _⟩ := box4 (Own.boxed hw 0 rfl)
  have hb := Own.boxed hw 3 rfl
  exact ⟨h1, h3, cell_of_row _ _ _ _ _ _ hb, cell_of_row _ _ _ _ _ _ hb, cell_of_row _ _ _ _ _ _ hb, cell_of_row _ _ _ _ _ _ hb, cell_of_row _ _ _ _ _ _ hb, cell_of_row _ _ _ _ _ _ hb, cell_of_row _ _ _ _ _ _ hb, cell_of_row _ _ _ _ _ _ hb, cell_of_row _ _ _ _ _ _ hb, cell_of_row _ _ _ _ _ _ hb⟩
end Go.Proofs.Ytmmlgnoicecgfaa.Hk
