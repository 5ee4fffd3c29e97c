/-
  The statements' own 'one' and 'Plain' of layer 13: the specification and the configuration of the document's examples.
-/
import Derived.Test.YtngojgocplmedaaRZj
namespace Go.Proofs.YtngojgocplmedaaR.Ls
open Go.RowKit Go.Proofs.YtngojgocplmedaaR.Mem Go.Proofs.YtngojgocplmedaaR.Bx Go.Proofs.YtngojgocplmedaaR.In Go.Proofs.YtngojgocplmedaaR.Sp Go.ChangeShapes Go.WideShapes Go.ChangeAt
set_option linter.unusedVariables false

def oneS : Sp := ⟨7, 4, 4, 4, [80], [⟨false, 2, 20, 2, 8, 0⟩]⟩
theorem oneS_good : oneS.good := (sp_say oneS).1 (by decide)
def plainF : Cf := ⟨10, 10, 10, 2, 48, 2, 2, 5, 10, 2, 3⟩
theorem plainF_says : cfSays plainF = 0 := by decide
set_option maxRecDepth 100000 in
theorem plain_c (w : World) : Calls Try.prog 52 #[] w fun e w' => e = .returned (.agg (cfC plainF)) ∧ Kept w w' := by
  have hb := heap_alloc_new w (.cells (cfC plainF) 43)
  unfold cfC plainF at hb ⊢
  go_enter Try.func52, Try.ntmps52
  go_wp2
  have c0 := cell_of_row _ _ 0 _ _ _ hb
  have c1 := cell_of_row _ _ 1 _ _ _ hb
  have c2 := cell_of_row _ _ 2 _ _ _ hb
  have c3 := cell_of_row _ _ 3 _ _ _ hb
  have c4 := cell_of_row _ _ 4 _ _ _ hb
  have c5 := cell_of_row _ _ 5 _ _ _ hb
  have c6 := cell_of_row _ _ 6 _ _ _ hb
  have c7 := cell_of_row _ _ 7 _ _ _ hb
  have c8 := cell_of_row _ _ 8 _ _ _ hb
  have c9 := cell_of_row _ _ 9 _ _ _ hb
  have c10 := cell_of_row _ _ 10 _ _ _ hb
  refine bodyPost_ret (v := .agg #[.int .i64 10, .int .i64 10, .int .i64 10, .int .i64 2, .int .i64 48, .int .i64 2, .int .i64 2, .int .i64 5, .int .i64 10, .int .i64 2, .int .i64 3]) (by simp [results, Try.results52, go_sem, c0, c1, c2, c3, c4, c5, c6, c7, c8, c9, c10]) rfl ?_
  exact ⟨rfl, (Kept.refl w).alloc _⟩
set_option maxHeartbeats 1000000 in
set_option maxRecDepth 100000 in
theorem one_c (w : World) : Calls Try.prog 51 #[] w fun e w' => ∃ q : Pl, e = .returned (.agg (spC oneS q)) ∧ SpNew w.heap.size w' oneS q ∧ q.pn = 1 ∧ q.tn = 1 ∧ Kept w w' := by
  have z1 : (w.alloc (.cells #[.int .i64 7, .int .i64 4, .int .i64 4, .int .i64 4, .slice (some ⟨w.heap.size + 1, 0, none⟩) 1 1, .slice (some ⟨w.heap.size + 1 + 1, 0, none⟩) 1 1] 27)).heap.size = w.heap.size + 1 := by simp
  have z2 : ((w.alloc (.cells #[.int .i64 7, .int .i64 4, .int .i64 4, .int .i64 4, .slice (some ⟨w.heap.size + 1, 0, none⟩) 1 1, .slice (some ⟨w.heap.size + 1 + 1, 0, none⟩) 1 1] 27)).alloc (.cells #[.int .i64 80] 3)).heap.size = w.heap.size + 1 + 1 := by simp
  have hb0 := heap_alloc_new w (.cells #[.int .i64 7, .int .i64 4, .int .i64 4, .int .i64 4, .slice (some ⟨w.heap.size + 1, 0, none⟩) 1 1, .slice (some ⟨w.heap.size + 1 + 1, 0, none⟩) 1 1] 27)
  have k1 : Kept (w.alloc (.cells #[.int .i64 7, .int .i64 4, .int .i64 4, .int .i64 4, .slice (some ⟨w.heap.size + 1, 0, none⟩) 1 1, .slice (some ⟨w.heap.size + 1 + 1, 0, none⟩) 1 1] 27)) (((w.alloc (.cells #[.int .i64 7, .int .i64 4, .int .i64 4, .int .i64 4, .slice (some ⟨w.heap.size + 1, 0, none⟩) 1 1, .slice (some ⟨w.heap.size + 1 + 1, 0, none⟩) 1 1] 27)).alloc (.cells #[.int .i64 80] 3)).alloc (.cells #[.bool false, .int .i64 2, .int .i64 20, .int .i64 2, .int .i64 8, .int .i64 0] 37)) := ((Kept.refl _).alloc _).alloc _
  have hb := k1.block hb0
  have kw : Kept w (((w.alloc (.cells #[.int .i64 7, .int .i64 4, .int .i64 4, .int .i64 4, .slice (some ⟨w.heap.size + 1, 0, none⟩) 1 1, .slice (some ⟨w.heap.size + 1 + 1, 0, none⟩) 1 1] 27)).alloc (.cells #[.int .i64 80] 3)).alloc (.cells #[.bool false, .int .i64 2, .int .i64 20, .int .i64 2, .int .i64 8, .int .i64 0] 37)) := ((Kept.refl w).alloc _).trans k1
  have n1 : New w.heap.size (((w.alloc (.cells #[.int .i64 7, .int .i64 4, .int .i64 4, .int .i64 4, .slice (some ⟨w.heap.size + 1, 0, none⟩) 1 1, .slice (some ⟨w.heap.size + 1 + 1, 0, none⟩) 1 1] 27)).alloc (.cells #[.int .i64 80] 3)).alloc (.cells #[.bool false, .int .i64 2, .int .i64 20, .int .i64 2, .int .i64 8, .int .i64 0] 37)) (some ⟨w.heap.size + 1, 0, none⟩) 1 1 [80] := by
    have h := (New.lit (B := w.heap.size) (w.alloc (.cells #[.int .i64 7, .int .i64 4, .int .i64 4, .int .i64 4, .slice (some ⟨w.heap.size + 1, 0, none⟩) 1 1, .slice (some ⟨w.heap.size + 1 + 1, 0, none⟩) 1 1] 27)) (by simp) [80] (fun x hx => by obtain rfl := List.mem_singleton.1 hx; decide) (by simp [maxLen])).kept ((Kept.refl _).alloc (.cells #[.bool false, .int .i64 2, .int .i64 20, .int .i64 2, .int .i64 8, .int .i64 0] 37))
    rw [z1] at h; exact h
  have n2 : NewE elT w.heap.size (((w.alloc (.cells #[.int .i64 7, .int .i64 4, .int .i64 4, .int .i64 4, .slice (some ⟨w.heap.size + 1, 0, none⟩) 1 1, .slice (some ⟨w.heap.size + 1 + 1, 0, none⟩) 1 1] 27)).alloc (.cells #[.int .i64 80] 3)).alloc (.cells #[.bool false, .int .i64 2, .int .i64 20, .int .i64 2, .int .i64 8, .int .i64 0] 37)) (some ⟨w.heap.size + 1 + 1, 0, none⟩) 1 1 [⟨false, 2, 20, 2, 8, 0⟩] := by
    have h := NewE.lit elT_fine (B := w.heap.size) ((w.alloc (.cells #[.int .i64 7, .int .i64 4, .int .i64 4, .int .i64 4, .slice (some ⟨w.heap.size + 1, 0, none⟩) 1 1, .slice (some ⟨w.heap.size + 1 + 1, 0, none⟩) 1 1] 27)).alloc (.cells #[.int .i64 80] 3)) (by simp; omega) [⟨false, 2, 20, 2, 8, 0⟩] (by simp [maxLen])
    rw [z2] at h; exact h
  have HN := Lib.hid (And.intro n1 (And.intro n2 kw))
  clear n1 n2 kw k1 hb0 z1 z2
  go_enter Try.func51, Try.ntmps51
  go_wp2
  obtain ⟨⟨c0, c1, c2, c3, c4, c5⟩, _⟩ := box6 hb
  refine bodyPost_ret (v := .agg #[.int .i64 7, .int .i64 4, .int .i64 4, .int .i64 4, .slice (some ⟨w.heap.size + 1, 0, none⟩) 1 1, .slice (some ⟨w.heap.size + 1 + 1, 0, none⟩) 1 1]) (by simp [results, Try.results51, go_sem, c0, c1, c2, c3, c4, c5]) rfl ?_
  exact ⟨⟨some ⟨w.heap.size + 1, 0, none⟩, 1, 1, some ⟨w.heap.size + 1 + 1, 0, none⟩, 1, 1⟩, rfl, ⟨HN.out.1, HN.out.2.1⟩, rfl, rfl, HN.out.2.2⟩
end Go.Proofs.YtngojgocplmedaaR.Ls
