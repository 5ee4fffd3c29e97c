/-
  Add and Sub, as the program does them (combine with the function of one amount), and the specification's functions.
-/
import Derived.Test.YtngojgocplmedaaRVa
namespace Go.Proofs.YtngojgocplmedaaR.Re
open Go.RowKit Go.Proofs.YtngojgocplmedaaR.Mem Go.Proofs.YtngojgocplmedaaR.Bx Go.ChangeShapes Go.WideShapes Go.ChangeAt

theorem fine_bound {n : Int} (h : fine n = true) : 0 ≤ n ∧ n ≤ 1099511627776 := fine_iff.1 h
theorem says_good {x : Am} (h : x.good = true) : x.says = 0 := by unfold Am.says; rw [if_pos h]
theorem says_bad {x : Am} (h : x.good = false) : x.says = 3 := by unfold Am.says; rw [if_neg (by rw [h]; decide)]
theorem own3 (w : World) (a b c : Array Value) (T : TypeId) : Own w [boxA (w.heap.size + 1 + 1) c T, boxA (w.heap.size + 1) b T, boxA w.heap.size a T] (((w.alloc (.cells a T)).alloc (.cells b T)).alloc (.cells c T)) := by
  have h := (own2 w a b T).box c T
  have e : ((w.alloc (.cells a T)).alloc (.cells b T)).heap.size = w.heap.size + 1 + 1 := by simp
  rw [e] at h
  exact h
theorem joins_a {f : Am → Am → Am} {a b : Am} (h : a.good = false) : joins f a b = (none3, false) := by unfold joins; rw [if_neg (by rw [h]; simp)]
theorem joins_b {f : Am → Am → Am} {a b : Am} (h : b.good = false) : joins f a b = (none3, false) := by unfold joins; rw [if_neg (by rw [h]; simp)]
theorem joins_p {f : Am → Am → Am} {a b : Am} (h : (f a b).good = false) : joins f a b = (none3, false) := by unfold joins; rw [if_neg (by rw [h]; simp)]
theorem joins_ok {f : Am → Am → Am} {a b : Am} (ha : a.good = true) (hb : b.good = true) (h : (f a b).good = true) : joins f a b = (f a b, true) := by unfold joins; rw [if_pos ⟨ha, hb, h⟩]

end Go.Proofs.YtngojgocplmedaaR.Re
