/-
  Amounts of resources (package res, layer 9): plain mathematics, and the contracts of the program and of its specification.
-/
import Derived.Test.YtngojgocplmedaaRBa
import Derived.Test.YtngojgocplmedaaRVb
namespace Go.Proofs.YtngojgocplmedaaR.Re
open Go.RowKit Go.Proofs.YtngojgocplmedaaR.Mem Go.Proofs.YtngojgocplmedaaR.Bx Go.ChangeShapes Go.WideShapes Go.ChangeAt

structure Am where
  c : Int
  m : Int
  d : Int
deriving DecidableEq, Inhabited
def small (n : Int) : Bool := decide (-9223372036854775808 ≤ n) && decide (n ≤ 9223372036854775807)
structure Am.ok (x : Am) : Prop where
  c : -9223372036854775808 ≤ x.c ∧ x.c ≤ 9223372036854775807
  m : -9223372036854775808 ≤ x.m ∧ x.m ≤ 9223372036854775807
  d : -9223372036854775808 ≤ x.d ∧ x.d ≤ 9223372036854775807
def fine (n : Int) : Bool := decide (0 ≤ n) && decide (n ≤ 1099511627776)
def Am.good (x : Am) : Bool := fine x.c && (fine x.m && fine x.d)
def Am.says (x : Am) : Int := if x.good then 0 else 3
def Am.plus (a b : Am) : Am := ⟨a.c + b.c, a.m + b.m, a.d + b.d⟩
def Am.less (a b : Am) : Am := ⟨a.c - b.c, a.m - b.m, a.d - b.d⟩
def Am.fits (a b : Am) : Bool := decide (a.c ≤ b.c) && (decide (a.m ≤ b.m) && decide (a.d ≤ b.d))
def none3 : Am := ⟨0, 0, 0⟩
def joins (f : Am → Am → Am) (a b : Am) : Am × Bool := if a.good = true ∧ b.good = true ∧ (f a b).good = true then (f a b, true) else (none3, false)
def adds (a b : Am) : Am × Bool := joins Am.plus a b
def subs (a b : Am) : Am × Bool := joins Am.less a b
theorem fine_iff {n : Int} : fine n = true ↔ 0 ≤ n ∧ n ≤ 1099511627776 := by unfold fine; simp
theorem fine_not {n : Int} : fine n = false ↔ ¬ (0 ≤ n ∧ n ≤ 1099511627776) := by unfold fine; simp
theorem good_iff {x : Am} : x.good = true ↔ (0 ≤ x.c ∧ x.c ≤ 1099511627776) ∧ (0 ≤ x.m ∧ x.m ≤ 1099511627776) ∧ (0 ≤ x.d ∧ x.d ≤ 1099511627776) := by
  unfold Am.good; simp [fine_iff]
theorem fits_iff {x y : Am} : x.fits y = true ↔ x.c ≤ y.c ∧ x.m ≤ y.m ∧ x.d ≤ y.d := by unfold Am.fits; simp
theorem adds_ok {a b : Am} : (adds a b).2 = true → (adds a b).1 = a.plus b ∧ a.good = true ∧ b.good = true ∧ (a.plus b).good = true := by
  unfold adds joins; split
  · rename_i h; exact fun _ => ⟨rfl, h⟩
  · exact fun h => by simp at h

/-! ### The program -/
set_option maxRecDepth 100000 in
theorem amounts_c (x : Am) (w : World) : Calls Try.prog 63 #[.agg #[.int .i64 x.c, .int .i64 x.m, .int .i64 x.d]] w fun e w' => e = .returned (.agg #[.int .i64 x.c, .int .i64 x.m, .int .i64 x.d]) ∧ Kept w w' := by
  go_enter Try.func63, Try.ntmps63
  go_wp2
  refine bodyPost_ret (v := .agg #[.int .i64 x.c, .int .i64 x.m, .int .i64 x.d]) (by simp [results, Try.results63, go_sem]) rfl ?_
  exact ⟨rfl, (((Kept.refl w).alloc _).alloc _)⟩
def Am.at (x : Am) (j : Nat) : Int := if j = 0 then x.c else if j = 1 then x.m else x.d
theorem index_c (x : Am) (j : Nat) (h : j < 3) (w : World) : (Instr.index 87 (.agg #[.int .i64 x.c, .int .i64 x.m, .int .i64 x.d]) (.int .i64 (j : Int))).run Try.prog w = .ok (.int .i64 (x.at j)) w := by
  match j, h with
  | 0, _ => rfl
  | 1, _ => rfl
  | 2, _ => rfl
theorem good_at {x : Am} (h : ∀ j, j < 3 → fine (x.at j) = true) : x.good = true := by
  unfold Am.good
  have h0 : fine x.c = true := h 0 (by decide)
  have h1 : fine x.m = true := h 1 (by decide)
  have h2 : fine x.d = true := h 2 (by decide)
  rw [h0, h1, h2]; rfl
theorem bad_at {x : Am} (j : Nat) (hj : j < 3) (h : fine (x.at j) = false) : x.good = false := by
  unfold Am.good
  match j, hj with
  | 0, _ => have h0 : fine x.c = false := h; rw [h0]; rfl
  | 1, _ => have h0 : fine x.m = false := h; rw [h0]; simp
  | 2, _ => have h0 : fine x.d = false := h; rw [h0]; simp
set_option maxRecDepth 100000 in
theorem check_c (x : Am) (w : World) : Calls Try.prog 39 #[.agg #[.int .i64 x.c, .int .i64 x.m, .int .i64 x.d]] w fun e w' => e = .returned (.int .i64 x.says) ∧ Kept w w' := by
  go_enter Try.func39, Try.ntmps39
  go_wp2_with (go_at_call 63; refine (amounts_c x _).mono ?_; rintro e w1 ⟨rfl, k1⟩)
  go_loopw [7] (fun i wr => ∃ j : Nat, j ≤ 3 ∧ i = .int .i64 j ∧ Kept w wr ∧ ∀ l, l < j → fine (x.at l) = true) (fun i _ => 3 - (intOf i).toNat)
  case atStart => exact ⟨0, by omega, rfl, ((Kept.refl w).alloc _).trans k1, fun l h => absurd h (by omega)⟩
  case round =>
    clear k1
    obtain ⟨j, hj, rfl, k2, hg⟩ := hrel
    by_cases hlt : j < 3
    · have hx := index_c x j hlt
      obtain ⟨v, hv⟩ : ∃ v, v = x.at j := ⟨_, rfl⟩
      rw [← hv] at hx
      by_cases h0 : v < 0
      · go_wp2
        go_ret
        exact ⟨by unfold Am.says; rw [bad_at j hlt (by rw [← hv]; exact fine_not.2 (by omega))]; rfl, k2⟩
      · by_cases h1 : v > 1099511627776
        · go_wp2
          go_ret
          exact ⟨by unfold Am.says; rw [bad_at j hlt (by rw [← hv]; exact fine_not.2 (by omega))]; rfl, k2⟩
        · go_wp2
          go_roundw
          case rel => exact ⟨j + 1, by omega, by go_num, k2, fun l hl => by
            by_cases e : l = j
            · subst e; rw [← hv]; exact fine_iff.2 (by omega)
            · exact hg l (by omega)⟩
          case measure => simp [intOf]; omega
    · go_wp2
      go_ret
      exact ⟨by unfold Am.says; rw [good_at (fun l hl => hg l (by omega))]; rfl, k2⟩

theorem own2 (w : World) (a b : Array Value) (T : TypeId) : Own w [boxA (w.heap.size + 1) b T, boxA w.heap.size a T] ((w.alloc (.cells a T)).alloc (.cells b T)) := by
  have h := ((Own.nil w).box a T).box b T
  have e : (w.alloc (.cells a T)).heap.size = w.heap.size + 1 := by simp
  rw [e] at h
  exact h
theorem box_at {w : World} {F : Nat} {T : TypeId} (x : Am) (h : w.heap[F]? = some (.cells #[.int .i64 x.c, .int .i64 x.m, .int .i64 x.d] T (0, 0))) (j : Nat) (hj : j < 3) : w.cell? ⟨F, j, none⟩ = some (.int .i64 (x.at j)) := by
  obtain ⟨⟨h0, h1, h2⟩, _⟩ := box3 h
  match j, hj with
  | 0, _ => exact h0
  | 1, _ => exact h1
  | 2, _ => exact h2
theorem fits_at {x y : Am} (h : ∀ j, j < 3 → x.at j ≤ y.at j) : x.fits y = true := by
  have h0 : x.c ≤ y.c := h 0 (by decide)
  have h1 : x.m ≤ y.m := h 1 (by decide)
  have h2 : x.d ≤ y.d := h 2 (by decide)
  exact fits_iff.2 ⟨h0, h1, h2⟩
theorem not_fits_at {x y : Am} (j : Nat) (hj : j < 3) (h : ¬ x.at j ≤ y.at j) : x.fits y = false := by
  by_cases e : x.fits y = true
  · obtain ⟨h0, h1, h2⟩ := fits_iff.1 e
    exact absurd (match j, hj with | 0, _ => h0 | 1, _ => h1 | 2, _ => h2) h
  · simpa using e
end Go.Proofs.YtngojgocplmedaaR.Re
