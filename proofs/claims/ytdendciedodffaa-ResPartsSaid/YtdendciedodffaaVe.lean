/-
  Sums: the program's and the specification's, of any slice that lies in memory.
-/
import Derived.Test.YtdendciedodffaaVd
import Derived.BigRegion
import Derived.Deep.RegionWith
import Derived.RegionTactic
import Derived.BigQuiet
import Derived.Laws.Rows
import Derived.Outline
import Derived.Deep.RegionHeld3
namespace Go.Proofs.Ytdendciedodffaa.Re
open Go.RowKit Go.Proofs.Ytdendciedodffaa.Mem Go.Proofs.Ytdendciedodffaa.Bx Go.ChangeShapes Go.WideShapes Go.ChangeAt

def sumN (X : Nat → Am) : Nat → Am × Bool
  | 0 => (none3, true)
  | n + 1 => if (sumN X n).2 = true then adds (sumN X n).1 (X n) else (none3, false)
theorem sumN_succ {X : Nat → Am} {n : Nat} {s : Am} (h : sumN X n = (s, true)) : sumN X (n + 1) = adds s (X n) := by
  show (if (sumN X n).2 = true then adds (sumN X n).1 (X n) else (none3, false)) = _
  rw [h]; rfl
theorem sumN_off {X : Nat → Am} {n : Nat} (h : (sumN X n).2 = false) (k : Nat) : sumN X (n + k + 1) = (none3, false) := by
  induction k with
  | zero =>
    show (if (sumN X n).2 = true then adds (sumN X n).1 (X n) else (none3, false)) = _
    rw [if_neg (by rw [h]; decide)]
  | succ k ih =>
    show (if (sumN X (n + k + 1)).2 = true then adds (sumN X (n + k + 1)).1 (X (n + k + 1)) else (none3, false)) = _
    rw [ih]; rfl
theorem adds_off {a b : Am} (h : (adds a b).2 = false) : adds a b = (none3, false) := by
  unfold adds joins at h ⊢
  split at h
  · simp at h
  · rename_i h0; rw [if_neg h0]
theorem sumN_no {X : Nat → Am} {n : Nat} (h : (sumN X n).2 = false) : sumN X n = (none3, false) := by
  cases n with
  | zero => simp [sumN] at h
  | succ n =>
    have e : sumN X (n + 1) = if (sumN X n).2 = true then adds (sumN X n).1 (X n) else (none3, false) := rfl
    rw [e] at h ⊢
    split
    · rename_i h0; rw [if_pos h0] at h; exact adds_off h
    · rfl
theorem sumN_past {X : Nat → Am} {n m : Nat} (h : (sumN X n).2 = false) (hm : n ≤ m) : sumN X m = (none3, false) := by
  by_cases e : n = m
  · subst e; exact sumN_no h
  · obtain ⟨k, rfl⟩ : ∃ k, m = n + k + 1 := ⟨m - n - 1, by omega⟩
    exact sumN_off h k
/-- The slice at ao has the amounts X 0 .. X (n-1). -/
def Amx (w : World) (ao : Option Addr) (n : Nat) (X : Nat → Am) : Prop :=
  ∀ j, j < n → ∃ g o, ao = some ⟨g, o, none⟩ ∧ g < w.heap.size ∧ w.cell? ⟨g, o + j * 3, none⟩ = some (.int .i64 (X j).c) ∧ w.cell? ⟨g, o + j * 3 + 1, none⟩ = some (.int .i64 (X j).m) ∧ w.cell? ⟨g, o + j * 3 + 2, none⟩ = some (.int .i64 (X j).d)
theorem Amx.kept {w v : World} {ao : Option Addr} {n : Nat} {X : Nat → Am} (h : Amx w ao n X) (k : Kept w v) : Amx v ao n X := fun j hj => by
  obtain ⟨g, o, e, hg, h0, h1, h2⟩ := h j hj
  exact ⟨g, o, e, Nat.lt_of_lt_of_le hg k.size, (Kept.cell k (p := ⟨g, _, none⟩) hg).trans h0, (Kept.cell k (p := ⟨g, _, none⟩) hg).trans h1, (Kept.cell k (p := ⟨g, _, none⟩) hg).trans h2⟩
theorem own2z (w : World) (T : TypeId) : Own w [boxA (w.heap.size + 1) #[.int .i64 0, .int .i64 0, .int .i64 0] T, boxA w.heap.size #[.int .i64 0, .int .i64 0, .int .i64 0] T] ((w.alloc (.cells #[.int .i64 0, .int .i64 0, .int .i64 0] T)).alloc (.cells #[.int .i64 0, .int .i64 0, .int .i64 0] T)) := own2 w #[.int .i64 0, .int .i64 0, .int .i64 0] #[.int .i64 0, .int .i64 0, .int .i64 0] T
set_option maxRecDepth 100000 in
theorem sum_c (ao : Option Addr) (n cap : Nat) (X : Nat → Am) (hn : n < 1152921504606846976) (w : World) (hX : Amx w ao n X) : Calls Try.prog 18 #[.slice ao n cap] w fun e w' => e = .returned (.tuple #[.agg #[.int .i64 (sumN X n).1.c, .int .i64 (sumN X n).1.m, .int .i64 (sumN X n).1.d], .bool (sumN X n).2]) ∧ Kept w w' := by
  go_enter Try.func18, Try.ntmps18
  have h0 := own2z w 23
  have HX := Lib.hid hX
  clear hX
  go_wp2
  go_loopw [11] (fun i wr => ∃ j : Nat, ∃ s : Am, j ≤ n ∧ i = .int .i64 j ∧ sumN X j = (s, true) ∧ Own w [boxA (w.heap.size + 1) #[.int .i64 s.c, .int .i64 s.m, .int .i64 s.d] 23, boxA w.heap.size #[.int .i64 0, .int .i64 0, .int .i64 0] 23] wr) (fun i _ => n - (intOf i).toNat)
  case atStart => exact ⟨0, none3, Nat.zero_le _, rfl, rfl, h0⟩
  case round =>
    clear h0
    obtain ⟨j, s, hj, rfl, hs, h1⟩ := hrel
    have HS := Lib.hid hs
    clear hs
    obtain ⟨⟨s0, s1, s2⟩, _⟩ := box3 (h1.boxed 0 rfl)
    obtain ⟨⟨z0, z1, z2⟩, fz⟩ := box3 (h1.boxed 1 rfl)
    have fz0 := fz 0
    have fz1 := fz 1
    have fz2 := fz 2
    clear fz
    by_cases hlt : j < n
    · obtain ⟨g, o, rfl, hg, x0, x1, x2⟩ := (HX.out.kept h1.kept) j hlt
      obtain ⟨x, hx⟩ : ∃ x, x = X j := ⟨_, rfl⟩
      rw [← hx] at x0 x1 x2
      have HXJ := Lib.hid hx
      clear hx
      have hc := add_c s x
      obtain ⟨R, hR⟩ : ∃ R, R = adds s x := ⟨_, rfl⟩
      rw [← hR] at hc
      have HR := Lib.hid hR
      clear hR z0 z1 z2 fz0 fz1 fz2
      obtain ⟨r, q⟩ := R
      have h2 := h1.box #[.int .i64 x.c, .int .i64 x.m, .int .i64 x.d] 23
      obtain ⟨⟨a0, a1, a2⟩, _⟩ := box3 (h2.boxed 1 rfl)
      cases q with
      | false =>
        go_wp2_with (go_at_call 9; (with_reducible refine (hc _).mono ?_); rintro e w2 ⟨rfl, k2⟩; have h3 := (h2.later k2).box #[.int .i64 r.c, .int .i64 r.m, .int .i64 r.d] 23; obtain ⟨⟨z0, z1, z2⟩, fz⟩ := box3 (h3.boxed 3 rfl); have fz0 := fz 0; have fz1 := fz 1; have fz2 := fz 2; clear fz)
        refine bodyPost_ret (v := .tuple #[.agg #[.int .i64 0, .int .i64 0, .int .i64 0], .bool false]) (by simp [results, Try.results18, go_sem, z0, z1, z2]) rfl ⟨?_, (((h3.boxset 3 rfl 0 (.int .i64 0)).boxset 3 rfl 1 (.int .i64 0)).boxset 3 rfl 2 (.int .i64 0)).kept⟩
        have e1 := sumN_succ HS.out
        rw [← HXJ.out, ← HR.out] at e1
        rw [sumN_past (n := j + 1) (by rw [e1]) (by omega)]; rfl
      | true =>
        go_wp2_with (go_at_call 9; (with_reducible refine (hc _).mono ?_); rintro e w2 ⟨rfl, k2⟩; have h3 := (h2.later k2).box #[.int .i64 r.c, .int .i64 r.m, .int .i64 r.d] 23; obtain ⟨⟨z0, z1, z2⟩, fz⟩ := box3 (h3.boxed 2 rfl); have fz0 := fz 0; have fz1 := fz 1; have fz2 := fz 2; clear fz)
        go_roundw
        case rel => exact ⟨j + 1, r, by omega, by go_num, by rw [sumN_succ HS.out, ← HXJ.out, ← HR.out], ((((h3.boxset 2 rfl 0 (.int .i64 r.c)).boxset 2 rfl 1 (.int .i64 r.m)).boxset 2 rfl 2 (.int .i64 r.d))).tail.tail⟩
        case measure => simp [intOf]; omega
    · obtain rfl : j = n := by omega
      go_wp2
      exact bodyPost_ret (v := .tuple #[.agg #[.int .i64 s.c, .int .i64 s.m, .int .i64 s.d], .bool true]) (by simp [results, Try.results18, go_sem, z0, z1, z2]) rfl ⟨by rw [HS.out], (((h1.boxset 1 rfl 0 (.int .i64 s.c)).boxset 1 rfl 1 (.int .i64 s.m)).boxset 1 rfl 2 (.int .i64 s.d)).kept⟩
set_option maxRecDepth 100000 in
theorem rsum_c (ao : Option Addr) (n cap : Nat) (X : Nat → Am) (hn : n < 1152921504606846976) (w : World) (hX : Amx w ao n X) : Calls Try.prog 19 #[.slice ao n cap] w fun e w' => e = .returned (.tuple #[.agg #[.int .i64 (sumN X n).1.c, .int .i64 (sumN X n).1.m, .int .i64 (sumN X n).1.d], .bool (sumN X n).2]) ∧ Kept w w' := by
  go_enter Try.func19, Try.ntmps19
  have h0 := own2z w 23
  have HX := Lib.hid hX
  clear hX
  go_wp2
  go_loopw [5, 6] (fun q i wr => ∃ j : Nat, ∃ s : Am, ∃ b : Bool, j ≤ n ∧ i = .int .i64 j ∧ q = .bool b ∧ sumN X j = (s, b) ∧ Own w [boxA (w.heap.size + 1) #[.int .i64 s.c, .int .i64 s.m, .int .i64 s.d] 23, boxA w.heap.size #[.int .i64 0, .int .i64 0, .int .i64 0] 23] wr) (fun _ i _ => n - (intOf i).toNat)
  case atStart => exact ⟨0, none3, true, Nat.zero_le _, rfl, rfl, rfl, h0⟩
  case round =>
    clear h0
    obtain ⟨j, s, b, hj, rfl, rfl, hs, h1⟩ := hrel
    have HS := Lib.hid hs
    clear hs
    obtain ⟨⟨s0, s1, s2⟩, fs⟩ := box3 (h1.boxed 0 rfl)
    obtain ⟨⟨z0, z1, z2⟩, fz⟩ := box3 (h1.boxed 1 rfl)
    have fz0 := fz 0
    have fz1 := fz 1
    have fz2 := fz 2
    have fs0 := fs 0
    have fs1 := fs 1
    have fs2 := fs 2
    clear fz fs
    by_cases hlt : j < n
    · cases b with
      | false =>
        go_wp2
        refine bodyPost_ret (v := .tuple #[.agg #[.int .i64 s.c, .int .i64 s.m, .int .i64 s.d], .bool false]) (by simp [results, Try.results19, go_sem, z0, z1, z2]) rfl ⟨?_, (((h1.boxset 1 rfl 0 (.int .i64 s.c)).boxset 1 rfl 1 (.int .i64 s.m)).boxset 1 rfl 2 (.int .i64 s.d)).kept⟩
        have e1 := sumN_no (X := X) (n := j) (by rw [HS.out])
        have e2 : s = none3 := by rw [HS.out] at e1; exact congrArg Prod.fst e1
        rw [sumN_past (n := j) (by rw [HS.out]) (by omega), e2]
      | true =>
        obtain ⟨g, o, rfl, hg, x0, x1, x2⟩ := (HX.out.kept h1.kept) j hlt
        obtain ⟨x, hx⟩ : ∃ x, x = X j := ⟨_, rfl⟩
        rw [← hx] at x0 x1 x2
        have HXJ := Lib.hid hx
        clear hx
        have hc := radd_c s x
        obtain ⟨R, hR⟩ : ∃ R, R = adds s x := ⟨_, rfl⟩
        rw [← hR] at hc
        have HR := Lib.hid hR
        clear hR z0 z1 z2 fz0 fz1 fz2
        obtain ⟨r, q⟩ := R
        go_wp2_with fail
        go_region_with (go_at_call 10; (with_reducible refine (hc _).mono ?_); rintro e w2 ⟨rfl, k2⟩; have h3 := h1.drew.later k2; obtain ⟨_, fz⟩ := box3 (h3.boxed 0 rfl); have fz0 := fz 0; have fz1 := fz 1; have fz2 := fz 2; clear fz)
        all_goals
          go_wp2_with fail
          go_roundw
          case rel => exact ⟨j + 1, r, q, by omega, by go_num, rfl, by rw [sumN_succ HS.out, ← HXJ.out, ← HR.out], (((h3.boxset 0 rfl 0 (.int .i64 r.c)).boxset 0 rfl 1 (.int .i64 r.m)).boxset 0 rfl 2 (.int .i64 r.d))⟩
          case measure => simp [intOf]; omega
    · obtain rfl : j = n := by omega
      clear fs0 fs1 fs2
      cases b <;> (
        go_wp2_with fail
        refine bodyPost_ret (v := .tuple #[.agg #[.int .i64 s.c, .int .i64 s.m, .int .i64 s.d], .bool _]) (by simp [results, Try.results19, go_sem, z0, z1, z2]; rfl) rfl ⟨by rw [HS.out], (((h1.boxset 1 rfl 0 (.int .i64 s.c)).boxset 1 rfl 1 (.int .i64 s.m)).boxset 1 rfl 2 (.int .i64 s.d)).kept⟩)
end Go.Proofs.Ytdendciedodffaa.Re
