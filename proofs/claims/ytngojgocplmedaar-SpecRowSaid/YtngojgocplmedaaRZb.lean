/-
  Tasks of a specification as elements of lists; specifications compared and copied (the kit's CopyTaskSpecs, EqualTaskSpecs, CopySpec, EqualSpec).
-/
import Derived.Test.YtngojgocplmedaaRZa
import Derived.Test.YtngojgocplmedaaRVa
import Derived.Test.YtngojgocplmedaaRYf
import Derived.BigRegion
import Derived.BigQuiet
import Derived.Deep.RegionWith
namespace Go.Proofs.YtngojgocplmedaaR.Ls
open Go.RowKit Go.Proofs.YtngojgocplmedaaR.Mem Go.Proofs.YtngojgocplmedaaR.Bx Go.Proofs.YtngojgocplmedaaR.In Go.Proofs.YtngojgocplmedaaR.Sp Go.ChangeShapes Go.WideShapes Go.ChangeAt
set_option linter.unusedVariables false

def elT : El Tsk where
  T := 37
  S := 25
  k := 6
  bytes := 48
  zero := .agg #[.bool false, .int .i64 0, .int .i64 0, .int .i64 0, .int .i64 0, .int .i64 0]
  cs t := [.bool t.always, .int .i64 t.lim, .int .i64 t.win, .int .i64 t.bas, .int .i64 t.most, .int .i64 t.prb]
theorem elT_fine : elT.fine where
  under := Try.underlying25
  el := by kernel_rfl
  info := by kernel_rfl
  size := fun _ => by kernel_rfl
  zc := by kernel_rfl
  pos := by decide
  few := by decide
  len := fun _ => rfl
  one := fun x u hu => by
    simp only [elT, List.mem_cons, List.not_mem_nil, or_false] at hu
    rcases hu with rfl | rfl | rfl | rfl | rfl | rfl <;> rfl
theorem task_cells {w : World} {g o j : Nat} {x : Tsk} (h : ∀ i u, (elT.cs x)[i]? = some u → w.cell? ⟨g, o + j * elT.k + i, none⟩ = some u) :
    w.cell? ⟨g, o + j * 6, none⟩ = some (.bool x.always) ∧ w.cell? ⟨g, o + j * 6 + 1, none⟩ = some (.int .i64 x.lim) ∧ w.cell? ⟨g, o + j * 6 + 2, none⟩ = some (.int .i64 x.win) ∧ w.cell? ⟨g, o + j * 6 + 3, none⟩ = some (.int .i64 x.bas) ∧ w.cell? ⟨g, o + j * 6 + 4, none⟩ = some (.int .i64 x.most) ∧ w.cell? ⟨g, o + j * 6 + 5, none⟩ = some (.int .i64 x.prb) :=
  ⟨h 0 _ rfl, h 1 _ rfl, h 2 _ rfl, h 3 _ rfl, h 4 _ rfl, h 5 _ rfl⟩
def sameT (a b : Tsk) : Bool := a.always == b.always && (a.lim == b.lim && (a.win == b.win && (a.bas == b.bas && (a.most == b.most && a.prb == b.prb))))
theorem sameT_iff (a b : Tsk) : sameT a b = true ↔ a = b := by
  cases a; cases b
  simp [sameT]
theorem neqT (a b : Tsk) (w : World) :
    (binOp .neq 37 (.agg #[.bool a.always, .int .i64 a.lim, .int .i64 a.win, .int .i64 a.bas, .int .i64 a.most, .int .i64 a.prb]) (.agg #[.bool b.always, .int .i64 b.lim, .int .i64 b.win, .int .i64 b.bas, .int .i64 b.most, .int .i64 b.prb])).run Try.prog w = .ok (.bool (!sameT a b)) w := by
  unfold sameT
  simp [go_sem, Try.underlying37, Try.underlying35]
  (repeat' split) <;> simp_all
set_option maxRecDepth 100000 in
theorem eqt_c {w : World} {ao bo : Option Addr} {n cap m c : Nat} {l k : List Tsk} (h : AtE elT w ao n cap l) (s : AtE elT w bo m c k) : Calls Try.prog 35 #[.slice ao n cap, .slice bo m c] w fun e w' => e = .returned (.bool (decide (l = k))) ∧ Kept w w' := by
  have hn := h.n62
  have hm := s.n62
  unfold maxLen at hn hm
  have H := Lib.hid h
  have S := Lib.hid s
  clear h s
  go_enter Try.func35, Try.ntmps35
  by_cases hnm : n = m
  · subst hnm
    have n0 : ((n : Int) != (n : Int)) = false := by simp
    go_wp2
    go_loopw [5] (fun i wr => ∃ j : Nat, j ≤ n ∧ i = .int .i64 j ∧ Kept w wr ∧ l.take j = k.take j) (fun i _ => n - (RowKit.intOf i).toNat)
    case atStart => exact ⟨0, Nat.zero_le _, rfl, Kept.refl _, rfl⟩
    case round =>
      obtain ⟨j, hj, rfl, hk, hsame⟩ := hrel
      have HE := Lib.hid hsame
      clear hsame
      by_cases hlt : j < n
      · obtain ⟨x, g, o, hx, rfl, hg, hc⟩ := (H.out.kept hk).get hlt
        obtain ⟨y, g2, o2, hy, rfl, hg2, hc2⟩ := (S.out.kept hk).get hlt
        obtain ⟨a0, a1, a2, a3, a4, a5⟩ := task_cells hc
        obtain ⟨b0, b1, b2, b3, b4, b5⟩ := task_cells hc2
        have HX := Lib.hid (And.intro hx hy)
        have hq := neqT x y
        obtain ⟨q, hq2⟩ : ∃ q, q = sameT x y := ⟨_, rfl⟩
        rw [← hq2] at hq
        have HQ := Lib.hid hq2
        clear hx hy hc hc2 hq2
        cases q with
        | true =>
          go_wp2_with fail
          go_quiet (fail)
          go_wp2_with fail
          go_roundw
          case rel => exact ⟨j + 1, by omega, by go_num, hk.drewN nq, take_eq_step HE.out HX.out.1 (by rw [(sameT_iff x y).1 HQ.out.symm]; exact HX.out.2)⟩
          case measure => simp [RowKit.intOf]; omega
        | false =>
          go_wp2_with fail
          go_quiet (fail)
          go_wp2_with fail
          go_ret
          exact ⟨by rw [decide_eq_false (ne_at HX.out.1 HX.out.2 (fun e => by have := (sameT_iff x y).2 e; rw [← HQ.out] at this; cases this))]; rfl, hk.drewN nq⟩
      · obtain rfl : j = n := by omega
        go_wp2
        go_ret
        refine ⟨?_, hk⟩
        have e := HE.out
        rw [List.take_of_length_le (Nat.le_of_eq H.out.len), List.take_of_length_le (Nat.le_of_eq S.out.len)] at e
        rw [decide_eq_true e]; rfl
  · have n0 : ((n : Int) != (m : Int)) = true := by simp; omega
    have hne : ¬ l = k := fun e => hnm (by rw [← H.out.len, ← S.out.len, e])
    have HN := Lib.hid hne
    clear hne
    go_wp2
    go_ret
    exact ⟨by rw [decide_eq_false HN.out]; rfl, Kept.refl _⟩
set_option maxRecDepth 100000 in
theorem copyt_c {w : World} {ao : Option Addr} {n cap : Nat} {l : List Tsk} (h : AtE elT w ao n cap l) (hn : n ≤ 1000000) : Calls Try.prog 25 #[.slice ao n cap] w fun e w' => ∃ bo c, e = .returned (.slice bo n c) ∧ NewE elT w.heap.size w' bo n c l ∧ Kept w w' := by
  have H := Lib.hid h
  clear h
  go_enter Try.func25, Try.ntmps25
  go_wp2_with (at_builtin; refine wpList_appE elT_fine (NewE.empty elT w.heap.size w) H.out (Nat.le_refl _) (Nat.zero_add n) hn rfl _ _ rfl rfl rfl ?_; intro bo c w1 hnew hg hb)
  go_ret
  exact ⟨bo, c, rfl, by simpa using hnew, hb w (Nat.le_refl _) (Kept.refl w)⟩
end Go.Proofs.YtngojgocplmedaaR.Ls
