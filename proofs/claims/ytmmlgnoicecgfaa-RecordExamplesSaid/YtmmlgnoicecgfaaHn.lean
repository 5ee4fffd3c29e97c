/-
  RecordExamples: what its reads return.
-/
import Derived.Test.YtmmlgnoicecgfaaHm
namespace Go.Proofs.Ytmmlgnoicecgfaa.Rc
open Go Go.RowKit Go.ChangeShapes Go.WideShapes Go.ChangeAt Go.Proofs.Ytmmlgnoicecgfaa.Mem Go.Proofs.Ytmmlgnoicecgfaa.Pk Go.Proofs.Ytmmlgnoicecgfaa.Fk Go.Proofs.Ytmmlgnoicecgfaa.Dz Go.Proofs.Ytmmlgnoicecgfaa.Fz
set_option linter.unusedVariables false

theorem o_fx {w0 w : World} {L : List As} (h : Mem.Own w0 L w) (i : Nat) {F D : Nat} {s : Ds} (hi : L[i]? = some (dk F D s)) (hok : s.ok) {a e l b : Int} {f : Fr} {E : Int} (hf : fetch s a e l b = (f, E)) (ha : -9223372036854775808 ≤ a ∧ a ≤ 9223372036854775807) (he : -9223372036854775808 ≤ e ∧ e ≤ 9223372036854775807) :
    Calls Try.prog 15 #[.pointer (some ⟨D, 0, none⟩), .int .i64 a, .int .i64 e, .int .i64 l, .int .i64 b] w fun ed w' => ed = .returned (.tuple #[.agg #[.int .i64 f.boot, .int .i64 f.lsn, .int .i64 f.part, .int .i64 f.parts, .int .u8 (f.kind : Int), .string f.data], .int .i64 E]) ∧ Mem.Own w0 L w' := by
  have := o_fetch h i hi hok a e l b ha he
  rw [hf] at this
  exact this
def xS : ByteArray := repB 120 50
def xX : Nat → ByteArray := sec 1 5 2 xS
def xs0 : Ds := fresh 10 .idle
def xs1 : Ds := laid xs0 3 xX 2
theorem x_num : num 1 5 := ⟨by decide, by decide, by decide, by decide⟩
theorem x_size : xS.size = 50 := repB_size _ _
theorem x_parts : parts xS.size = 2 := by rw [x_size]; decide
theorem x_80 (i : Nat) (hi : i < 2) : (xX i).size = 80 := sec_size x_num (by rw [x_size]; decide) (by rw [x_parts]; exact hi)
theorem xs0_ok : xs0.ok := ok_fresh (n := 10) (f := .idle) (by decide) (by decide) trivial
theorem xs1_ok : xs1.ok := laid_ok xs0_ok (by decide) x_80
theorem xs1_n : xs1.n = 10 := laid_n _ _ _ _
theorem xs1_fu : xs1.fu = .idle := laid_fu _ _ _ _
theorem xs1_look (i : Nat) (hi : i < 2) : xs1.look (3 + i) = sec 1 5 2 xS i := by
  unfold xs1
  rw [laid_look, if_pos (by omega)]
  have e : 3 + i - 3 = i := by omega
  rw [e]; rfl
theorem xs1_at : ∀ i, i < parts xS.size → xs1.look (3 + i) = sec 1 5 2 xS i := fun i hi => xs1_look i (by rw [x_parts] at hi; exact hi)
theorem xs1_3 : xs1.look 3 = sec 1 5 2 xS 0 := xs1_look 0 (by decide)
theorem x_secs : secE 1 5 xS = 0 ∧ nS 1 5 xS = 2 := by
  obtain ⟨e1, e2⟩ := secE_ok (d := xS) (by rw [x_size]; decide) x_num
  exact ⟨e1, e2.trans x_parts⟩
theorem x_secs0 : secE 0 5 xS = 2 ∧ nS 0 5 xS = 0 := secE_bad (by rw [x_size]; decide) fun h => by have := h.b1; omega
theorem x_big : secE 0 5 (repB 120 4097) = 5 ∧ nS 0 5 (repB 120 4097) = 0 := secE_big (by rw [repB_size]; decide)
theorem x_in {t u : Nat} (h : t ≤ u) (hu : u ≤ 10) {l b : Int} : fetch xs1 t u l b = (rdF xs1.look t u l b, rdE xs1.look t u l b) := fetch_in h (by rw [xs1_n]; exact hu) (by rw [xs1_fu]; rfl)
theorem x_no {t u : Nat} (h : t ≤ u) (hu : u ≤ 10) {l b : Int} (hr : ∀ r, ¬ rdOk xs1.look t u l b r) : fetch xs1 t u l b = (Fr.nil, 12) := by
  rw [x_in h hu, (rdF_bad hr).1, (rdF_bad hr).2]
theorem x_yes {u : Nat} (h : 5 ≤ u) (hu : u ≤ 10) {b : Int} (hb : b ≤ 1) : fetch xs1 (3 : Nat) u 5 b = (⟨1, 5, 0, 2, 2, xS⟩, 0) := by
  have hr : rdOk xs1.look 3 u 5 b ⟨1, 5, 0, parts xS.size, 2, xS⟩ := rd_written x_num (by decide) (by rw [x_size]; decide) xs1_at hb (by rw [x_parts]; exact h)
  rw [x_in (by omega) hu, (rdF_ok hr).1, (rdF_ok hr).2, x_parts]
  rfl
theorem x_oth {u : Nat} {l b : Int} (h3 : 3 ≤ u) (hu : u ≤ 10) (h : l ≠ 5 ∨ 1 < b ∨ u < 5) : fetch xs1 (3 : Nat) u l b = (Fr.nil, 12) :=
  x_no h3 hu (rd_other x_num (by decide) (by rw [x_size]; decide) xs1_3 (by rw [x_parts]; exact h))
theorem fx0 : fetch xs1 3 5 5 1 = (⟨1, 5, 0, 2, 2, xS⟩, 0) := x_yes (u := 5) (by decide) (by decide) (by decide)
theorem fx1 : fetch xs1 3 4 5 1 = (Fr.nil, 12) := x_oth (u := 4) (by decide) (by decide) (.inr (.inr (by decide)))
theorem fx2 : fetch xs1 4 5 5 1 = (Fr.nil, 12) := by
  refine x_no (t := 4) (u := 5) (by decide) (by decide) (rd_head ?_)
  have e := (sec_decF (i := 1) x_num (show 2 < 256 by decide) (show xS.size ≤ 4096 by rw [x_size]; decide) (by rw [x_parts]; decide)).1
  refine .inr (.inr (.inr (.inr (.inl ?_))))
  have e4 : xs1.look 4 = sec 1 5 2 xS 1 := xs1_look 1 (by decide)
  rw [e4, e]
  show ((1 : Nat) : Int) ≠ 0
  decide
theorem fx3 : fetch xs1 3 5 6 1 = (Fr.nil, 12) := x_oth (u := 5) (by decide) (by decide) (.inl (by decide))
theorem fx4 : fetch xs1 3 5 5 2 = (Fr.nil, 12) := x_oth (u := 5) (by decide) (by decide) (.inr (.inl (by decide)))
theorem fx5 : fetch xs1 5 5 5 1 = (Fr.nil, 12) := by
  have := x_in (t := 5) (u := 5) (by decide) (by decide) (l := 5) (b := 1)
  rw [rd_same.1, rd_same.2] at this
  exact this
theorem fx6 : fetch xs1 5 4 1 1 = (Fr.nil, 3) := fetch_out (.inr (.inl (by decide)))
theorem fx7 : fetch xs1 0 999 1 1 = (Fr.nil, 3) := fetch_out (.inr (.inr (by rw [xs1_n]; decide)))
theorem fx8 : fetch xs1 (-1) 5 1 1 = (Fr.nil, 3) := fetch_out (.inl (by decide))
theorem fx9 : fetch xs1 3 10 5 (-9) = (⟨1, 5, 0, 2, 2, xS⟩, 0) := x_yes (u := 10) (by decide) (by decide) (by decide)
theorem fx10 : fetch xs1 10 10 5 1 = (Fr.nil, 12) := by
  have := x_in (t := 10) (u := 10) (by decide) (by decide) (l := 5) (b := 1)
  rw [rd_same.1, rd_same.2] at this
  exact this
def xs2 : Ds := { xs1 with fu := .armed 0 }
def xs3 : Ds := { xs1 with fu := .blown }
theorem fuse_ok {s : Ds} (h : s.ok) {f : St} (hf : f.ok) : ({ s with fu := f } : Ds).ok := ⟨h.lo, h.hi, hf, h.dur, h.pend⟩
theorem fetch_blown {s : Ds} {t u : Nat} {l b : Int} (h : t ≤ u) (hu : u ≤ s.n) : fetch { s with fu := .blown } t u l b = (Fr.nil, 10) := fetch_dead (s := { s with fu := .blown }) h hu rfl
theorem xs3_ok : xs3.ok := fuse_ok xs1_ok trivial
theorem fx11 : fetch xs3 3 5 5 1 = (Fr.nil, 10) := fetch_blown (s := xs1) (t := 3) (u := 5) (by decide) (by rw [xs1_n]; decide)
theorem px0 (w : World) : Calls Try.prog 10 #[.int .i64 0] w fun e w' => e = .returned (.tuple #[.int .i64 1, .int .i64 0]) ∧ w = w' := parts_c 0 (by decide) w
theorem px1 (w : World) : Calls Try.prog 10 #[.int .i64 44] w fun e w' => e = .returned (.tuple #[.int .i64 1, .int .i64 0]) ∧ w = w' := parts_c 44 (by decide) w
theorem px2 (w : World) : Calls Try.prog 10 #[.int .i64 45] w fun e w' => e = .returned (.tuple #[.int .i64 2, .int .i64 0]) ∧ w = w' := parts_c 45 (by decide) w
theorem px3 (w : World) : Calls Try.prog 10 #[.int .i64 4096] w fun e w' => e = .returned (.tuple #[.int .i64 94, .int .i64 0]) ∧ w = w' := by
  have := parts_c 4096 (by decide) w
  rw [show pF 4096 = 94 by simp [pF, parts], show pE 4096 = 0 by simp [pE]] at this
  exact this
theorem px4 (w : World) : Calls Try.prog 10 #[.int .i64 4097] w fun e w' => e = .returned (.tuple #[.int .i64 0, .int .i64 5]) ∧ w = w' := by
  have := parts_c 4097 (by decide) w
  rw [show pF 4097 = 0 by simp [pF], show pE 4097 = 5 by simp [pE]] at this
  exact this
theorem px5 (w : World) : Calls Try.prog 10 #[.int .i64 (-1)] w fun e w' => e = .returned (.tuple #[.int .i64 0, .int .i64 3]) ∧ w = w' := parts_c (-1) (by decide) w
set_option maxRecDepth 100000 in
set_option maxHeartbeats 2000000 in
theorem fetch_nil (w : World) : Calls Try.prog 15 #[.pointer none, .int .i64 0, .int .i64 0, .int .i64 1, .int .i64 1] w fun e w' => e = .returned (.tuple #[.agg #[.int .i64 0, .int .i64 0, .int .i64 0, .int .i64 0, .int .u8 0, .string ⟨#[]⟩], .int .i64 1]) ∧ Kept w w' := by
  have k1 : Kept w (w.alloc (.cells (fcells 0 0 0 0 0 ⟨#[]⟩) 41)) := (Kept.refl w).alloc _
  have b1 : (w.alloc (.cells (fcells 0 0 0 0 0 ⟨#[]⟩) 41)).heap[w.heap.size]? = some (.cells (fcells 0 0 0 0 0 ⟨#[]⟩) 41 (0, 0)) := World.alloc_heap_new w _
  have hry : ∀ (y : World) (tm : Array Value), y.heap[w.heap.size]? = some (.cells (fcells 0 0 0 0 0 ⟨#[]⟩) 41 (0, 0)) → Kept w y → tm[10]?.getD undef = .pointer (some ⟨w.heap.size, 0, none⟩) → tm[11]?.getD undef = .int .i64 1 → bodyPost Try.prog Try.f15 (fun e w' => e = .returned (.tuple #[.agg #[.int .i64 0, .int .i64 0, .int .i64 0, .int .i64 0, .int .u8 0, .string ⟨#[]⟩], .int .i64 1]) ∧ Kept w w') Exit.ret ⟨tm, []⟩ y := fun y tm hy ky htm htm7 => by
    obtain ⟨c0, c1, c2, c3, c4, c5⟩ := six_cells hy
    exact bodyPost_ret (v := .tuple #[.agg #[.int .i64 0, .int .i64 0, .int .i64 0, .int .i64 0, .int .u8 0, .string ⟨#[]⟩], .int .i64 1]) (by simp [results, Try.results15, go_sem, c0, c1, c2, c3, c4, c5, htm, htm7]) rfl ⟨rfl, ky⟩
  have HRY := Lib.hid hry
  have HH := Lib.hid (And.intro k1 b1)
  clear hry k1 b1
  go_enter Try.func15, Try.ntmps15
  go_wp2
  exact HRY.out _ _ HH.out.2 HH.out.1 rfl rfl
end Go.Proofs.Ytmmlgnoicecgfaa.Rc
