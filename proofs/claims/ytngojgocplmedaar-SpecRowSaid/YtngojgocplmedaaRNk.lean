/-
  The numbers of a specification as the program writes them (package spec's numbers, layer 13).
-/
import Derived.Test.YtngojgocplmedaaRNa
import Derived.Test.YtngojgocplmedaaRNc
namespace Go.Proofs.YtngojgocplmedaaR.Ls
open Go.RowKit Go.Proofs.YtngojgocplmedaaR.Mem Go.Proofs.YtngojgocplmedaaR.Bx Go.Proofs.YtngojgocplmedaaR.In Go.Proofs.YtngojgocplmedaaR.Sp Go.Proofs.YtngojgocplmedaaR.Nr Go.Proofs.YtngojgocplmedaaR.Pk Go.ChangeShapes Go.WideShapes Go.ChangeAt
set_option linter.unusedVariables false

theorem at1 {w : World} {N : Nat} (hN : w.heap.size = N) (x : Int) (hx : isI x) : At (w.alloc (.cells #[.int .i64 x] 3)) (some ⟨N, 0, none⟩) 1 1 [x] := by
  subst hN
  exact (New.lit (B := 0) w (Nat.zero_le _) [x] (fun y hy => by rw [List.mem_singleton.1 hy]; exact hx) (by simp [maxLen])).at
theorem at6 {w : World} {N : Nat} (hN : w.heap.size = N) {l : List Int} {a b c d e f : Int} (hl : l = [a, b, c, d, e, f]) (hf : Fit l) : At (w.alloc (.cells #[.int .i64 a, .int .i64 b, .int .i64 c, .int .i64 d, .int .i64 e, .int .i64 f] 3)) (some ⟨N, 0, none⟩) 6 6 l := by
  subst hN; subst hl
  exact (New.lit (B := 0) w (Nat.zero_le _) [a, b, c, d, e, f] hf (by simp [maxLen])).at
theorem new5 {w : World} {N : Nat} (hN : w.heap.size = N) {a b c d e : Int} (hf : Fit [a, b, c, d, e]) : New N (w.alloc (.cells #[.int .i64 a, .int .i64 b, .int .i64 c, .int .i64 d, .int .i64 e] 3)) (some ⟨N, 0, none⟩) 5 5 [a, b, c, d, e] := by
  subst hN
  exact New.lit w (Nat.le_refl _) [a, b, c, d, e] hf (by simp [maxLen])
theorem fit_of {l : List Int} (h : off62 l = false) : Fit l := fun x hx => by have := off62_no.1 h x hx; unfold isI; omega
theorem fit_sub {l k : List Int} (h : Fit l) (hs : ∀ x ∈ k, x ∈ l) : Fit k := fun x hx => h x (hs x hx)
theorem num_step {wr : World} {B N c : Nat} {bo : Option Addr} {l : List Int} (h : New B wr bo N c l) (hB : B ≤ wr.heap.size) (T P : Obj) {a d e f g i : Int} (hf : Fit [a, d, e, f, g, i]) :
    New B (((wr.alloc T).alloc P).alloc (.cells #[.int .i64 a, .int .i64 d, .int .i64 e, .int .i64 f, .int .i64 g, .int .i64 i] 3)).drew bo N c l ∧ At (((wr.alloc T).alloc P).alloc (.cells #[.int .i64 a, .int .i64 d, .int .i64 e, .int .i64 f, .int .i64 g, .int .i64 i] 3)).drew (some ⟨wr.heap.size + 1 + 1, 0, none⟩) 6 6 [a, d, e, f, g, i] ∧
      B ≤ (((wr.alloc T).alloc P).alloc (.cells #[.int .i64 a, .int .i64 d, .int .i64 e, .int .i64 f, .int .i64 g, .int .i64 i] 3)).drew.heap.size ∧ Kept wr (((wr.alloc T).alloc P).alloc (.cells #[.int .i64 a, .int .i64 d, .int .i64 e, .int .i64 f, .int .i64 g, .int .i64 i] 3)).drew := by
  have k : Kept wr (((wr.alloc T).alloc P).alloc (.cells #[.int .i64 a, .int .i64 d, .int .i64 e, .int .i64 f, .int .i64 g, .int .i64 i] 3)).drew := ((((Kept.refl wr).alloc T).alloc P).alloc _).drew
  exact ⟨h.kept k, (at6 (w := (wr.alloc T).alloc P) (by simp) rfl hf).kept (Kept.refl _).drew, Nat.le_trans hB k.size, k⟩
set_option maxHeartbeats 2000000 in
set_option maxRecDepth 100000 in
theorem numbers_c {w : World} {s : Sp} {p : Pl} (h : SpAt w s p) (g : s.good) : Calls Try.prog 26 #[.agg (spC s p)] w fun e w' => ∃ bo N c, e = .returned (.slice bo N c) ∧ New w.heap.size w' bo N c (Sp.ints s) ∧ Kept w w' := by
  have hF := fit_of (good_ints g)
  have hp8 := g.few
  have ht4 := g.most
  obtain ⟨po, pn, pc, ro, tn, tc⟩ := p
  obtain ⟨x0, x1, x2, x3, ports, tasks⟩ := s
  have hP : At w po pn pc ports := h.ports
  have hT : AtE elT w ro tn tc tasks := h.tasks
  have hpn : pn ≤ 8 := by rw [← hP.len]; exact hp8
  have htn : tn ≤ 4 := by rw [← hT.len]; exact ht4
  have hI : Sp.ints ⟨x0, x1, x2, x3, ports, tasks⟩ = [x0, x1, x2, x3, (pn : Int)] ++ ports ++ [(tn : Int)] ++ irows tasks := by
    unfold Sp.ints; simp only [hP.len, hT.len]
  rw [hI] at hF
  rw [hI]
  have FF := Lib.hid hF
  have HP := Lib.hid (And.intro hP hT)
  unfold spC
  simp only []
  have OB := Lib.hid ((Own.nil w).box #[.int .i64 x0, .int .i64 x1, .int .i64 x2, .int .i64 x3, .slice po pn pc, .slice ro tn tc] 27)
  obtain ⟨wb, hwb⟩ : ∃ u, u = w.alloc (.cells #[.int .i64 x0, .int .i64 x1, .int .i64 x2, .int .i64 x3, .slice po pn pc, .slice ro tn tc] 27) := ⟨_, rfl⟩
  have hsz : wb.heap.size = w.heap.size + 1 := by rw [hwb]; simp
  have K0 := Lib.hid (show Kept w wb from hwb ▸ (Kept.refl w).alloc _)
  have N0 := Lib.hid (new5 (w := wb) hsz (fit_sub hF (by simp)) (a := x0) (b := x1) (c := x2) (d := x3) (e := (pn : Int)))
  have A0 := Lib.hid ((hP.kept K0.out).kept ((Kept.refl wb).alloc (.cells #[.int .i64 x0, .int .i64 x1, .int .i64 x2, .int .i64 x3, .int .i64 (pn : Int)] 3)))
  have BX := Lib.hid (show ∀ u, Kept wb u → u.cell? ⟨w.heap.size, 5, none⟩ = some (.slice ro tn tc) from fun u k => (box6 (k.block (hwb ▸ OB.out.boxed 0 rfl))).1.2.2.2.2.2)
  have hk0 := Lib.hid ((Kept.refl wb).alloc (.cells #[.int .i64 x0, .int .i64 x1, .int .i64 x2, .int .i64 x3, .int .i64 (pn : Int)] 3))
  have HS := Lib.hid hsz
  rw [hwb] at N0 A0 BX hk0
  subst hwb
  clear hF hI hP hT h g hp8 ht4 hsz
  go_enter Try.func26, Try.ntmps26
  go_wp2_with (first
    | (at_builtin; refine wpList_app N1.out A1.out (by have := K1.out.size; simp at this ⊢; omega) rfl (by omega) rfl (.tmp 27) (.tmp 31) rfl rfl rfl ?_; intro b2 c2 w2 hnew hg hb; have K2 := Lib.hid (hb _ (by simp) (K1.out.alloc (.cells #[.int .i64 (tn : Int)] 3))); have N2 := Lib.hid hnew; clear hnew hg hb; have d5 := BX.out w2 K2.out)
    | (at_builtin; refine wpList_app N0.out A0.out (by simp) rfl (by omega) rfl (.tmp 23) (.tmp 25) rfl rfl rfl ?_; intro b1 c1 w1 hnew hg hb; have K1 := Lib.hid (hb _ (by simp) hk0.out); have N1 := Lib.hid (hnew.kept ((Kept.refl w1).alloc (.cells #[.int .i64 (tn : Int)] 3))); have A1 := Lib.hid (at1 (w := w1) rfl (tn : Int) (FF.out (tn : Int) (by simp))); have c5 := BX.out w1 K1.out; clear hnew hg hb))
  clear c5 N0 A0 hk0 N1 A1 K1
  go_loopw [3, 36] (fun v i wr => ∃ (j N c : Nat) (bo : Option Addr), j ≤ tn ∧ N = 5 + pn + 1 + 6 * j ∧ i = .int .i64 j ∧ v = .slice bo N c ∧ New (w.heap.size + 1) wr bo N c ([x0, x1, x2, x3, (pn : Int)] ++ ports ++ [(tn : Int)] ++ irows (tasks.take j)) ∧ Kept (w.alloc (.cells #[.int .i64 x0, .int .i64 x1, .int .i64 x2, .int .i64 x3, .slice po pn pc, .slice ro tn tc] 27)) wr) (fun _ i _ => tn - (RowKit.intOf i).toNat)
  case atStart => exact ⟨0, _, c2, b2, Nat.zero_le _, by omega, rfl, rfl, by have := N2.out; simpa [irows] using this, K2.out⟩
  case round =>
    obtain ⟨j, N, c, bo, hj, hN, rfl, rfl, hnew, hk⟩ := hrel
    have N30 : N ≤ 38 := by omega
    have R := Lib.hid (And.intro hN (And.intro hnew hk))
    clear hN hnew hk
    by_cases hlt : j < tn
    · obtain ⟨x, g, o, hx, rfl, hg, hcell⟩ := ((HP.out.2.kept K0.out).kept R.out.2.2).get hlt
      obtain ⟨a0, a1, a2, a3, a4, a5⟩ := task_cells hcell
      have HX := Lib.hid hx
      clear hx hcell
      obtain ⟨al, lim, win, bas, most, prb⟩ := x
      simp only [] at a0 a1 a2 a3 a4 a5
      go_wp2_with fail
      go_region
      have hfit := fit_sub FF.out (k := Tsk.ints ⟨al, lim, win, bas, most, prb⟩) (fun y hy => by
        have : y ∈ irows tasks := List.mem_flatMap.2 ⟨_, List.mem_of_getElem? HX.out, hy⟩
        simp [this])
      have HI := Lib.hid hfit
      clear hfit
      cases al with
      | true =>
        have S := Lib.hid (num_step R.out.2.1 (by have := R.out.2.2.size; simpa using this) (.cells #[.bool true, .int .i64 lim, .int .i64 win, .int .i64 bas, .int .i64 most, .int .i64 prb] 37) (.cells #[.bool true, .int .i64 lim, .int .i64 win, .int .i64 bas, .int .i64 most] 35) (a := 1) (d := lim) (e := win) (f := bas) (g := most) (i := prb) HI.out)
        go_wp2_with (at_builtin; refine wpList_app S.out.1 S.out.2.1 S.out.2.2.1 rfl (by omega) rfl (.tmp 44) (.tmp 56) rfl rfl rfl ?_; intro b3 c3 w3 hnew hg hb; have K3 := Lib.hid (hb _ (by simp) (R.out.2.2.trans S.out.2.2.2)); have N3 := Lib.hid hnew; clear hnew hg hb)
        go_roundw
        case rel =>
          refine ⟨j + 1, N + 6, c3, b3, hlt, by have := R.out.1; omega, by go_num, rfl, ?_, K3.out⟩
          have hh := N3.out
          rw [List.take_succ_eq_snoc HX.out, irows_snoc, ← List.append_assoc]
          exact hh
        case measure => simp [RowKit.intOf]; omega
      | false =>
        have S := Lib.hid (num_step R.out.2.1 (by have := R.out.2.2.size; simpa using this) (.cells #[.bool false, .int .i64 lim, .int .i64 win, .int .i64 bas, .int .i64 most, .int .i64 prb] 37) (.cells #[.bool false, .int .i64 lim, .int .i64 win, .int .i64 bas, .int .i64 most] 35) (a := 0) (d := lim) (e := win) (f := bas) (g := most) (i := prb) HI.out)
        go_wp2_with (at_builtin; refine wpList_app S.out.1 S.out.2.1 S.out.2.2.1 rfl (by omega) rfl (.tmp 44) (.tmp 56) rfl rfl rfl ?_; intro b3 c3 w3 hnew hg hb; have K3 := Lib.hid (hb _ (by simp) (R.out.2.2.trans S.out.2.2.2)); have N3 := Lib.hid hnew; clear hnew hg hb)
        go_roundw
        case rel =>
          refine ⟨j + 1, N + 6, c3, b3, hlt, by have := R.out.1; omega, by go_num, rfl, ?_, K3.out⟩
          have hh := N3.out
          rw [List.take_succ_eq_snoc HX.out, irows_snoc, ← List.append_assoc]
          exact hh
        case measure => simp [RowKit.intOf]; omega
    · obtain rfl : j = tn := by omega
      have ht : tasks.take j = tasks := List.take_of_length_le (by rw [HP.out.2.len]; exact Nat.le_refl _)
      have hh := R.out.2.1
      rw [ht] at hh
      have HH := Lib.hid hh
      clear hh ht
      go_wp2
      go_ret
      exact ⟨bo, N, c, rfl, HH.out.base (by omega), K0.out.trans R.out.2.2⟩
end Go.Proofs.YtngojgocplmedaaR.Ls
