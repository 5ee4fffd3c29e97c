/-
  WindowKeeps, for any starts given by their distances.
-/
import Derived.Test.YtojgbacdniagiaaTi
import Derived.Test.YtojgbacdniagiaaTy
import Derived.BigQuiet
import Derived.Deep.RegionHeld3
import Derived.Deep.CutBlock
import Derived.Deep.CutRange
namespace Go.Proofs.Ytojgbacdniagiaa.Wi
open Go.RowKit Go.Proofs.Ytojgbacdniagiaa.Mem Go.Proofs.Ytojgbacdniagiaa.Bx Go.Proofs.Ytojgbacdniagiaa.In Go.ChangeShapes Go.WideShapes Go.ChangeAt
set_option linter.unusedVariables false

theorem keeps_fact {l : List Int} (hg : Good l) {V t : Int} (h1 : 1 ≤ V) (h2 : V ≤ 200) (h3 : 0 ≤ t) (h4 : t ≤ 3000) :
    ∃ (K : List Int) (s M : Nat), Lis 12 l V t K s ∧ (∀ t', t ≤ t' → t' ≤ 4000 → ∃ C : Nat, Num 10 l V t' C ∧ Num 10 K V t' C) ∧ s = K.length ∧ s + M = l.length ∧ K = l.drop M ∧ (0 < l.length → 0 < s) ∧ (∀ (i : Nat) (x : Int), K[i]? = some x → i + 1 < s → t - V < x) := by
  refine ⟨keep V t l, (keep V t l).length, l.length - (keep V t l).length, lis_ok hg h1 (by omega) h3 (by omega) rfl, fun t' ht ht' => ⟨cnt l V t', num_ok hg h1 (by omega) (by omega) (by omega), ?_⟩, rfl, by have := keep_length V t l; omega, keep_drop hg.2, fun h => ?_, fun i x hx hi => keep_but hx hi⟩
  · have this : Num 10 (keep V t l) V t' _ := num_ok (v := V) (t := t') (keep_good hg) h1 (by omega) (by omega) (by omega)
    rwa [cnt_keep ht] at this
  · have := (keep_ne (w := V) (t := t) (l := l) (fun e => by rw [e] at h; simp at h)).1
    exact List.length_pos_iff.2 this
set_option maxHeartbeats 8000000 in
set_option maxRecDepth 100000 in
theorem keeps_core (w : World) (ao : Option Addr) (n cap : Nat) (g : List Int) (v tick later : Int) (hA : At w ao n cap g) :
    Calls Try.prog 5 #[.slice ao n cap, .int .i64 v, .int .i64 tick, .int .i64 later] w fun e w' => e = .returned (.bool true) ∧ Kept w w' := by
  obtain ⟨V, V1, V2, hV⟩ := mod_c v 200 (by omega) (by omega)
  obtain ⟨P, P1, P2, hP⟩ := mod_c tick 3001 (by omega) (by omega)
  obtain ⟨R, R1, R2, hR⟩ := mod_c later 500 (by omega) (by omega)
  have haw := awake_c
  have hst := starts_c hA
  obtain ⟨t, ht⟩ : ∃ t, P - 1 = t := ⟨_, rfl⟩
  clear hA
  go_enter Try.func5, Try.ntmps5
  go_upto_region 3 with (first
    | (go_at_call 18; (with_reducible refine hst.mono ?_); rintro e w1 ⟨bo, c, l, rfl, hn, hg, hb, h40, k1⟩)
    | (go_at_call 19; first
      | ((with_reducible refine (hV _).mono ?_); rintro e w2 ⟨rfl, hw2⟩; obtain rfl := hw2)
      | ((with_reducible refine (hP _).mono ?_); rintro e w3 ⟨rfl, hw3⟩; obtain rfl := hw3)))
  clear hst hV hP
  obtain ⟨K, s, M, c1, c2, hs, hM, hK, hpos, hbut⟩ := keeps_fact hg V1 V2 (t := t) (by omega) (by omega)
  obtain ⟨L, hL⟩ : ∃ L, L = l.length := ⟨_, rfl⟩
  rw [← hL] at hn h40 hM hpos ⊢
  have HL := Lib.hid hn.at
  have HC := Lib.hid (And.intro @c1 c2)
  have HF := Lib.hid (And.intro hL (And.intro hs (And.intro hK hbut)))
  have KK := Lib.hid k1
  have hL4 : L ≤ 10000 := by omega
  clear c1 c2 hs hK hbut hg hb hL hn k1
  go_upto_region 6 with (go_at_call 12; (with_reducible refine (HC.out.1 HL.out hL4).mono ?_); rintro e u5 ⟨r5, d5, rfl, h5, k5⟩; replace KK := Lib.hid (KK.out.trans k5); replace HL := Lib.hid (HL.out.kept k5); have H5 := Lib.hid h5; clear k5 h5)
  have e1 := sub_l bo L c M (by omega)
  have HT := Lib.hid (HL.out.tail (m := M) (by omega))
  have hLs : (L : Int) - (s : Int) = (M : Int) := by omega
  have hLw : IntKind.i64.wrap ((L : Int) - (s : Int)) = (M : Int) := by rw [IntKind.wrap_i64]; omega
  have hKM := Lib.hid HF.out.2.2.1
  generalize subA bo c M = A1 at e1 HT
  generalize L - M = n1 at e1 HT
  generalize c - M = c1 at e1 HT
  obtain ⟨WZ, hWZ⟩ : ∃ WZ, WZ = u5.drew := ⟨_, rfl⟩
  have HZ := Lib.hid hWZ
  have HK5 := Lib.hid (show Kept u5 WZ by rw [hWZ]; exact (Kept.refl u5).drew)
  have HZ5 := Lib.hid (H5.out.kept HK5.out)
  have HZT := Lib.hid (HT.out.kept HK5.out)
  clear hWZ
  go_cut [76] from 42 to 76 (fun v76 wx => v76 = .bool false ∧ Kept u5 wx)
  case first =>
    by_cases hz : 0 < L
    · obtain ⟨y, g1, o1, hy, _, hb1, _, cl⟩ := HL.out.get (show L - 1 < L by omega)
      obtain ⟨y2, g2, o2, hy2, _, hb2, _, ck⟩ := H5.out.get (show s - 1 < s by have := hpos hz; omega)
      obtain rfl : y2 = y := by
        rw [HF.out.2.2.1, List.getElem?_drop, show M + (s - 1) = L - 1 by have := hpos hz; omega, hy] at hy2
        exact (Option.some.inj hy2).symm
      obtain ⟨La, hLa⟩ : ∃ La : Nat, (L : Int) - 1 = (La : Int) := ⟨L - 1, by omega⟩
      obtain ⟨Sa, hSa⟩ : ∃ Sa : Nat, (s : Int) - 1 = (Sa : Int) := ⟨s - 1, by have := hpos hz; omega⟩
      rw [show L - 1 = La by omega] at cl
      rw [show s - 1 = Sa by omega] at ck
      subst hb1
      subst hb2
      have hS := Lib.hid (show ∀ W, Kept WZ W → W.cell? ⟨g1, o1 + La, none⟩ = some (.int .i64 y2) ∧ W.cell? ⟨g2, o2 + Sa, none⟩ = some (.int .i64 y2) from fun W k => ⟨((HK5.out.trans k).cell (lt_of_cell cl).1).trans cl, ((HK5.out.trans k).cell (lt_of_cell ck).1).trans ck⟩)
      have p1 : decide (0 < (L : Int)) = true := decide_eq_true (by omega)
      have p3 : ((s : Int) == 0) = false := by have := hpos hz; simp; omega
      have p4 : (y2 != y2) = false := by simp
      have hw1 : IntKind.i64.wrap ((L : Int) - 1) = (La : Int) := by rw [IntKind.wrap_i64]; omega
      have hw2 : IntKind.i64.wrap ((s : Int) - 1) = (Sa : Int) := by rw [IntKind.wrap_i64]; omega
      have hSs : Sa < s := by omega
      have hLL : La < L := by omega
      refine wp_region_noPanic ?_
      refine wp_region_held (S := fun W => Kept WZ W) (by kernel_rfl) ?_
      change wpAnyH _ _ _ _ _ _ _ _ (World.drew _)
      rw [← HZ.out]
      refine wpAnyH_take (i := 0) (v := .slice (some ⟨g1, o1, none⟩) L c) rfl (by kernel_rfl) (by kernel_rfl) (by kernel_rfl) (fun _ _ _ h => h) (Or.inl ⟨by kernel_rfl, fun _ _ => by kernel_rfl⟩) (Kept.refl WZ) ?_
      refine wpAnyH_take (i := 1) (v := .int .i64 (L : Int)) rfl (by kernel_rfl) (by kernel_rfl) (by kernel_rfl) (fun _ _ _ h => h) (Or.inl ⟨by kernel_rfl, fun _ _ => by kernel_rfl⟩) (Kept.refl WZ) ?_
      refine wpAnyH_take (i := 2) (v := .bool true) rfl (by kernel_rfl) (by kernel_rfl) (by kernel_rfl) (fun _ _ _ h => h) (Or.inl ⟨by kernel_rfl, fun W _ => bin_yields rfl (by kernel_rfl) (by kernel_rfl) (b_gtr _ _ _ p1 W)⟩) (Kept.refl WZ) ?_
      refine wpAnyH_take (i := 3) (v := .bool true) rfl (by kernel_rfl) (by kernel_rfl) (by kernel_rfl) (fun _ _ _ h => h) (Or.inl ⟨by kernel_rfl, fun _ _ => by kernel_rfl⟩) (Kept.refl WZ) ?_
      refine wpAnyH_take (i := 4) (v := .slice (some ⟨g2, o2, none⟩) s d5) rfl (by kernel_rfl) (by kernel_rfl) (by kernel_rfl) (fun _ _ _ h => h) (Or.inl ⟨by kernel_rfl, fun _ _ => by kernel_rfl⟩) (Kept.refl WZ) ?_
      refine wpAnyH_take (i := 5) (v := .int .i64 (s : Int)) rfl (by kernel_rfl) (by kernel_rfl) (by kernel_rfl) (fun _ _ _ h => h) (Or.inl ⟨by kernel_rfl, fun _ _ => by kernel_rfl⟩) (Kept.refl WZ) ?_
      refine wpAnyH_take (i := 6) (v := .bool false) rfl (by kernel_rfl) (by kernel_rfl) (by kernel_rfl) (fun _ _ _ h => h) (Or.inl ⟨by kernel_rfl, fun W _ => bin_yields rfl (by kernel_rfl) (by kernel_rfl) (b_eql _ _ _ p3 W)⟩) (Kept.refl WZ) ?_
      refine wpAnyH_take (i := 7) (v := .bool false) rfl (by kernel_rfl) (by kernel_rfl) (by kernel_rfl) (fun _ _ _ h => h) (Or.inl ⟨by kernel_rfl, fun _ _ => by kernel_rfl⟩) (Kept.refl WZ) ?_
      refine wpAnyH_take (i := 8) (v := .slice (some ⟨g2, o2, none⟩) s d5) rfl (by kernel_rfl) (by kernel_rfl) (by kernel_rfl) (fun _ _ _ h => h) (Or.inl ⟨by kernel_rfl, fun _ _ => by kernel_rfl⟩) (Kept.refl WZ) ?_
      refine wpAnyH_take (i := 9) (v := .slice (some ⟨g2, o2, none⟩) s d5) rfl (by kernel_rfl) (by kernel_rfl) (by kernel_rfl) (fun _ _ _ h => h) (Or.inl ⟨by kernel_rfl, fun _ _ => by kernel_rfl⟩) (Kept.refl WZ) ?_
      refine wpAnyH_take (i := 10) (v := .int .i64 (s : Int)) rfl (by kernel_rfl) (by kernel_rfl) (by kernel_rfl) (fun _ _ _ h => h) (Or.inl ⟨by kernel_rfl, fun _ _ => by kernel_rfl⟩) (Kept.refl WZ) ?_
      refine wpAnyH_take (i := 11) (v := .int .i64 (Sa : Int)) rfl (by kernel_rfl) (by kernel_rfl) (by kernel_rfl) (fun _ _ _ h => h) (Or.inl ⟨by kernel_rfl, fun W _ => bin_yields rfl (by kernel_rfl) (by kernel_rfl) (b_sub _ _ _ hw2 W)⟩) (Kept.refl WZ) ?_
      refine wpAnyH_take (i := 12) (v := .pointer (some ⟨g2, o2 + Sa, none⟩)) rfl (by kernel_rfl) (by kernel_rfl) (by kernel_rfl) (fun _ _ _ h => h) (Or.inl ⟨by kernel_rfl, fun W _ => index_yields (g := g2) (f := o2) (n := s) (c := d5) (j := Sa) rfl (by kernel_rfl) (by kernel_rfl) hSs⟩) (Kept.refl WZ) ?_
      refine wpAnyH_take (i := 13) (v := .int .i64 y2) rfl (by kernel_rfl) (by kernel_rfl) (by kernel_rfl) (fun _ _ _ h => h) (Or.inl ⟨by kernel_rfl, fun W h => Mch.ld_int rfl (by kernel_rfl) (hS.out W h).2⟩) (Kept.refl WZ) ?_
      refine wpAnyH_take (i := 14) (v := .slice (some ⟨g1, o1, none⟩) L c) rfl (by kernel_rfl) (by kernel_rfl) (by kernel_rfl) (fun _ _ _ h => h) (Or.inl ⟨by kernel_rfl, fun _ _ => by kernel_rfl⟩) (Kept.refl WZ) ?_
      refine wpAnyH_take (i := 15) (v := .slice (some ⟨g1, o1, none⟩) L c) rfl (by kernel_rfl) (by kernel_rfl) (by kernel_rfl) (fun _ _ _ h => h) (Or.inl ⟨by kernel_rfl, fun _ _ => by kernel_rfl⟩) (Kept.refl WZ) ?_
      refine wpAnyH_take (i := 16) (v := .int .i64 (L : Int)) rfl (by kernel_rfl) (by kernel_rfl) (by kernel_rfl) (fun _ _ _ h => h) (Or.inl ⟨by kernel_rfl, fun _ _ => by kernel_rfl⟩) (Kept.refl WZ) ?_
      refine wpAnyH_take (i := 17) (v := .int .i64 (La : Int)) rfl (by kernel_rfl) (by kernel_rfl) (by kernel_rfl) (fun _ _ _ h => h) (Or.inl ⟨by kernel_rfl, fun W _ => bin_yields rfl (by kernel_rfl) (by kernel_rfl) (b_sub _ _ _ hw1 W)⟩) (Kept.refl WZ) ?_
      refine wpAnyH_take (i := 18) (v := .pointer (some ⟨g1, o1 + La, none⟩)) rfl (by kernel_rfl) (by kernel_rfl) (by kernel_rfl) (fun _ _ _ h => h) (Or.inl ⟨by kernel_rfl, fun W _ => index_yields (g := g1) (f := o1) (n := L) (c := c) (j := La) rfl (by kernel_rfl) (by kernel_rfl) hLL⟩) (Kept.refl WZ) ?_
      refine wpAnyH_take (i := 19) (v := .int .i64 y2) rfl (by kernel_rfl) (by kernel_rfl) (by kernel_rfl) (fun _ _ _ h => h) (Or.inl ⟨by kernel_rfl, fun W h => Mch.ld_int rfl (by kernel_rfl) (hS.out W h).1⟩) (Kept.refl WZ) ?_
      refine wpAnyH_take (i := 20) (v := .bool false) rfl (by kernel_rfl) (by kernel_rfl) (by kernel_rfl) (fun _ _ _ h => h) (Or.inl ⟨by kernel_rfl, fun W _ => bin_yields rfl (by kernel_rfl) (by kernel_rfl) (b_neq _ _ _ p4 W)⟩) (Kept.refl WZ) ?_
      refine wpAnyH_take (i := 21) (v := .bool false) rfl (by kernel_rfl) (by kernel_rfl) (by kernel_rfl) (fun _ _ _ h => h) (Or.inl ⟨by kernel_rfl, fun _ _ => by kernel_rfl⟩) (Kept.refl WZ) ?_
      refine wpAnyH_take (i := 22) (v := .bool false) rfl (by kernel_rfl) (by kernel_rfl) (by kernel_rfl) (fun _ _ _ h => h) (Or.inl ⟨by kernel_rfl, fun _ _ => by kernel_rfl⟩) (Kept.refl WZ) ?_
      refine wpAnyH_take (i := 23) (v := .bool false) rfl (by kernel_rfl) (by kernel_rfl) (by kernel_rfl) (fun _ _ _ h => h) (Or.inl ⟨by kernel_rfl, fun _ _ => by kernel_rfl⟩) (Kept.refl WZ) ?_
      refine wpAnyH_take (i := 24) (v := .slice (some ⟨g2, o2, none⟩) s d5) rfl (by kernel_rfl) (by kernel_rfl) (by kernel_rfl) (fun _ _ _ h => h) (Or.inl ⟨by kernel_rfl, fun _ _ => by kernel_rfl⟩) (Kept.refl WZ) ?_
      refine wpAnyH_take (i := 25) (v := .slice (some ⟨g1, o1, none⟩) L c) rfl (by kernel_rfl) (by kernel_rfl) (by kernel_rfl) (fun _ _ _ h => h) (Or.inl ⟨by kernel_rfl, fun _ _ => by kernel_rfl⟩) (Kept.refl WZ) ?_
      refine wpAnyH_take (i := 26) (v := .slice (some ⟨g1, o1, none⟩) L c) rfl (by kernel_rfl) (by kernel_rfl) (by kernel_rfl) (fun _ _ _ h => h) (Or.inl ⟨by kernel_rfl, fun _ _ => by kernel_rfl⟩) (Kept.refl WZ) ?_
      refine wpAnyH_take (i := 27) (v := .int .i64 (L : Int)) rfl (by kernel_rfl) (by kernel_rfl) (by kernel_rfl) (fun _ _ _ h => h) (Or.inl ⟨by kernel_rfl, fun _ _ => by kernel_rfl⟩) (Kept.refl WZ) ?_
      refine wpAnyH_take (i := 28) (v := .slice (some ⟨g2, o2, none⟩) s d5) rfl (by kernel_rfl) (by kernel_rfl) (by kernel_rfl) (fun _ _ _ h => h) (Or.inl ⟨by kernel_rfl, fun _ _ => by kernel_rfl⟩) (Kept.refl WZ) ?_
      refine wpAnyH_take (i := 29) (v := .int .i64 (s : Int)) rfl (by kernel_rfl) (by kernel_rfl) (by kernel_rfl) (fun _ _ _ h => h) (Or.inl ⟨by kernel_rfl, fun _ _ => by kernel_rfl⟩) (Kept.refl WZ) ?_
      refine wpAnyH_take (i := 30) (v := .int .i64 (M : Int)) rfl (by kernel_rfl) (by kernel_rfl) (by kernel_rfl) (fun _ _ _ h => h) (Or.inl ⟨by kernel_rfl, fun W _ => bin_yields rfl (by kernel_rfl) (by kernel_rfl) (b_sub _ _ _ hLw W)⟩) (Kept.refl WZ) ?_
      refine wpAnyH_take (i := 31) (v := .slice A1 n1 c1) rfl (by kernel_rfl) (by kernel_rfl) (by kernel_rfl) (fun _ _ _ h => h) (Or.inl ⟨by kernel_rfl, fun W _ => slicel_yields rfl (by kernel_rfl) (by kernel_rfl) (e1 W)⟩) (Kept.refl WZ) ?_
      refine wpAnyH_ready (rs := [32]) (by kernel_rfl) (by simp) ?_
      refine Mch.ready_call (i := 32) rfl (by kernel_rfl) (by kernel_rfl) ((eq_c HZ5.out HZT.out hKM.out).mono ?_) AllReadyH.nil
      rintro e u6 ⟨rfl, k6⟩
      refine ⟨_, rfl, k6, ?_⟩
      refine wpAnyH_take (i := 33) (v := .bool false) rfl (by kernel_rfl) (by kernel_rfl) (by kernel_rfl) (fun _ _ _ h => h) (Or.inl ⟨by kernel_rfl, fun _ _ => by kernel_rfl⟩) k6 ?_
      refine wpAnyH_take (i := 34) (v := .bool false) rfl (by kernel_rfl) (by kernel_rfl) (by kernel_rfl) (fun _ _ _ h => h) (Or.inl ⟨by kernel_rfl, fun _ _ => by kernel_rfl⟩) k6 ?_
      refine wpAnyH_done (by kernel_rfl) (NoPanic.normal ?_) _
      generalize hfr : Act.put _ _ _ = fr
      go_wp2_with fail
      refine Met.intro ?_
      go_step
      refine ⟨.slice (some ⟨g1, o1, none⟩) L c, .int .i64 (L : Int), .bool true, .bool true, .slice (some ⟨g2, o2, none⟩) s d5, .int .i64 (s : Int), .bool false, .bool false, .slice (some ⟨g2, o2, none⟩) s d5, .slice (some ⟨g2, o2, none⟩) s d5, .int .i64 (s : Int), .int .i64 (Sa : Int), .pointer (some ⟨g2, o2 + Sa, none⟩), .int .i64 y2, .slice (some ⟨g1, o1, none⟩) L c, .slice (some ⟨g1, o1, none⟩) L c, .int .i64 (L : Int), .int .i64 (La : Int), .pointer (some ⟨g1, o1 + La, none⟩), .int .i64 y2, .bool false, .bool false, .bool false, .bool false, .slice (some ⟨g2, o2, none⟩) s d5, .slice (some ⟨g1, o1, none⟩) L c, .slice (some ⟨g1, o1, none⟩) L c, .int .i64 (L : Int), .slice (some ⟨g2, o2, none⟩) s d5, .int .i64 (s : Int), .int .i64 (M : Int), .slice A1 n1 c1, .bool true, .bool false, .bool false, ⟨rfl, HK5.out.trans k6⟩, ?_⟩
      rw [← hfr]
      kernel_rfl
    · have p1 : decide (0 < (L : Int)) = false := decide_eq_false (by omega)
      refine wp_region_noPanic ?_
      refine wp_region_held (S := fun W => Kept WZ W) (by kernel_rfl) ?_
      change wpAnyH _ _ _ _ _ _ _ _ (World.drew _)
      rw [← HZ.out]
      refine wpAnyH_take (i := 0) (v := .slice bo L c) rfl (by kernel_rfl) (by kernel_rfl) (by kernel_rfl) (fun _ _ _ h => h) (Or.inl ⟨by kernel_rfl, fun _ _ => by kernel_rfl⟩) (Kept.refl WZ) ?_
      refine wpAnyH_take (i := 1) (v := .int .i64 (L : Int)) rfl (by kernel_rfl) (by kernel_rfl) (by kernel_rfl) (fun _ _ _ h => h) (Or.inl ⟨by kernel_rfl, fun _ _ => by kernel_rfl⟩) (Kept.refl WZ) ?_
      refine wpAnyH_take (i := 2) (v := .bool false) rfl (by kernel_rfl) (by kernel_rfl) (by kernel_rfl) (fun _ _ _ h => h) (Or.inl ⟨by kernel_rfl, fun W _ => bin_yields rfl (by kernel_rfl) (by kernel_rfl) (b_gtr _ _ _ p1 W)⟩) (Kept.refl WZ) ?_
      refine wpAnyH_take (i := 3) (v := .bool false) rfl (by kernel_rfl) (by kernel_rfl) (by kernel_rfl) (fun _ _ _ h => h) (Or.inl ⟨by kernel_rfl, fun _ _ => by kernel_rfl⟩) (Kept.refl WZ) ?_
      refine wpAnyH_take (i := 4) (v := undef) rfl (by kernel_rfl) (by kernel_rfl) (by kernel_rfl) (fun _ _ _ h => h) (Or.inr ⟨by kernel_rfl, rfl⟩) (Kept.refl WZ) ?_
      refine wpAnyH_take (i := 5) (v := undef) rfl (by kernel_rfl) (by kernel_rfl) (by kernel_rfl) (fun _ _ _ h => h) (Or.inr ⟨by kernel_rfl, rfl⟩) (Kept.refl WZ) ?_
      refine wpAnyH_take (i := 6) (v := undef) rfl (by kernel_rfl) (by kernel_rfl) (by kernel_rfl) (fun _ _ _ h => h) (Or.inr ⟨by kernel_rfl, rfl⟩) (Kept.refl WZ) ?_
      refine wpAnyH_take (i := 7) (v := undef) rfl (by kernel_rfl) (by kernel_rfl) (by kernel_rfl) (fun _ _ _ h => h) (Or.inr ⟨by kernel_rfl, rfl⟩) (Kept.refl WZ) ?_
      refine wpAnyH_take (i := 8) (v := undef) rfl (by kernel_rfl) (by kernel_rfl) (by kernel_rfl) (fun _ _ _ h => h) (Or.inr ⟨by kernel_rfl, rfl⟩) (Kept.refl WZ) ?_
      refine wpAnyH_take (i := 9) (v := undef) rfl (by kernel_rfl) (by kernel_rfl) (by kernel_rfl) (fun _ _ _ h => h) (Or.inr ⟨by kernel_rfl, rfl⟩) (Kept.refl WZ) ?_
      refine wpAnyH_take (i := 10) (v := undef) rfl (by kernel_rfl) (by kernel_rfl) (by kernel_rfl) (fun _ _ _ h => h) (Or.inr ⟨by kernel_rfl, rfl⟩) (Kept.refl WZ) ?_
      refine wpAnyH_take (i := 11) (v := undef) rfl (by kernel_rfl) (by kernel_rfl) (by kernel_rfl) (fun _ _ _ h => h) (Or.inr ⟨by kernel_rfl, rfl⟩) (Kept.refl WZ) ?_
      refine wpAnyH_take (i := 12) (v := undef) rfl (by kernel_rfl) (by kernel_rfl) (by kernel_rfl) (fun _ _ _ h => h) (Or.inr ⟨by kernel_rfl, rfl⟩) (Kept.refl WZ) ?_
      refine wpAnyH_take (i := 13) (v := undef) rfl (by kernel_rfl) (by kernel_rfl) (by kernel_rfl) (fun _ _ _ h => h) (Or.inr ⟨by kernel_rfl, rfl⟩) (Kept.refl WZ) ?_
      refine wpAnyH_take (i := 14) (v := undef) rfl (by kernel_rfl) (by kernel_rfl) (by kernel_rfl) (fun _ _ _ h => h) (Or.inr ⟨by kernel_rfl, rfl⟩) (Kept.refl WZ) ?_
      refine wpAnyH_take (i := 15) (v := undef) rfl (by kernel_rfl) (by kernel_rfl) (by kernel_rfl) (fun _ _ _ h => h) (Or.inr ⟨by kernel_rfl, rfl⟩) (Kept.refl WZ) ?_
      refine wpAnyH_take (i := 16) (v := undef) rfl (by kernel_rfl) (by kernel_rfl) (by kernel_rfl) (fun _ _ _ h => h) (Or.inr ⟨by kernel_rfl, rfl⟩) (Kept.refl WZ) ?_
      refine wpAnyH_take (i := 17) (v := undef) rfl (by kernel_rfl) (by kernel_rfl) (by kernel_rfl) (fun _ _ _ h => h) (Or.inr ⟨by kernel_rfl, rfl⟩) (Kept.refl WZ) ?_
      refine wpAnyH_take (i := 18) (v := undef) rfl (by kernel_rfl) (by kernel_rfl) (by kernel_rfl) (fun _ _ _ h => h) (Or.inr ⟨by kernel_rfl, rfl⟩) (Kept.refl WZ) ?_
      refine wpAnyH_take (i := 19) (v := undef) rfl (by kernel_rfl) (by kernel_rfl) (by kernel_rfl) (fun _ _ _ h => h) (Or.inr ⟨by kernel_rfl, rfl⟩) (Kept.refl WZ) ?_
      refine wpAnyH_take (i := 20) (v := undef) rfl (by kernel_rfl) (by kernel_rfl) (by kernel_rfl) (fun _ _ _ h => h) (Or.inr ⟨by kernel_rfl, rfl⟩) (Kept.refl WZ) ?_
      refine wpAnyH_take (i := 21) (v := undef) rfl (by kernel_rfl) (by kernel_rfl) (by kernel_rfl) (fun _ _ _ h => h) (Or.inr ⟨by kernel_rfl, rfl⟩) (Kept.refl WZ) ?_
      refine wpAnyH_take (i := 22) (v := .bool false) rfl (by kernel_rfl) (by kernel_rfl) (by kernel_rfl) (fun _ _ _ h => h) (Or.inl ⟨by kernel_rfl, fun _ _ => by kernel_rfl⟩) (Kept.refl WZ) ?_
      refine wpAnyH_take (i := 23) (v := .bool false) rfl (by kernel_rfl) (by kernel_rfl) (by kernel_rfl) (fun _ _ _ h => h) (Or.inl ⟨by kernel_rfl, fun _ _ => by kernel_rfl⟩) (Kept.refl WZ) ?_
      refine wpAnyH_take (i := 24) (v := .slice r5 s d5) rfl (by kernel_rfl) (by kernel_rfl) (by kernel_rfl) (fun _ _ _ h => h) (Or.inl ⟨by kernel_rfl, fun _ _ => by kernel_rfl⟩) (Kept.refl WZ) ?_
      refine wpAnyH_take (i := 25) (v := .slice bo L c) rfl (by kernel_rfl) (by kernel_rfl) (by kernel_rfl) (fun _ _ _ h => h) (Or.inl ⟨by kernel_rfl, fun _ _ => by kernel_rfl⟩) (Kept.refl WZ) ?_
      refine wpAnyH_take (i := 26) (v := .slice bo L c) rfl (by kernel_rfl) (by kernel_rfl) (by kernel_rfl) (fun _ _ _ h => h) (Or.inl ⟨by kernel_rfl, fun _ _ => by kernel_rfl⟩) (Kept.refl WZ) ?_
      refine wpAnyH_take (i := 27) (v := .int .i64 (L : Int)) rfl (by kernel_rfl) (by kernel_rfl) (by kernel_rfl) (fun _ _ _ h => h) (Or.inl ⟨by kernel_rfl, fun _ _ => by kernel_rfl⟩) (Kept.refl WZ) ?_
      refine wpAnyH_take (i := 28) (v := .slice r5 s d5) rfl (by kernel_rfl) (by kernel_rfl) (by kernel_rfl) (fun _ _ _ h => h) (Or.inl ⟨by kernel_rfl, fun _ _ => by kernel_rfl⟩) (Kept.refl WZ) ?_
      refine wpAnyH_take (i := 29) (v := .int .i64 (s : Int)) rfl (by kernel_rfl) (by kernel_rfl) (by kernel_rfl) (fun _ _ _ h => h) (Or.inl ⟨by kernel_rfl, fun _ _ => by kernel_rfl⟩) (Kept.refl WZ) ?_
      refine wpAnyH_take (i := 30) (v := .int .i64 (M : Int)) rfl (by kernel_rfl) (by kernel_rfl) (by kernel_rfl) (fun _ _ _ h => h) (Or.inl ⟨by kernel_rfl, fun W _ => bin_yields rfl (by kernel_rfl) (by kernel_rfl) (b_sub _ _ _ hLw W)⟩) (Kept.refl WZ) ?_
      refine wpAnyH_take (i := 31) (v := .slice A1 n1 c1) rfl (by kernel_rfl) (by kernel_rfl) (by kernel_rfl) (fun _ _ _ h => h) (Or.inl ⟨by kernel_rfl, fun W _ => slicel_yields rfl (by kernel_rfl) (by kernel_rfl) (e1 W)⟩) (Kept.refl WZ) ?_
      refine wpAnyH_ready (rs := [32]) (by kernel_rfl) (by simp) ?_
      refine Mch.ready_call (i := 32) rfl (by kernel_rfl) (by kernel_rfl) ((eq_c HZ5.out HZT.out hKM.out).mono ?_) AllReadyH.nil
      rintro e u6 ⟨rfl, k6⟩
      refine ⟨_, rfl, k6, ?_⟩
      refine wpAnyH_take (i := 33) (v := .bool false) rfl (by kernel_rfl) (by kernel_rfl) (by kernel_rfl) (fun _ _ _ h => h) (Or.inl ⟨by kernel_rfl, fun _ _ => by kernel_rfl⟩) k6 ?_
      refine wpAnyH_take (i := 34) (v := .bool false) rfl (by kernel_rfl) (by kernel_rfl) (by kernel_rfl) (fun _ _ _ h => h) (Or.inl ⟨by kernel_rfl, fun _ _ => by kernel_rfl⟩) k6 ?_
      refine wpAnyH_done (by kernel_rfl) (NoPanic.normal ?_) _
      generalize hfr : Act.put _ _ _ = fr
      go_wp2_with fail
      refine Met.intro ?_
      go_step
      refine ⟨.slice bo L c, .int .i64 (L : Int), .bool false, .bool false, undef, undef, undef, undef, undef, undef, undef, undef, undef, undef, undef, undef, undef, undef, undef, undef, undef, undef, .bool false, .bool false, .slice r5 s d5, .slice bo L c, .slice bo L c, .int .i64 (L : Int), .slice r5 s d5, .int .i64 (s : Int), .int .i64 (M : Int), .slice A1 n1 c1, .bool true, .bool false, .bool false, ⟨rfl, HK5.out.trans k6⟩, ?_⟩
      rw [← hfr]
      kernel_rfl
  case rest =>
    obtain ⟨rfl, hk6⟩ := hcut
    replace KK := Lib.hid (KK.out.trans hk6)
    replace HL := Lib.hid (HL.out.kept hk6)
    replace H5 := Lib.hid (H5.out.kept hk6)
    have HPV := Lib.hid (show t - V = t - V from rfl)
    have hsn := H5.out.n62
    unfold maxLen at hsn
    clear hk6 HZ HK5 HZ5 HZT HT hLs hLw e1 hpos
    obtain ⟨Q, hQ⟩ : ∃ Q : Int, t - V = Q := ⟨_, rfl⟩
    go_wp2
    go_loopw [12] (fun i wr => ∃ j : Nat, j ≤ s ∧ i = .int .i64 j ∧ wr = wc) (fun i _ => s - (RowKit.intOf i).toNat)
    case atStart => exact ⟨0, Nat.zero_le _, rfl, rfl⟩
    case round =>
      obtain ⟨j, hj, rfl, hwr⟩ := hrel
      obtain rfl : wc = wr := hwr.symm
      by_cases hlt : j + 1 < s
      · have d1 : decide ((j : Int) + 1 < (s : Int)) = true := decide_eq_true (by omega)
        obtain ⟨x, g2, o2, hx, _, rfl, hg2, hcx⟩ := H5.out.get (show j < s by omega)
        have hbt : ¬ x ≤ Q := by have := HF.out.2.2.2 j x hx hlt; omega
        clear hx
        have j0 : (0 : Int) ≤ (j : Int) := by omega
        have j1 : (j : Int) < (s : Int) := by omega
        go_wp2
        go_roundw
        case rel => exact ⟨j + 1, by omega, by go_num, trivial⟩
        case measure => simp [RowKit.intOf]; omega
      · have d1 : decide ((j : Int) + 1 < (s : Int)) = false := decide_eq_false (by omega)
        go_wp2_with (go_at_call 19; (with_reducible refine (hR _).mono ?_); rintro e u7 ⟨rfl, hw7⟩; obtain rfl := hw7)
        go_loopw [100] (fun i wr => ∃ m : Nat, m ≤ 3 ∧ i = .int .i64 m ∧ Kept u7 wr) (fun i _ => 3 - (RowKit.intOf i).toNat)
        case atStart => exact ⟨0, by omega, rfl, Kept.refl _⟩
        case round =>
          obtain ⟨m, hm, rfl, hk7⟩ := hrel
          have HK7 := Lib.hid hk7
          clear hk7
          by_cases hl3 : m < 3
          · have d2 : decide ((m : Int) < 3) = true := decide_eq_true (by omega)
            have hx := three_index t (t + 1) (t + R) m hl3
            obtain ⟨T, hT⟩ : ∃ T, T = three t (t + 1) (t + R) m := ⟨_, rfl⟩
            have hT1 : t ≤ T ∧ T ≤ 4000 := by rw [hT]; unfold three; split; omega; split <;> omega
            rw [← hT] at hx
            obtain ⟨C, n1, n2⟩ := HC.out.2 T hT1.1 hT1.2
            have N := Lib.hid (And.intro @n1 @n2)
            clear n1 n2 hT hT1
            go_wp2_with (go_at_call 10; first
              | ((with_reducible refine (N.out.1 (HL.out.kept HK7.out)).mono ?_); rintro e u8 ⟨rfl, k8⟩; replace HK7 := Lib.hid (HK7.out.trans k8); clear k8)
              | ((with_reducible refine (N.out.2 (H5.out.kept HK7.out)).mono ?_); rintro e u9 ⟨rfl, k9⟩; replace HK7 := Lib.hid (HK7.out.trans k9); clear k9))
            go_roundw
            case rel => exact ⟨m + 1, by omega, by go_num, HK7.out⟩
            case measure => simp [RowKit.intOf]; omega
          · have d2 : decide ((m : Int) < 3) = false := decide_eq_false (by omega)
            go_wp2_with (go_at_call 17; (with_reducible refine (haw _).mono ?_); rintro e ua ⟨rfl, ka⟩)
            go_ret
            exact ⟨rfl, KK.out.trans (HK7.out.trans ka)⟩
end Go.Proofs.Ytojgbacdniagiaa.Wi
