/-
  Package journal: Compact.
-/
import Derived.Test.YtckbhjjflpobbaaGreatJc
import Derived.BigRegion
namespace Go.Proofs.YtckbhjjflpobbaaGreat.Jk
open Go Go.RowKit Go.ChangeShapes Go.WideShapes Go.ChangeAt Go.Proofs.YtckbhjjflpobbaaGreat.Mem Go.Proofs.YtckbhjjflpobbaaGreat.Pk Go.Proofs.YtckbhjjflpobbaaGreat.Fk Go.Proofs.YtckbhjjflpobbaaGreat.Dz Go.Proofs.YtckbhjjflpobbaaGreat.Fz Go.Proofs.YtckbhjjflpobbaaGreat.Rc
open Go.Proofs.YtckbhjjflpobbaaGreat.Hk (Hd saves loads o_save o_load hblock)

theorem at_last {L : List As} (S B : As) : ((L ++ [S]) ++ [B])[L.length]? = some S ∧ ((L ++ [S]) ++ [B])[L.length + 1]? = some B := by
  constructor
  · rw [List.getElem?_append_left (by simp), List.getElem?_append_right (Nat.le_refl _), Nat.sub_self]; rfl
  · rw [List.getElem?_append_right (by simp), show L.length + 1 - (L ++ [S]).length = 0 by simp]; rfl
set_option maxRecDepth 100000 in
set_option maxHeartbeats 4000000 in
theorem o_compact {w0 w : World} {L : List As} {J D F : Nat} {j : Jw} {s : Ds} (h : Mem.Own w0 (jA J D j :: dk F D s :: L) w) (ao : Option Addr) (cap m : Nat) (x : Nat → ByteArray) (hm : m < 65536) (hj : Jok j s m) (hx : ∀ i, i < m → (x i).size ≤ maxLen) (hs : SAo w ao m x) :
    Calls Tryz.prog 11 #[.pointer (some ⟨J, 0, none⟩), .slice ao m cap] w fun e w' => e = .returned (.int .i64 (compacts j s x m).1) ∧ Mem.Own w0 (jA J D (compacts j s x m).2.1 :: dk F D (compacts j s x m).2.2 :: L) w' := by
  obtain ⟨⟨c0, c1, c2, c3, c4, c5, c6, c7, c8, c9, c10, c11⟩, fz⟩ := jblock (own_j h 0 rfl)
  have hJ := own_j h 0 rfl
  have hR : ∃ R, R = compacts j s x m := ⟨_, rfl⟩
  obtain ⟨R, hR⟩ := hR
  rw [← hR]
  unfold compacts at hR
  by_cases hdead : j.dead = true
  · rw [if_pos hdead] at hR
    subst hR
    rw [hdead] at c11
    have hp := Lib.hid h
    clear h hJ hj hx hs
    go_enter Tryz.func11, Tryz.ntmps11
    go_wp2
    go_ret
    exact ⟨rfl, hp.out⟩
  rw [if_neg hdead] at hR
  have hdead : j.dead = false := by simpa using hdead
  rw [hdead] at c11
  have hsz : Calls Tryz.prog 27 #[.slice ao m cap] w fun e w' => e = .returned (.tuple #[.int .i64 (sizeN x m : Int), .int .i64 (sizeE x m)]) ∧ w = w' := size_c _ _ m _ (by omega) hx _ hs
  by_cases hfit : fits x m
  case neg =>
    rw [if_pos hfit] at hR
    subst hR
    have e1 : sizeE x m = 5 ∧ sizeN x m = 0 := by
      unfold sizeE sizeN; rw [if_neg hfit, if_neg hfit]; exact ⟨rfl, rfl⟩
    rw [e1.1, e1.2] at hsz
    have hp := Lib.hid h
    clear h hJ hj hx hs e1 hfit
    go_enter Tryz.func11, Tryz.ntmps11
    go_wp2_with (go_at_call 27; (with_reducible refine hsz.mono ?_); rintro e u ⟨rfl, rfl⟩)
    go_ret
    exact ⟨rfl, hp.out⟩
  rw [if_neg (fun h => h hfit)] at hR
  have e1 : sizeE x m = 0 ∧ sizeN x m = pre x m := by
    unfold sizeE sizeN; rw [if_pos hfit, if_pos hfit]; exact ⟨rfl, rfl⟩
  rw [e1.1, e1.2] at hsz
  have hbd := hj.area
  have hpl := pre_le hfit
  by_cases hrm : j.area < pre x m
  · rw [if_pos hrm] at hR
    subst hR
    have tr : decide ((pre x m : Int) > (j.area : Int)) = true := by simp; omega
    have hp := Lib.hid h
    generalize pre x m = N at *
    clear h hJ hj hx hs e1 hfit
    go_enter Tryz.func11, Tryz.ntmps11
    go_wp2_with (go_at_call 27; (with_reducible refine hsz.mono ?_); rintro e u ⟨rfl, rfl⟩)
    go_ret
    exact ⟨rfl, hp.out⟩
  rw [if_neg hrm] at hR
  have tr : decide ((pre x m : Int) > (j.area : Int)) = false := by simp; omega
  have hsec : Calls Tryz.prog 30 #[.pointer (some ⟨J, 0, none⟩), .int .u8 1, .slice ao m cap] w fun e w' => ∃ ao cap, e = .returned (.tuple #[.slice ao (pre x m) cap, .int .i64 0]) ∧ Mem.Own w0 (jA J D j :: dk F D s :: (L ++ [secA (.slice ao (pre x m) cap) (pre x m) (flat j.h.boot (j.n + 1) 1 x m)])) w' := by
    refine (jsectors_c J D j 1 (by decide) ao cap m x hm hfit (fun i hi => hj.num hi) ⟨hj.n0, by have := hj.n1; omega⟩ _ hJ hs).mono ?_
    rintro e w' ⟨v, he, hrow, hk⟩
    obtain ⟨ao, cap, rfl, _⟩ := strings_at hrow
    exact ⟨ao, cap, he, h.push (b := secA _ _ _) hk ⟨ownsRow_mono hrow (Nat.zero_le _), fun g hg => .inr ⟨ownsRow_base hrow hg, (hrow.lt g hg).2⟩⟩⟩
  have hwr : ∀ ao cap B W, Mem.Own w0 (jA J D j :: dk F D s :: ((L ++ [secA (.slice ao (pre x m) cap) (pre x m) (flat j.h.boot (j.n + 1) 1 x m)]) ++ [B])) W → Calls Tryz.prog 31 #[.pointer (some ⟨J, 0, none⟩), .int .i64 (1 - j.h.area), .int .i64 0, .slice ao (pre x m) cap] W fun e w' =>
      e = .returned (.int .i64 (poured s (j.base (1 - j.h.area)) (flat j.h.boot (j.n + 1) 1 x m) (pre x m)).1) ∧ Mem.Own w0 (jA J D (j.told (poured s (j.base (1 - j.h.area)) (flat j.h.boot (j.n + 1) 1 x m) (pre x m)).1) :: dk F D (poured s (j.base (1 - j.h.area)) (flat j.h.boot (j.n + 1) 1 x m) (pre x m)).2 :: ((L ++ [secA (.slice ao (pre x m) cap) (pre x m) (flat j.h.boot (j.n + 1) 1 x m)]) ++ [B])) w' := fun ao cap B W hW => by
    have := o_jwrite hW (1 - j.h.area) (by rcases hj.half with e | e <;> rw [e] <;> decide) hj.area 0 (by omega) ao cap (pre x m) (by omega) (flat j.h.boot (j.n + 1) 1 x m) (fun V s' hV => own_strs hV (L.length + 1 + 1) (at_last _ _).1) (by have := hj.room; omega)
    rw [show j.base (1 - j.h.area) + ((0 : Nat) : Int) = j.base (1 - j.h.area) by omega] at this
    exact this
  obtain ⟨P, hP⟩ : ∃ P, P = poured s (j.base (1 - j.h.area)) (flat j.h.boot (j.n + 1) 1 x m) (pre x m) := ⟨_, rfl⟩
  have hPr : P.2.pend.length < 4294967296 := by
    have h1 := pour_len s (j.base (1 - j.h.area)) (flat j.h.boot (j.n + 1) 1 x m) (pre x m)
    have h2 := hj.room
    rw [hP]
    unfold poured
    split
    · omega
    · unfold Ds.syncs
      split
      · show (pour s _ _ _).2.pend.length < _
        omega
      · show (0 : Nat) < _
        decide
  rw [← hP] at hwr hR
  obtain ⟨E, hE⟩ : ∃ E, E = P.1 := ⟨_, rfl⟩
  rw [← hE] at hwr hR
  have hn0 := hj.n0
  have hn1 := hj.n1
  have hq := hj.seq
  have ha1 : 0 ≤ 1 - j.h.area ∧ 1 - j.h.area ≤ 1 := by rcases hj.half with e | e <;> rw [e] <;> decide
  have hcell : ∀ W s' (b : Bool), Mem.Own w0 (jA J D { j with dead := b } :: dk F D s' :: L) W → (W.cell? ⟨J, 9, none⟩ = some (.int .i64 j.n)) ∧ ∀ i, W.frozen? ⟨J, i, none⟩ = false := fun W s' b hW => by
    obtain ⟨⟨_, _, _, _, _, _, _, _, _, c9, _, _⟩, fz⟩ := jblock (own_j hW 0 rfl)
    exact ⟨c9, fz⟩
  have hall : ∀ W M, Mem.Own w0 (jA J D j :: M) W → (W.cell? ⟨J, 4, none⟩ = some (.int .i64 j.h.seq) ∧ W.cell? ⟨J, 5, none⟩ = some (.int .i64 j.h.boot) ∧ W.cell? ⟨J, 6, none⟩ = some (.int .i64 j.h.area) ∧ W.cell? ⟨J, 9, none⟩ = some (.int .i64 j.n)) ∧ J < W.heap.size := fun W M hW => by
    obtain ⟨⟨_, _, _, _, c4, c5, c6, _, _, c9, _, _⟩, _⟩ := jblock (own_j hW 0 rfl)
    exact ⟨⟨c4, c5, c6, c9⟩, lt_of_block (own_j hW 0 rfl)⟩
  have hbox : ∀ (X Y S : As) (B : Nat) (q b a f n : Int) T W, Mem.Own w0 (X :: Y :: ((L ++ [S]) ++ [boxA B #[.int .i64 q, .int .i64 b, .int .i64 a, .int .i64 f, .int .i64 n] T])) W → W.cell? ⟨B, 0, none⟩ = some (.int .i64 q) ∧ W.cell? ⟨B, 1, none⟩ = some (.int .i64 b) ∧ W.cell? ⟨B, 2, none⟩ = some (.int .i64 a) ∧ W.cell? ⟨B, 3, none⟩ = some (.int .i64 f) ∧ W.cell? ⟨B, 4, none⟩ = some (.int .i64 n) := fun X Y S B q b a f n T W hW => (hblock (hW.boxed (L.length + 1 + 1 + 1) (at_last _ _).2)).1
  obtain ⟨ar, har⟩ : ∃ ar, ar = j.h.area := ⟨_, rfl⟩
  obtain ⟨sq, hsq⟩ : ∃ sq, sq = j.h.seq := ⟨_, rfl⟩
  obtain ⟨bt, hbt⟩ : ∃ bt, bt = j.h.boot := ⟨_, rfl⟩
  obtain ⟨n, hn⟩ : ∃ n, n = j.n := ⟨_, rfl⟩
  have hsv : ∀ M W, Mem.Own w0 (jA J D (j.told E) :: dk F D P.2 :: M) W → Calls Tryz.prog 35 #[.pointer (some ⟨J, 0, none⟩), .agg #[.int .i64 (sq + 1), .int .i64 bt, .int .i64 (1 - ar), .int .i64 (n + 1), .int .i64 (m : Int)]] W fun e w' => e = .returned (.int .i64 (saves P.2 (j.next m)).1) ∧ Mem.Own w0 (jA J D (jsaves (j.told E) P.2 (j.next m)).2.1 :: dk F D (saves P.2 (j.next m)).2 :: M) w' := fun M W hW => by
    rw [har, hsq, hbt, hn]
    exact o_jsave hW hPr (j.next m)
  have hend : ∀ W, (saves P.2 (j.next m)).1 = 0 → Mem.Own w0 (jA J D (jsaves (j.told E) P.2 (j.next m)).2.1 :: dk F D (saves P.2 (j.next m)).2 :: L) W → Mem.Own w0 (jA J D { j with h := j.next m, n := j.n + (m : Int), used := pre x m, dead := false } :: dk F D (saves P.2 (j.next m)).2 :: L) ((W.setCell ⟨J, 9, none⟩ (.int .i64 (n + (m : Int)))).setCell ⟨J, 10, none⟩ (.int .i64 (pre x m : Int))) := fun W h0 hW => by
    have e : (jsaves (j.told E) P.2 (j.next m)).2.1 = { j with h := j.next m, dead := false } := by
      unfold jsaves Jw.told
      simp only [h0]
      rfl
    rw [e] at hW
    rw [hn]
    exact (hW.boxset 0 rfl 9 (.int .i64 (j.n + (m : Int)))).boxset 0 rfl 10 (.int .i64 (pre x m : Int))
  have hbad : ∀ W, (saves P.2 (j.next m)).1 ≠ 0 → Mem.Own w0 (jA J D (jsaves (j.told E) P.2 (j.next m)).2.1 :: dk F D (saves P.2 (j.next m)).2 :: L) W → Mem.Own w0 (jA J D (j.told (saves P.2 (j.next m)).1) :: dk F D (saves P.2 (j.next m)).2 :: L) W := fun W h0 hW => by
    have e : (jsaves (j.told E) P.2 (j.next m)).2.1 = j.told (saves P.2 (j.next m)).1 := by
      unfold jsaves Jw.told
      simp only [if_neg h0]
    rw [e] at hW
    exact hW
  have hcs : ∀ M W, Mem.Own w0 (jA J D (jsaves (j.told E) P.2 (j.next m)).2.1 :: M) W → (W.cell? ⟨J, 9, none⟩ = some (.int .i64 n) ∧ ∃ u, W.cell? ⟨J, 10, none⟩ = some (.int .i64 u)) ∧ ∀ i, W.frozen? ⟨J, i, none⟩ = false := fun M W hW => by
    obtain ⟨⟨_, _, _, _, _, _, _, _, _, c9, c10, _⟩, fz⟩ := jblock (own_j hW 0 rfl)
    exact ⟨⟨by rw [hn]; exact c9, _, c10⟩, fz⟩
  rw [← har] at hwr ha1 hall c6
  rw [← hsq] at hall hq c4
  rw [← hbt] at hall c5
  rw [← hn] at hall hn0 hn1 c9
  obtain ⟨V, hV⟩ : ∃ V, V = saves P.2 (j.next m) := ⟨_, rfl⟩
  rw [← hV] at hsv hend hbad hR
  obtain ⟨G, hG⟩ : ∃ G, G = V.1 := ⟨_, rfl⟩
  rw [← hG] at hsv hend hbad hR
  generalize (jsaves (j.told E) P.2 (j.next m)).2.1 = jv at *
  generalize pre x m = N at *
  generalize (flat j.h.boot (j.n + 1) 1 x m) = GG at *
  have HH := Lib.hid (And.intro hwr (And.intro hall (And.intro hsv (And.intro hend (And.intro hbad (And.intro hcs (And.intro hR hbox)))))))
  clear h hJ hj hx hs e1 hfit hwr hP hE hend hbad hsv hR hcell hall hcs hbox hV hG har hsq hbt hn hPr
  go_enter Tryz.func11, Tryz.ntmps11
  go_wp2_with (first
    | (go_at_call 27; (with_reducible refine hsz.mono ?_); rintro e u ⟨rfl, rfl⟩)
    | (go_at_call 30; (with_reducible refine hsec.mono ?_); rintro e u4 ⟨ao4, cap4, rfl, k4'⟩; have k4 := Lib.hid k4'; obtain ⟨⟨S4, S5, S6, S9⟩, Slt⟩ := HH.out.2.1 _ _ k4'; clear k4'))
  go_region
  have k5' : Mem.Own w0 (jA J D j :: dk F D s :: ((L ++ [secA (.slice ao4 N cap4) N GG]) ++ [boxA u4.heap.size #[.int .i64 (sq + 1), .int .i64 bt, .int .i64 (1 - ar), .int .i64 (n + 1), .int .i64 (m : Int)] 74])) (u4.alloc (.cells #[.int .i64 (sq + 1), .int .i64 bt, .int .i64 (1 - ar), .int .i64 (n + 1), .int .i64 (m : Int)] 74)).drew :=
    (k4.out.push (b := boxA u4.heap.size #[.int .i64 (sq + 1), .int .i64 bt, .int .i64 (1 - ar), .int .i64 (n + 1), .int .i64 (m : Int)] 74) ((Kept.refl u4).alloc _) ⟨heap_alloc_new _ _, .inr ⟨Nat.le_refl _, by simp⟩⟩).drew
  have k5 := Lib.hid k5'
  clear k5'
  clear S4 S5 S6 S9 Slt k4
  by_cases he : E = 0
  · subst he
    by_cases hg : G = 0
    · subst hg
      go_wp2_with (first
        | (go_at_call 31; (with_reducible refine (HH.out.1 _ _ _ _ k5.out).mono ?_); rintro e u6 ⟨rfl, k6'⟩; have k6 := Lib.hid k6'; obtain ⟨_, _, _, _, _⟩ := HH.out.2.2.2.2.2.2.2 _ _ _ _ _ _ _ _ _ _ _ k6'; clear k6')
        | (go_at_call 35; (with_reducible refine (HH.out.2.2.1 _ _ k6.out).mono ?_); rintro e u7 ⟨rfl, k7'⟩; have k7 := Lib.hid k7'; obtain ⟨⟨_, uu, _⟩, _⟩ := HH.out.2.2.2.2.2.1 _ _ k7'; clear k7'))
      go_ret
      rw [HH.out.2.2.2.2.2.2.1, if_neg (by decide), if_neg (by decide)]
      exact ⟨rfl, HH.out.2.2.2.1 _ (by trivial) (own_drop (M := [_]) (own_drop (L := _ :: _ :: (L ++ [_])) (M := [_]) k7.out))⟩
    · have te : (G != 0) = true := by simpa using hg
      have HG := Lib.hid hg
      clear hg
      go_wp2_with (first
        | (go_at_call 31; (with_reducible refine (HH.out.1 _ _ _ _ k5.out).mono ?_); rintro e u6 ⟨rfl, k6'⟩; have k6 := Lib.hid k6'; obtain ⟨_, _, _, _, _⟩ := HH.out.2.2.2.2.2.2.2 _ _ _ _ _ _ _ _ _ _ _ k6'; clear k6')
        | (go_at_call 35; (with_reducible refine (HH.out.2.2.1 _ _ k6.out).mono ?_); rintro e u7 ⟨rfl, k7'⟩; have k7 := Lib.hid k7'; clear k7'))
      go_ret
      rw [HH.out.2.2.2.2.2.2.1, if_neg (by decide), if_pos HG.out]
      exact ⟨rfl, HH.out.2.2.2.2.1 _ HG.out (own_drop (M := [_]) (own_drop (L := _ :: _ :: (L ++ [_])) (M := [_]) k7.out))⟩
  · have te : (E != 0) = true := by simpa using he
    have HE := Lib.hid he
    clear he
    go_wp2_with (first
      | (go_at_call 31; (with_reducible refine (HH.out.1 _ _ _ _ k5.out).mono ?_); rintro e u6 ⟨rfl, k6'⟩; have k6 := Lib.hid k6'; clear k6'))
    go_ret
    rw [HH.out.2.2.2.2.2.2.1, if_pos HE.out]
    exact ⟨rfl, own_drop (M := [_]) (own_drop (L := _ :: _ :: (L ++ [_])) (M := [_]) k6.out)⟩
end Go.Proofs.YtckbhjjflpobbaaGreat.Jk
