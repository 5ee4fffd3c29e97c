/-
  Package journal: write, save, newest.
-/
import Derived.Test.YtckbhjjflpobbaaGreatJa
import Derived.Test.YtckbhjjflpobbaaGreatKi
namespace Go.Proofs.YtckbhjjflpobbaaGreat.Jk
open Go Go.RowKit Go.ChangeShapes Go.WideShapes Go.ChangeAt Go.Proofs.YtckbhjjflpobbaaGreat.Mem Go.Proofs.YtckbhjjflpobbaaGreat.Pk Go.Proofs.YtckbhjjflpobbaaGreat.Fk Go.Proofs.YtckbhjjflpobbaaGreat.Dz Go.Proofs.YtckbhjjflpobbaaGreat.Fz Go.Proofs.YtckbhjjflpobbaaGreat.Rc
open Go.Proofs.YtckbhjjflpobbaaGreat.Hk (Hd saves loads o_save o_load hblock)

/-- Things at the end are no longer looked at. -/
theorem own_drop {w0 w : World} {L M : List As} (h : Mem.Own w0 (L ++ M) w) : Mem.Own w0 L w :=
  h.pick (fun i => i) (fun _ _ _ _ e => e) fun i a hi => by
    rw [List.getElem?_append_left (List.getElem?_eq_some_iff.1 hi).1]; exact hi
theorem poured_eq {s : Ds} {t : Int} {g : Nat → ByteArray} {k m : Nat} (hk : k < m) (h0 : (pour s t g k).1 = 0) (he : ((pour s t g k).2.writes (t + (k : Int)) (g k)).1 ≠ 0) : poured s t g m = (pour s t g k).2.writes (t + (k : Int)) (g k) := by
  have e1 := pour_succ h0
  have e2 := pour_stop (s := s) (t := t) (g := g) (k := k + 1) (m := m) (by rw [e1]; exact he) (by omega)
  unfold poured
  rw [e2, e1, if_pos he]
set_option maxRecDepth 100000 in
set_option maxHeartbeats 4000000 in
theorem o_jwrite {w0 w : World} {L : List As} {J D F : Nat} {j : Jw} {s : Ds} (h : Mem.Own w0 (jA J D j :: dk F D s :: L) w) (a : Int) (ha : a = 0 ∨ a = 1) (hb : j.area ≤ 32000) (q : Nat) (hq : q ≤ 65536) (ao : Option Addr) (cap m : Nat) (hm : m ≤ 65536) (g : Nat → ByteArray)
    (hst : ∀ W s', Mem.Own w0 (jA J D j :: dk F D s' :: L) W → SAt W ao m g) (hroom : s.pend.length + m < 4294967296) :
    Calls Tryz.prog 31 #[.pointer (some ⟨J, 0, none⟩), .int .i64 a, .int .i64 (q : Int), .slice ao m cap] w fun e w' =>
      e = .returned (.int .i64 (poured s (j.base a + (q : Int)) g m).1) ∧ Mem.Own w0 (jA J D (j.told (poured s (j.base a + (q : Int)) g m).1) :: dk F D (poured s (j.base a + (q : Int)) g m).2 :: L) w' := by
  have hcell : ∀ W s', Mem.Own w0 (jA J D j :: dk F D s' :: L) W → W.cell? ⟨J, 0, none⟩ = some (.pointer (some ⟨D, 0, none⟩)) ∧ ((W.cell? ⟨J, 2, none⟩ = some (.int .i64 2) ∧ W.cell? ⟨J, 3, none⟩ = some (.int .i64 (2 + (j.area : Int)))) ∧ ∀ i, W.frozen? ⟨J, i, none⟩ = false) := fun W s' hW => by
    obtain ⟨⟨c0, _, c2, c3, _, _, _, _, _, _, _, _⟩, fz⟩ := jblock (own_j hW 0 rfl)
    exact ⟨c0, ⟨c2, c3⟩, fz⟩
  have hdone : ∀ W s' (E : Int), Mem.Own w0 (jA J D j :: dk F D s' :: L) W → Calls Tryz.prog 58 #[.pointer (some ⟨J, 0, none⟩), .int .i64 E] W fun e w' => e = .returned (.int .i64 E) ∧ Mem.Own w0 (jA J D (j.told E) :: dk F D s' :: L) w' := fun W s' E hW => o_done hW 0 rfl E
  obtain ⟨B, hB⟩ : ∃ B : Int, B = j.base a := ⟨_, rfl⟩
  have hB2 : (a = 0 ∧ B = 2) ∨ (a = 1 ∧ B = 2 + (j.area : Int)) := by
    rw [hB]; unfold Jw.base
    rcases ha with rfl | rfl
    · exact .inl ⟨rfl, by omega⟩
    · exact .inr ⟨rfl, by omega⟩
  have hBr : 2 ≤ B ∧ B ≤ 32002 := by rcases hB2 with ⟨_, e⟩ | ⟨_, e⟩ <;> omega
  have hwr : ∀ (k : Nat) (W : World), k < m → Mem.Own w0 (jA J D j :: dk F D (pour s (B + (q : Int)) g k).2 :: L) W → Calls Tryz.prog 57 #[.pointer (some ⟨D, 0, none⟩), .int .i64 (B + ((q : Int) + (k : Int))), .string (g k)] W fun e w' => e = .returned (.int .i64 ((pour s (B + (q : Int)) g k).2.writes (B + (q : Int) + (k : Int)) (g k)).1) ∧ Mem.Own w0 (jA J D j :: dk F D ((pour s (B + (q : Int)) g k).2.writes (B + (q : Int) + (k : Int)) (g k)).2 :: L) w' := fun k W hk hW => by
    have := pour_len s (B + (q : Int)) g k
    have r := o_write hW 1 rfl (by omega) (B + ((q : Int) + (k : Int))) (g k)
    rw [show B + ((q : Int) + (k : Int)) = B + (q : Int) + (k : Int) by omega] at r ⊢
    exact r
  have hsync : ∀ (W : World) s', Mem.Own w0 (jA J D j :: dk F D s' :: L) W → Calls Tryz.prog 59 #[.pointer (some ⟨D, 0, none⟩)] W fun e w' => e = .returned (.int .i64 s'.syncs.1) ∧ Mem.Own w0 (jA J D j :: dk F D s'.syncs.2 :: L) w' := fun W s' hW => o_sync hW 1 rfl
  rw [← hB]
  obtain ⟨t, ht⟩ : ∃ t : Int, t = B + (q : Int) := ⟨_, rfl⟩
  rw [← ht] at hwr
  rw [← ht]
  have h0 : Mem.Own w0 (jA J D j :: dk F D (pour s t g 0).2 :: L) w := h
  have HH := Lib.hid (And.intro hcell (And.intro hdone (And.intro hwr (And.intro hsync hst))))
  obtain ⟨c0, ⟨c2, c3⟩, fz⟩ := hcell w s h
  clear hcell hdone hwr hsync hst hB h hroom ht
  rcases hB2 with ⟨rfl, rfl⟩ | ⟨rfl, rfl⟩
  all_goals
    go_enter Tryz.func31, Tryz.ntmps31
    go_wp2
    go_loopw [22] (fun i wr => ∃ k : Nat, k ≤ m ∧ i = .int .i64 k ∧ (pour s t g k).1 = 0 ∧ Mem.Own w0 (jA J D j :: dk F D (pour s t g k).2 :: L) wr) (fun i _ => m - (intOf i).toNat)
    case atStart => exact ⟨0, by omega, rfl, rfl, h0⟩
    case round =>
      obtain ⟨k, hk, rfl, hp0, hp⟩ := hrel
      have S1 := (HH.out.1 _ _ hp).1
      have S2 := (HH.out.1 _ _ hp.drew).1
      by_cases hlt : k < m
      · obtain ⟨g1, rfl, x0⟩ := HH.out.2.2.2.2 _ _ hp k hlt
        obtain ⟨g1', eg, x1⟩ := HH.out.2.2.2.2 _ _ hp.drew k hlt
        cases eg
        have hw := fun W => HH.out.2.2.1 k W hlt
        have hstep := pour_succ hp0
        have hfail := poured_eq (s := s) (t := t) (g := g) hlt hp0
        obtain ⟨R, hR⟩ : ∃ R, R = (pour s t g k).2.writes (t + (k : Int)) (g k) := ⟨_, rfl⟩
        rw [← hR] at hw hstep hfail
        obtain ⟨X, hX⟩ : ∃ X, X = g k := ⟨_, rfl⟩
        rw [← hX] at x0 x1 hw
        obtain ⟨E, hE⟩ : ∃ E, E = R.1 := ⟨_, rfl⟩
        rw [← hE] at hw hfail
        have hw1 : IntKind.i64.wrap ((q : Int) + (k : Int)) = (q : Int) + (k : Int) := by rw [IntKind.wrap_i64]; omega
        have hpd := Lib.hid hp.drew
        have HK := Lib.hid (And.intro hw (And.intro hstep (And.intro hfail hE)))
        clear hp h0 hX hw hstep hfail hR hp0 hE
        go_wp2
        go_region_held3 (fun W => W.cell? ⟨J, 0, none⟩ = some (.pointer (some ⟨D, 0, none⟩)))
          (first | assumption | exact (HH.out.1 _ _ k4.out).1)
          (first
            | (go_at_call 56; (with_reducible refine (sector_c _ _ ⟨by omega, by omega⟩ _).mono ?_); rintro e u3 ⟨rfl, rfl⟩)
            | (go_at_call 57; (with_reducible refine (HK.out.1 _ hpd.out).mono ?_); rintro e u4 ⟨rfl, k4'⟩; have k4 := Lib.hid k4'; clear k4'))
        by_cases he : E = 0
        · have te : (E != 0) = false := by simp [he]
          have HE := Lib.hid he
          clear he
          go_wp2
          go_roundw
          case rel => exact ⟨k + 1, by omega, by go_num, by rw [HK.out.2.1, ← HK.out.2.2.2]; exact HE.out, by rw [HK.out.2.1]; exact k4.out⟩
          case measure => simp [intOf]; omega
        · have te : (E != 0) = true := by simpa using he
          have HE := Lib.hid he
          clear he
          have hd := HH.out.2.1 _ _ E k4.out
          go_wp2_with (go_at_call 58; (with_reducible refine hd.mono ?_); rintro e u5 ⟨rfl, k5⟩; have K5 := Lib.hid k5; clear k5)
          go_ret
          rw [HK.out.2.2.1 HE.out, ← HK.out.2.2.2]
          exact ⟨rfl, K5.out⟩
      · obtain rfl : k = m := by omega
        have hfin : poured s t g k = (pour s t g k).2.syncs := by
          unfold poured; rw [if_neg (by rw [hp0]; decide)]
        have hs := HH.out.2.2.2.1 _ _ hp
        obtain ⟨R, hR⟩ : ∃ R, R = (pour s t g k).2.syncs := ⟨_, rfl⟩
        rw [← hR] at hs hfin
        have HF := Lib.hid hfin
        clear hp h0 hR hp0 hfin
        go_wp2_with (first
          | (go_at_call 59; (with_reducible refine hs.mono ?_); rintro e u4 ⟨rfl, k4'⟩; have k4 := Lib.hid k4'; have hd := HH.out.2.1 _ _ R.1 k4'; clear k4')
          | (go_at_call 58; (with_reducible refine hd.mono ?_); rintro e u5 ⟨rfl, k5⟩; have K5 := Lib.hid k5; clear k5))
        go_ret
        rw [HF.out]
        exact ⟨rfl, K5.out⟩
/-! save -/
def hcs (c : Hd) : Array Value := #[.int .i64 c.seq, .int .i64 c.boot, .int .i64 c.area, .int .i64 c.first, .int .i64 c.snaps]
set_option maxRecDepth 100000 in
set_option maxHeartbeats 4000000 in
theorem o_jsave {w0 w : World} {L : List As} {J D F : Nat} {j : Jw} {s : Ds} (h : Mem.Own w0 (jA J D j :: dk F D s :: L) w) (hroom : s.pend.length < 4294967296) (c : Hd) :
    Calls Tryz.prog 35 #[.pointer (some ⟨J, 0, none⟩), .agg #[.int .i64 c.seq, .int .i64 c.boot, .int .i64 c.area, .int .i64 c.first, .int .i64 c.snaps]] w fun e w' => e = .returned (.int .i64 (jsaves j s c).1) ∧ Mem.Own w0 (jA J D (jsaves j s c).2.1 :: dk F D (jsaves j s c).2.2 :: L) w' := by
  have hb := h.box #[.int .i64 c.seq, .int .i64 c.boot, .int .i64 c.area, .int .i64 c.first, .int .i64 c.snaps] 74
  have hlook : ∀ j' s' W, Mem.Own w0 (boxA w.heap.size #[.int .i64 c.seq, .int .i64 c.boot, .int .i64 c.area, .int .i64 c.first, .int .i64 c.snaps] 74 :: jA J D j' :: dk F D s' :: L) W → (W.cell? ⟨J, 0, none⟩ = some (.pointer (some ⟨D, 0, none⟩)) ∧ W.cell? ⟨w.heap.size, 0, none⟩ = some (.int .i64 c.seq) ∧ W.cell? ⟨w.heap.size, 1, none⟩ = some (.int .i64 c.boot) ∧ W.cell? ⟨w.heap.size, 2, none⟩ = some (.int .i64 c.area) ∧ W.cell? ⟨w.heap.size, 3, none⟩ = some (.int .i64 c.first) ∧ W.cell? ⟨w.heap.size, 4, none⟩ = some (.int .i64 c.snaps)) ∧ ∀ i, W.frozen? ⟨J, i, none⟩ = false := fun j' s' W hW => by
    obtain ⟨⟨c0, _⟩, fz⟩ := jblock (own_j hW 1 rfl)
    exact ⟨⟨c0, (hblock (hW.boxed 0 rfl)).1⟩, fz⟩
  have hsave : ∀ W, Mem.Own w0 (boxA w.heap.size #[.int .i64 c.seq, .int .i64 c.boot, .int .i64 c.area, .int .i64 c.first, .int .i64 c.snaps] 74 :: jA J D j :: dk F D s :: L) W → Calls Tryz.prog 64 #[.pointer (some ⟨D, 0, none⟩), .agg #[.int .i64 c.seq, .int .i64 c.boot, .int .i64 c.area, .int .i64 c.first, .int .i64 c.snaps]] W fun e w' => e = .returned (.int .i64 (saves s c).1) ∧ Mem.Own w0 (boxA w.heap.size #[.int .i64 c.seq, .int .i64 c.boot, .int .i64 c.area, .int .i64 c.first, .int .i64 c.snaps] 74 :: jA J D j :: dk F D (saves s c).2 :: L) w' := fun W hW => o_save hW 2 rfl hroom c
  have hdone : ∀ W s' (E : Int), Mem.Own w0 (boxA w.heap.size #[.int .i64 c.seq, .int .i64 c.boot, .int .i64 c.area, .int .i64 c.first, .int .i64 c.snaps] 74 :: jA J D j :: dk F D s' :: L) W → Calls Tryz.prog 58 #[.pointer (some ⟨J, 0, none⟩), .int .i64 E] W fun e w' => e = .returned (.int .i64 E) ∧ Mem.Own w0 (boxA w.heap.size #[.int .i64 c.seq, .int .i64 c.boot, .int .i64 c.area, .int .i64 c.first, .int .i64 c.snaps] 74 :: jA J D (j.told E) :: dk F D s' :: L) w' := fun W s' E hW => o_done hW 1 rfl E
  have hend : ∀ (W : World) s' (d : Bool), Mem.Own w0 (boxA w.heap.size #[.int .i64 c.seq, .int .i64 c.boot, .int .i64 c.area, .int .i64 c.first, .int .i64 c.snaps] 74 :: jA J D { j with dead := d } :: dk F D s' :: L) W →
      Mem.Own w0 (jA J D { j with dead := d, h := c } :: dk F D s' :: L) (((((W.setCell ⟨J, 4, none⟩ (.int .i64 c.seq)).setCell ⟨J, 5, none⟩ (.int .i64 c.boot)).setCell ⟨J, 6, none⟩ (.int .i64 c.area)).setCell ⟨J, 7, none⟩ (.int .i64 c.first)).setCell ⟨J, 8, none⟩ (.int .i64 c.snaps)) := fun W s' d hW =>
    (((((hW.tail.boxset 0 rfl 4 (.int .i64 c.seq)).boxset 0 rfl 5 (.int .i64 c.boot)).boxset 0 rfl 6 (.int .i64 c.area)).boxset 0 rfl 7 (.int .i64 c.first)).boxset 0 rfl 8 (.int .i64 c.snaps))
  obtain ⟨R, hR⟩ : ∃ R, R = saves s c := ⟨_, rfl⟩
  have hj : jsaves j s c = (R.1, { j with dead := R.1 == 10, h := if R.1 = 0 then c else j.h }, R.2) := by rw [hR]; rfl
  rw [hj]
  rw [← hR] at hsave
  obtain ⟨E, hE⟩ : ∃ E, E = R.1 := ⟨_, rfl⟩
  rw [← hE] at hsave ⊢
  have HH := Lib.hid (And.intro hlook (And.intro hsave (And.intro hdone hend)))
  have S1 := (hlook _ _ _ hb).1
  have S2 := (hlook _ _ _ hb.drew).1
  have hbd := Lib.hid hb.drew
  clear hlook hsave hdone hend hR hj hE h hb hroom
  go_enter Tryz.func35, Tryz.ntmps35
  go_wp2
  go_region_held3 (fun W => W.cell? ⟨J, 0, none⟩ = some (.pointer (some ⟨D, 0, none⟩)) ∧ W.cell? ⟨w.heap.size, 0, none⟩ = some (.int .i64 c.seq) ∧ W.cell? ⟨w.heap.size, 1, none⟩ = some (.int .i64 c.boot) ∧ W.cell? ⟨w.heap.size, 2, none⟩ = some (.int .i64 c.area) ∧ W.cell? ⟨w.heap.size, 3, none⟩ = some (.int .i64 c.first) ∧ W.cell? ⟨w.heap.size, 4, none⟩ = some (.int .i64 c.snaps))
    (first | assumption | exact (HH.out.1 _ _ _ k3.out).1 | exact (HH.out.1 _ _ _ k4.out).1)
    (first
      | (go_at_call 64; (with_reducible refine (HH.out.2.1 _ hbd.out).mono ?_); rintro e u3 ⟨rfl, k3'⟩; have k3 := Lib.hid k3'; clear k3')
      | (go_at_call 58; (with_reducible refine (HH.out.2.2.1 _ _ _ k3.out).mono ?_); rintro e u4 ⟨rfl, k4'⟩; have k4 := Lib.hid k4'; clear k4'))
  obtain ⟨⟨_, _, _, _, _⟩, fz⟩ := And.intro (HH.out.1 _ _ _ k4.out).1.2 (HH.out.1 _ _ _ k4.out).2
  obtain ⟨⟨_, _, _, _, _, _, _, _, _, _, _, _⟩, _⟩ := jblock (own_j k4.out 1 rfl)
  by_cases he : E = 0
  · subst he
    go_wp2
    go_ret
    exact ⟨rfl, HH.out.2.2.2 _ _ _ k4.out⟩
  · have te : (E == 0) = false := by simpa using he
    have HE := Lib.hid he
    clear he
    go_wp2
    go_ret
    exact ⟨rfl, k4.out.tail⟩
/-! newest -/
def newestHd (s : Ds) : Hd × Int := if (loads s).2 = 6 then (⟨0, 0, 0, 1, 0⟩, 0) else loads s
set_option maxRecDepth 100000 in
set_option maxHeartbeats 4000000 in
theorem o_newest {w0 w : World} {L : List As} (h : Mem.Own w0 L w) (i : Nat) {F D : Nat} {s : Ds} (hi : L[i]? = some (dk F D s)) :
    Calls Tryz.prog 49 #[.pointer (some ⟨D, 0, none⟩)] w fun e w' => e = .returned (.tuple #[.agg #[.int .i64 (newestHd s).1.seq, .int .i64 (newestHd s).1.boot, .int .i64 (newestHd s).1.area, .int .i64 (newestHd s).1.first, .int .i64 (newestHd s).1.snaps], .int .i64 (newestHd s).2]) ∧ Mem.Own w0 L w' := by
  have hb := h.box #[.int .i64 0, .int .i64 0, .int .i64 0, .int .i64 0, .int .i64 0] 74
  have hload := fun (W : World) hW => o_load (w0 := w0) (w := W) (L := boxA w.heap.size #[.int .i64 0, .int .i64 0, .int .i64 0, .int .i64 0, .int .i64 0] 74 :: L) hW (i + 1) (s := s) (F := F) (D := D) hi
  have hend : ∀ (W : World) (c : Hd), Mem.Own w0 (boxA w.heap.size #[.int .i64 0, .int .i64 0, .int .i64 0, .int .i64 0, .int .i64 0] 74 :: L) W → Mem.Own w0 L (((((W.setCell ⟨w.heap.size, 0, none⟩ (.int .i64 c.seq)).setCell ⟨w.heap.size, 1, none⟩ (.int .i64 c.boot)).setCell ⟨w.heap.size, 2, none⟩ (.int .i64 c.area)).setCell ⟨w.heap.size, 3, none⟩ (.int .i64 c.first)).setCell ⟨w.heap.size, 4, none⟩ (.int .i64 c.snaps)) ∧ (((((((W.setCell ⟨w.heap.size, 0, none⟩ (.int .i64 c.seq)).setCell ⟨w.heap.size, 1, none⟩ (.int .i64 c.boot)).setCell ⟨w.heap.size, 2, none⟩ (.int .i64 c.area)).setCell ⟨w.heap.size, 3, none⟩ (.int .i64 c.first)).setCell ⟨w.heap.size, 4, none⟩ (.int .i64 c.snaps)).cell? ⟨w.heap.size, 0, none⟩ = some (.int .i64 c.seq) ∧ (((((W.setCell ⟨w.heap.size, 0, none⟩ (.int .i64 c.seq)).setCell ⟨w.heap.size, 1, none⟩ (.int .i64 c.boot)).setCell ⟨w.heap.size, 2, none⟩ (.int .i64 c.area)).setCell ⟨w.heap.size, 3, none⟩ (.int .i64 c.first)).setCell ⟨w.heap.size, 4, none⟩ (.int .i64 c.snaps)).cell? ⟨w.heap.size, 1, none⟩ = some (.int .i64 c.boot) ∧ (((((W.setCell ⟨w.heap.size, 0, none⟩ (.int .i64 c.seq)).setCell ⟨w.heap.size, 1, none⟩ (.int .i64 c.boot)).setCell ⟨w.heap.size, 2, none⟩ (.int .i64 c.area)).setCell ⟨w.heap.size, 3, none⟩ (.int .i64 c.first)).setCell ⟨w.heap.size, 4, none⟩ (.int .i64 c.snaps)).cell? ⟨w.heap.size, 2, none⟩ = some (.int .i64 c.area) ∧ (((((W.setCell ⟨w.heap.size, 0, none⟩ (.int .i64 c.seq)).setCell ⟨w.heap.size, 1, none⟩ (.int .i64 c.boot)).setCell ⟨w.heap.size, 2, none⟩ (.int .i64 c.area)).setCell ⟨w.heap.size, 3, none⟩ (.int .i64 c.first)).setCell ⟨w.heap.size, 4, none⟩ (.int .i64 c.snaps)).cell? ⟨w.heap.size, 3, none⟩ = some (.int .i64 c.first) ∧ (((((W.setCell ⟨w.heap.size, 0, none⟩ (.int .i64 c.seq)).setCell ⟨w.heap.size, 1, none⟩ (.int .i64 c.boot)).setCell ⟨w.heap.size, 2, none⟩ (.int .i64 c.area)).setCell ⟨w.heap.size, 3, none⟩ (.int .i64 c.first)).setCell ⟨w.heap.size, 4, none⟩ (.int .i64 c.snaps)).cell? ⟨w.heap.size, 4, none⟩ = some (.int .i64 c.snaps))) := fun W c hW => by
    have q := ((((hW.boxset 0 rfl 0 (.int .i64 c.seq)).boxset 0 rfl 1 (.int .i64 c.boot)).boxset 0 rfl 2 (.int .i64 c.area)).boxset 0 rfl 3 (.int .i64 c.first)).boxset 0 rfl 4 (.int .i64 c.snaps)
    exact ⟨q.tail, (hblock (q.boxed 0 rfl)).1⟩
  have hfz : ∀ (W : World), Mem.Own w0 (boxA w.heap.size #[.int .i64 0, .int .i64 0, .int .i64 0, .int .i64 0, .int .i64 0] 74 :: L) W → (W.cell? ⟨w.heap.size, 0, none⟩ = some (.int .i64 0) ∧ W.cell? ⟨w.heap.size, 1, none⟩ = some (.int .i64 0) ∧ W.cell? ⟨w.heap.size, 2, none⟩ = some (.int .i64 0) ∧ W.cell? ⟨w.heap.size, 3, none⟩ = some (.int .i64 0) ∧ W.cell? ⟨w.heap.size, 4, none⟩ = some (.int .i64 0)) ∧ ∀ i, W.frozen? ⟨w.heap.size, i, none⟩ = false := fun W hW => hblock (hW.boxed 0 rfl)
  have hn : newestHd s = if (loads s).2 = 6 then (⟨0, 0, 0, 1, 0⟩, 0) else loads s := rfl
  rw [hn]
  obtain ⟨R, hR⟩ : ∃ R, R = loads s := ⟨_, rfl⟩
  rw [← hR] at hload ⊢
  obtain ⟨c, E⟩ := R
  replace hload : ∀ W, Mem.Own w0 (boxA w.heap.size #[.int .i64 0, .int .i64 0, .int .i64 0, .int .i64 0, .int .i64 0] 74 :: L) W → Calls Tryz.prog 73 #[.pointer (some ⟨D, 0, none⟩)] W fun e w' => e = .returned (.tuple #[.agg #[.int .i64 c.seq, .int .i64 c.boot, .int .i64 c.area, .int .i64 c.first, .int .i64 c.snaps], .int .i64 E]) ∧ Mem.Own w0 (boxA w.heap.size #[.int .i64 0, .int .i64 0, .int .i64 0, .int .i64 0, .int .i64 0] 74 :: L) w' := hload
  show Calls _ _ _ _ fun e w' => e = .returned (.tuple #[.agg #[.int .i64 (if E = 6 then ((⟨0, 0, 0, 1, 0⟩ : Hd), (0 : Int)) else (c, E)).1.seq, .int .i64 (if E = 6 then ((⟨0, 0, 0, 1, 0⟩ : Hd), (0 : Int)) else (c, E)).1.boot, .int .i64 (if E = 6 then ((⟨0, 0, 0, 1, 0⟩ : Hd), (0 : Int)) else (c, E)).1.area, .int .i64 (if E = 6 then ((⟨0, 0, 0, 1, 0⟩ : Hd), (0 : Int)) else (c, E)).1.first, .int .i64 (if E = 6 then ((⟨0, 0, 0, 1, 0⟩ : Hd), (0 : Int)) else (c, E)).1.snaps], .int .i64 (if E = 6 then ((⟨0, 0, 0, 1, 0⟩ : Hd), (0 : Int)) else (c, E)).2]) ∧ Mem.Own w0 L w'
  have HH := Lib.hid (And.intro hload (And.intro hend (And.intro hfz hb)))
  clear hload hend hfz hb hR hn h hi
  by_cases he : E = 6
  · subst he
    rw [if_pos rfl]
    go_enter Tryz.func49, Tryz.ntmps49
    go_wp2_with (go_at_call 73; (with_reducible refine (HH.out.1 _ HH.out.2.2.2).mono ?_); rintro e u3 ⟨rfl, k3'⟩; have k3 := Lib.hid k3'; clear k3'; obtain ⟨⟨_, _, _, _, _⟩, fz⟩ := HH.out.2.2.1 _ (k3.out.alloc (.cells #[.int .i64 c.seq, .int .i64 c.boot, .int .i64 c.area, .int .i64 c.first, .int .i64 c.snaps] 74)))
    obtain ⟨kk, d0, d1, d2, d3, d4⟩ := HH.out.2.1 _ ⟨0, 0, 0, 1, 0⟩ (k3.out.alloc (.cells #[.int .i64 c.seq, .int .i64 c.boot, .int .i64 c.area, .int .i64 c.first, .int .i64 c.snaps] 74))
    refine bodyPost_ret (v := .tuple #[.agg #[.int .i64 0, .int .i64 0, .int .i64 0, .int .i64 1, .int .i64 0], .int .i64 0]) (by simp [results, Tryz.results49, go_sem, d0, d1, d2, d3, d4]) rfl ?_
    exact ⟨rfl, kk⟩
  · have te : (E == 6) = false := by simpa using he
    rw [if_neg he]
    clear he
    go_enter Tryz.func49, Tryz.ntmps49
    go_wp2_with (go_at_call 73; (with_reducible refine (HH.out.1 _ HH.out.2.2.2).mono ?_); rintro e u3 ⟨rfl, k3'⟩; have k3 := Lib.hid k3'; clear k3'; obtain ⟨⟨_, _, _, _, _⟩, fz⟩ := HH.out.2.2.1 _ (k3.out.alloc (.cells #[.int .i64 c.seq, .int .i64 c.boot, .int .i64 c.area, .int .i64 c.first, .int .i64 c.snaps] 74)))
    obtain ⟨kk, d0, d1, d2, d3, d4⟩ := HH.out.2.1 _ c (k3.out.alloc (.cells #[.int .i64 c.seq, .int .i64 c.boot, .int .i64 c.area, .int .i64 c.first, .int .i64 c.snaps] 74))
    refine bodyPost_ret (v := .tuple #[.agg #[.int .i64 c.seq, .int .i64 c.boot, .int .i64 c.area, .int .i64 c.first, .int .i64 c.snaps], .int .i64 E]) (by simp [results, Tryz.results49, go_sem, d0, d1, d2, d3, d4]) rfl ?_
    exact ⟨rfl, kk⟩
end Go.Proofs.YtckbhjjflpobbaaGreat.Jk
