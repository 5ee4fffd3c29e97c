/-
  The program's find: its contract.
-/
import Derived.Test.YtckbhjjflpobbaaGreatGk
namespace Go.Proofs.YtckbhjjflpobbaaGreat.Rc
open Go Go.RowKit Go.ChangeShapes Go.WideShapes Go.ChangeAt Go.Proofs.YtckbhjjflpobbaaGreat.Mem Go.Proofs.YtckbhjjflpobbaaGreat.Pk Go.Proofs.YtckbhjjflpobbaaGreat.Fk Go.Proofs.YtckbhjjflpobbaaGreat.Dz Go.Proofs.YtckbhjjflpobbaaGreat.Fz

/-- Between two rounds, at sector t + k. -/
structure Fd (S : Nat → ByteArray) (t k : Nat) (w1 : World) (v1 v2 : Value) (wr : World) : Prop where
  kept : Kept w1 wr
  good : Good S t k
  less : k = 0 ∨ k < Pt S t
  list : wr.ownsRow w1.heap.size 113 6 v1 k (fcells6 (Xs S t) k)
  data : wr.ownsRow w1.heap.size 5 1 v2 (joined S t k).length (bytesV (joined S t k))
theorem rows_apart {w : World} {b1 b2 : Nat} {e1 e2 : TypeId} {s1 s2 : Nat} {v1 v2 : Value} {n1 n2 : Nat} {x1 x2 : List Value} (h1 : w.ownsRow b1 e1 s1 v1 n1 x1) (h2 : w.ownsRow b2 e2 s2 v2 n2 x2) (he : e1 ≠ e2) {g : Nat} (g1 : v1.ownBlock = some g) : some g ≠ v2.ownBlock := by
  intro e
  rcases h1.2 with ⟨rfl, _⟩ | ⟨a, _, _, rfl, _, ha, _⟩
  · simp [Value.ownBlock] at g1
  · rcases h2.2 with ⟨rfl, _⟩ | ⟨b, _, _, rfl, _, hb, _⟩
    · simp [Value.ownBlock] at e
    · simp [Value.ownBlock] at g1 e
      subst g1
      subst e
      rw [ha] at hb
      injection hb with hb
      injection hb with h1 h2
      exact he h2
theorem row_grown {a b : World} {base : Nat} {e : TypeId} {size : Nat} {v : Value} {n : Nat} {xs : List Value} {row : Option Nat} (h : a.ownsRow base e size v n xs) (hg : a.grownBy b row) (hne : ∀ g, v.ownBlock = some g → some g ≠ row) : b.ownsRow base e size v n xs :=
  ownsRow_block h fun g _ hg' => hg.block g (h.lt g hg').2 (hne g hg')
theorem data_len {S : Nat → ByteArray} {t : Nat} : ∀ {k : Nat}, (joined S t k).length ≤ 44 * k
  | 0 => by simp [joined]
  | k + 1 => by
    show (joined S t k ++ _).length ≤ _
    rw [List.length_append, size_list]
    have := data_len (S := S) (t := t) (k := k)
    have h2 : (decF (S (t + k))).data.size ≤ 44 := by
      rcases decE_or (S (t + k)) with ⟨h, _⟩ | ⟨_, _, e⟩
      · exact (dec_good h).1.short
      · rw [e]; decide
    omega
theorem Fd.first {S : Nat → ByteArray} {t k : Nat} {w1 : World} {v1 v2 v1' : Value} {wr a w3 : World} (h : Fd S t k w1 v1 v2 wr) (ka : Kept wr a) (hown : w3.ownsRow w1.heap.size 113 6 v1' (k + 1) (fcells6 (Xs S t) k ++ fcs (Xs S t k))) (hg : a.grownBy w3 v1.ownBlock) :
    Kept w1 w3 ∧ w3.ownsRow w1.heap.size 113 6 v1' (k + 1) (fcells6 (Xs S t) (k + 1)) ∧ w3.ownsRow w1.heap.size 5 1 v2 (joined S t k).length (bytesV (joined S t k)) :=
  ⟨kept_grown h.kept h.list (Nat.le_refl _) ka hg, by rw [fcells6_succ]; exact hown, row_grown (ownsRow_kept h.data ka) hg fun g hg' => rows_apart (ownsRow_kept h.data ka) (ownsRow_kept h.list ka) (by decide) hg'⟩
theorem Fd.second {S : Nat → ByteArray} {t k : Nat} {w1 : World} {v1' v2 v2' : Value} {w3 w4 : World}
    (h1 : Kept w1 w3) (h2 : w3.ownsRow w1.heap.size 113 6 v1' (k + 1) (fcells6 (Xs S t) (k + 1))) (h3 : w3.ownsRow w1.heap.size 5 1 v2 (joined S t k).length (bytesV (joined S t k)))
    (hown : w4.ownsRow w1.heap.size 5 1 v2' ((joined S t k).length + (Xs S t k).data.size) (bytesV (joined S t k) ++ Lib.strCells (Xs S t k).data)) (hg : w3.grownBy w4 v2.ownBlock) :
    Kept w1 w4 ∧ w4.ownsRow w1.heap.size 113 6 v1' (k + 1) (fcells6 (Xs S t) (k + 1)) ∧ w4.ownsRow w1.heap.size 5 1 v2' (joined S t (k + 1)).length (bytesV (joined S t (k + 1))) := by
  refine ⟨kept_grown h1 h3 (Nat.le_refl _) (Kept.refl w3) hg, row_grown h2 hg fun g hg' => rows_apart h2 h3 (by decide) hg', ?_⟩
  have e : joined S t (k + 1) = joined S t k ++ (Xs S t k).data.data.toList := rfl
  rw [e, List.length_append, size_list, ← bytesV_app]
  exact hown
theorem box_grown {a b : World} {B : Nat} {T : TypeId} {cs : Array Value} {base : Nat} {e : TypeId} {size n : Nat} {v : Value} {xs : List Value} (h : a.heap[B]? = some (.cells cs T (0, 0))) {wr : World} (hrow : wr.ownsRow base e size v n xs) (hB : wr.heap.size ≤ B) (hg : a.grownBy b v.ownBlock) : b.heap[B]? = some (.cells cs T (0, 0)) :=
  (hg.block B (lt_of_block h) (fun e => by have := (hrow.lt B e.symm).2; omega)).trans h
theorem boxed_two (u : World) (cs : Array Value) (T : TypeId) (o : Obj) : ((u.alloc (.cells cs T)).alloc o).heap[u.heap.size]? = some (.cells cs T (0, 0)) := by
  rw [Below.heap_alloc _ _ _ (by simp)]; exact World.alloc_heap_new u _
theorem cell_news_at (w : World) (B : Nat) (hB : w.heap.size = B) (cs : Array Value) (T : TypeId) : ∀ (j : Nat) (u : Value), cs.toList[j]? = some u → (w.alloc (.cells cs T)).cell? ((⟨B, 0, none⟩ : Addr).add j) = some u := by
  subst hB; exact cell_news w cs T
set_option maxRecDepth 100000 in
set_option maxHeartbeats 8000000 in
theorem find_c (F D M1 M2 : Nat) (pv : Value) (s : Ds) (t u : Nat) (hu : u ≤ s.n) (hn : s.n ≤ 65536) (ha : s.fu.dead = false) (w : World) (hd : Dk F D M1 M2 pv s w) :
    Calls Tryz.prog 95 #[.pointer (some ⟨D, 0, none⟩), .int .i64 (t : Int), .int .i64 (u : Int)] w fun e w' => ∃ (r : Fr) (q : Bool), e = .returned (.tuple #[.agg #[.int .i64 r.boot, .int .i64 r.lsn, .int .i64 r.part, .int .i64 r.parts, .int .u8 (r.kind : Int), .string r.data], .bool q]) ∧ Kept w w' ∧ ((t < u ∧ fdOk s.look t u ∧ r = fnd s.look t ∧ q = fdB s.look t) ∨ ((t < u → ¬ fdOk s.look t u) ∧ r = Fr.nil ∧ q = false)) := by
  obtain ⟨S, hS⟩ : ∃ S, S = s.look := ⟨_, rfl⟩
  rw [← hS]
  have hrd : ∀ (m : Nat) (W : World), m < u → Kept w W → Calls Tryz.prog 46 #[.pointer (some ⟨D, 0, none⟩), .int .i64 (m : Int)] W fun e w' => e = .returned (.tuple #[.string (S m), .int .i64 0]) ∧ Kept W w' := fun m W hm hW => by
    have e : s.reads (m : Int) = (s.look m, 0) := by simp [Ds.reads, Ds.out_in (show m < s.n by omega), ha]
    have := read_c F D M1 M2 pv s (m : Int) W (hd.keep hW)
    rw [e, ← hS] at this
    exact this
  obtain ⟨w1, hw1⟩ : ∃ w1, w1 = w.alloc (.cells #[.int .i64 0, .int .i64 0, .int .i64 0, .int .i64 0, .int .u8 0, .string ⟨#[]⟩] 113) := ⟨_, rfl⟩
  have k1 : Kept w w1 := by rw [hw1]; exact (Kept.refl w).alloc _
  have hR1 : w1.heap[w.heap.size]? = some (.cells (fcells 0 0 0 0 0 ⟨#[]⟩) 113 (0, 0)) := by rw [hw1]; exact (MapKept.heap_alloc w (.cells (fcells 0 0 0 0 0 ⟨#[]⟩) 113)).1
  have hs1 : w1.heap.size = w.heap.size + 1 := by rw [hw1]; simp
  have H0 := Lib.hid (And.intro hrd (And.intro k1 hR1))
  clear hrd k1 hd hS ha hR1
  obtain ⟨i0, hi, hz0, hz1, hz2⟩ := info_parts frame_info
  obtain ⟨j0, hj, hy0, hy1, hy2⟩ := info_parts byte_info
  have hret : ∀ (W : World), Kept w1 W → (t < u → ¬ fdOk S t u) → ∀ (tm : Array Value), tm[6]?.getD undef = .pointer (some ⟨w.heap.size, 0, none⟩) → tm[7]?.getD undef = .bool false → bodyPost Tryz.prog Tryz.f95 (fun e w' => ∃ (r : Fr) (q : Bool), e = .returned (.tuple #[.agg #[.int .i64 r.boot, .int .i64 r.lsn, .int .i64 r.part, .int .i64 r.parts, .int .u8 (r.kind : Int), .string r.data], .bool q]) ∧ Kept w w' ∧ ((t < u ∧ fdOk S t u ∧ r = fnd S t ∧ q = fdB S t) ∨ ((t < u → ¬ fdOk S t u) ∧ r = Fr.nil ∧ q = false))) Exit.ret ⟨tm, []⟩
      ((((((W.setCell ⟨w.heap.size, 0, none⟩ (.int .i64 0)).setCell ⟨w.heap.size, 1, none⟩ (.int .i64 0)).setCell ⟨w.heap.size, 2, none⟩ (.int .i64 0)).setCell ⟨w.heap.size, 3, none⟩ (.int .i64 0)).setCell ⟨w.heap.size, 4, none⟩ (.int .u8 0)).setCell ⟨w.heap.size, 5, none⟩ (.string ⟨#[]⟩)) := fun W hW hb tm htm htm7 => by
    have hR := hW.block H0.out.2.2
    have hy := six (b := 0) (l := 0) (p := 0) (q := 0) (k := 0) (d := ⟨#[]⟩) hR
    have ky := six_below (b := 0) (l := 0) (p := 0) (q := 0) (k := 0) (d := ⟨#[]⟩) (H0.out.2.1.trans hW) (Nat.le_refl w.heap.size)
    generalize ((((((W.setCell ⟨w.heap.size, 0, none⟩ (.int .i64 0)).setCell ⟨w.heap.size, 1, none⟩ (.int .i64 0)).setCell ⟨w.heap.size, 2, none⟩ (.int .i64 0)).setCell ⟨w.heap.size, 3, none⟩ (.int .i64 0)).setCell ⟨w.heap.size, 4, none⟩ (.int .u8 0)).setCell ⟨w.heap.size, 5, none⟩ (.string ⟨#[]⟩)) = y at hy ky ⊢
    obtain ⟨c0, c1, c2, c3, c4, c5⟩ := six_cells hy
    exact bodyPost_ret (v := .tuple #[.agg #[.int .i64 0, .int .i64 0, .int .i64 0, .int .i64 0, .int .u8 0, .string ⟨#[]⟩], .bool false]) (by simp [results, Tryz.results95, go_sem, c0, c1, c2, c3, c4, c5, htm, htm7]) rfl ⟨Fr.nil, false, rfl, ky, .inr ⟨hb, rfl, rfl⟩⟩
  have HRET := Lib.hid hret
  clear hret
  go_enter Tryz.func95, Tryz.ntmps95
  go_wp2
  rw [← hw1]
  clear hw1
  go_loopw [8, 9, 10] (fun v1 v2 i wr => ∃ m k : Nat, m = t + k ∧ (t ≤ u → m ≤ u) ∧ (u < t → k = 0) ∧ i = .int .i64 (m : Int) ∧ Fd S t k w1 v1 v2 wr) (fun _ _ i _ => u - (intOf i).toNat)
  case atStart => exact ⟨t, 0, rfl, id, fun _ => rfl, rfl, Kept.refl _, fun i h => absurd h (by omega), .inl rfl, World.ownsRow_nil _ _ _ _, World.ownsRow_nil _ _ _ _⟩
  case round =>
    obtain ⟨m, k, hm, hmu, hut, rfl, hI⟩ := hrel
    by_cases hlt : m < u
    · have hc1 := H0.out.1 m wr hlt (H0.out.2.1.trans hI.kept)
      have hcd := decode_c (S m)
      rcases decE_or (S m) with ⟨hE, _⟩ | ⟨hE, _⟩
      · rw [hE] at hcd
        have hgood : Good S t (k + 1) := fun i hi => by
          by_cases e : i = k
          · rw [e, ← hm]; exact hE
          · exact hI.good i (by omega)
        have hXk : Xs S t k = decF (S m) := by unfold Xs; rw [hm]
        have hk16 : k ≤ 65536 := by omega
        have hlen := data_len (S := S) (t := t) (k := k)
        obtain ⟨X, hX⟩ : ∃ X, X = decF (S m) := ⟨_, rfl⟩
        have hx44 : X.data.size ≤ 44 := by rw [hX]; exact (dec_good hE).1.short
        rw [← hX] at hcd hXk
        have hst1 := fun (a w3 : World) (v1' : Value) => hI.first (a := a) (w3 := w3) (v1' := v1')
        have hst2 := fun (w3 w4 : World) (v1' v2' : Value) => Fd.second (S := S) (t := t) (k := k) (w1 := w1) (v2 := u9) (w3 := w3) (w4 := w4) (v1' := v1') (v2' := v2')
        rw [hXk] at hst1 hst2
        obtain ⟨Ln, hLn⟩ : ∃ Ln, Ln = (joined S t k).length := ⟨_, rfl⟩
        rw [← hLn] at hlen hst1 hst2
        have hdat := hI.data
        rw [← hLn] at hdat
        have HI := Lib.hid (And.intro hI (And.intro hst1 (And.intro hst2 (And.intro hgood (And.intro hdat (And.intro hm (And.intro hmu hut)))))))
        have hsz1 := hI.kept.size
        have hpar : (Xs S t 0).parts = Pt S t ∧ Pt S t ≤ 255 ∧ 1 ≤ Pt S t := by
          have h0 : decE (S (t + 0)) = 0 := hgood 0 (by omega)
          have hg := (dec_good h0).1
          have e : (Xs S t 0).parts = (decF (S (t + 0))).parts := rfl
          have := hg.q1; have := hg.q2
          have e2 : Pt S t = (decF (S (t + 0))).parts.toNat := rfl
          omega
        clear hst1 hst2 hgood hI hX hE hXk hdat hLn hm hmu hut
        cases hq : decide (k + 1 < Pt S t)
        · have t1 : decide ((k : Int) + 1 < (Xs S t 0).parts) = false := by rw [hpar.1]; simp at hq ⊢; omega
          obtain ⟨Z, hZ⟩ : ∃ Z, Z = Xs S t 0 := ⟨_, rfl⟩
          obtain ⟨DT, hDT⟩ : ∃ DT, DT = str (joined S t (k + 1)) := ⟨_, rfl⟩
          rw [← hZ] at t1
          have hkP : k + 1 = Pt S t := by
            have := HI.out.1.less
            simp at hq
            omega
          have hP255 := Lib.hid hpar.2.1
          have HZ := Lib.hid (And.intro hZ (And.intro hkP hDT))
          clear hZ hpar hq hDT hkP
          go_wp2_with (first
            | (go_at_call 46; (with_reducible refine hc1.mono ?_); rintro e u1 ⟨rfl, k2⟩)
            | (go_at_call 107; (with_reducible refine (hcd _).mono ?_); rintro e u2 ⟨rfl, k3⟩; have kz := Lib.hid (k2.trans k3); have hsz2 := kz.out.size; have hl2 := Lib.hid (ownsRow_kept HI.out.1.list (kz.out.alloc (.cells #[.int .i64 X.boot, .int .i64 X.lsn, .int .i64 X.part, .int .i64 X.parts, .int .u8 (X.kind : Int), .string X.data] 113))))
            | (at_builtin; refine wpList_append_own_at _ rfl _ _ 133 rfl w1.heap.size 113 i0 (.agg #[.int .i64 0, .int .i64 0, .int .i64 0, .int .i64 0, .int .u8 0, .string ByteArray.empty]) 6 56 Tryz.underlying133 hi hz0 hz1 hz2 rfl (by decide) _ _ _ rfl (hl2.out.alloc _) ⟨u2.heap.size + 1, 0, none⟩ 1 1 [.int .i64 X.boot, .int .i64 X.lsn, .int .i64 X.part, .int .i64 X.parts, .int .u8 (X.kind : Int), .string X.data] rfl rfl (cell_news_at _ _ (by simp) _ _) (by intro x hx; simp at hx; rcases hx with rfl | rfl | rfl | rfl | rfl | rfl <;> rfl) (by unfold maxLen; omega) (by omega) (by simp; omega) ?_; intro v1' w3 hown hgrow _ _; obtain ⟨g1, cap1, rfl⟩ := ownsRow_succ hown; have H3 := Lib.hid (HI.out.2.1 _ w3 _ ((kz.out.alloc _).alloc _) hown hgrow); have hb3 := box_grown (boxed_two u2 _ _ _) HI.out.1.list hsz2 hgrow; obtain ⟨⟨c0, c1, c2, c3, c4, c5⟩, fz3⟩ := rblock hb3; have hsz3 := H3.out.1.size; clear hown hgrow hb3)
            | (at_builtin; (refine Lib.wpList_append_own_string _ rfl _ _ 130 9 rfl w1.heap.size 5 j0 Tryz.underlying130 Tryz.underlying9 hj hy0 hy1 hy2 _ _ _ rfl H3.out.2.2 _ rfl (by unfold maxLen; omega) (by omega) hsz3 ?_; intro v2' w4 hown2 hgrow2 _; have H4 := Lib.hid (HI.out.2.2.1 w3 w4 _ _ H3.out.1 H3.out.2.1 H3.out.2.2 hown2 hgrow2); obtain ⟨ao, capx, ee, hF⟩ := frames_at H4.out.2.1; cases ee; obtain ⟨gg, eg, x0, x1, x2, x3, x4, x5⟩ := hF 0 (by omega); cases eg; simp only [Nat.zero_mul, Nat.zero_add, ← HZ.out.1] at x0 x1 x2 x3 x4 x5; have hcv := row_string (H4.out.2.2.alloc (.cells #[.int .i64 Z.boot, .int .i64 Z.lsn, .int .i64 Z.part, .int .i64 Z.parts, .int .u8 (Z.kind : Int), .string Z.data] 113)); rw [← HZ.out.2.2] at hcv; have HF := Lib.hid hF; clear hown2 hgrow2 hF)))
          obtain ⟨V, hV⟩ : ∃ V, V = w4.alloc (.cells #[.int .i64 Z.boot, .int .i64 Z.lsn, .int .i64 Z.part, .int .i64 Z.parts, .int .u8 (Z.kind : Int), .string DT] 113) := ⟨_, rfl⟩
          have kV : Kept w4 V := by rw [hV]; exact (Kept.refl w4).alloc _
          have bV : V.heap[w4.heap.size]? = some (.cells (fcells Z.boot Z.lsn Z.part Z.parts Z.kind DT) 113 (0, 0)) := by rw [hV]; exact World.alloc_heap_new w4 _
          rw [← hV]
          have hR : fnd S t = ⟨Z.boot, Z.lsn, Z.part, Z.parts, Z.kind, DT⟩ := by
            rw [HZ.out.2.2, HZ.out.2.1, HZ.out.1]; rfl
          obtain ⟨N, hN⟩ : ∃ N, N = parts DT.size := ⟨_, rfl⟩
          have hDs : DT.size ≤ 11220 := by
            rw [HZ.out.2.2, size_str]
            have := data_len (S := S) (t := t) (k := k + 1)
            have h255 : k + 1 ≤ 255 := HZ.out.2.1 ▸ hP255.out
            omega
          have hN300 : N < 4294967296 := by rw [hN]; unfold parts; omega
          have hfrm : ∀ W, Calls Tryz.prog 78 #[.agg #[.int .i64 Z.boot, .int .i64 Z.lsn, .int .i64 Z.part, .int .i64 Z.parts, .int .u8 (Z.kind : Int), .string DT]] W fun e w' => ∃ ao cap, e = .returned (.slice ao N cap) ∧ FAt w' ao N (frP (fnd S t)) ∧ Kept W w' := fun W => by
            refine (frames_in ⟨Z.boot, Z.lsn, Z.part, Z.parts, Z.kind, DT⟩ (by show DT.size ≤ _; omega) W).mono ?_
            rintro e w' ⟨v, rfl, hrow, hk⟩
            obtain ⟨ao, cap, rfl, hf⟩ := frames_at hrow
            exact ⟨ao, cap, by rw [hN], by rw [hN, hR]; exact hf, hk⟩
          obtain ⟨QB, hQB⟩ : ∃ QB, QB = fdB S t := ⟨_, rfl⟩
          have hequ : ∀ (W : World) (ao2 : Option Addr) (cap2 : Nat), Kept V W → FAt W ao2 N (frP (fnd S t)) → Calls Tryz.prog 108 #[.slice (some ⟨g1, 0, none⟩) (k + 1) cap1, .slice ao2 N cap2] W fun e w' => e = .returned (.bool QB) ∧ Kept W w' := fun W ao2 cap2 hW h2 => by
            have := equalf_c (some ⟨g1, 0, none⟩) ao2 (k + 1) N cap1 cap2 (Xs S t) (frP (fnd S t)) (by omega) hN300 W (HF.out.kept (kV.trans hW)) h2
            have e : eqF (k + 1) (Xs S t) N (frP (fnd S t)) = QB := by
              rw [hQB, hN]; unfold fdB; rw [HZ.out.2.1, hR]
            rwa [e] at this
          have HE := Lib.hid (And.intro hfrm (And.intro hequ (And.intro kV (And.intro bV (And.intro hR hQB)))))
          have kw1V := Lib.hid (H4.out.1.trans kV)
          have hltV : w.heap.size < w4.heap.size := by have := H4.out.1.size; omega
          have hneV : ¬ w.heap.size = w4.heap.size := by omega
          have hneV2 : ¬ w4.heap.size = w.heap.size := by omega
          clear hfrm hequ kV bV hV hN hR hQB x0 x1 x2 x3 x4 x5 hcv
          obtain ⟨⟨b0, b1, b2, b3, b4, b5⟩, bf⟩ := rblock HE.out.2.2.2.1
          go_region_with (first
            | (go_at_call 78; refine (HE.out.1 _).mono ?_; rintro e u5 ⟨ao2, cap2, rfl, hF2, k5⟩; have kk5 := Lib.hid ((Kept.refl V).drew.trans k5); have HF2 := Lib.hid hF2; clear hF2 k5; obtain ⟨⟨d0, d1, d2, d3, d4, d5⟩, df⟩ := rblock (kk5.out.block HE.out.2.2.2.1))
            | (go_at_call 108; refine (HE.out.2.1 _ _ _ kk5.out HF2.out).mono ?_; rintro e u6 ⟨rfl, k6⟩; have kk6 := Lib.hid (kk5.out.trans k6); clear k6; obtain ⟨⟨d0, d1, d2, d3, d4, d5⟩, df⟩ := rblock (kk6.out.block HE.out.2.2.2.1); obtain ⟨⟨r0, r1, r2, r3, r4, r5⟩, fz⟩ := rblock ((kw1V.out.trans kk6.out).block H0.out.2.2)))
          all_goals
            have hR6 := (kw1V.out.trans kk6.out).block H0.out.2.2
            have hy := six (b := Z.boot) (l := Z.lsn) (p := Z.part) (q := Z.parts) (k := (Z.kind : Int)) (d := DT) hR6
            have ky := six_below (b := Z.boot) (l := Z.lsn) (p := Z.part) (q := Z.parts) (k := (Z.kind : Int)) (d := DT) (H0.out.2.1.trans (kw1V.out.trans kk6.out)) (Nat.le_refl w.heap.size)
            clear r0 r1 r2 r3 r4 r5 fz hR6 d0 d1 d2 d3 d4 d5 df b0 b1 b2 b3 b4 b5 bf
            generalize ((((((u6.setCell ⟨w.heap.size, 0, none⟩ (.int .i64 Z.boot)).setCell ⟨w.heap.size, 1, none⟩ (.int .i64 Z.lsn)).setCell ⟨w.heap.size, 2, none⟩ (.int .i64 Z.part)).setCell ⟨w.heap.size, 3, none⟩ (.int .i64 Z.parts)).setCell ⟨w.heap.size, 4, none⟩ (.int .u8 (Z.kind : Int))).setCell ⟨w.heap.size, 5, none⟩ (.string DT)) = y at hy ky ⊢
            obtain ⟨c0, c1, c2, c3, c4, c5⟩ := six_cells hy
            have KY := Lib.hid ky
            clear hy ky
            go_wp2
            obtain ⟨_, _, _, hgood, _, hm, hmu, hut⟩ := HI.out
            have hP := HZ.out.2.1
            have h00 : decE (S t) = 0 := hgood 0 (by omega)
            exact bodyPost_ret (v := .tuple #[.agg #[.int .i64 Z.boot, .int .i64 Z.lsn, .int .i64 Z.part, .int .i64 Z.parts, .int .u8 (Z.kind : Int), .string DT], .bool QB]) (by simp [results, Tryz.results95, go_sem, c0, c1, c2, c3, c4, c5]) rfl ⟨⟨Z.boot, Z.lsn, Z.part, Z.parts, Z.kind, DT⟩, QB, rfl, KY.out, .inl ⟨by omega, ⟨hP ▸ hgood, h00, by omega⟩, HE.out.2.2.2.2.1.symm, HE.out.2.2.2.2.2⟩⟩
        · have t1 : decide ((k : Int) + 1 < (Xs S t 0).parts) = true := by rw [hpar.1]; simp at hq ⊢; omega
          obtain ⟨Z, hZ⟩ : ∃ Z, Z = Xs S t 0 := ⟨_, rfl⟩
          rw [← hZ] at t1
          have HZ := Lib.hid (And.intro hZ hq)
          clear hZ hpar hq
          go_wp2_with (first
            | (go_at_call 46; (with_reducible refine hc1.mono ?_); rintro e u1 ⟨rfl, k2⟩)
            | (go_at_call 107; (with_reducible refine (hcd _).mono ?_); rintro e u2 ⟨rfl, k3⟩; have kz := Lib.hid (k2.trans k3); have hsz2 := kz.out.size; have hl2 := Lib.hid (ownsRow_kept HI.out.1.list (kz.out.alloc (.cells #[.int .i64 X.boot, .int .i64 X.lsn, .int .i64 X.part, .int .i64 X.parts, .int .u8 (X.kind : Int), .string X.data] 113))))
            | (at_builtin; refine wpList_append_own_at _ rfl _ _ 133 rfl w1.heap.size 113 i0 (.agg #[.int .i64 0, .int .i64 0, .int .i64 0, .int .i64 0, .int .u8 0, .string ByteArray.empty]) 6 56 Tryz.underlying133 hi hz0 hz1 hz2 rfl (by decide) _ _ _ rfl (hl2.out.alloc _) ⟨u2.heap.size + 1, 0, none⟩ 1 1 [.int .i64 X.boot, .int .i64 X.lsn, .int .i64 X.part, .int .i64 X.parts, .int .u8 (X.kind : Int), .string X.data] rfl rfl (cell_news_at _ _ (by simp) _ _) (by intro x hx; simp at hx; rcases hx with rfl | rfl | rfl | rfl | rfl | rfl <;> rfl) (by unfold maxLen; omega) (by omega) (by simp; omega) ?_; intro v1' w3 hown hgrow _ _; obtain ⟨g1, cap1, rfl⟩ := ownsRow_succ hown; have H3 := Lib.hid (HI.out.2.1 _ w3 _ ((kz.out.alloc _).alloc _) hown hgrow); have hb3 := box_grown (boxed_two u2 _ _ _) HI.out.1.list hsz2 hgrow; obtain ⟨⟨c0, c1, c2, c3, c4, c5⟩, fz3⟩ := rblock hb3; have hsz3 := H3.out.1.size; clear hown hgrow hb3)
            | (at_builtin; (refine Lib.wpList_append_own_string _ rfl _ _ 130 9 rfl w1.heap.size 5 j0 Tryz.underlying130 Tryz.underlying9 hj hy0 hy1 hy2 _ _ _ rfl H3.out.2.2 _ rfl (by unfold maxLen; omega) (by omega) hsz3 ?_; intro v2' w4 hown2 hgrow2 _; have H4 := Lib.hid (HI.out.2.2.1 w3 w4 _ _ H3.out.1 H3.out.2.1 H3.out.2.2 hown2 hgrow2); obtain ⟨ao, capx, ee, hF⟩ := frames_at H4.out.2.1; cases ee; obtain ⟨gg, eg, x0, x1, x2, x3, x4, x5⟩ := hF 0 (by omega); cases eg; simp only [Nat.zero_mul, Nat.zero_add, ← HZ.out.1] at x0 x1 x2 x3 x4 x5; clear hown2 hgrow2 hF)))
          obtain ⟨_, _, _, hgood, _, hm, hmu, hut⟩ := HI.out
          exact ⟨⟨m + 1, k + 1, by omega, fun _ => by omega, fun h => absurd h (by omega), rfl, H4.out.1, hgood, .inr (by simpa using HZ.out.2), H4.out.2.1, H4.out.2.2⟩, by simp [intOf]; omega⟩
      · rw [hE] at hcd
        have hbad : t < u → ¬ fdOk S t u := fun _ hf => by
          rcases hI.less with rfl | hl
          · have := hf.2.1
            rw [Nat.add_zero] at hm
            rw [hm, this] at hE
            cases hE
          · have := hf.1 k hl
            rw [← hm, hE] at this
            cases this
        obtain ⟨X, hX⟩ : ∃ X, X = decF (S m) := ⟨_, rfl⟩
        rw [← hX] at hcd
        have HB := Lib.hid (And.intro hbad (And.intro hI (And.intro hm (And.intro hmu hut))))
        clear hbad hI hX hm hmu hut hE
        go_wp2_with (first
          | (go_at_call 46; (with_reducible refine hc1.mono ?_); rintro e u1 ⟨rfl, k2⟩)
          | (go_at_call 107; (with_reducible refine (hcd _).mono ?_); rintro e u2 ⟨rfl, k3⟩; have kz := Lib.hid ((HB.out.2.1.kept.trans k2).trans k3); have hne1 : ¬ w.heap.size = u2.heap.size := (by have := kz.out.size; omega); have hne2 : ¬ u2.heap.size = w.heap.size := (by omega); obtain ⟨⟨r0, r1, r2, r3, r4, r5⟩, fz⟩ := rblock ((kz.out.alloc (.cells #[.int .i64 X.boot, .int .i64 X.lsn, .int .i64 X.part, .int .i64 X.parts, .int .u8 (X.kind : Int), .string X.data] 113)).block H0.out.2.2)))
        exact HRET.out _ (kz.out.alloc _) HB.out.1 _ rfl rfl
    · have hk := Lib.hid hI.kept
      obtain ⟨⟨r0, r1, r2, r3, r4, r5⟩, fz⟩ := rblock (hI.kept.block H0.out.2.2)
      have hbad : t < u → ¬ fdOk S t u := fun htu hf => by
        have := hf.2.2
        have := hI.less
        have hp : 1 ≤ Pt S t := by have := (dec_good hf.2.1).1.q1; unfold Pt; omega
        omega
      have HB := Lib.hid hbad
      clear hbad hI hm hmu hut
      go_wp2
      exact HRET.out _ hk.out HB.out _ rfl rfl
end Go.Proofs.YtckbhjjflpobbaaGreat.Rc
