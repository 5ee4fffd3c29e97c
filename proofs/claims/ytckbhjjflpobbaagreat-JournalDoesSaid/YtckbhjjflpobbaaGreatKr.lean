/-
  The specification's Load and Save over its own disk. (Written by gen_kr.py.)
-/
import Derived.Test.YtckbhjjflpobbaaGreatKf
import Derived.Test.YtckbhjjflpobbaaGreatKc
import Derived.Test.YtckbhjjflpobbaaGreatRb
namespace Go.Proofs.YtckbhjjflpobbaaGreat.Hk
open Go.RowKit Go.Proofs.YtckbhjjflpobbaaGreat.Mem Go.Proofs.YtckbhjjflpobbaaGreat.Pk Go.Proofs.YtckbhjjflpobbaaGreat.Dz Go.Proofs.YtckbhjjflpobbaaGreat.Fz
open Go.Proofs.YtckbhjjflpobbaaGreat.Fk (set_block)

/-- The newest of the first k slots. -/
def best (S : Nat → ByteArray) (k : Nat) : Hd := if k = 0 then Hd.nil else if k = 1 then slotF S 0 else top S
theorem best_same {S : Nat → ByteArray} {k : Nat} (h2 : k < 2) (h : slotF S k = Hd.nil ∨ (slotF S k).seq ≤ (best S k).seq) : best S (k + 1) = best S k := by
  rcases (by omega : k = 0 ∨ k = 1) with rfl | rfl
  · show slotF S 0 = Hd.nil
    rcases slotF_or S 0 with ⟨_, e⟩ | ⟨_, e⟩
    · exact e
    · rcases h with h | h
      · exact h
      · have : (best S 0).seq = 0 := rfl
        omega
  · show top S = slotF S 0
    unfold top
    rw [if_neg]
    rcases h with h | h
    · rw [h]
      rcases slotF_or S 0 with ⟨_, e⟩ | ⟨_, e⟩
      · rw [e]; decide
      · show ¬ (slotF S 0).seq < 0; omega
    · have : (best S 1).seq = (slotF S 0).seq := rfl
      omega
theorem best_next {S : Nat → ByteArray} {k : Nat} (h2 : k < 2) (h : (best S k).seq < (slotF S k).seq) : best S (k + 1) = slotF S k := by
  rcases (by omega : k = 0 ∨ k = 1) with rfl | rfl
  · rfl
  · show top S = slotF S 1
    have : (best S 1).seq = (slotF S 0).seq := rfl
    unfold top
    rw [if_pos (by omega)]
/-- Behind k rounds: the result's block, that of the best. -/
structure Lr (S : Nat → ByteArray) (w : World) (k : Nat) (W : World) : Prop where
  kept : Kept w W
  hR : W.heap[w.heap.size]? = some (.cells (hcells 0 0 0 0 0) 74 (0, 0))
  hA : W.heap[w.heap.size + 1]? = some (.cells (hcells (best S k).seq (best S k).boot (best S k).area (best S k).first (best S k).snaps) 74 (0, 0))
theorem Lr.start {S : Nat → ByteArray} {w v : World} (hv : v = (w.alloc (.cells #[.int .i64 0, .int .i64 0, .int .i64 0, .int .i64 0, .int .i64 0] 74)).alloc (.cells #[.int .i64 0, .int .i64 0, .int .i64 0, .int .i64 0, .int .i64 0] 74)) : Lr S w 0 v := by
  subst hv
  refine ⟨((Kept.refl w).alloc _).alloc _, ((Kept.refl _).alloc _).at (MapKept.heap_alloc w _).1, ?_⟩
  have := (MapKept.heap_alloc (w.alloc (.cells #[.int .i64 0, .int .i64 0, .int .i64 0, .int .i64 0, .int .i64 0] 74)) (.cells (hcells 0 0 0 0 0) 74)).1
  rw [show (w.alloc (.cells #[.int .i64 0, .int .i64 0, .int .i64 0, .int .i64 0, .int .i64 0] 74)).heap.size = w.heap.size + 1 by simp] at this
  exact this
theorem Lr.same {S : Nat → ByteArray} {w W W' : World} {k : Nat} (h : Lr S w k W) (hk : Kept W W') (hn : best S (k + 1) = best S k) : Lr S w (k + 1) W' := by
  refine ⟨h.kept.trans hk, hk.at h.hR, ?_⟩
  rw [hn]; exact hk.at h.hA
theorem Lr.put {S : Nat → ByteArray} {w W W' : World} {k : Nat} {c : Hd} (h : Lr S w k W) (hk : Kept W W') (hn : best S (k + 1) = c) : Lr S w (k + 1) (((((W'.setCell ⟨w.heap.size + 1, 0, none⟩ (.int .i64 c.seq)).setCell ⟨w.heap.size + 1, 1, none⟩ (.int .i64 c.boot)).setCell ⟨w.heap.size + 1, 2, none⟩ (.int .i64 c.area)).setCell ⟨w.heap.size + 1, 3, none⟩ (.int .i64 c.first)).setCell ⟨w.heap.size + 1, 4, none⟩ (.int .i64 c.snaps)) := by
  refine ⟨five_below (h.kept.trans hk) (by omega), (five_but _ _ _ _ _ _ _).at (hk.at h.hR) (by omega), ?_⟩
  rw [hn]
  exact five (hk.at h.hA)
theorem rread_try {R G Sb : Nat} {pv : Value} {s : Ds} {w : World} (hd : Rk R G Sb pv s w) (h2 : ¬ s.n < 2) (ha : s.fu.dead = false) (m : Nat) (hm : m < 2) (W : World) (hW : Kept w W) :
    Calls Tryz.prog 47 #[.pointer (some ⟨R, 0, none⟩), .int .i64 (m : Int)] W fun e w' => e = .returned (.tuple #[.string (s.look m), .int .i64 0]) ∧ Kept W w' := by
  have e : s.reads (m : Int) = (s.look m, 0) := by simp [Ds.reads, Ds.out_in (show m < s.n by omega), ha]
  have := rread_c R G Sb pv s (m : Int) W (hd.keep hW)
  rw [e] at this
  exact this
set_option maxHeartbeats 1000000 in
set_option maxRecDepth 100000 in
theorem rload_short (R G Sb : Nat) (pv : Value) (s : Ds) (w : World) (hd : Rk R G Sb pv s w) (h2 : s.n < 2) :
    Calls Tryz.prog 52 #[.pointer (some ⟨R, 0, none⟩)] w fun e w' => e = .returned (.tuple #[.agg #[.int .i64 0, .int .i64 0, .int .i64 0, .int .i64 0, .int .i64 0], .int .i64 3]) ∧ Kept w w' := by
  have k0 := (Kept.refl w).alloc (.cells #[.int .i64 0, .int .i64 0, .int .i64 0, .int .i64 0, .int .i64 0] 74)
  obtain ⟨V, hV⟩ : ∃ V, V = w.alloc (.cells #[.int .i64 0, .int .i64 0, .int .i64 0, .int .i64 0, .int .i64 0] 74) := ⟨_, rfl⟩
  have hR : V.heap[w.heap.size]? = some (.cells (hcells 0 0 0 0 0) 74 (0, 0)) := by rw [hV]; exact (MapKept.heap_alloc w _).1
  rw [← hV] at k0
  have hk := hd.keep k0
  obtain ⟨c0, _, c2, _⟩ := hk.cells V (Off.refl _ _)
  have t1 : decide ((s.n : Int) < 2) = true := by simp; omega
  have t2 : decide (s.n < 2) = true := by simp; omega
  obtain ⟨⟨r0, r1, r2, r3, r4⟩, fr⟩ := hblock hR
  rw [hV] at c0 c2 r0 r1 r2 r3 r4 fr
  clear hd hk
  go_enter Tryz.func52, Tryz.ntmps52
  go_wp2
  rw [← hV]
  obtain ⟨⟨y0, y1, y2, y3, y4⟩, _⟩ := hblock hR
  exact bodyPost_ret (v := .tuple #[.agg #[.int .i64 0, .int .i64 0, .int .i64 0, .int .i64 0, .int .i64 0], .int .i64 3]) (by simp [results, Tryz.results52, go_sem, y0, y1, y2, y3, y4]) rfl ⟨rfl, k0⟩
set_option maxHeartbeats 1000000 in
set_option maxRecDepth 100000 in
theorem rload_dead (R G Sb : Nat) (pv : Value) (s : Ds) (w : World) (hd : Rk R G Sb pv s w) (h2 : ¬ s.n < 2) (ha : s.fu.dead = true) :
    Calls Tryz.prog 52 #[.pointer (some ⟨R, 0, none⟩)] w fun e w' => e = .returned (.tuple #[.agg #[.int .i64 0, .int .i64 0, .int .i64 0, .int .i64 0, .int .i64 0], .int .i64 10]) ∧ Kept w w' := by
  have k0 := (Kept.refl w).alloc (.cells #[.int .i64 0, .int .i64 0, .int .i64 0, .int .i64 0, .int .i64 0] 74)
  obtain ⟨V, hV⟩ : ∃ V, V = w.alloc (.cells #[.int .i64 0, .int .i64 0, .int .i64 0, .int .i64 0, .int .i64 0] 74) := ⟨_, rfl⟩
  have hR : V.heap[w.heap.size]? = some (.cells (hcells 0 0 0 0 0) 74 (0, 0)) := by rw [hV]; exact (MapKept.heap_alloc w _).1
  rw [← hV] at k0
  have hk := hd.keep k0
  obtain ⟨c0, _, c2, _⟩ := hk.cells V (Off.refl _ _)
  have t1 : decide ((s.n : Int) < 2) = false := by simp; omega
  have t2 : decide (s.n < 2) = false := by simp; omega
  have cd := hk.rf.dead
  rw [ha] at cd
  obtain ⟨⟨r0, r1, r2, r3, r4⟩, fr⟩ := hblock hR
  rw [hV] at c0 c2 r0 r1 r2 r3 r4 fr cd
  clear hd hk
  go_enter Tryz.func52, Tryz.ntmps52
  go_wp2
  rw [← hV]
  obtain ⟨⟨y0, y1, y2, y3, y4⟩, _⟩ := hblock hR
  exact bodyPost_ret (v := .tuple #[.agg #[.int .i64 0, .int .i64 0, .int .i64 0, .int .i64 0, .int .i64 0], .int .i64 10]) (by simp [results, Tryz.results52, go_sem, y0, y1, y2, y3, y4]) rfl ⟨rfl, k0⟩
set_option maxHeartbeats 4000000 in
set_option maxRecDepth 100000 in
theorem rload_try (R G Sb : Nat) (pv : Value) (s : Ds) (w : World) (hd : Rk R G Sb pv s w) (h2 : ¬ s.n < 2) (ha : s.fu.dead = false) :
    Calls Tryz.prog 52 #[.pointer (some ⟨R, 0, none⟩)] w fun e w' => e = .returned (.tuple #[.agg #[.int .i64 (loads s).1.seq, .int .i64 (loads s).1.boot, .int .i64 (loads s).1.area, .int .i64 (loads s).1.first, .int .i64 (loads s).1.snaps], .int .i64 (loads s).2]) ∧ Kept w w' := by
  have k0 := (Kept.refl w).alloc (.cells #[.int .i64 0, .int .i64 0, .int .i64 0, .int .i64 0, .int .i64 0] 74)
  have hk := hd.keep k0
  obtain ⟨c0, _, c2, _⟩ := hk.cells _ (Off.refl _ _)
  have cd := hk.rf.dead
  rw [ha] at cd
  have t1 : decide ((s.n : Int) < 2) = false := by simp; omega
  have t2 : decide (s.n < 2) = false := by simp; omega
  have hrd := rread_try hd h2 ha
  obtain ⟨v, hv⟩ : ∃ v, v = (w.alloc (.cells #[.int .i64 0, .int .i64 0, .int .i64 0, .int .i64 0, .int .i64 0] 74)).alloc (.cells #[.int .i64 0, .int .i64 0, .int .i64 0, .int .i64 0, .int .i64 0] 74) := ⟨_, rfl⟩
  have h0 := Lr.start (S := s.look) hv
  have hl : (newest s.look = none → loads s = (Hd.nil, 6)) ∧ ∀ c, newest s.look = some c → loads s = (c, 0) := ⟨loads_none h2 ha, fun c => loads_some h2 ha⟩
  have hnt := newest_top s.look
  have H0 := Lib.hid (And.intro hrd (And.intro hl hnt))
  clear hd hk h2 ha hrd hl hnt
  go_enter Tryz.func52, Tryz.ntmps52
  go_wp2
  rw [← hv]
  clear hv c0 c2 cd k0
  go_loopw [5] (fun i wr => ∃ k : Nat, k ≤ 2 ∧ i = .int .i64 (k : Int) ∧ Lr s.look w k wr) (fun i _ => 2 - (intOf i).toNat)
  case atStart => exact ⟨0, by omega, rfl, h0⟩
  case round =>
    clear h0
    obtain ⟨k, hk, rfl, hI⟩ := hrel
    by_cases hlt : k < 2
    · have hc1 := H0.out.1 k hlt wr hI.kept
      have hcd := rdecode_c (s.look k)
      obtain ⟨N, hN⟩ : ∃ N, N = best s.look k := ⟨_, rfl⟩
      have hA := hI.hA
      rw [← hN] at hA
      rcases decE_or (s.look k) with ⟨hE, _⟩ | ⟨hE, _⟩
      · have hqm := tmod2 (seq_pos hE)
        have hs1 := slot_own (S := s.look) (i := k) hE
        have hs2 := slot_other (S := s.look) (i := k) hE
        rw [hE] at hcd
        clear hE
        generalize decF (s.look k) = X at hcd hqm hs1 hs2
        generalize s.look k = t at hc1 hcd
        by_cases hm : X.seq % 2 = (k : Int)
        · have tm : (X.seq % 2 == (k : Int)) = true := by simpa using hm
          have hX := hs1 hm
          by_cases hg : N.seq < X.seq
          · have tg : decide (N.seq < X.seq) = true := by simpa using hg
            have HN := Lib.hid (show best s.look (k + 1) = X from (best_next hlt (by rw [hX, ← hN]; exact hg)).trans hX)
            have HA := Lib.hid (And.intro hI hA)
            clear hs1 hs2 hm hX hg hA hI hN
            go_wp2_with (first
              | (go_at_call 47; (with_reducible refine hc1.mono ?_); rintro e u1 ⟨rfl, k1⟩)
              | (go_at_call 76; (with_reducible refine (hcd _).mono ?_); rintro e u2 ⟨rfl, k2⟩; obtain ⟨_, _, _, _, _, _⟩ := Box.start u2 74 X.seq X.boot X.area X.first X.snaps; have kz := Lib.hid ((k1.trans k2).alloc (.cells #[.int .i64 X.seq, .int .i64 X.boot, .int .i64 X.area, .int .i64 X.first, .int .i64 X.snaps] 74)); obtain ⟨⟨_, _, _, _, _⟩, fz⟩ := hblock (kz.out.at HA.out.2); have fz0 := fz 0; have fz1 := fz 1; have fz2 := fz 2; have fz3 := fz 3; have fz4 := fz 4; clear fz))
            go_roundw
            case rel => exact ⟨k + 1, by omega, by go_num, HA.out.1.put kz.out HN.out⟩
            case measure => simp [intOf]; omega
          · have tg : decide (N.seq < X.seq) = false := by simpa using hg
            have HN := Lib.hid (best_same hlt (.inr (by rw [hX, ← hN]; omega)))
            have HA := Lib.hid (And.intro hI hA)
            clear hs1 hs2 hm hX hg hA hI hN
            go_wp2_with (first
              | (go_at_call 47; (with_reducible refine hc1.mono ?_); rintro e u1 ⟨rfl, k1⟩)
              | (go_at_call 76; (with_reducible refine (hcd _).mono ?_); rintro e u2 ⟨rfl, k2⟩; obtain ⟨_, _, _, _, _, _⟩ := Box.start u2 74 X.seq X.boot X.area X.first X.snaps; have kz := Lib.hid ((k1.trans k2).alloc (.cells #[.int .i64 X.seq, .int .i64 X.boot, .int .i64 X.area, .int .i64 X.first, .int .i64 X.snaps] 74)); obtain ⟨⟨_, _, _, _, _⟩, _⟩ := hblock (kz.out.at HA.out.2)))
            go_roundw
            case rel => exact ⟨k + 1, by omega, by go_num, HA.out.1.same kz.out HN.out⟩
            case measure => simp [intOf]; omega
        · have tm : (X.seq % 2 == (k : Int)) = false := by simpa using hm
          have HN := Lib.hid (best_same hlt (.inl (hs2 hm)))
          have HA := Lib.hid (And.intro hI hA)
          clear hs1 hs2 hm hA hI hN
          go_wp2_with (first
            | (go_at_call 47; (with_reducible refine hc1.mono ?_); rintro e u1 ⟨rfl, k1⟩)
            | (go_at_call 76; (with_reducible refine (hcd _).mono ?_); rintro e u2 ⟨rfl, k2⟩; obtain ⟨_, _, _, _, _, _⟩ := Box.start u2 74 X.seq X.boot X.area X.first X.snaps; have kz := Lib.hid ((k1.trans k2).alloc (.cells #[.int .i64 X.seq, .int .i64 X.boot, .int .i64 X.area, .int .i64 X.first, .int .i64 X.snaps] 74)); obtain ⟨⟨_, _, _, _, _⟩, _⟩ := hblock (kz.out.at HA.out.2)))
          go_roundw
          case rel => exact ⟨k + 1, by omega, by go_num, HA.out.1.same kz.out HN.out⟩
          case measure => simp [intOf]; omega
      · have HN := Lib.hid (best_same hlt (.inl (slot_bad (S := s.look) (i := k) hE)))
        rw [hE] at hcd
        have HA := Lib.hid (And.intro hI hA)
        clear hE hA hI hN
        generalize decF (s.look k) = X at hcd
        generalize s.look k = t at hc1 hcd
        go_wp2_with (first
          | (go_at_call 47; (with_reducible refine hc1.mono ?_); rintro e u1 ⟨rfl, k1⟩)
          | (go_at_call 76; (with_reducible refine (hcd _).mono ?_); rintro e u2 ⟨rfl, k2⟩; have kz := Lib.hid ((k1.trans k2).alloc (.cells #[.int .i64 X.seq, .int .i64 X.boot, .int .i64 X.area, .int .i64 X.first, .int .i64 X.snaps] 74))))
        go_roundw
        case rel => exact ⟨k + 1, by omega, by go_num, HA.out.1.same kz.out HN.out⟩
        case measure => simp [intOf]; omega
    · obtain rfl : k = 2 := by omega
      have hX := hI.hA
      have hnt := H0.out.2.2
      have hbt : best s.look 2 = top s.look := rfl
      rw [← hbt] at hnt
      obtain ⟨N, hN⟩ : ∃ N, N = best s.look 2 := ⟨_, rfl⟩
      rw [← hN] at hX hnt
      obtain ⟨⟨_, _, _, _, _⟩, _⟩ := hblock hX
      obtain ⟨⟨r0, r1, r2, r3, r4⟩, fr⟩ := hblock hI.hR
      have fr0 := fr 0
      have fr1 := fr 1
      have fr2 := fr 2
      have fr3 := fr 3
      have fr4 := fr 4
      clear fr
      have HI := Lib.hid hI
      rcases hnt with ⟨hn, hz⟩ | ⟨hn, hp⟩

      · have HL := Lib.hid (H0.out.2.1.1 hn)
        have tz : (N.seq == 0) = true := by rw [hz]; rfl
        clear hn hz hI hN hX
        go_wp2
        have hy := five (q := 0) (b := 0) (a := 0) (f := 0) (n := 0) HI.out.hR
        have ky := five_below (q := 0) (b := 0) (a := 0) (f := 0) (n := 0) HI.out.kept (Nat.le_refl w.heap.size)
        clear r0 r1 r2 r3 r4 fr0 fr1 fr2 fr3 fr4
        generalize (((((wr.setCell ⟨w.heap.size, 0, none⟩ (.int .i64 0)).setCell ⟨w.heap.size, 1, none⟩ (.int .i64 0)).setCell ⟨w.heap.size, 2, none⟩ (.int .i64 0)).setCell ⟨w.heap.size, 3, none⟩ (.int .i64 0)).setCell ⟨w.heap.size, 4, none⟩ (.int .i64 0)) = Y at hy ky ⊢
        obtain ⟨⟨y0, y1, y2, y3, y4⟩, _⟩ := hblock hy
        exact bodyPost_ret (v := .tuple #[.agg #[.int .i64 0, .int .i64 0, .int .i64 0, .int .i64 0, .int .i64 0], .int .i64 6]) (by simp [results, Tryz.results52, go_sem, y0, y1, y2, y3, y4]) rfl ⟨by first | (rw [HL.out]; done) | (rw [HL.out]; rfl), ky⟩
      · have HL := Lib.hid (H0.out.2.1.2 _ hn)
        have tz : (N.seq == 0) = false := by simp; omega
        clear hn hp hI hN hX
        go_wp2
        have hy := five (q := N.seq) (b := N.boot) (a := N.area) (f := N.first) (n := N.snaps) HI.out.hR
        have ky := five_below (q := N.seq) (b := N.boot) (a := N.area) (f := N.first) (n := N.snaps) HI.out.kept (Nat.le_refl w.heap.size)
        clear r0 r1 r2 r3 r4 fr0 fr1 fr2 fr3 fr4
        generalize (((((wr.setCell ⟨w.heap.size, 0, none⟩ (.int .i64 N.seq)).setCell ⟨w.heap.size, 1, none⟩ (.int .i64 N.boot)).setCell ⟨w.heap.size, 2, none⟩ (.int .i64 N.area)).setCell ⟨w.heap.size, 3, none⟩ (.int .i64 N.first)).setCell ⟨w.heap.size, 4, none⟩ (.int .i64 N.snaps)) = Y at hy ky ⊢
        obtain ⟨⟨y0, y1, y2, y3, y4⟩, _⟩ := hblock hy
        exact bodyPost_ret (v := .tuple #[.agg #[.int .i64 N.seq, .int .i64 N.boot, .int .i64 N.area, .int .i64 N.first, .int .i64 N.snaps], .int .i64 0]) (by simp [results, Tryz.results52, go_sem, y0, y1, y2, y3, y4]) rfl ⟨by first | (rw [HL.out]; done) | (rw [HL.out]; rfl), ky⟩
theorem rload_c (R G Sb : Nat) (pv : Value) (s : Ds) (w : World) (hd : Rk R G Sb pv s w) :
    Calls Tryz.prog 52 #[.pointer (some ⟨R, 0, none⟩)] w fun e w' => e = .returned (.tuple #[.agg #[.int .i64 (loads s).1.seq, .int .i64 (loads s).1.boot, .int .i64 (loads s).1.area, .int .i64 (loads s).1.first, .int .i64 (loads s).1.snaps], .int .i64 (loads s).2]) ∧ Kept w w' := by
  by_cases h2 : s.n < 2
  · have e : loads s = (Hd.nil, 3) := by unfold loads; rw [if_pos h2]
    rw [e]; exact rload_short R G Sb pv s w hd h2
  · cases ha : s.fu.dead with
    | true =>
      have e : loads s = (Hd.nil, 10) := by unfold loads; rw [if_neg h2, if_pos ha]
      rw [e]; exact rload_dead R G Sb pv s w hd h2 ha
    | false => exact rload_try R G Sb pv s w hd h2 ha
theorem o_rload {w0 w : World} {L : List As} (h : Own w0 L w) (i : Nat) {G R : Nat} {s : Ds} (hi : L[i]? = some (rk G R s)) :
    Calls Tryz.prog 52 #[.pointer (some ⟨R, 0, none⟩)] w fun e w' => e = .returned (.tuple #[.agg #[.int .i64 (loads s).1.seq, .int .i64 (loads s).1.boot, .int .i64 (loads s).1.area, .int .i64 (loads s).1.first, .int .i64 (loads s).1.snaps], .int .i64 (loads s).2]) ∧ Own w0 L w' :=
  h.rlook i hi fun Sb pv hd => rload_c R G Sb pv s w hd
theorem set_same {L : List As} {i : Nat} {x : As} (hi : L[i]? = some x) : L.set i x = L := by
  apply List.ext_getElem?
  intro j
  rw [List.getElem?_set]
  split
  · rename_i hj; subst hj; split
    · exact hi.symm
    · rename_i hlt; exact (List.getElem?_eq_none (by omega)).symm
  · rfl
set_option maxHeartbeats 4000000 in
set_option maxRecDepth 100000 in
theorem o_rsave {w0 w : World} {L : List As} (h : Own w0 L w) (i : Nat) {G R : Nat} {s : Ds} (hi : L[i]? = some (rk G R s)) (hroom : s.pend.length < 4294967296) (c : Hd) :
    Calls Tryz.prog 36 #[.pointer (some ⟨R, 0, none⟩), .agg #[.int .i64 c.seq, .int .i64 c.boot, .int .i64 c.area, .int .i64 c.first, .int .i64 c.snaps]] w fun e w' => e = .returned (.int .i64 (saves s c).1) ∧ Own w0 (L.set i (rk G R (saves s c).2)) w' := by
  have ls : ∀ a b : As, (a :: L).set (i + 1) b = a :: L.set i b := fun _ _ => rfl
  have h1 := h.box #[.int .i64 c.seq, .int .i64 c.boot, .int .i64 c.area, .int .i64 c.first, .int .i64 c.snaps] 74
  have hi1 : (boxA w.heap.size #[.int .i64 c.seq, .int .i64 c.boot, .int .i64 c.area, .int .i64 c.first, .int .i64 c.snaps] 74 :: L)[i + 1]? = some (rk G R s) := hi
  have cells : ∀ (W : World) (M : List As), Own w0 (boxA w.heap.size #[.int .i64 c.seq, .int .i64 c.boot, .int .i64 c.area, .int .i64 c.first, .int .i64 c.snaps] 74 :: M) W → W.cell? ⟨w.heap.size, 0, none⟩ = some (.int .i64 c.seq) ∧ W.cell? ⟨w.heap.size, 1, none⟩ = some (.int .i64 c.boot) ∧ W.cell? ⟨w.heap.size, 2, none⟩ = some (.int .i64 c.area) ∧ W.cell? ⟨w.heap.size, 3, none⟩ = some (.int .i64 c.first) ∧ W.cell? ⟨w.heap.size, 4, none⟩ = some (.int .i64 c.snaps) := fun W M hW => (hblock (hW.boxed 0 rfl)).1
  have dcell : ∀ (W : World), Own w0 (boxA w.heap.size #[.int .i64 c.seq, .int .i64 c.boot, .int .i64 c.area, .int .i64 c.first, .int .i64 c.snaps] 74 :: L) W → ∃ Sb : Nat, W.cell? ⟨R, 0, none⟩ = some (.slice (some ⟨Sb, 0, none⟩) s.n s.n) := fun W hW => by
    obtain ⟨S, ⟨Sb, pv, hd, _⟩, _⟩ := hW.see (i + 1) hi1
    exact ⟨Sb, (hd.cells W (Off.refl _ _)).1⟩
  have ce := rencode_c c
  obtain ⟨r, hR⟩ : ∃ r, r = saves s c := ⟨_, rfl⟩
  rw [← hR]
  unfold saves at hR
  obtain ⟨E, hE⟩ : ∃ E, E = c.err := ⟨_, rfl⟩
  rw [← hE] at ce hR
  have HC := Lib.hid cells
  have HD := Lib.hid dcell
  clear cells dcell
  by_cases he : E = 0
  · have hg : c.good := (Hd.err_zero c).mp (hE ▸ he)
    have hq : c.seq.tmod 2 = c.seq % 2 := tmod2 hg.s1
    rw [if_neg (by simpa using he)] at hR
    subst he
    clear hE hg
    by_cases h2 : s.n < 2
    · have t2 : decide ((s.n : Int) < 2) = true := by simp; omega
      have t3 : decide (s.n < 2) = true := by simp; omega
      rw [if_pos h2] at hR
      subst hR
      generalize c.enc = X at ce
      clear h2 hroom
      go_enter Tryz.func36, Tryz.ntmps36
      go_wp2_with (first
        | (go_at_call 65; (with_reducible refine (ce _).mono ?_); rintro e u1 ⟨rfl, k1⟩; have h2 := h1.later k1; obtain ⟨_, _, _, _, _⟩ := HC.out _ _ h2; obtain ⟨Sb, _⟩ := HD.out _ h2))
      go_ret
      refine ⟨rfl, ?_⟩
      have := h2.tail
      rwa [set_same hi]
    · have t2 : decide ((s.n : Int) < 2) = false := by simp; omega
      have t3 : decide (s.n < 2) = false := by simp; omega
      rw [if_neg h2] at hR
      have hw := fun (W : World) (hW : Own w0 _ W) => o_rwrite hW (i + 1) hi1 hroom (c.seq % 2) c.enc
      have hi2 : (boxA w.heap.size #[.int .i64 c.seq, .int .i64 c.boot, .int .i64 c.area, .int .i64 c.first, .int .i64 c.snaps] 74 :: L.set i (rk G R (s.writes (c.seq % 2) c.enc).2))[i + 1]? = some (rk G R (s.writes (c.seq % 2) c.enc).2) := by
        show (L.set i _)[i]? = _
        rw [List.getElem?_set]
        obtain ⟨hlt, _⟩ := List.getElem?_eq_some_iff.mp hi
        simp [hlt]
      have hy := fun (W : World) (hW : Own w0 _ W) => o_rsync hW (i + 1) hi2
      generalize s.writes (c.seq % 2) c.enc = Y at hw hR hi2 hy
      generalize c.enc = X at ce hw
      clear h2 hroom
      by_cases hY : Y.1 = 0
      · have tY : (Y.1 != 0) = false := by simpa using hY
        rw [if_neg (by simpa using hY)] at hR
        subst hR
        clear hY
        go_enter Tryz.func36, Tryz.ntmps36
        go_wp2_with (first
          | (go_at_call 65; (with_reducible refine (ce _).mono ?_); rintro e u1 ⟨rfl, k1⟩; have h2 := h1.later k1; obtain ⟨_, _, _, _, _⟩ := HC.out _ _ h2; obtain ⟨Sb, _⟩ := HD.out _ h2)
          | (go_at_call 62; (with_reducible refine (hw _ h2).mono ?_); rintro e u4 ⟨rfl, h5⟩; rw [ls] at h5; have h6 := Lib.hid h5)
          | (go_at_call 63; (with_reducible refine (hy _ h6.out).mono ?_); rintro e u5 ⟨rfl, h7⟩))
        go_ret
        refine ⟨rfl, ?_⟩
        have := h7.tail
        simpa using this
      · have tY : (Y.1 != 0) = true := by simpa using hY
        rw [if_pos (by simpa using hY)] at hR
        subst hR
        clear hY hy
        go_enter Tryz.func36, Tryz.ntmps36
        go_wp2_with (first
          | (go_at_call 65; (with_reducible refine (ce _).mono ?_); rintro e u1 ⟨rfl, k1⟩; have h2 := h1.later k1; obtain ⟨_, _, _, _, _⟩ := HC.out _ _ h2; obtain ⟨Sb, _⟩ := HD.out _ h2)
          | (go_at_call 62; (with_reducible refine (hw _ h2).mono ?_); rintro e u4 ⟨rfl, h5⟩; rw [ls] at h5; have h6 := Lib.hid h5))
        go_ret
        refine ⟨rfl, ?_⟩
        exact h6.out.tail
  · rw [if_pos (by simpa using he)] at hR
    subst hR
    have tE : (E != 0) = true := by simpa using he
    generalize c.enc = X at ce
    clear he hE hroom
    go_enter Tryz.func36, Tryz.ntmps36
    go_wp2_with (go_at_call 65; (with_reducible refine (ce _).mono ?_); rintro e u1 ⟨rfl, k1⟩; have h2 := h1.later k1)
    go_ret
    refine ⟨rfl, ?_⟩
    have := h2.tail
    rwa [set_same hi]
end Go.Proofs.YtckbhjjflpobbaaGreat.Hk
