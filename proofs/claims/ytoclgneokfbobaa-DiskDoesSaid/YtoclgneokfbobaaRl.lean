/-
  What the calls of the specification's disk do: those that change no sector.
-/
import Derived.Test.YtoclgneokfbobaaRk
import Derived.Test.YtoclgneokfbobaaDw
import Derived.Test.YtoclgneokfbobaaDv
namespace Go.Proofs.Ytoclgneokfbobaa.Dz
open Go.RowKit Go.ChangeShapes Go.WideShapes Go.ChangeAt Go.Proofs.Ytoclgneokfbobaa.Mem Go.Proofs.Ytoclgneokfbobaa.Fz
set_option linter.unusedVariables false

theorem last_take_succ {l : Pend} {j : Nat} (h : j < l.length) (i : Nat) : last (l.take (j + 1)) i = if i = l[j].1 then some l[j].2 else last (l.take j) i := by
  unfold last
  rw [List.take_succ_eq_append_getElem h, List.foldl_append]; rfl
theorem Rk.rows {R G Sb : Nat} {pv : Value} {s : Ds} {w : World} (h : Rk R G Sb pv s w) : ∃ (ao : Option Addr) (cap : Nat), pv = .slice ao s.pend.length cap ∧ ∀ k (hk : k < s.pend.length), ∃ g, ao = some ⟨g, 0, none⟩ ∧ ∀ W, Off (fun k => k = Sb) w W → W.cell? ⟨g, k * 2, none⟩ = some (.int .i64 (s.pend[k].1 : Int)) ∧ W.cell? ⟨g, k * 2 + 1, none⟩ = some (.string s.pend[k].2) := by
  rcases row_slice h.prow with rfl | ⟨g, cap, rfl⟩
  · have h0 : s.pend.length = 0 := by
      rcases h.prow.2 with ⟨_, h0⟩ | ⟨_, _, _, e, _⟩
      · exact h0
      · simp at e
    exact ⟨none, 0, by rw [h0], fun k hk => by omega⟩
  · refine ⟨some ⟨g, 0, none⟩, cap, rfl, fun k hk => ⟨g, rfl, fun W hW => ?_⟩⟩
    have hg := h.prow.cells (g := g) rfl
    have ap := h.apart.p g rfl
    have q := cells_at s.pend k hk
    have a1 := hg _ _ q.1
    have a2 := hg _ _ q.2
    simp only [add_plain, Nat.zero_add] at a1 a2
    exact ⟨hW.cell a1 ap.2.2, hW.cell a2 ap.2.2⟩
theorem Rk.cells {R G Sb : Nat} {pv : Value} {s : Ds} {w : World} (h : Rk R G Sb pv s w) (W : World) (hW : Off (fun k => k = Sb) w W) : W.cell? ⟨R, 0, none⟩ = some (.slice (some ⟨Sb, 0, none⟩) s.n s.n) ∧ W.cell? ⟨R, 1, none⟩ = some pv ∧ W.cell? ⟨R, 2, none⟩ = some (.pointer (some ⟨G, 0, none⟩)) ∧ W.cell? ⟨R, 3, none⟩ = some (.bool s.full) ∧ ∀ i, W.frozen? ⟨R, i, none⟩ = false := by
  have hb := hW.at h.blk h.apart.RS
  exact ⟨cell_of_row _ _ _ _ _ _ hb, cell_of_row _ _ _ _ _ _ hb, cell_of_row _ _ _ _ _ _ hb, cell_of_row _ _ _ _ _ _ hb, fun i => frozen_of_row _ _ _ _ _ hb⟩
theorem Rk.sec {R G Sb : Nat} {pv : Value} {s : Ds} {w : World} (h : Rk R G Sb pv s w) {k : Nat} (hk : k < s.n) : w.cell? ⟨Sb, k, none⟩ = some (.string (s.dur k)) := by
  rw [cell_of_row _ _ _ _ _ _ h.srow, sarr_at _ _ _ hk]
theorem Rk.len {R G Sb : Nat} {pv : Value} {s : Ds} {w : World} (h : Rk R G Sb pv s w) : s.pend.length ≤ 9223372036854775807 := by
  rcases h.prow.2 with ⟨_, h0⟩ | ⟨_, _, _, _, _, _, h1, h2, _⟩
  · omega
  · unfold maxLen at h2; omega
theorem out_cases {s : Ds} {i : Int} (h : s.out i = true) : (decide (i < 0) = true) ∨ (decide (i < 0) = false ∧ decide (i ≥ (s.n : Int)) = true) := by
  unfold Ds.out at h
  by_cases h1 : i < 0
  · exact .inl (by simpa using h1)
  · refine .inr ⟨by simpa using h1, ?_⟩
    have : ¬ i < 0 := h1
    simp [this] at h
    simpa using h

set_option maxRecDepth 100000 in
theorem rdurable_c (R G Sb : Nat) (pv : Value) (s : Ds) (i : Int) (w : World) (h : Rk R G Sb pv s w) :
    Calls Try.prog 33 #[.pointer (some ⟨R, 0, none⟩), .int .i64 i] w fun e w' => e = .returned (.string (s.durs i)) ∧ Kept w w' := by
  obtain ⟨c0, _⟩ := h.cells w (Off.refl _ _)
  cases ho : s.out i with
  | true =>
    have e1 : s.durs i = ByteArray.empty := by simp [Ds.durs, ho]
    rw [e1]
    rcases out_cases ho with h1 | ⟨h1, h2⟩
    · clear h e1 ho
      go_enter Try.func33, Try.ntmps33
      go_wp2
      go_ret
      exact ⟨rfl, Kept.refl _⟩
    · clear h e1 ho
      go_enter Try.func33, Try.ntmps33
      go_wp2
      go_ret
      exact ⟨rfl, Kept.refl _⟩
  | false =>
    obtain ⟨k, rfl, hk⟩ := Ds.out_nat ho
    have e1 : s.durs (k : Int) = s.dur k := by simp [Ds.durs, ho]
    rw [e1]
    have cs := h.sec hk
    have h1 : decide ((k : Int) < 0) = false := by simp
    have h2 : decide (s.n ≤ k) = false := by simp; omega
    obtain ⟨v, hv⟩ : ∃ v, v = s.dur k := ⟨_, rfl⟩
    rw [← hv] at cs ⊢
    clear h e1 ho hv
    go_enter Try.func33, Try.ntmps33
    go_wp2
    go_ret
    exact ⟨rfl, Kept.refl _⟩
set_option maxHeartbeats 1000000 in
set_option maxRecDepth 100000 in
theorem rread_c (R G Sb : Nat) (pv : Value) (s : Ds) (i : Int) (w : World) (h : Rk R G Sb pv s w) :
    Calls Try.prog 32 #[.pointer (some ⟨R, 0, none⟩), .int .i64 i] w fun e w' => e = .returned (.tuple #[.string (s.reads i).1, .int .i64 (s.reads i).2]) ∧ Kept w w' := by
  obtain ⟨c0, c1, c2, _⟩ := h.cells w (Off.refl _ _)
  cases ho : s.out i with
  | true =>
    have e1 : s.reads i = (ByteArray.empty, 3) := by simp [Ds.reads, ho]
    rw [e1]
    rcases out_cases ho with h1 | ⟨h1, h2⟩
    · clear h e1 ho
      go_enter Try.func32, Try.ntmps32
      go_wp2
      go_ret2
      exact ⟨rfl, Kept.refl _⟩
    · clear h e1 ho
      go_enter Try.func32, Try.ntmps32
      go_wp2
      go_ret2
      exact ⟨rfl, Kept.refl _⟩
  | false =>
    obtain ⟨sec, rfl, hk⟩ := Ds.out_nat ho
    have h1 : decide ((sec : Int) < 0) = false := by simp
    have h2 : decide (s.n ≤ sec) = false := by simp; omega
    have cd := h.rf.dead
    cases hd : s.fu.dead with
    | true =>
      rw [hd] at cd
      have e1 : s.reads (sec : Int) = (ByteArray.empty, 10) := by simp [Ds.reads, ho, hd]
      rw [e1]
      clear h e1 ho hd hk
      go_enter Try.func32, Try.ntmps32
      go_wp2
      go_ret2
      exact ⟨rfl, Kept.refl _⟩
    | false =>
      rw [hd] at cd
      have e1 : s.reads (sec : Int) = ((last s.pend sec).getD (s.dur sec), 0) := by simp [Ds.reads, ho, hd, Ds.look]
      rw [e1]
      have cs := h.sec hk
      have hlen := h.len
      obtain ⟨ao, cap, rfl, hrow⟩ := h.rows
      obtain ⟨v, hv⟩ : ∃ v, v = s.dur sec := ⟨_, rfl⟩
      rw [← hv] at cs ⊢
      have HC := Lib.hid (And.intro hrow (And.intro (h.cells) hlen))
      clear h e1 ho hd hv hrow hlen
      go_enter Try.func32, Try.ntmps32
      go_wp2
      go_loopw [6, 7] (fun x i wr => ∃ k : Nat, k ≤ s.pend.length ∧ i = .int .i64 k ∧ Kept w wr ∧ x = .string ((last (s.pend.take k) sec).getD v)) (fun _ i _ => s.pend.length - (intOf i).toNat)
      case atStart => exact ⟨0, by omega, rfl, Kept.refl _, by simp [last]⟩
      case round =>
        clear c0 c1 c2 cs cd h1 h2
        obtain ⟨k, hk, rfl, hp, rfl⟩ := hrel
        obtain ⟨_, c1, _⟩ := HC.out.2.1 wr (hp.off _)
        have hlen := HC.out.2.2
        by_cases hlt : k < s.pend.length
        · obtain ⟨g, rfl, hc⟩ := HC.out.1 k hlt
          obtain ⟨r0, r1⟩ := hc wr (hp.off _)
          obtain ⟨se, hsec⟩ : ∃ sec, sec = s.pend[k].1 := ⟨_, rfl⟩
          obtain ⟨dat, hdat⟩ : ∃ dat, dat = s.pend[k].2 := ⟨_, rfl⟩
          obtain ⟨o, hout⟩ : ∃ o, o = (last (s.pend.take k) sec).getD v := ⟨_, rfl⟩
          rw [← hsec] at r0
          rw [← hdat] at r1
          rw [← hout]
          have hl := last_take_succ hlt sec
          rw [← hsec, ← hdat] at hl
          by_cases hq : (se : Int) = (sec : Int)
          · have hq' : ((se : Int) == (sec : Int)) = true := by simpa using hq
            have en : (last (s.pend.take (k + 1)) sec).getD v = dat := by rw [hl, if_pos (by omega)]; rfl
            have Hs := Lib.hid (And.intro hp en)
            clear hc hsec hdat hp hl hq hout en hk
            go_wp2
            go_roundw
            case rel => exact ⟨k + 1, by omega, by go_num, Hs.out.1, by rw [Hs.out.2]⟩
            case measure => simp [intOf]; omega
          · have hq' : ((se : Int) == (sec : Int)) = false := by simpa using hq
            have en : (last (s.pend.take (k + 1)) sec).getD v = o := by rw [hl, if_neg (by omega), hout]
            have Hs := Lib.hid (And.intro hp en)
            clear hc hsec hdat hp hl hq hout en hk
            go_wp2
            go_roundw
            case rel => exact ⟨k + 1, by omega, by go_num, Hs.out.1, by rw [Hs.out.2]⟩
            case measure => simp [intOf]; omega
        · obtain rfl : k = s.pend.length := by omega
          have e : s.pend.take s.pend.length = s.pend := List.take_length
          rw [e]
          obtain ⟨o, hout⟩ : ∃ o, o = (last s.pend sec).getD v := ⟨_, rfl⟩
          rw [← hout]
          have Hx := Lib.hid (And.intro hp hout)
          clear hp hout e
          go_wp2
          go_ret2
          exact ⟨congrArg (fun x => Ending.returned (.tuple #[.string x, .int .i64 0])) Hx.out.2, Hx.out.1⟩

set_option maxHeartbeats 1000000 in
set_option maxRecDepth 100000 in
theorem rpending_c (R G Sb : Nat) (pv : Value) (s : Ds) (hroom : s.pend.length < 4294967296) (w : World) (h : Rk R G Sb pv s w) :
    Calls Try.prog 39 #[.pointer (some ⟨R, 0, none⟩)] w fun e w' => ∃ ao cap, e = .returned (.slice ao s.pend.length cap) ∧ Kept w w' ∧ Ints w.heap.size ao (s.pend.map (·.1)) w' := by
  obtain ⟨ao, cap, rfl, hrow⟩ := h.rows
  have HC := Lib.hid (And.intro hrow (And.intro hroom h.cells))
  obtain ⟨i0, hi, hz0, hz1, hz2⟩ := info_parts int_info
  clear h hrow
  go_enter Try.func39, Try.ntmps39
  go_wp2
  go_loopw [3, 4] (fun v i wr => ∃ k : Nat, k ≤ s.pend.length ∧ i = .int .i64 k ∧ Kept w wr ∧ wr.ownsRow w.heap.size 3 1 v k (nums ((s.pend.take k).map (·.1)))) (fun _ i _ => s.pend.length - (intOf i).toNat)
  case atStart => exact ⟨0, by omega, rfl, Kept.refl _, by simpa [nums] using World.ownsRow_nil _ _ _ _⟩
  case round =>
    obtain ⟨k, hk, rfl, hp, hown⟩ := hrel
    obtain ⟨_, c1, _⟩ := HC.out.2.2 wr (hp.off _)
    by_cases hlt : k < s.pend.length
    · obtain ⟨g, rfl, hc⟩ := HC.out.1 k hlt
      obtain ⟨r0, r1⟩ := hc wr (hp.off _)
      obtain ⟨sec, hsec⟩ : ∃ sec, sec = s.pend[k].1 := ⟨_, rfl⟩
      rw [← hsec] at r0
      have Hs := Lib.hid hsec
      have Hp := Lib.hid hp
      have Ho := Lib.hid hown
      clear hc hsec hp hown r1
      go_wp2_with (at_builtin; refine wpList_append_own_at _ rfl _ _ 44 rfl w.heap.size 3 i0 (.int .i64 0) 1 8 Try.underlying44 hi hz0 hz1 hz2 rfl (by decide) _ _ _ rfl (Ho.out.alloc _) ⟨wr.heap.size, 0, none⟩ 1 1 [.int .i64 (sec : Int)] rfl rfl (cell_one_new _ _ _) (by intro x hx; simp at hx; subst hx; rfl) (by have := HC.out.2.1; unfold maxLen; omega) (by have := HC.out.2.1; omega) (by have := Hp.out.size; simp; omega) ?_; intro v' w1 hown1 hgrow hnil hloc)
      go_roundw
      case rel =>
        refine ⟨k + 1, by omega, by go_num, grown_kept (Hp.out.alloc _) hgrow (fun g hg => (Ho.out.lt g hg).1), ?_⟩
        have e : nums ((s.pend.take (k + 1)).map (·.1)) = nums ((s.pend.take k).map (·.1)) ++ [.int .i64 (sec : Int)] := by
          rw [List.take_succ_eq_append_getElem hlt, List.map_append, Hs.out]; simp [nums]
        rw [e]; exact hown1
      case measure => simp [intOf]; omega
    · obtain rfl : k = s.pend.length := by omega
      have e : s.pend.take s.pend.length = s.pend := List.take_length
      rw [e] at hown
      have hown' : wr.ownsRow w.heap.size 3 1 u3 (s.pend.map (·.1)).length (nums (s.pend.map (·.1))) := by simpa using hown
      have Hx := Lib.hid (And.intro hp (ints_of hown'))
      clear hp hown hown' e
      go_wp2
      go_ret
      obtain ⟨hp, ao, cap', rfl, hi⟩ := Hx.out
      exact ⟨ao, cap', by simp, hp, hi⟩

theorem rwrite_info : (Try.prog.info? 97).map (fun i => (i.zero, i.size, i.bytes)) = some (some (.agg #[.int .i64 0, .string ByteArray.empty]), 2, 24) := by kernel_rfl
theorem wrote_rk {R G Sb : Nat} {pv v' : Value} {s : Ds} {i : Nat} {d : ByteArray} {u w1 : World} (h : Rk R G Sb pv s u) (hi : i < s.n) (hd : d.size = 80)
    (hrow : w1.ownsRow 0 97 2 v' (s.pend.length + 1) (cellsOf s.pend ++ [.int .i64 (i : Int), .string d])) (hg : u.grownBy w1 pv.ownBlock) (hv : v'.ownBlock = pv.ownBlock ∨ ∃ g, v'.ownBlock = some g ∧ u.heap.size ≤ g) :
    Rk R G Sb v' (s.wrote i d) (w1.setCell ⟨R, 1, none⟩ v') := by
  have a := h.apart
  obtain ⟨l1, l2, l3, l4⟩ := h.lts
  have hv' : ∀ g, v'.ownBlock = some g → g ≠ R := fun g hg' => by
    rcases hv with e | ⟨g', e, hlt⟩
    · exact (a.p g (by rw [← e]; exact hg')).1
    · rw [e] at hg'
      obtain rfl : g' = g := by simpa using hg'
      omega
  have nn : ∀ k, (k = R ∨ k = G ∨ k = Sb) → some k ≠ pv.ownBlock := fun k hk e => by
    obtain ⟨p1, p2, p3⟩ := a.p k e.symm
    rcases hk with rfl | rfl | rfl
    · exact p1 rfl
    · exact p2 rfl
    · exact p3 rfl
  have hblk : w1.heap[R]? = some (.cells (rblock G Sb pv s) 77 (0, 0)) := (hg.block R l2 (nn R (by simp))).trans h.blk
  refine ⟨?_, ?_, ?_, ?_, h.ok.wrote hi hd⟩
  · show (w1.setCell _ _).heap[G]? = _
    rw [heap_setCell_other _ _ _ _ a.RG.symm, hg.block G l1 (nn G (by simp))]
    exact h.rf
  · have := heap_setCell_same w1 R 1 _ _ v' hblk
    simpa [rblock, Ds.wrote] using this
  · rw [heap_setCell_other _ _ _ _ a.RS.symm, hg.block Sb l3 (nn Sb (by simp))]
    exact h.srow
  · have e1 : (s.wrote i d).pend.length = s.pend.length + 1 := by simp [Ds.wrote]
    have e2 : cellsOf (s.wrote i d).pend = cellsOf s.pend ++ [.int .i64 (i : Int), .string d] := cells_snoc _ _ _
    rw [e1, e2]
    exact row_at hrow fun g hg' => heap_setCell_other _ _ _ _ (hv' g hg')
theorem Rk.burnt {R G Sb : Nat} {pv : Value} {s : Ds} {w w' : World} (h : Rk R G Sb pv s w) (k : But G w w') {f : St} (hf : Rf G f w') (hk : f.ok) : Rk R G Sb pv { s with fu := f } w' :=
  have a := h.apart
  ⟨hf, k.at h.blk a.RG, k.at h.srow a.GS.symm, row_at h.prow (fun g hg => k.block g (h.lts.2.2.2 g hg) (a.p g hg).2.1), ⟨h.ok.lo, h.ok.hi, hk, h.ok.dur, h.ok.pend⟩⟩
set_option maxHeartbeats 1000000 in
set_option maxRecDepth 100000 in
theorem rwrite_c (R G Sb : Nat) (pv : Value) (s : Ds) (i : Int) (d : ByteArray) (hroom : s.pend.length < 4294967296) (S : Nat → Prop) (w : World) (h : Rk R G Sb pv s w)
    (hS : S G ∧ S R ∧ S Sb ∧ ∀ g, pv.ownBlock = some g → S g) :
    Calls Try.prog 34 #[.pointer (some ⟨R, 0, none⟩), .int .i64 i, .string d] w fun e w' => e = .returned (.int .i64 (s.writes i d).1) ∧ Off S w w' ∧ (rk G R (s.writes i d).2).p (grew S w w') w' := by
  have same : (rk G R s).p S w := ⟨Sb, pv, h, hS⟩
  obtain ⟨c0, c1, c2, _⟩ := h.cells w (Off.refl _ _)
  cases ho : s.out i with
  | true =>
    have e1 : s.writes i d = (3, s) := by simp [Ds.writes, ho]
    rw [e1]
    have H := Lib.hid same
    rcases out_cases ho with h1 | ⟨h1, h2⟩
    · clear h same e1 ho
      go_enter Try.func34, Try.ntmps34
      go_wp2
      go_ret
      exact ⟨rfl, Off.refl _ _, (rk G R s).mono _ _ _ H.out fun k hk => .inl hk⟩
    · clear h same e1 ho
      go_enter Try.func34, Try.ntmps34
      go_wp2
      go_ret
      exact ⟨rfl, Off.refl _ _, (rk G R s).mono _ _ _ H.out fun k hk => .inl hk⟩
  | false =>
    obtain ⟨k, rfl, hk⟩ := Ds.out_nat ho
    have h1 : decide ((k : Int) < 0) = false := by simp
    have h2 : decide (s.n ≤ k) = false := by simp; omega
    by_cases hd : d.size = 80
    · have hb := rburn_c G s.fu h.ok.fu w h.rf
      have hsz : ((d.size : Int) != 80) = false := by simp; omega
      rcases says_ok s.fu with h0 | h10
      · have e1 : s.writes (k : Int) d = (0, s.burnt.wrote k d) := by simp [Ds.writes, ho, hd, h0]
        rw [e1]
        rw [h0] at hb
        have H := Lib.hid (And.intro h (And.intro hS (And.intro hroom (And.intro hd hk))))
        obtain ⟨i0, hi, hz0, hz1, hz2⟩ := info_parts rwrite_info
        clear h same e1 ho h0 hk hroom hd hS c1
        go_enter Try.func34, Try.ntmps34
        go_wp2_with (first
          | (go_at_call 52; refine hb.mono ?_; rintro e u ⟨rfl, hbu, hfu⟩; have hq := (H.out.1).burnt hbu hfu (ok_burnt H.out.1.ok.fu); obtain ⟨_, c1, _⟩ := hq.cells u (Off.refl _ _); have Hq := Lib.hid hq; clear hq)
          | (at_builtin; refine wpList_append_own_at _ rfl _ _ 75 rfl 0 97 i0 (.agg #[.int .i64 0, .string ByteArray.empty]) 2 24 Try.underlying75 hi hz0 hz1 hz2 rfl (by decide) _ _ _ rfl (Hq.out.prow.alloc _) ⟨u.heap.size, 0, none⟩ 1 1 [.int .i64 (k : Int), .string d] rfl rfl (cell_two_new _ _ _ _) (by intro x hx; simp at hx; rcases hx with rfl | rfl <;> rfl) (by have := H.out.2.2.1; unfold maxLen; simp; omega) (by have := H.out.2.2.1; simp; omega) (Nat.zero_le _) ?_; intro v' w1 hrow hgrow hnil hloc
             have hq := Hq.out
             have hgr : u.grownBy w1 pv.ownBlock := (World.grownBy_alloc _ _ _).trans hgrow
             have hblk : w1.heap[R]? = _ := (hgr.block R hq.lts.2.1 (fun e => (hq.apart.p R e.symm).1 rfl)).trans hq.blk
             have d1 : w1.cell? ⟨R, 1, none⟩ = some pv := cell_of_row _ _ _ _ _ _ hblk
             have f1 : w1.frozen? ⟨R, 1, none⟩ = false := frozen_of_row _ _ _ _ _ hblk
             have hl : v'.ownBlock = pv.ownBlock ∨ ∃ g, v'.ownBlock = some g ∧ u.heap.size ≤ g := hloc.imp id fun e => ⟨_, e, by simp⟩
             obtain ⟨g1, cap1, rfl⟩ := row_pos hrow (Nat.succ_pos _)
             have Hx := Lib.hid (And.intro hrow (And.intro hgr hl))
             clear hrow hgr hgrow hloc hl hq hblk hnil))
        go_ret
        obtain ⟨hrow, hgr, hl⟩ := Hx.out
        obtain ⟨h, hS, _, hd, hk⟩ := H.out
        have hD := wrote_rk (s := s.burnt) Hq.out hk hd hrow hgr hl
        have ho := (grown_off (hbu.off hS.1) hgr fun g hg => .inl (hS.2.2.2 g hg)).setc R 1 (.slice (some ⟨g1, 0, none⟩) (s.pend.length + 1) cap1) (.inl hS.2.1)
        refine ⟨rfl, ho, Sb, _, hD, .inl hS.1, .inl hS.2.1, .inl hS.2.2.1, fun g hg => ?_⟩
        rcases hl with e | ⟨g', e, hlt⟩
        · exact .inl (hS.2.2.2 g (by rw [← e]; exact hg))
        · rw [e] at hg
          obtain rfl : g' = g := by simpa using hg
          exact .inr ⟨Nat.le_trans hbu.size hlt, hD.lts.2.2.2 g' e⟩
      · have e1 : s.writes (k : Int) d = (10, s.burnt) := by simp [Ds.writes, ho, hd, h10]
        rw [e1]
        rw [h10] at hb
        have H := Lib.hid (And.intro h hS)
        clear h same e1 ho h10 hk hroom hd hS c1
        go_enter Try.func34, Try.ntmps34
        go_wp2_with (go_at_call 52; refine hb.mono ?_; rintro e u ⟨rfl, hbu, hfu⟩)
        go_ret
        obtain ⟨h, hS⟩ := H.out
        exact ⟨rfl, hbu.off hS.1, (rk G R s.burnt).mono S _ _ ⟨Sb, pv, h.burnt hbu hfu (ok_burnt h.ok.fu), hS⟩ fun k hk => .inl hk⟩
    · have e1 : s.writes (k : Int) d = (2, s) := by simp [Ds.writes, ho, hd]
      rw [e1]
      have hsz : ((d.size : Int) != 80) = true := by simp; omega
      have H := Lib.hid same
      clear h same e1 ho hd
      go_enter Try.func34, Try.ntmps34
      go_wp2
      go_ret
      exact ⟨rfl, Off.refl _ _, (rk G R s).mono _ _ _ H.out fun k hk => .inl hk⟩
end Go.Proofs.Ytoclgneokfbobaa.Dz
