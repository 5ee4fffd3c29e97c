/-
  What the calls of package disk do that write.
-/
import Derived.Test.YtoclgneokfbobaaDz
namespace Go.Proofs.Ytoclgneokfbobaa.Dz
open Go.RowKit Go.Proofs.Ytoclgneokfbobaa.Mem Go.Proofs.Ytoclgneokfbobaa.Fz
set_option linter.unusedVariables false

theorem grown_off {S : Nat → Prop} {a w w' : World} {row : Option Nat} (h : Off S a w) (k : w.grownBy w' row) (hr : ∀ g, row = some g → S g ∨ a.heap.size ≤ g) : Off S a w' :=
  ⟨k.os.trans h.os, k.tape.trans h.tape, k.output.trans h.output, Nat.le_trans h.size k.size, fun i hi hs =>
    (k.block i (Nat.lt_of_lt_of_le hi h.size) fun e => (hr i e.symm).elim hs fun h2 => absurd hi (Nat.not_lt.2 h2)).trans (h.block i hi hs)⟩
theorem cell_two_new (w : World) (x y : Value) (t : TypeId) : ∀ j u, [x, y][j]? = some u → (w.alloc (.cells #[x, y] t)).cell? ((⟨w.heap.size, 0, none⟩ : Addr).add j) = some u := by
  intro j u hj
  match j, hj with
  | 0, hj => simp at hj; subst hj; simp [Addr.add]
  | 1, hj => simp at hj; subst hj; simp [Addr.add]
theorem write_info : (Try.prog.info? 85).map (fun i => (i.zero, i.size, i.bytes)) = some (some (.agg #[.int .i64 0, .string ByteArray.empty]), 2, 24) := by kernel_rfl
theorem row_slice {w : World} {e : TypeId} {size : Nat} {v : Value} {n : Nat} {xs : List Value} (h : w.ownsRow 0 e size v n xs) : v = .slice none 0 0 ∨ ∃ g cap, v = .slice (some ⟨g, 0, none⟩) n cap := by
  rcases h.2 with ⟨rfl, _⟩ | ⟨g, cap, cur, rfl, _⟩
  · exact .inl rfl
  · exact .inr ⟨g, cap, rfl⟩
theorem row_pos {w : World} {e : TypeId} {size : Nat} {v : Value} {n : Nat} {xs : List Value} (h : w.ownsRow 0 e size v n xs) (hn : 0 < n) : ∃ g cap, v = .slice (some ⟨g, 0, none⟩) n cap := by
  rcases h.2 with ⟨rfl, h0⟩ | ⟨g, cap, cur, rfl, _⟩
  · omega
  · exact ⟨g, cap, rfl⟩
theorem says_ok (f : St) : f.says = 0 ∨ f.says = 10 := by
  match f with
  | .idle => exact .inl rfl
  | .armed 0 => exact .inr rfl
  | .armed (n + 1) => exact .inl rfl
  | .blown => exact .inr rfl

/-- A write that is taken: the two stores behind the fuse. -/
theorem wrote_dk {F D M1 M2 : Nat} {pv v' : Value} {s : Ds} {i : Nat} {d : ByteArray} {u w1 w2 : World} (h : Dk F D M1 M2 pv s u) (hi : i < s.n) (hd : d.size = 80)
    (hrow : w1.ownsRow 0 85 2 v' (s.pend.length + 1) (cellsOf s.pend ++ [.int .i64 (i : Int), .string d])) (hg : u.grownBy w1 pv.ownBlock) (hv : v'.ownBlock = pv.ownBlock ∨ ∃ g, v'.ownBlock = some g ∧ u.heap.size ≤ g)
    (hm : Mp M2 s.n (upd (last s.pend) i (some d)) w2) (hb : But M2 (w1.setCell ⟨D, 4, none⟩ v') w2) : Dk F D M1 M2 v' (s.wrote i d) w2 := by
  have a := h.apart
  have l := h.lts
  have hv' : ∀ g, v'.ownBlock = some g → g ≠ F ∧ g ≠ D ∧ g ≠ M1 ∧ g ≠ M2 := fun g hg' => by
    rcases hv with e | ⟨g', e, hlt⟩
    · exact a.p g (by rw [← e]; exact hg')
    · rw [e] at hg'
      obtain rfl : g' = g := by simpa using hg'
      obtain ⟨l1, l2, l3, l4, _⟩ := l
      omega
  have nn : ∀ k, (k = F ∨ k = D ∨ k = M1 ∨ k = M2) → some k ≠ pv.ownBlock := fun k hk e => by
    obtain ⟨p1, p2, p3, p4⟩ := a.p k e.symm
    rcases hk with rfl | rfl | rfl | rfl
    · exact p1 rfl
    · exact p2 rfl
    · exact p3 rfl
    · exact p4 rfl
  have keep : ∀ k, k < u.heap.size → (k = F ∨ k = M1) → w2.heap[k]? = u.heap[k]? := fun k hk hc => by
    have e1 : k ≠ M2 := by rcases hc with rfl | rfl; exact a.FM2; exact a.M12
    have e2 : k ≠ D := by rcases hc with rfl | rfl; exact a.FD; exact a.DM1.symm
    rw [hb.block k (by simp; exact Nat.lt_of_lt_of_le hk hg.size) e1, heap_setCell_other _ _ _ _ e2, hg.block k hk (nn k (by rcases hc with h | h <;> simp [h]))]
  have hblk : w1.heap[D]? = some (.cells (blockOf F D M1 M2 pv s) 83 (0, 0)) := (hg.block D l.2.1 (nn D (by simp))).trans h.blk
  refine ⟨(keep F l.1 (by simp)).trans h.fz, ?_, h.dur.at (keep M1 l.2.2.1 (by simp)), ?_, ?_, h.ok.wrote hi hd, h.ne⟩
  · rw [hb.block D (by simp; exact Nat.lt_of_lt_of_le l.2.1 hg.size) a.DM2]
    have := heap_setCell_same w1 D 4 _ _ v' hblk
    simpa [blockOf, Ds.wrote] using this
  · show Mp M2 s.n (last (s.pend ++ [(i, d)])) w2
    rw [last_snoc]; exact hm
  · have e1 : (s.wrote i d).pend.length = s.pend.length + 1 := by simp [Ds.wrote]
    have e2 : cellsOf (s.wrote i d).pend = cellsOf s.pend ++ [.int .i64 (i : Int), .string d] := cells_snoc _ _ _
    rw [e1, e2]
    refine row_at hrow fun g hg' => ?_
    have hlt := (hrow.lt g hg').2
    rw [hb.block g (by simpa using hlt) (hv' g hg').2.2.2, heap_setCell_other _ _ _ _ (hv' g hg').2.1]
set_option maxHeartbeats 1000000 in
set_option maxRecDepth 100000 in
theorem write_c (F D M1 M2 : Nat) (pv : Value) (s : Ds) (i : Int) (d : ByteArray) (hroom : s.pend.length < 4294967296) (S : Nat → Prop) (w : World) (h : Dk F D M1 M2 pv s w)
    (hS : S F ∧ S D ∧ S M1 ∧ S M2 ∧ ∀ g, pv.ownBlock = some g → S g) :
    Calls Try.prog 15 #[.pointer (some ⟨D, 0, none⟩), .int .i64 i, .string d] w fun e w' => e = .returned (.int .i64 (s.writes i d).1) ∧ Off S w w' ∧ (dk F D (s.writes i d).2).p (grew S w w') w' := by
  have hh := has_c F D M1 M2 pv s i w h
  have same : (dk F D s).p S w := ⟨M1, M2, pv, h, hS⟩
  cases ho : s.out i with
  | true =>
    rw [ho] at hh
    have e1 : s.writes i d = (3, s) := by simp [Ds.writes, ho]
    rw [e1]
    have H := Lib.hid same
    clear h same e1 ho
    go_enter Try.func15, Try.ntmps15
    go_wp2_with (go_at_call 40; refine hh.mono ?_; rintro e u ⟨rfl, rfl⟩)
    go_ret
    exact ⟨rfl, Off.refl _ _, (dk F D s).mono _ _ _ H.out fun k hk => .inl hk⟩
  | false =>
    rw [ho] at hh
    by_cases hd : d.size = 80
    · obtain ⟨k, rfl, hk⟩ := Ds.out_nat ho
      have hb := burn_c F s.fu h.ok.fu w h.fz
      have c0 := h.cell 0
      have f4 := h.free 4
      simp [blockOf] at c0
      rcases says_ok s.fu with h0 | h10
      · have e1 : s.writes (k : Int) d = (0, s.burnt.wrote k d) := by simp [Ds.writes, ho, hd, h0]
        rw [e1]
        rw [h0] at hb
        have hsz : ((d.size : Int) != 80) = false := by simp; omega
        have H := Lib.hid (And.intro h (And.intro hS (And.intro hroom (And.intro hd hk))))
        obtain ⟨i0, hi, hz0, hz1, hz2⟩ := info_parts write_info
        clear h same e1 ho h0 hk hroom hd hS f4
        go_enter Try.func15, Try.ntmps15
        go_wp2_with (first
          | (go_at_call 40; refine hh.mono ?_; rintro e u ⟨rfl, rfl⟩)
          | (go_at_call 41; refine hb.mono ?_; rintro e u ⟨rfl, hbu, hfu⟩; have hq := (H.out.1).burnt hbu hfu (ok_burnt H.out.1.ok.fu); have c4 := hq.cell 4; simp [blockOf] at c4; have Hq := Lib.hid hq; clear hq)
          | (at_builtin; refine wpList_append_own_at _ rfl _ _ 81 rfl 0 85 i0 (.agg #[.int .i64 0, .string ByteArray.empty]) 2 24 Try.underlying81 hi hz0 hz1 hz2 rfl (by decide) _ _ _ rfl (Hq.out.row.alloc _) ⟨u.heap.size, 0, none⟩ 1 1 [.int .i64 (k : Int), .string d] rfl rfl (cell_two_new _ _ _ _) (by intro x hx; simp at hx; rcases hx with rfl | rfl <;> rfl) (by have := H.out.2.2.1; unfold maxLen; simp; omega) (by have := H.out.2.2.1; simp; omega) (Nat.zero_le _) ?_; intro v' w1 hrow hgrow hnil hloc
             have hq := Hq.out
             have hgr : u.grownBy w1 pv.ownBlock := (World.grownBy_alloc _ _ _).trans hgrow
             have hblk : w1.heap[D]? = _ := (hgr.block D hq.lts.2.1 (fun e => (hq.apart.p D e.symm).2.1 rfl)).trans hq.blk
             have c5 : w1.cell? ⟨D, 5, none⟩ = some (.map (some M2)) := cell_of_row _ _ _ _ _ _ hblk
             have d4 : w1.cell? ⟨D, 4, none⟩ = some pv := cell_of_row _ _ _ _ _ _ hblk
             have f4 : w1.frozen? ⟨D, 4, none⟩ = false := frozen_of_row _ _ _ _ _ hblk
             have hM : Mp M2 s.n (last s.pend) w1 := hq.lat.at (hgr.block M2 hq.lts.2.2.2.1 (fun e => (hq.apart.p M2 e.symm).2.2.2 rfl))
             obtain ⟨g, cap, hv⟩ := row_pos hrow (Nat.succ_pos _)
             have hM2 : Mp M2 s.n (last s.pend) (w1.setCell ⟨D, 4, none⟩ v') := hM.but (But.set D 4 w1 v') hq.apart.DM2.symm
             obtain ⟨w2, hrun, hm2, hb2⟩ := hM2.store Try.underlying79 H.out.2.2.2.2 (s := d) (by rw [H.out.2.2.2.1]; decide) (by have := hq.ok.hi; unfold maxLen; show s.n < _; simp at this; omega)
             have hl : v'.ownBlock = pv.ownBlock ∨ ∃ g, v'.ownBlock = some g ∧ u.heap.size ≤ g := hloc.imp id fun e => ⟨_, e, by simp⟩
             have Hx := Lib.hid (And.intro hrow (And.intro hgr (And.intro hl (And.intro hm2 hb2))))
             clear hrow hgr hgrow hloc hl hm2 hb2 hq hblk hM hM2 hnil
             rw [hv] at hrun ⊢))
        go_ret
        obtain ⟨hrow, hgr, hl, hm2, hb2⟩ := Hx.out
        obtain ⟨h, hS, _, hd, hk⟩ := H.out
        have hD := wrote_dk (s := s.burnt) Hq.out hk hd hrow hgr hl hm2 hb2
        have ho : Off S w w2 := ((grown_off (hbu.off hS.1) hgr fun g hg => .inl (hS.2.2.2.2 g hg)).setc D 4 v' (.inl hS.2.1)).but hb2 (.inl hS.2.2.2.1)
        refine ⟨rfl, ho, M1, M2, v', hD, .inl hS.1, .inl hS.2.1, .inl hS.2.2.1, .inl hS.2.2.2.1, fun g hg => ?_⟩
        rcases hl with e | ⟨g', e, hlt⟩
        · exact .inl (hS.2.2.2.2 g (by rw [← e]; exact hg))
        · rw [e] at hg
          obtain rfl : g' = g := by simpa using hg
          exact .inr ⟨Nat.le_trans hbu.size hlt, hD.lts.2.2.2.2 g' e⟩
      · have e1 : s.writes (k : Int) d = (10, s.burnt) := by simp [Ds.writes, ho, hd, h10]
        rw [e1]
        rw [h10] at hb
        have hsz : ((d.size : Int) != 80) = false := by simp; omega
        have H := Lib.hid (And.intro h hS)
        clear h same e1 ho h10 hk hroom hd hS f4
        go_enter Try.func15, Try.ntmps15
        go_wp2_with (first
          | (go_at_call 40; refine hh.mono ?_; rintro e u ⟨rfl, rfl⟩)
          | (go_at_call 41; refine hb.mono ?_; rintro e u ⟨rfl, hbu, hfu⟩))
        go_ret
        obtain ⟨h, hS⟩ := H.out
        exact ⟨rfl, hbu.off hS.1, (dk F D s.burnt).mono S _ _ ⟨M1, M2, pv, h.burnt hbu hfu (ok_burnt h.ok.fu), hS⟩ fun k hk => .inl hk⟩
    · have e1 : s.writes i d = (2, s) := by simp [Ds.writes, ho, hd]
      rw [e1]
      have hsz : ((d.size : Int) != 80) = true := by simp; omega
      have H := Lib.hid same
      clear h same e1 ho hd
      go_enter Try.func15, Try.ntmps15
      go_wp2_with (go_at_call 40; refine hh.mono ?_; rintro e u ⟨rfl, rfl⟩)
      go_ret
      exact ⟨rfl, Off.refl _ _, (dk F D s).mono _ _ _ H.out fun k hk => .inl hk⟩
end Go.Proofs.Ytoclgneokfbobaa.Dz
