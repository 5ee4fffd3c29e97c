/-
  What the calls of the specification's disk do that settle what is pending: Sync, Crash.
-/
import Derived.Test.YtoclgneokfbobaaRl
import Derived.Test.YtoclgneokfbobaaDu
namespace Go.Proofs.Ytoclgneokfbobaa.Dz
open Go.RowKit Go.ChangeShapes Go.WideShapes Go.ChangeAt Go.Proofs.Ytoclgneokfbobaa.Mem Go.Proofs.Ytoclgneokfbobaa.Fz
set_option linter.unusedVariables false

structure Rd (Sb : Nat) (s : Ds) (f : Nat → Nat) (w : World) (k : Nat) (wr : World) : Prop where
  off : Off (fun k => k = Sb) w wr
  row : wr.heap[Sb]? = some (.cells (sarr (settle f s.pend s.dur k) s.n) 9 (0, 0))
theorem Rd.kept {Sb : Nat} {s : Ds} {f : Nat → Nat} {w a b : World} {k : Nat} (h : Rd Sb s f w k a) (kk : Kept a b) : Rd Sb s f w k b := ⟨h.off.kept kk, kk.at h.row⟩
theorem Rd.put {Sb : Nat} {s : Ds} {f : Nat → Nat} {w a : World} {k : Nat} (h : Rd Sb s f w k a) (hlt : k < s.pend.length) {sec : Nat} {v : ByteArray} (hs : sec = s.pend[k].1)
    (hv : v = mix (f k) s.pend[k].2 (settle f s.pend s.dur k s.pend[k].1)) : Rd Sb s f w (k + 1) (a.setCell ⟨Sb, sec, none⟩ (.string v)) := by
  subst hs hv
  refine ⟨h.off.setc Sb _ _ (.inl rfl), ?_⟩
  rw [heap_setCell_same a Sb _ _ _ _ h.row, sarr_set, settle_succ hlt]
theorem Rd.skip {Sb : Nat} {s : Ds} {f : Nat → Nat} {w a : World} {k : Nat} (h : Rd Sb s f w k a) (hlt : k < s.pend.length) (hv : settle f s.pend s.dur k s.pend[k].1 = mix (f k) s.pend[k].2 (settle f s.pend s.dur k s.pend[k].1)) : Rd Sb s f w (k + 1) a := by
  refine ⟨h.off, ?_⟩
  rw [settle_succ hlt, ← hv, h.row]
  have e : Go.Proofs.Ytoclgneokfbobaa.Dz.put (settle f s.pend s.dur k) s.pend[k].1 (settle f s.pend s.dur k s.pend[k].1) = settle f s.pend s.dur k := by
    funext j; unfold Go.Proofs.Ytoclgneokfbobaa.Dz.put; split
    · next e => rw [e]
    · rfl
  rw [e]
theorem Rd.cell {Sb : Nat} {s : Ds} {f : Nat → Nat} {w a : World} {k : Nat} (h : Rd Sb s f w k a) {i : Nat} (hi : i < s.n) : a.cell? ⟨Sb, i, none⟩ = some (.string (settle f s.pend s.dur k i)) ∧ a.frozen? ⟨Sb, i, none⟩ = false := by
  refine ⟨?_, frozen_of_row _ _ _ _ _ h.row⟩
  rw [cell_of_row _ _ _ _ _ _ h.row, sarr_at _ _ _ hi]
theorem rsettled {R G Sb : Nat} {pv : Value} {s : Ds} {f : Nat → Nat} (hf : ∀ k, f k ≤ 80) {w w1 : World} (h : Rk R G Sb pv s w) (hs : Rd Sb s f w s.pend.length w1) :
    Rk R G Sb (.slice none 0 0) (s.settled f) (w1.setCell ⟨R, 1, none⟩ (.slice none 0 0)) := by
  have a := h.apart
  refine ⟨?_, ?_, ?_, World.ownsRow_nil _ _ _ _, h.ok.settled hf⟩
  · show (w1.setCell _ _).heap[G]? = _
    rw [heap_setCell_other _ _ _ _ a.RG.symm]
    exact hs.off.at h.rf a.GS
  · have := heap_setCell_same w1 R 1 _ _ (.slice none 0 0) (hs.off.at h.blk a.RS)
    simpa [rblock, Ds.settled] using this
  · rw [heap_setCell_other _ _ _ _ a.RS.symm]
    exact hs.row
theorem rsettled_rk {R G Sb : Nat} {pv : Value} {s : Ds} {f : Nat → Nat} (hf : ∀ k, f k ≤ 80) {w0 w w1 : World} {S : Nat → Prop} (h : Rk R G Sb pv s w) (hs : Rd Sb s f w s.pend.length w1) (ho : Off S w0 w) (hS : S G ∧ S R ∧ S Sb) :
    Off S w0 (w1.setCell ⟨R, 1, none⟩ (.slice none 0 0)) ∧ (rk G R (s.settled f)).p (grew S w0 (w1.setCell ⟨R, 1, none⟩ (.slice none 0 0))) (w1.setCell ⟨R, 1, none⟩ (.slice none 0 0)) :=
  ⟨(ho.trans (hs.off.mono fun k _ hk => by rcases hk with rfl; exact hS.2.2)).setc R 1 _ (.inl hS.2.1), Sb, _, rsettled hf h hs, .inl hS.1, .inl hS.2.1, .inl hS.2.2, fun g hg => by simp [Value.ownBlock] at hg⟩
theorem mix80 {a b : ByteArray} (ha : a.size = 80) (hb : b.size = 80) : mix 80 a b = a := mix_all ha hb
theorem mix0 {a b : ByteArray} : mix 0 a b = b := by
  unfold mix
  simp

set_option maxHeartbeats 2000000 in
set_option maxRecDepth 100000 in
theorem rsync_c (R G Sb : Nat) (pv : Value) (s : Ds) (S : Nat → Prop) (w : World) (h : Rk R G Sb pv s w)
    (hS : S G ∧ S R ∧ S Sb ∧ ∀ g, pv.ownBlock = some g → S g) :
    Calls Try.prog 35 #[.pointer (some ⟨R, 0, none⟩)] w fun e w' => e = .returned (.int .i64 s.syncs.1) ∧ Off S w w' ∧ (rk G R s.syncs.2).p (grew S w w') w' := by
  have hb := rburn_c G s.fu h.ok.fu w h.rf
  obtain ⟨_, _, c2, _⟩ := h.cells w (Off.refl _ _)
  have H := Lib.hid (And.intro h hS)
  clear h hS
  rcases says_ok s.fu with h0 | h10
  · have e1 : s.syncs = (0, s.burnt.settled fun _ => 80) := by simp [Ds.syncs, h0]
    rw [e1]
    rw [h0] at hb
    have hbt : ∀ u, But G w u → Rf G s.fu.burnt u → Rk R G Sb pv s.burnt u := fun u hbu hfu => H.out.1.burnt hbu hfu (ok_burnt H.out.1.ok.fu)
    obtain ⟨t, ht⟩ : ∃ t, t = s.burnt := ⟨_, rfl⟩
    rw [← ht] at hbt ⊢
    have HB := Lib.hid hbt
    clear e1 h0 ht hbt
    go_enter Try.func35, Try.ntmps35
    go_wp2_with (first
      | (go_at_call 52; refine hb.mono ?_; rintro e u ⟨rfl, hbu, hfu⟩; have hq := HB.out u hbu hfu; obtain ⟨ao, cap, rfl, hrow⟩ := hq.rows; have HC := Lib.hid (And.intro hrow (And.intro hq.cells hq)); have HU := Lib.hid hbu; clear hrow hq hbu hfu hb c2))
    go_loopw [4] (fun i wr => ∃ k : Nat, k ≤ t.pend.length ∧ i = .int .i64 k ∧ Rd Sb t (fun _ => 80) u k wr) (fun i _ => t.pend.length - (intOf i).toNat)
    case atStart => exact ⟨0, by omega, rfl, Off.refl _ _, HC.out.2.2.srow⟩
    case round =>
      obtain ⟨k, hk, rfl, hp⟩ := hrel
      have hlen := HC.out.2.2.len
      obtain ⟨c0, c1, _, _, f1⟩ := HC.out.2.1 wr hp.off
      by_cases hlt : k < t.pend.length
      · obtain ⟨g, rfl, hc⟩ := HC.out.1 k hlt
        obtain ⟨r0, r1⟩ := hc wr hp.off
        have okp : t.pend[k].1 < t.n ∧ t.pend[k].2.size = 80 := HC.out.2.2.ok.pend _ (List.getElem_mem hlt)
        have hold := size_settle (fun _ => Nat.le_refl 80) HC.out.2.2.ok.pend HC.out.2.2.ok.dur k _ okp.1
        obtain ⟨cs, fs⟩ := hp.cell okp.1
        have hmix := mix80 okp.2 hold
        obtain ⟨se, hsec⟩ : ∃ sec, sec = t.pend[k].1 := ⟨_, rfl⟩
        obtain ⟨dat, hdat⟩ : ∃ dat, dat = t.pend[k].2 := ⟨_, rfl⟩
        obtain ⟨old, hol⟩ : ∃ o, o = settle (fun _ => 80) t.pend t.dur k t.pend[k].1 := ⟨_, rfl⟩
        rw [← hol] at cs
        rw [← hsec] at r0 cs fs
        rw [← hdat] at r1
        have hse : se < t.n := by rw [hsec]; exact okp.1
        have Hs := Lib.hid (And.intro hp (And.intro hsec (hdat.trans hmix.symm)))
        clear hc hp hsec hdat hol hmix hold okp f1 hk
        go_wp2
        go_region
        go_wp2
        go_roundw
        case rel => exact ⟨k + 1, by omega, by go_num, (Hs.out.1.kept (Kept.refl _).drew).put hlt Hs.out.2.1 Hs.out.2.2⟩
        case measure => simp [intOf]; omega
      · obtain rfl : k = t.pend.length := by omega
        have f1' := f1 1
        have Hx := Lib.hid hp
        clear hp f1
        go_wp2
        go_ret
        obtain ⟨h, hS⟩ := H.out
        exact ⟨rfl, rsettled_rk (fun _ => Nat.le_refl 80) HC.out.2.2 Hx.out (HU.out.off hS.1) ⟨hS.1, hS.2.1, hS.2.2.1⟩⟩
  · have e1 : s.syncs = (10, s.burnt) := by simp [Ds.syncs, h10]
    rw [e1]
    rw [h10] at hb
    clear e1 h10
    go_enter Try.func35, Try.ntmps35
    go_wp2_with (go_at_call 52; refine hb.mono ?_; rintro e u ⟨rfl, hbu, hfu⟩)
    go_ret
    obtain ⟨h, hS⟩ := H.out
    exact ⟨rfl, hbu.off hS.1, (rk G R s.burnt).mono S _ _ ⟨Sb, pv, h.burnt hbu hfu (ok_burnt h.ok.fu), hS⟩ fun k hk => .inl hk⟩
end Go.Proofs.Ytoclgneokfbobaa.Dz
