/-
  The crash of the specification's disk.
-/
import Derived.Test.YtoclgneokfbobaaRs
namespace Go.Proofs.Ytoclgneokfbobaa.Dz
open Go.RowKit Go.ChangeShapes Go.WideShapes Go.ChangeAt Go.Proofs.Ytoclgneokfbobaa.Mem Go.Proofs.Ytoclgneokfbobaa.Fz
set_option linter.unusedVariables false

set_option maxHeartbeats 3000000 in
set_option maxRecDepth 100000 in
theorem rcrash_c (c : Ch) (hc : c.ok) (R G Sb : Nat) (pv : Value) (s : Ds) (S : Nat → Prop) (w : World) (h : Rk R G Sb pv s w)
    (hS : S G ∧ S R ∧ S Sb ∧ ∀ g, pv.ownBlock = some g → S g) :
    Calls Try.prog 53 #[.pointer (some ⟨R, 0, none⟩), .agg c.cells] w fun e w' => e = .returned (.tuple #[]) ∧ Off S w w' ∧ (rk G R (s.settled c.left)).p (grew S w w') w' := by
  obtain ⟨u, hu⟩ : ∃ u, u = w.alloc (.cells c.cells 29 (0, 0)) := ⟨_, rfl⟩
  have ku : Kept w u := by rw [hu]; exact (Kept.refl w).alloc _
  have hbx : u.heap[w.heap.size]? = some (.cells c.cells 29 (0, 0)) := by rw [hu]; exact heap_alloc_new _ _
  have hq : Rk R G Sb pv s u := h.at (Below.block ku _ h.lts.1) (Below.block ku _ h.lts.2.1) (Below.block ku _ h.lts.2.2.1) (fun g hg => Below.block ku _ (h.lts.2.2.2 g hg))
  have hCS : w.heap.size ≠ Sb := Nat.ne_of_gt h.lts.2.2.1
  have cC : ∀ W, Off (fun k => k = Sb) u W → W.cell? ⟨w.heap.size, 0, none⟩ = some (.int .u64 (c.keep : Int)) ∧ W.cell? ⟨w.heap.size, 1, none⟩ = some (.int .i64 c.torn) ∧ W.cell? ⟨w.heap.size, 2, none⟩ = some (.int .i64 c.bytes) := fun W hW => by
    have hb := hW.at hbx hCS
    exact ⟨cell_of_row _ _ _ _ _ _ hb, cell_of_row _ _ _ _ _ _ hb, cell_of_row _ _ _ _ _ _ hb⟩
  obtain ⟨m, hm⟩ : ∃ m : Nat, m = (c.bytes % 80).toNat := ⟨_, rfl⟩
  have hm80 : m < 80 := by omega
  have hv : (c.bytes.tmod 80 + 80).tmod 80 = (m : Int) := by rw [tmod80]; omega
  obtain ⟨b1, b2⟩ := tmod80_b c.bytes
  have c2 := (cC u (Off.refl _ _)).2.2
  obtain ⟨ao, cap, rfl, hrow⟩ := hq.rows
  have hlt1 : ∀ k : Nat, (k : Int) = c.torn → c.left k = m := fun k e => by simp [Ch.left, e, hm]
  have hlt2 : ∀ k : Nat, ¬ (k : Int) = c.torn → c.left k = if c.keep.testBit (k % 64) then 80 else 0 := fun k e => by simp [Ch.left, e]
  have HL := Lib.hid (And.intro hlt1 (And.intro hlt2 (And.intro c.left_le (And.intro hm80 hc.keep))))
  have H := Lib.hid (And.intro h (And.intro hS ku))
  have HC := Lib.hid (And.intro hrow (And.intro hq.cells (And.intro hq cC)))
  have Hu := Lib.hid hu
  have HU := Lib.hid (lt_of_block hbx)
  unfold Ch.cells at hu ⊢
  obtain ⟨keep, torn, bytes⟩ := c
  dsimp only at *
  clear h hS ku hbx hq hCS cC hm hlt1 hlt2 hrow
  obtain ⟨f, hf⟩ : ∃ f, f = Ch.left ⟨keep, torn, bytes⟩ := ⟨_, rfl⟩
  rw [← hf] at HL ⊢
  clear hf
  go_enter Try.func53, Try.ntmps53
  go_wp2
  rw [← hu]
  clear Hu hv b1 b2 c2
  go_loopw [5] (fun i wr => ∃ k : Nat, k ≤ s.pend.length ∧ i = .int .i64 k ∧ Rd Sb s f u k wr) (fun i _ => s.pend.length - (intOf i).toNat)
  case atStart => exact ⟨0, by omega, rfl, Off.refl _ _, HC.out.2.2.1.srow⟩
  case round =>
    obtain ⟨k, hk, rfl, hp⟩ := hrel
    have hlen := HC.out.2.2.1.len
    obtain ⟨c0, c1, _, _, f1⟩ := HC.out.2.1 wr hp.off
    by_cases hlt : k < s.pend.length
    · obtain ⟨g, rfl, hc⟩ := HC.out.1 k hlt
      obtain ⟨r0, r1⟩ := hc wr hp.off
      obtain ⟨q0, q1, q2⟩ := HC.out.2.2.2 wr hp.off
      have hsz : w.heap.size < wr.heap.size := Nat.lt_of_lt_of_le HU.out hp.off.size
      have n1 : ¬ w.heap.size = wr.heap.size := by omega
      have n2 : ¬ wr.heap.size = w.heap.size := by omega
      clear hsz
      have okp : s.pend[k].1 < s.n ∧ s.pend[k].2.size = 80 := HC.out.2.2.1.ok.pend _ (List.getElem_mem hlt)
      have hold := size_settle HL.out.2.2.1 HC.out.2.2.1.ok.pend HC.out.2.2.1.ok.dur k _ okp.1
      obtain ⟨se, hsec⟩ : ∃ sec, sec = s.pend[k].1 := ⟨_, rfl⟩
      obtain ⟨dat, hdat⟩ : ∃ dat, dat = s.pend[k].2 := ⟨_, rfl⟩
      obtain ⟨old, hol⟩ : ∃ o, o = settle f s.pend s.dur k s.pend[k].1 := ⟨_, rfl⟩
      rw [← hsec] at r0
      rw [← hdat] at r1
      rw [← hol] at hold
      have hse : se < s.n := by rw [hsec]; exact okp.1
      have hdz : dat.size = 80 := by rw [hdat]; exact okp.2
      have hmx : mix (f k) dat old = mix (f k) s.pend[k].2 (settle f s.pend s.dur k s.pend[k].1) := by rw [hdat, hol]
      have hos : settle f s.pend s.dur k se = old := by rw [hsec, hol]
      obtain ⟨x, hx⟩ : ∃ x, x = wr.alloc (.cells #[.int .i64 (se : Int), .string dat] 97) := ⟨_, rfl⟩
      have kx : Kept wr x := by rw [hx]; exact (Kept.refl wr).alloc _
      have hpx : Rd Sb s f u k x := hp.kept kx
      have bx : x.heap[wr.heap.size]? = some (.cells #[.int .i64 (se : Int), .string dat] 97 (0, 0)) := by rw [hx]; exact heap_alloc_new _ _
      obtain ⟨d0, d1, _⟩ := HC.out.2.1 x hpx.off
      obtain ⟨e0, e1, e2⟩ := HC.out.2.2.2 x hpx.off
      have x0 : x.cell? ⟨wr.heap.size, 0, none⟩ = some (.int .i64 (se : Int)) := cell_of_row _ _ _ _ _ _ bx
      have x1 : x.cell? ⟨wr.heap.size, 1, none⟩ = some (.string dat) := cell_of_row _ _ _ _ _ _ bx
      obtain ⟨cs, fs⟩ := hpx.cell hse
      rw [hos] at cs
      have Hs := Lib.hid (And.intro hpx (And.intro hsec (And.intro hmx (And.intro hol hdat))))
      have y0 : (wr.alloc (.cells #[.int .i64 (se : Int), .string dat] 97)).cell? ⟨w.heap.size, 0, none⟩ = some (.int .u64 (keep : Int)) := by rw [← hx]; exact e0
      have y1 : (wr.alloc (.cells #[.int .i64 (se : Int), .string dat] 97)).cell? ⟨w.heap.size, 1, none⟩ = some (.int .i64 torn) := by rw [← hx]; exact e1
      have Hx := Lib.hid hx
      clear hc hp hsec hdat hol okp f1 hk hmx hos kx hpx bx
      by_cases ht : (k : Int) = torn
      · have hl := HL.out.1 k ht
        have ht' : ((k : Int) == torn) = true := by simpa using ht
        have hm80 := HL.out.2.2.2.1
        have hs1 : ∀ W, (Instr.slice 9 (.string dat) none (some (.int .i64 (m : Int))) none).run Try.prog W = .ok (.string (dat.extract 0 m)) W := slice_h dat m (by omega)
        have hs2 : ∀ W, (Instr.slice 9 (.string old) (some (.int .i64 (m : Int))) none none).run Try.prog W = .ok (.string (old.extract m old.size)) W := slice_l old m (by omega)
        obtain ⟨pa, hpa⟩ : ∃ pa, pa = dat.extract 0 m := ⟨_, rfl⟩
        obtain ⟨pb, hpb⟩ : ∃ pb, pb = old.extract m old.size := ⟨_, rfl⟩
        obtain ⟨v, hv⟩ : ∃ v, v = pa ++ pb := ⟨_, rfl⟩
        have hcm : v = mix m dat old := by rw [hv, hpa, hpb]; rfl
        have csz : v.size = 80 := by rw [hcm]; exact size_mix (by omega) hdz hold
        rw [← hpa] at hs1
        rw [← hpb] at hs2
        have psz : pa.size + pb.size = 80 := by rw [← ByteArray.size_append, ← hv]; exact csz
        have hadd : ∀ W, (Op.stringOp .add pa pb).run Try.prog W = .ok (.string v) W := fun W => by
          rw [hv]; exact run_string_add_sum W pa pb (by omega)
        have Ht := Lib.hid (And.intro hcm hl)
        clear psz csz hcm hv hpa hpb hl hm80 hdz hold ht
        go_wp2
        rw [← hx]
        clear hx
        go_region
        go_wp2
        go_roundw
        case rel => exact ⟨k + 1, by omega, by go_num, (Hs.out.1.kept (Kept.refl _).drew).put hlt Hs.out.2.1 (by rw [← Hs.out.2.2.1, Ht.out.2]; exact Ht.out.1)⟩
        case measure => simp [intOf]; omega
      · have hl := HL.out.2.1 k ht
        have ht' : ((k : Int) == torn) = false := by simpa using ht
        have hb := keep_bit keep (k % 64) HL.out.2.2.2.2
        clear ht hm80
        cases hq : keep.testBit (k % 64) with
        | true =>
          rw [hq] at hb hl
          have Ht := Lib.hid (And.intro hl (mix80 hdz hold))
          clear hl hdz hold hq
          go_wp2
          rw [← hx]
          clear hx
          go_region
          go_wp2
          go_roundw
          case rel => exact ⟨k + 1, by omega, by go_num, (Hs.out.1.kept (Kept.refl _).drew).put hlt Hs.out.2.1 (by rw [← Hs.out.2.2.1, Ht.out.1]; exact Ht.out.2.symm)⟩
          case measure => simp [intOf]; omega
        | false =>
          rw [hq] at hb hl
          have Ht := Lib.hid hl
          clear hl hdz hold hq
          go_wp2
          rw [← hx]
          go_roundw
          case rel => exact ⟨k + 1, by omega, by go_num, Hs.out.1.skip hlt (by rw [← Hs.out.2.2.1, Ht.out]; exact Hs.out.2.2.2.1.symm.trans mix0.symm)⟩
          case measure => simp [intOf]; omega
    · obtain rfl : k = s.pend.length := by omega
      have f1' := f1 1
      have Hx := Lib.hid hp
      clear hp f1
      go_wp2
      go_end0
      obtain ⟨h, hS, ku⟩ := H.out
      exact ⟨rfl, rsettled_rk HL.out.2.2.1 HC.out.2.2.1 Hx.out (ku.off S) ⟨hS.1, hS.2.1, hS.2.2.1⟩⟩
end Go.Proofs.Ytoclgneokfbobaa.Dz
