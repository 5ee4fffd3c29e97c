/-
  JournalOnce: its walk.
-/
import Derived.Test.YtjbcpfndpfeepaaJkb
import Derived.Test.YtjbcpfndpfeepaaJkm
import Derived.Test.YtjbcpfndpfeepaaJz
namespace Go.Proofs.Ytjbcpfndpfeepaa.Jk
open Go Go.RowKit Go.ChangeShapes Go.WideShapes Go.ChangeAt Go.Proofs.Ytjbcpfndpfeepaa.Mem Go.Proofs.Ytjbcpfndpfeepaa.Pk Go.Proofs.Ytjbcpfndpfeepaa.Fk Go.Proofs.Ytjbcpfndpfeepaa.Dz Go.Proofs.Ytjbcpfndpfeepaa.Fz Go.Proofs.Ytjbcpfndpfeepaa.Rc
open Go.Proofs.Ytjbcpfndpfeepaa.Hk (Hd saves loads o_save o_load hblock look_dur)

theorem book_new {area : Nat} {s : Ds} (l : Live area s h11 []) : Book area [] s.dur h11.boot (lsnOf h11 []) := by
  refine ⟨fun i hi f hf => ?_, fun f hf => (by cases hf), fun f hf => (by cases hf)⟩
  have g := (dec_some hf).1
  have b1 := g.b1
  rcases l.jo.was i hi with h | ⟨c, g2, _, _, hl⟩
  · have e1 : f.boot < ((1 : Nat) : Int) := low_dec h hf
    exfalso
    omega
  · have hl : c.lsn ≤ 0 := hl
    have c1 := g2.l1
    exfalso
    omega
theorem begin_2 (area : Nat) (ha : 1 ≤ area ∧ area ≤ 32000) (w : World) : Calls Try.prog 9 #[.int .i64 (area : Int)] w fun e w' => ∃ B, e = .returned (.pointer (some ⟨B, 0, none⟩)) ∧ IsRan2 w B area 1 1 0 [] [] w' := by
  obtain ⟨s1, hl, hc⟩ := o_begin area ha
  refine (hc w).mono ?_
  rintro e w' ⟨B, F, D, J, vS, vR, rfl, hw⟩
  exact ⟨B, rfl, F, D, J, s1, h11, [], [_, _], vS, vR, 0, xsF [], 0, fun i => xsF [] (0 + i), ⟨hw, hl, (Sees.row (L := [_, _, _, _]) hw).more [_], Sees.row (L := [_, _, _]) hw, ⟨rfl, Nat.le_refl _, rfl, fun i hi => absurd hi (by omega), fun i hi => absurd hi (by omega)⟩, ⟨by decide, by decide, by decide⟩⟩, book_new hl⟩
theorem IsRan2.addmap {w0 : World} {B area : Nat} {b q l : Int} {w : World} (h : IsRan2 w0 B area b q l [] [] w) : IsRan2 w0 B area b q l [] [seenA w.heap.size [] 0] (w.alloc (.map #[] 0)) := by
  obtain ⟨F, D, J, s, c, R, t, vS, vR, nS, xS, nR, xR, r, bk⟩ := h
  have ho := r.own.push (b := seenA w.heap.size [] 0) ((Kept.refl w).alloc (.map #[] 0)) ⟨Seen.made w [], .inr ⟨Nat.le_refl _, by simp⟩⟩
  refine ⟨F, D, J, s, c, R, t, vS, vR, nS, xS, nR, xR, ⟨?_, r.live, r.sees, r.seer, r.data, r.bnd⟩, bk⟩
  simpa using ho
theorem set_last {a b c x y : As} {t : List As} : (a :: b :: c :: (t ++ [x])).set (3 + t.length) y = a :: b :: c :: (t ++ [y]) := by
  rw [show 3 + t.length = ((t.length + 1) + 1) + 1 by omega]
  simp
theorem get_last {a b c x : As} {t : List As} : (a :: b :: c :: (t ++ [x]))[3 + t.length]? = some x := by
  rw [show 3 + t.length = ((t.length + 1) + 1) + 1 by omega]
  simp
/-- More frames are in the book: the map says the same. -/
theorem own_saw {w0 w w' : World} {a b c : As} {t : List As} {m : Nat} {K K' : List Fr} {n n' : Nat} (h : Mem.Own w0 (a :: b :: c :: (t ++ [seenA m K n])) w) (hs : Seen m K' n' w') (hb : But m w w') : Mem.Own w0 (a :: b :: c :: (t ++ [seenA m K' n'])) w' := by
  have := o_saw h (3 + t.length) get_last hs hb
  rw [set_last] at this
  exact this
theorem own_seen {w0 w : World} {a b c : As} {t : List As} {m : Nat} {K : List Fr} {n : Nat} (h : Mem.Own w0 (a :: b :: c :: (t ++ [seenA m K n])) w) : Seen m K n w := o_seen h (3 + t.length) get_last
theorem IsRan2.grow {w0 : World} {B area : Nat} {b q l : Int} {K K' : List Fr} {m n : Nat} {w : World} (h : IsRan2 w0 B area b q l K' [seenA m K n] w) (hK : ∀ f ∈ K, f ∈ K') : IsRan2 w0 B area b q l K' [seenA m K' n] w := by
  obtain ⟨F, D, J, s, c, R, t, vS, vR, nS, xS, nR, xR, r, bk⟩ := h
  exact ⟨F, D, J, s, c, R, t, vS, vR, nS, xS, nR, xR, ⟨own_saw r.own ((own_seen r.own).mono hK (Nat.le_refl _)) (But.refl _ _), r.live, r.sees, r.seer, r.data, r.bnd⟩, bk⟩
set_option maxRecDepth 100000 in
set_option maxHeartbeats 8000000 in
theorem once_core (w : World) (n : Nat) (hn : n ≤ 255) {aL : Option Addr} {lenL capL : Nat} {Y : Nat → Deed} (dl : Deeds w (.slice aL lenL capL) aL lenL capL Y) {aC : Option Addr} {nC cC : Nat} (bc : Byts w (.slice aC nC cC) aC nC cC) (h1 : ¬ 24 < lenL) (h2 : ¬ 100 < nC) :
    Calls Try.prog 4 #[.int .u8 (n : Int), .slice aL lenL capL, .slice aC nC cC] w fun e w' => e = .returned (.bool true) ∧ Kept w w' := by
  have H := Lib.hid (And.intro dl bc)
  have hv := heavy_c dl
  have HVY := Lib.hid hv
  clear dl bc hv
  obtain ⟨area, hA, hA1, hA2⟩ : ∃ area : Nat, (n : Int) % 24 + 1 = (area : Int) ∧ 1 ≤ area ∧ area ≤ 24 := ⟨n % 24 + 1, by omega, by omega, by omega⟩
  go_enter Try.func4, Try.ntmps4
  go_upto_if 30 with (go_at_call 7; (with_reducible refine HVY.out.mono ?_); rintro e u1 ⟨qv, rfl, rfl, hq⟩; have HQ := Lib.hid hq; clear hq; cases qv)
  · clear HVY
    have hmm := @run_makeMap Try.prog
    have hbg := Lib.hid (begin_2 area ⟨hA1, by omega⟩ u1)
    go_wp2_with (go_at_call 9; (with_reducible refine hbg.out.mono ?_); rintro e u2 ⟨B, rfl, hr⟩; have k2 := Lib.hid hr; clear hr)
    go_loopw [6, 9, 10, 11, 12, 13, 14, 15, 16, 17, 18] (fun _ i _ _ _ _ _ _ _ _ _ wr => ∃ (z : Nat) (K : List Fr) (nn : Nat), z ≤ lenL ∧ nn ≤ 64 * z ∧ i = .int .i64 (z : Int) ∧ IsRan2 u1 B area (1 + 5 * (z : Int)) (1 + 6 * (z : Int)) (41 * (z : Int)) K [seenA u2.heap.size K nn] wr) (fun _ i _ _ _ _ _ _ _ _ _ _ => lenL - (intOf i).toNat)
    case atStart => exact ⟨0, [], 0, by omega, by omega, rfl, k2.out.addmap⟩
    case round =>
      obtain ⟨z, K, nn, hz, hnn, rfl, hr⟩ := hrel
      have HRz := Lib.hid hr
      clear k2 hr hbg
      by_cases hlt : z < lenL
      · go_upto_if 48 with fail
        go_cut [10] from 40 to 63 (fun v10 wx => ∃ kk : Nat, kk ≤ 255 ∧ v10 = .int .u8 (kk : Int) ∧ wx = wr)
        case first =>
          by_cases hC : 0 < nC
          · obtain ⟨IX, hIX, hIX2⟩ : ∃ IX : Nat, (z : Int) % (nC : Int) = (IX : Int) ∧ IX < nC := ⟨z % nC, (Int.natCast_emod z nC).symm, Nat.mod_lt _ hC⟩
            obtain ⟨g, f, y, rfl, hy, hg, hcy⟩ := H.out.2.cell IX hIX2
            have hcy2 : wr.cell? ⟨g, f + IX, none⟩ = some (.int .u8 (y : Int)) := by
              obtain ⟨F, D, J, s, c, R, t, vS, vR, nS, xS, nR, xR, r, _⟩ := HRz.out
              exact (r.own.kept.cell hg).trans hcy
            clear hcy
            go_wp2_with fail
            go_meet
            exact ⟨y, hy, rfl, rfl⟩
          · go_wp2_with fail
            go_meet
            exact ⟨11, by omega, rfl, rfl⟩
        case rest =>
          obtain ⟨kk, hkk, rfl, rfl⟩ := hcut
          have hcl : ∀ j u, (Y z).cells[j]? = some u → ∃ b off, aL = some ⟨b, off, none⟩ ∧ wc.cell? ⟨b, off + z * 7 + j, none⟩ = some u := fun j u hj => by
            obtain ⟨b, off, e, hb, hc⟩ := H.out.1.cell (by omega)
            obtain ⟨F, D, J, s, c, R, t, vS, vR, nS, xS, nR, xR, r, _⟩ := HRz.out
            exact ⟨b, off, e, (r.own.kept.cell hb).trans (hc z hlt j u hj)⟩
          obtain ⟨b, off, rfl, y0⟩ := hcl 0 _ rfl
          obtain ⟨_, _, e1, y1⟩ := hcl 1 _ rfl
          cases e1
          obtain ⟨_, _, e2, y2⟩ := hcl 2 _ rfl
          cases e2
          obtain ⟨_, _, e3, y3⟩ := hcl 3 _ rfl
          cases e3
          obtain ⟨_, _, e4, y4⟩ := hcl 4 _ rfl
          cases e4
          obtain ⟨_, _, e5, y5⟩ := hcl 5 _ rfl
          cases e5
          obtain ⟨_, _, e6, y6⟩ := hcl 6 _ rfl
          cases e6
          have z0 : wc.cell? ⟨b, off + z * 7, none⟩ = some (.int .u8 ((Y z).d : Int)) := y0
          have z1 : wc.cell? ⟨b, off + z * 7 + 1, none⟩ = some (.string (Y z).s) := y1
          have z2 : wc.cell? ⟨b, off + z * 7 + 2, none⟩ = some (.slice (Y z).a (Y z).m (Y z).cap) := y2
          have z3 : wc.cell? ⟨b, off + z * 7 + 3, none⟩ = some (.int .i64 (Y z).k) := y3
          have z4 : wc.cell? ⟨b, off + z * 7 + 4, none⟩ = some (.int .u64 ((Y z).c.keep : Int)) := y4
          have z5 : wc.cell? ⟨b, off + z * 7 + 5, none⟩ = some (.int .i64 (Y z).c.torn) := y5
          have z6 : wc.cell? ⟨b, off + z * 7 + 6, none⟩ = some (.int .i64 (Y z).c.bytes) := y6
          clear hcl y0 y1 y2 y3 y4 y5 y6
          have hdo : Calls Try.prog 10 #[.pointer (some ⟨B, 0, none⟩), .agg #[.int .u8 ((Y z).d : Int), .string (Y z).s, .slice (Y z).a (Y z).m (Y z).cap, .int .i64 (Y z).k, .int .u64 ((Y z).c.keep : Int), .int .i64 (Y z).c.torn, .int .i64 (Y z).c.bytes], .int .u8 (kk : Int), .slice none 0 0] wc fun e w' => e = .returned (.bool true) ∧ ∃ K' : List Fr, (∀ f ∈ K, f ∈ K') ∧ IsRan2 u1 B area (1 + 5 * (z : Int) + 5) (1 + 6 * (z : Int) + 6) (41 * (z : Int) + 41) K' [seenA u2.heap.size K nn] w' := by
            obtain ⟨F, D, J, s, c, R, t, vS, vR, nS, xS, nR, xR, r, bk⟩ := HRz.out
            have ho := H.out.1.ok z hlt
            exact does_once r bk ⟨hA1, by omega⟩ (by omega) (by omega) (by omega) _ ho.d _ ho.s (Sees.base ho.row ho.nil) ((HQ.out (by trivial)).2 z hlt) ho.le _ _ _ _ ho.c kk hkk
          have HDO := Lib.hid hdo
          clear hdo
          go_wp2_with (go_at_call 10; (with_reducible refine HDO.out.mono ?_); rintro e u3 ⟨rfl, K', hK', k3'⟩; have k3 := Lib.hid (k3'.grow hK'); clear k3' hK')
          obtain ⟨F, D, J, s, c, R, t, vS, vR, nS, xS, nR, xR, r, bk⟩ := k3.out
          obtain ⟨L, hL⟩ : ∃ L : Nat → List As, L = fun nn => runA B F D (.pointer (some ⟨J, 0, none⟩)) area vS vR c.boot :: jA J D (jw area c R) :: dk F D s :: (t ++ [seenA u2.heap.size K' nn]) := ⟨_, rfl⟩
          have hN : s.n = 2 + 2 * area := r.live.calm.n
          have hblk : ∀ nn W, Mem.Own u1 (L nn) W → W.cell? ⟨B, 1, none⟩ = some (.pointer (some ⟨D, 0, none⟩)) := fun nn W h => by
            rw [hL] at h
            exact (runBlock h 0 rfl).1.2.1
          have hsec : ∀ nn W, Mem.Own u1 (L nn) W → Calls Try.prog 12 #[.pointer (some ⟨D, 0, none⟩)] W fun e w' => e = .returned (.int .i64 (2 + 2 * (area : Int))) ∧ Mem.Own u1 (L nn) w' := fun nn W h => by
            rw [hL] at h ⊢
            have q := o_sectors h 2 rfl
            rw [hN] at q
            rw [show (2 + 2 * (area : Int)) = ((2 + 2 * area : Nat) : Int) by push_cast; rfl]
            exact q
          have hrd : ∀ nn W (p : Nat), p < 2 + 2 * area → Mem.Own u1 (L nn) W → Calls Try.prog 13 #[.pointer (some ⟨D, 0, none⟩), .int .i64 (p : Int)] W fun e w' => e = .returned (.tuple #[.string (s.dur p), .int .i64 0]) ∧ Mem.Own u1 (L nn) w' := fun nn W p hp h => by
            rw [hL] at h ⊢
            have q := o_read h 2 rfl (p : Int)
            have e : s.reads (p : Int) = (s.dur p, 0) := by
              have e1 : s.out (p : Int) = false := Ds.out_in (by omega)
              have e2 : s.fu.dead = false := by rw [r.live.calm.fu]; rfl
              unfold Ds.reads
              rw [e1, e2, look_dur r.live.calm.pend]
              rfl
            rw [e] at q
            exact q
          have hdc : ∀ nn W (S : ByteArray), Mem.Own u1 (L nn) W → Calls Try.prog 14 #[.string S] W fun e w' => e = .returned (.tuple #[.agg #[.int .i64 (decF S).boot, .int .i64 (decF S).lsn, .int .i64 (decF S).part, .int .i64 (decF S).parts, .int .u8 (decF S).kind, .string (decF S).data], .int .i64 (decE S)]) ∧ Mem.Own u1 (L nn) w' := fun nn W S h => (decode_c S W).mono fun _ _ ⟨he, hk⟩ => ⟨he, h.later hk⟩
          have hlook : ∀ nn W (p : Nat) (f : Fr), 2 ≤ p → p < 2 + 2 * area → dec (s.dur p) = some f → Mem.Own u1 (L nn) W → ∃ (s' : ByteArray) (q : Bool), (Instr.lookup 42 (.map (some u2.heap.size)) (.agg #[.int .i64 f.boot, .int .i64 f.lsn, .int .i64 f.part, .int .i64 0, .int .u8 0, .string ByteArray.empty]) true).run Try.prog W = .ok (.tuple #[.string s', .bool q]) W ∧ (q = true → s' = s.dur p) := fun nn W p f h1 h2 hf h => by
            rw [hL] at h
            obtain ⟨s', q, hr, hq⟩ := (own_seen h).look Try.underlying42 (dec_some hf).1 (bk.on p ⟨h1, h2⟩ f hf) bk.one
            exact ⟨s', q, hr, fun e => by rw [hq e]; exact (dec_some hf).2.2.symm⟩
          have hstore : ∀ nn W (p : Nat) (f : Fr), 2 ≤ p → p < 2 + 2 * area → dec (s.dur p) = some f → nn < 100000 → Mem.Own u1 (L nn) W → ∃ w', (Instr.mapUpdate 42 (.map (some u2.heap.size)) (.agg #[.int .i64 f.boot, .int .i64 f.lsn, .int .i64 f.part, .int .i64 0, .int .u8 0, .string ByteArray.empty]) (.string (s.dur p))).run Try.prog W = .ok () w' ∧ Mem.Own u1 (L (nn + 1)) w' := fun nn W p f h1 h2 hf hn h => by
            rw [hL] at h ⊢
            have e := (dec_some hf).2.2
            have hsz : (s.dur p).size ≤ maxLen := by
              rw [r.live.calm.ok.dur p (by omega)]; decide
            rw [e] at hsz ⊢
            obtain ⟨w', hr, hs, hb⟩ := (own_seen h).store Try.underlying42 (dec_some hf).1 (bk.on p ⟨h1, h2⟩ f hf) hsz (by unfold maxLen; omega)
            exact ⟨w', hr, own_saw h hs hb⟩
          have hfin : ∀ nn W, Mem.Own u1 (L nn) W → IsRan2 u1 B area (1 + 5 * (z : Int) + 5) (1 + 6 * (z : Int) + 6) (41 * (z : Int) + 41) K' [seenA u2.heap.size K' nn] W := fun nn W h => by
            rw [hL] at h
            exact ⟨F, D, J, s, c, R, t, vS, vR, nS, xS, nR, xR, ⟨h, r.live, r.sees, r.seer, r.data, r.bnd⟩, bk⟩
          have k4 : Hid (Mem.Own u1 (L nn) u3) := Lib.hid (by rw [hL]; exact r.own)
          have HC := Lib.hid (And.intro hsec (And.intro hrd (And.intro hdc (And.intro hlook (And.intro hstore hfin)))))
          have HK := Lib.hid hblk
          clear hsec hrd hdc hlook hstore hfin hblk hN hL r bk k3 z0 z1 z2 z3 z4 z5 z6 HDO
          go_loopw [6, 11, 12, 13, 14, 15, 16, 17, 18] (fun _ v11 _ _ _ _ _ _ _ wr => ∃ p n2 : Nat, 2 ≤ p ∧ p ≤ 2 + 2 * area ∧ n2 ≤ 64 * z + p - 2 ∧ v11 = .int .i64 (p : Int) ∧ Mem.Own u1 (L n2) wr) (fun _ v11 _ _ _ _ _ _ _ _ => 2 + 2 * area - (intOf v11).toNat)
          case atStart => exact ⟨2, nn, by omega, by omega, by omega, rfl, k4.out⟩
          case round =>
            obtain ⟨p, n2, hp1, hp2, hn2, rfl, ho⟩ := hrel
            have k5 := Lib.hid ho
            have := HK.out _ _ ho
            clear ho k4
            by_cases hpl : p < 2 + 2 * area
            · have HR := Lib.hid (fun W => HC.out.2.1 n2 W p hpl)
              have HL := Lib.hid (fun W f => HC.out.2.2.2.1 n2 W p f hp1 hpl)
              have HS := Lib.hid (fun W f hf => HC.out.2.2.2.2.1 n2 W p f hp1 hpl hf (by omega))
              obtain ⟨S, hS⟩ : ∃ S, S = s.dur p := ⟨_, rfl⟩
              rw [← hS] at HR HL HS
              clear hS
              go_upto_region 19 with (first
                | (go_at_call 12; (with_reducible refine (HC.out.1 _ _ k5.out).mono ?_); rintro e u6 ⟨rfl, k6'⟩; have := HK.out _ _ k6'; have k6 := Lib.hid k6'; clear k6')
                | (go_at_call 13; (with_reducible refine (HR.out _ k6.out).mono ?_); rintro e u7 ⟨rfl, k7'⟩; have k7 := Lib.hid k7'; clear k7'))
              go_cut [14, 15] from 64 to 112 (fun v14 v15 wx => ∃ g : Nat, v14 = .pointer (some ⟨g, 0, none⟩) ∧ v15 = .int .i64 (decE S) ∧ (wx.cell? ⟨g, 0, none⟩ = some (.int .i64 (decF S).boot) ∧ wx.cell? ⟨g, 1, none⟩ = some (.int .i64 (decF S).lsn) ∧ wx.cell? ⟨g, 2, none⟩ = some (.int .i64 (decF S).part)) ∧ Mem.Own u1 (L n2) wx)
              case first =>
                go_wp2_with (go_at_call 14; (with_reducible refine (HC.out.2.2.1 _ _ S k7.out).mono ?_); rintro e u8 ⟨rfl, k8'⟩; have k8 := Lib.hid k8'; clear k8')
                go_meet
                have hb := k8.out.box #[.int .i64 (decF S).boot, .int .i64 (decF S).lsn, .int .i64 (decF S).part, .int .i64 (decF S).parts, .int .u8 (decF S).kind, .string (decF S).data] 48
                have hr := hb.boxed 0 rfl
                exact ⟨_, rfl, rfl, ⟨cell_of_row _ _ _ _ _ _ hr, cell_of_row _ _ _ _ _ _ hr, cell_of_row _ _ _ _ _ _ hr⟩, hb.tail⟩
              case rest =>
                obtain ⟨g, rfl, rfl, ⟨c0, c1, c2⟩, h8⟩ := hcut
                have k8 := Lib.hid h8
                clear h8 k5 k6 k7
                cases hd : dec S with
                | none =>
                  have e1 : decE S = 12 := by unfold decE; rw [hd]; rfl
                  rw [e1]
                  clear hd e1
                  go_wp2_with fail
                  go_roundw
                  case rel => exact ⟨p + 1, n2, by omega, by omega, by omega, by go_num, k8.out⟩
                  case measure => simp [intOf]; omega
                | some f =>
                  obtain ⟨e1, e2⟩ := dec_F hd
                  rw [e2]
                  rw [e1] at c0 c1 c2
                  have HD := Lib.hid hd
                  clear hd e1 e2
                  go_upto_region 23 with fail
                  go_cut [16] from 64 to 112 (fun v16 wx => ∃ g2 : Nat, v16 = .pointer (some ⟨g2, 0, none⟩) ∧ (wx.cell? ⟨g2, 0, none⟩ = some (.int .i64 f.boot) ∧ wx.cell? ⟨g2, 1, none⟩ = some (.int .i64 f.lsn) ∧ wx.cell? ⟨g2, 2, none⟩ = some (.int .i64 f.part) ∧ wx.cell? ⟨g2, 3, none⟩ = some (.int .i64 0) ∧ wx.cell? ⟨g2, 4, none⟩ = some (.int .u8 0) ∧ wx.cell? ⟨g2, 5, none⟩ = some (.string ByteArray.empty)) ∧ Mem.Own u1 (L n2) wx)
                  case first =>
                    go_wp2_with fail
                    go_meet
                    have hb := k8.out.box #[.int .i64 f.boot, .int .i64 f.lsn, .int .i64 f.part, .int .i64 0, .int .u8 0, .string ByteArray.empty] 48
                    have hr := hb.boxed 0 rfl
                    exact ⟨_, rfl, ⟨cell_of_row _ _ _ _ _ _ hr, cell_of_row _ _ _ _ _ _ hr, cell_of_row _ _ _ _ _ _ hr, cell_of_row _ _ _ _ _ _ hr, cell_of_row _ _ _ _ _ _ hr, cell_of_row _ _ _ _ _ _ hr⟩, hb.tail⟩
                  case rest =>
                    obtain ⟨g2, rfl, ⟨d0, d1, d2, d3, d4, d5⟩, h9⟩ := hcut
                    clear k8 c0 c1 c2
                    obtain ⟨s', q, hlk, hq⟩ := HL.out _ f HD.out h9
                    obtain ⟨w9, hst, h10⟩ := HS.out _ f HD.out h9
                    have k10 := Lib.hid h10
                    clear h9 h10
                    cases q
                    · clear hq
                      go_wp2_with fail
                      go_roundw
                      case rel => exact ⟨p + 1, n2 + 1, by omega, by omega, by omega, by go_num, k10.out⟩
                      case measure => simp [intOf]; omega
                    · obtain rfl := hq rfl
                      clear hq
                      go_wp2_with fail
                      go_roundw
                      case rel => exact ⟨p + 1, n2 + 1, by omega, by omega, by omega, by go_num, k10.out⟩
                      case measure => simp [intOf]; omega
            · go_wp2_with (go_at_call 12; (with_reducible refine (HC.out.1 _ _ k5.out).mono ?_); rintro e u6 ⟨rfl, k6'⟩; have k6 := Lib.hid k6'; clear k6')
              go_roundw
              case rel => exact ⟨z + 1, K', n2, by omega, by omega, by go_num, (HC.out.2.2.2.2.2 _ _ k6.out).more (by omega) (by omega) (by omega)⟩
              case measure => simp [intOf]; omega
      · go_wp2_with (go_at_call 8; (with_reducible refine (Jk.known_c _).mono ?_); rintro e u6 ⟨rfl, k6'⟩; have k6 := Lib.hid k6'; clear k6')
        go_ret
        obtain ⟨F, D, J, s, c, R, t, vS, vR, nS, xS, nR, xR, r, _⟩ := HRz.out
        exact ⟨rfl, r.own.kept.trans k6.out⟩
  · clear H HQ
    go_wp2_with (go_at_call 8; (with_reducible refine (Jk.known_c _).mono ?_); rintro e u10 ⟨rfl, k10⟩)
    go_ret
    exact ⟨rfl, k10⟩
end Go.Proofs.Ytjbcpfndpfeepaa.Jk
