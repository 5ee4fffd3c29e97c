/-
  JournalSurvives: its walk.
-/
import Derived.Test.YtjbcpfndpfeepaaJz
namespace Go.Proofs.Ytjbcpfndpfeepaa.Jk
open Go Go.RowKit Go.ChangeShapes Go.WideShapes Go.ChangeAt Go.Proofs.Ytjbcpfndpfeepaa.Mem Go.Proofs.Ytjbcpfndpfeepaa.Pk Go.Proofs.Ytjbcpfndpfeepaa.Fk Go.Proofs.Ytjbcpfndpfeepaa.Dz Go.Proofs.Ytjbcpfndpfeepaa.Fz Go.Proofs.Ytjbcpfndpfeepaa.Rc
open Go.Proofs.Ytjbcpfndpfeepaa.Hk (Hd saves loads o_save o_load hblock)

set_option maxRecDepth 100000 in
set_option maxHeartbeats 8000000 in
theorem survives_core (w : World) (n : Nat) (hn : n ≤ 255) {aL : Option Addr} {lenL capL : Nat} {Y : Nat → Deed} (dl : Deeds w (.slice aL lenL capL) aL lenL capL Y) {aC : Option Addr} {nC cC : Nat} (bc : Byts w (.slice aC nC cC) aC nC cC) {aG : Option Addr} {nG cG : Nat} (bg : Byts w (.slice aG nG cG) aG nG cG) (h1 : ¬ 40 < lenL) (h2 : ¬ 100 < nC) (h3 : ¬ 100 < nG) :
    Calls Try.prog 3 #[.int .u8 (n : Int), .slice aL lenL capL, .slice aC nC cC, .slice aG nG cG] w fun e w' => e = .returned (.bool true) ∧ Kept w w' := by
  have H := Lib.hid (And.intro dl (And.intro bc bg))
  have hv := heavy_c dl
  have HVY := Lib.hid hv
  clear dl bc bg hv
  obtain ⟨area, hA, hA1, hA2⟩ : ∃ area : Nat, (n : Int) % 24 + 1 = (area : Int) ∧ 1 ≤ area ∧ area ≤ 24 := ⟨n % 24 + 1, by omega, by omega, by omega⟩
  go_enter Try.func3, Try.ntmps3
  go_upto_if 29 with (go_at_call 7; (with_reducible refine HVY.out.mono ?_); rintro e u1 ⟨qv, rfl, rfl, hq⟩; have HQ := Lib.hid hq; clear hq; cases qv)
  · clear HVY
    have hbg := Lib.hid (begin_c area ⟨hA1, by omega⟩ u1)
    go_wp2_with (go_at_call 9; (with_reducible refine hbg.out.mono ?_); rintro e u2 ⟨B, rfl, hr⟩; have k2 := Lib.hid hr; clear hr)
    go_loopw [8, 10, 11, 12] (fun _ i _ _ wr => ∃ z : Nat, z ≤ lenL ∧ i = .int .i64 (z : Int) ∧ IsRan u1 B area (1 + 5 * (z : Int)) (1 + 6 * (z : Int)) (41 * (z : Int)) wr) (fun _ i _ _ _ => lenL - (intOf i).toNat)
    case atStart => exact ⟨0, by omega, rfl, k2.out⟩
    case round =>
      obtain ⟨z, hz, rfl, hr⟩ := hrel
      have HRz := Lib.hid hr
      clear k2 hr hbg
      by_cases hlt : z < lenL
      · go_upto_if 46 with fail
        go_cut [11] from 47 to 53 (fun v11 wx => ∃ kk : Nat, kk ≤ 255 ∧ v11 = .int .u8 (kk : Int) ∧ wx = wr)
        case first =>
          by_cases hC : 0 < nC
          · obtain ⟨IX, hIX, hIX2⟩ : ∃ IX : Nat, (z : Int) % (nC : Int) = (IX : Int) ∧ IX < nC := ⟨z % nC, (Int.natCast_emod z nC).symm, Nat.mod_lt _ hC⟩
            obtain ⟨g, f, y, rfl, hy, hg, hcy⟩ := H.out.2.1.cell IX hIX2
            have hcy2 : wr.cell? ⟨g, f + IX, none⟩ = some (.int .u8 (y : Int)) := by
              obtain ⟨F, D, J, s, c, R, A, vS, vR, nS, xS, nR, xR, r⟩ := HRz.out
              exact (r.own.kept.cell hg).trans hcy
            clear hcy
            go_wp2_with fail
            go_meet
            exact ⟨y, hy, rfl, rfl⟩
          · go_wp2_with fail
            go_meet
            exact ⟨11, by omega, rfl, rfl⟩
        case rest =>
          obtain ⟨kk, hkk, rfl, rfl⟩ := hcut
          obtain ⟨m4, hm4, hm42⟩ : ∃ m4 : Nat, min (nG : Int) ((z : Int) % 4) = (m4 : Int) ∧ m4 ≤ nG := ⟨min nG (z % 4), by omega, by omega⟩
          have hcap : nG ≤ cG := H.out.2.2.le
          have hcl : ∀ j u, (Y z).cells[j]? = some u → ∃ b off, aL = some ⟨b, off, none⟩ ∧ wc.cell? ⟨b, off + z * 7 + j, none⟩ = some u := fun j u hj => by
            obtain ⟨b, off, e, hb, hc⟩ := H.out.1.cell (by omega)
            obtain ⟨F, D, J, s, c, R, A, vS, vR, nS, xS, nR, xR, r⟩ := HRz.out
            exact ⟨b, off, e, (r.own.kept.cell hb).trans (hc z hlt j u hj)⟩
          obtain ⟨b, off, rfl, y0⟩ := hcl 0 _ rfl
          obtain ⟨_, _, e1, y1⟩ := hcl 1 _ rfl
          cases e1
          obtain ⟨_, _, e2, y2⟩ := hcl 2 _ rfl
          cases e2
          obtain ⟨_, _, e3, y3⟩ := hcl 3 _ rfl
          cases e3
          obtain ⟨_, _, e4, y4⟩ := hcl 4 _ rfl
          cases e4
          obtain ⟨_, _, e5, y5⟩ := hcl 5 _ rfl
          cases e5
          obtain ⟨_, _, e6, y6⟩ := hcl 6 _ rfl
          cases e6
          have z0 : wc.cell? ⟨b, off + z * 7, none⟩ = some (.int .u8 ((Y z).d : Int)) := y0
          have z1 : wc.cell? ⟨b, off + z * 7 + 1, none⟩ = some (.string (Y z).s) := y1
          have z2 : wc.cell? ⟨b, off + z * 7 + 2, none⟩ = some (.slice (Y z).a (Y z).m (Y z).cap) := y2
          have z3 : wc.cell? ⟨b, off + z * 7 + 3, none⟩ = some (.int .i64 (Y z).k) := y3
          have z4 : wc.cell? ⟨b, off + z * 7 + 4, none⟩ = some (.int .u64 ((Y z).c.keep : Int)) := y4
          have z5 : wc.cell? ⟨b, off + z * 7 + 5, none⟩ = some (.int .i64 (Y z).c.torn) := y5
          have z6 : wc.cell? ⟨b, off + z * 7 + 6, none⟩ = some (.int .i64 (Y z).c.bytes) := y6
          clear hcl y0 y1 y2 y3 y4 y5 y6
          have hdo : Calls Try.prog 10 #[.pointer (some ⟨B, 0, none⟩), .agg #[.int .u8 ((Y z).d : Int), .string (Y z).s, .slice (Y z).a (Y z).m (Y z).cap, .int .i64 (Y z).k, .int .u64 ((Y z).c.keep : Int), .int .i64 (Y z).c.torn, .int .i64 (Y z).c.bytes], .int .u8 (kk : Int), .slice aG m4 cG] wc fun e w' => e = .returned (.bool true) ∧ IsRan u1 B area (1 + 5 * (z : Int) + 5) (1 + 6 * (z : Int) + 6) (41 * (z : Int) + 41) w' := by
            obtain ⟨F, D, J, s, c, R, A, vS, vR, nS, xS, nR, xR, r⟩ := HRz.out
            have ho := H.out.1.ok z hlt
            exact does_c r ⟨hA1, by omega⟩ (by omega) (by omega) (by omega) _ ho.d _ ho.s (Sees.base ho.row ho.nil) ((HQ.out (by trivial)).2 z hlt) ho.le _ _ _ _ ho.c kk hkk aG m4 cG (fun i hi => H.out.2.2.cell i (by omega))
          have HDO := Lib.hid hdo
          clear hdo
          go_wp2_with (go_at_call 10; (with_reducible refine HDO.out.mono ?_); rintro e u3 ⟨rfl, k3'⟩; have k3 := Lib.hid k3'; clear k3')
          go_roundw
          case rel =>
            refine ⟨z + 1, by omega, by go_num, k3.out.more (by omega) (by omega) (by omega)⟩
          case measure => simp [intOf]; omega
      · obtain ⟨F, D, J, s, c, R, A, vS, vR, nS, xS, nR, xR, r⟩ := HRz.out
        obtain ⟨aoS, cpS, eS, _⟩ := id r.sees
        obtain ⟨aoR, cpR, eR, _⟩ := id r.seer
        subst eS eR
        have rd : Ran u1 B area (1 + 5 * (z : Int)) (1 + 6 * (z : Int)) (41 * (z : Int)) F D J s c R A (.slice aoS nS cpS) (.slice aoR nR cpR) nS xS nR xR wr.drew := ⟨r.own.drew, r.live, r.sees, r.seer, r.data, r.bnd⟩
        have hre := Lib.hid (rd.reopens ⟨hA1, by omega⟩ (by omega) (by omega))
        have ⟨⟨_, _, _, _, _, _, _⟩, _⟩ := runBlock r.own 0 rfl
        clear r rd
        go_upto_region 15 with fail
        go_region_with (first
          | (go_at_call 11; (with_reducible refine hre.out.mono ?_); rintro e u5 ⟨rfl, k5'⟩; have k5 := Lib.hid k5'; clear k5')
          | (go_at_call 8; (with_reducible refine (Jk.known_c _).mono ?_); rintro e u6 ⟨rfl, k6'⟩; have k6 := Lib.hid k6'; clear k6'))
        all_goals
          go_wp2_with fail
          go_ret
          exact ⟨rfl, k5.out.trans k6.out⟩
  · clear H HQ
    go_wp2_with (go_at_call 8; (with_reducible refine (Jk.known_c _).mono ?_); rintro e u10 ⟨rfl, k10⟩)
    go_ret
    exact ⟨rfl, k10⟩
end Go.Proofs.Ytjbcpfndpfeepaa.Jk
