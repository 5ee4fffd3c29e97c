/-
  JournalExamples: its walk.
-/
import Derived.Test.YtjbcpfndpfeepaaGreatJec
import Derived.Test.YtjbcpfndpfeepaaGreatGw
namespace Go.Proofs.YtjbcpfndpfeepaaGreat.Jk
open Go Go.RowKit Go.ChangeShapes Go.WideShapes Go.ChangeAt Go.Proofs.YtjbcpfndpfeepaaGreat.Mem Go.Proofs.YtjbcpfndpfeepaaGreat.Pk Go.Proofs.YtjbcpfndpfeepaaGreat.Fk Go.Proofs.YtjbcpfndpfeepaaGreat.Dz Go.Proofs.YtjbcpfndpfeepaaGreat.Fz Go.Proofs.YtjbcpfndpfeepaaGreat.Rc
open Go.Proofs.YtjbcpfndpfeepaaGreat.Hk (Hd saves loads o_save o_load hblock)

section
variable {P : Program} {md : Region.Mode} {ops : Array Oper} {Q : Exit → Act → World → Prop} {fuel : Nat} {listed : Array Bool} {a : Act} {w w' : World} {i : Nat} {o : Oper} {rs : List Nat}
theorem ready_run {v : Value} (ho : ops[i]? = some o) (hw : Region.wanted o (yielded ops a.tmps) = true) (hr : (execOp a.eval o).run P w = .ok (.value v) w') (h : wpAny P md ops Q fuel (listed.setIfInBounds i true) (a.put o.dst v) w') (hs : AllReady P md ops Q fuel listed a w rs) : AllReady P md ops Q fuel listed a w (i :: rs) :=
  AllReady.cons ho (fun K hK => by
    rw [if_pos hw]
    unfold Oper.wp
    rw [hr]
    exact hK _ _ h) hs
theorem ready_call {f : FuncId} {args : Array Value} (ho : ops[i]? = some o) (hw : Region.wanted o (yielded ops a.tmps) = true) (hr : (execOp a.eval o).run P w = .ok (.enter f args) w') (h : Calls P f args w' fun e w'' => ∃ v, e = .returned v ∧ wpAny P md ops Q fuel (listed.setIfInBounds i true) (a.put o.dst v) w'') (hs : AllReady P md ops Q fuel listed a w rs) : AllReady P md ops Q fuel listed a w (i :: rs) :=
  AllReady.cons ho (fun K hK => by
    rw [if_pos hw]
    unfold Oper.wp
    rw [hr, Oper.upon_enter]
    refine h.mono ?_
    rintro e w'' ⟨v, rfl, h'⟩
    exact hK _ _ h') hs
theorem run_ld {ρ : Operand → Value} {x : Operand} {ad : Addr} {s : ByteArray} (hop : o.op = .load 9 x) (hx : ρ x = .pointer (some ad)) (hc : w.cell? ad = some (.string s)) : (execOp ρ o).run Tryz.prog w = .ok (.value (.string s)) w := by
  unfold execOp
  rw [hop]
  simp [go_sem, hx, hc]
end
set_option maxRecDepth 100000 in
set_option maxHeartbeats 8000000 in
theorem examples_core (w : World) : Calls Tryz.prog 4 #[] w fun e w' => e = .returned (.bool true) ∧ Kept w w' := by
  obtain ⟨s1, s2, s3, s4, s5, o1, l1, a1, l2, a2, l3, a3, l4, a4, l5⟩ := ex_chain
  have hnew : Calls Tryz.prog 7 #[.int .i64 10] w fun e w' => ∃ X F D G R, e = .returned (.pointer (some ⟨X, 0, none⟩)) ∧ Mem.Own w (bxA X F D G R :: rk G R (fresh 10 .idle) :: dk F D (fresh 10 .idle) :: []) w' := bnew_c (Mem.Own.nil w) 10 (by decide) (by decide)
  have hm1 : ∀ W, Calls Tryz.prog 27 #[.int .u8 120, .int .i64 50] W fun e w' => e = .returned (.string dL) ∧ Kept W w' := fun W => manyn_c 120 50 (by decide) (by decide) W
  have hm2 : ∀ W, Calls Tryz.prog 27 #[.int .u8 120, .int .i64 4097] W fun e w' => e = .returned (.string (repB 120 4097)) ∧ Kept W w' := fun W => manyn_c 120 4097 (by decide) (by decide) W
  have zL : dL.size ≤ maxLen := by unfold dL; rw [repB_size]; decide
  have zX : (repB 120 4097).size ≤ maxLen := by rw [repB_size]; decide
  have zA : dA.size ≤ maxLen := by decide
  have zB : dB.size ≤ maxLen := by decide
  have zC : dC.size ≤ maxLen := by decide
  have zD : dD.size ≤ maxLen := by decide
  have zE : dE.size ≤ maxLen := by decide
  have j1 := l1.jok (m := 1) (by decide) (small11 1 (by decide)) s1 rfl
  have j2 := l2.jok (m := 1) (by decide) ⟨by decide, by decide, by decide⟩ s2 rfl
  have j3 := l3.jok (m := 2) (by decide) ⟨by decide, by decide, by decide⟩ s3 rfl
  have j3' := l3.jok (m := 1) (by decide) ⟨by decide, by decide, by decide⟩ s3 rfl
  have j4 := l4.jok (m := 1) (by decide) ⟨by decide, by decide, by decide⟩ s4 rfl
  obtain ⟨s6, o2, l6⟩ := l5.lain.open1 (by decide) ⟨by decide, by decide⟩
  have l6 : Live 4 s6 (cE 0) R3 := l6
  have o2 : Opens s5 4 cB R3 2 s6 := o2
  have hx2 : ∀ i, i < 2 → (xST i).size ≤ maxLen := fun i hi => by
    rcases (by omega : i = 0 ∨ i = 1) with rfl | rfl <;> decide
  have p1 := Lib.hid (fun (X F D G R : Nat) (Y : As) (A : List As) (W : World) (h : Mem.Own w (bxA X F D G R :: Y :: dk F D (fresh 10 .idle) :: A) W) => x_open (c' := h11) (n := 0) o1 rfl rfl h)
  have pa := Lib.hid (fun (X F D G R J : Nat) (A : List As) (W : World) (h : Mem.Own w (exL X F D G R J (jw 4 h11 []) s1 A) W) => And.intro (x_boot (N := 1) rfl h) (And.intro (x_lsn (N := 0) rfl h) (And.intro (x_room (N := 4) rfl (by decide) (by decide) h) (x_app a1 j1 zA h))))
  have pb := Lib.hid (fun (X F D G R J : Nat) (A : List As) (W : World) (h : Mem.Own w (exL X F D G R J (jw 4 h11 R1) s2 A) W) => x_app a2 j2 zL h)
  have pc := Lib.hid (fun (X F D G R J : Nat) (A : List As) (W : World) (h : Mem.Own w (exL X F D G R J (jw 4 h11 R2) s3 A) W) => And.intro (x_lsn (N := 2) (by decide) h) (And.intro (x_room (N := 1) (by decide) (by decide) (by decide) h) (And.intro (x_app (ex_full s3) j3' zL h) (x_app (ex_long s3) j3' zX h))))
  have pd := Lib.hid (fun (X F D G R J : Nat) (A : List As) (W : World) (h : Mem.Own w (exL X F D G R J (jw 4 h11 R2) s3 A) W) => x_com (cap := 2) a3 (by decide) j3 hx2 (built2 W dS dT) (h.later ((Kept.refl W).alloc (.cells #[.string dS, .string dT] 9))))
  have pe := Lib.hid (fun (X F D G R J : Nat) (A : List As) (W : World) (h : Mem.Own w (exL X F D G R J (jw 4 cB RC) s4 A) W) => And.intro (x_lsn (N := 4) (by decide) h) (And.intro (x_room (N := 2) (by decide) (by decide) (by decide) h) (x_app a4 j4 zB h)))
  have pf := Lib.hid (fun (X F D G R J : Nat) (A : List As) (W : World) (h : Mem.Own w (exL X F D G R J (jw 4 cB R3) s5 A) W) => x_open (c' := cE 0) (n := 1) o2 rfl (by decide) h)
  have pg := Lib.hid (fun (X F D G R J : Nat) (A : List As) (W : World) (h : Mem.Own w (exL X F D G R J (jw 4 (cE 0) R3) s6 A) W) => And.intro (x_boot (N := 2) (by decide) h) (x_lsn (N := 5) (by decide) h))
  have e1 : eqS 2 (xsF R3) 2 (fun i => if i = 0 then dS else dT) = true := by decide
  have e2 : eqS 1 (fun i => xsF R3 (2 + i)) 1 (fun _ => dB) = true := by decide
  have ph := Lib.hid (fun (X F D G R J : Nat) (aR aS : Option Addr) (n1 n2 : Nat) (A : List As) (W : World) (h : Mem.Own w (exL X F D G R J (jw 4 (cE 0) R3) s6 (secA (.slice aR 1 n1) 1 (fun i => xsF R3 (2 + i)) :: secA (.slice aS 2 n2) 2 (xsF R3) :: A)) W) =>
    And.intro (show Calls Tryz.prog 14 #[.slice aS 2 n2, .slice (some ⟨W.heap.size, 0, none⟩) 2 2] (W.alloc (.cells #[.string dS, .string dT] 9)) fun e w' => e = .returned (.bool true) ∧ Mem.Own w (exL X F D G R J (jw 4 (cE 0) R3) s6 (secA (.slice aR 1 n1) 1 (fun i => xsF R3 (2 + i)) :: secA (.slice aS 2 n2) 2 (xsF R3) :: A)) w' from by
      have k := (Kept.refl W).alloc (.cells #[.string dS, .string dT] 9)
      have q := equalsb_c aS (some ⟨W.heap.size, 0, none⟩) 2 2 n2 2 _ _ (by decide) (by decide) _ ((x_rows h).2.kept k) (built2 W dS dT)
      rw [e1] at q
      exact q.mono fun _ _ ⟨he, hk⟩ => ⟨he, (h.later k).later hk⟩)
    (show Calls Tryz.prog 14 #[.slice aR 1 n1, .slice (some ⟨W.heap.size, 0, none⟩) 1 1] (W.alloc (.cells #[.string dB] 9)) fun e w' => e = .returned (.bool true) ∧ Mem.Own w (exL X F D G R J (jw 4 (cE 0) R3) s6 (secA (.slice aR 1 n1) 1 (fun i => xsF R3 (2 + i)) :: secA (.slice aS 2 n2) 2 (xsF R3) :: A)) w' from by
      have k := (Kept.refl W).alloc (.cells #[.string dB] 9)
      have q := equalsb_c aR (some ⟨W.heap.size, 0, none⟩) 1 1 n1 1 _ _ (by decide) (by decide) _ ((x_rows h).1.kept k) (built1 W dB)
      rw [e2] at q
      exact q.mono fun _ _ ⟨he, hk⟩ => ⟨he, (h.later k).later hk⟩))
  have HM := Lib.hid (And.intro hnew (And.intro hm1 hm2))
  have HL := Lib.hid l6
  clear hnew hm1 hm2 zL zX zA zB j1 j2 j3 j3' j4 o1 l1 a1 l2 a2 l3 a3 l4 a4 l5 o2 l6 hx2 e1 e2
  have HZ := Lib.hid (And.intro zC (And.intro zD zE))
  clear zC zD zE
  go_enter Tryz.func4, Tryz.ntmps4
  go_upto_region 15 with (first
    | (go_at_call 7; (with_reducible refine HM.out.1.mono ?_); rintro e u1 ⟨X, F, D, G, R, rfl, k1'⟩; have f1 := (x_cells k1').2; have k1 := Lib.hid k1'; clear k1')
    | (go_at_call 23; first
        | ((with_reducible refine (pf.out _ _ _ _ _ _ _ _ k17.out).mono ?_); rintro e u18 ⟨J2, aS2, dS2, aR2, dR2, rfl, k18'⟩; have k18 := Lib.hid k18'; clear k18')
        | ((with_reducible refine (p1.out _ _ _ _ _ _ _ _ k1.out).mono ?_); rintro e u2 ⟨J1, aS1, dS1, aR1, dR1, rfl, k2'⟩; have k2 := Lib.hid k2'; clear k2'))
    | (go_at_call 24; first
        | ((with_reducible refine (pg.out _ _ _ _ _ _ _ _ k20.out).1.mono ?_); rintro e u21 ⟨rfl, k21'⟩; have k21 := Lib.hid k21'; clear k21')
        | ((with_reducible refine (pa.out _ _ _ _ _ _ _ _ k2.out).1.mono ?_); rintro e u3 ⟨rfl, k3'⟩; have k3 := Lib.hid k3'; clear k3'))
    | (go_at_call 25; first
        | ((with_reducible refine (pg.out _ _ _ _ _ _ _ _ k21.out).2.mono ?_); rintro e u22 ⟨rfl, k22'⟩; have k22 := Lib.hid k22'; clear k22')
        | ((with_reducible refine (pe.out _ _ _ _ _ _ _ _ k14.out).1.mono ?_); rintro e u15 ⟨rfl, k15'⟩; have k15 := Lib.hid k15'; clear k15')
        | ((with_reducible refine (pc.out _ _ _ _ _ _ _ _ k8.out).1.mono ?_); rintro e u9 ⟨rfl, k9'⟩; have k9 := Lib.hid k9'; clear k9')
        | ((with_reducible refine (pa.out _ _ _ _ _ _ _ _ k3.out).2.1.mono ?_); rintro e u4 ⟨rfl, k4'⟩; have k4 := Lib.hid k4'; clear k4'))
    | (go_at_call 26; first
        | ((with_reducible refine (pe.out _ _ _ _ _ _ _ _ k15.out).2.1.mono ?_); rintro e u16 ⟨rfl, k16'⟩; have k16 := Lib.hid k16'; clear k16')
        | ((with_reducible refine (pc.out _ _ _ _ _ _ _ _ k9.out).2.1.mono ?_); rintro e u10 ⟨rfl, k10'⟩; have k10 := Lib.hid k10'; clear k10')
        | ((with_reducible refine (pa.out _ _ _ _ _ _ _ _ k4.out).2.2.1.mono ?_); rintro e u5 ⟨rfl, k5'⟩; have k5 := Lib.hid k5'; clear k5'))
    | (go_at_call 27; first
        | ((with_reducible refine (HM.out.2.1 u5).mono ?_); rintro e u6 ⟨rfl, k6'⟩; have k6 := Lib.hid (k5.out.later k6'); clear k6')
        | ((with_reducible refine (HM.out.2.2 u11).mono ?_); rintro e u12 ⟨rfl, k12'⟩; have k12 := Lib.hid (k11.out.later k12'); clear k12'))
    | (go_at_call 9; first
        | ((with_reducible refine (pe.out _ _ _ _ _ _ _ _ k16.out).2.2.mono ?_); rintro e u17 ⟨rfl, k17'⟩; have f2 := (x_cells k17').2; have k17 := Lib.hid k17'; clear k17')
        | ((with_reducible refine (pc.out _ _ _ _ _ _ _ _ k12.out).2.2.2.mono ?_); rintro e u13 ⟨rfl, k13'⟩; have k13 := Lib.hid k13'; clear k13')
        | ((with_reducible refine (pc.out _ _ _ _ _ _ _ _ k10.out).2.2.1.mono ?_); rintro e u11 ⟨rfl, k11'⟩; have k11 := Lib.hid k11'; clear k11')
        | ((with_reducible refine (pb.out _ _ _ _ _ _ _ _ k7.out).mono ?_); rintro e u8 ⟨rfl, k8'⟩; have k8 := Lib.hid k8'; clear k8')
        | ((with_reducible refine (pa.out _ _ _ _ _ _ _ _ k6.out).2.2.2.mono ?_); rintro e u7 ⟨rfl, k7'⟩; have k7 := Lib.hid k7'; clear k7'))
    | (go_at_call 12; (with_reducible refine (pd.out _ _ _ _ _ _ _ _ k13.out).mono ?_); rintro e u14 ⟨rfl, k14'⟩; have k14 := Lib.hid k14'; clear k14')
    | (go_at_call 14; first
        | ((with_reducible refine (ph.out _ _ _ _ _ _ _ _ _ _ _ _ k19.out).2.mono ?_); rintro e u20 ⟨rfl, k20'⟩; have k20 := Lib.hid k20'; clear k20')
        | ((with_reducible refine (ph.out _ _ _ _ _ _ _ _ _ _ _ _ k18.out).1.mono ?_); rintro e u19 ⟨rfl, k19'⟩; have k19 := Lib.hid k19'; clear k19')))
  clear f1 f2
  go_wp2_with fail
  go_loopw [0, 2, 3, 4, 5, 7] (fun _ v2 _ _ _ v7 wr => ∃ (z : Int) (k J : Nat) (s : Ds) (A : List As), (z = 0 ∧ k = 0 ∨ z = 1 ∧ k = 1 ∨ z = 2 ∧ k = 2) ∧ v7 = .int .i64 z ∧ v2 = .pointer (some ⟨J, 0, none⟩) ∧ Live 4 s (cE k) (RE k) ∧ Mem.Own w (exL X F D G R J (jw 4 (cE k) (RE k)) s A) wr) (fun _ _ _ _ _ v7 _ => 2 - (intOf v7).toNat)
  case atStart => exact ⟨0, 0, J2, s6, _, .inl ⟨rfl, rfl⟩, rfl, rfl, HL.out, k22.out⟩
  case round =>
    clear k1 k2 k3 k4 k5 k6 k7 k8 k9 k10 k11 k12 k13 k14 k15 k16 k17 k18 k19 k20 k21 k22 p1 pa pb pc pd pe pf pg ph HL
    obtain ⟨z, k, J, s, A, hzk, rfl, rfl, l, ho⟩ := hrel
    by_cases hlt : k < 2
    · have hRE : RE k = R3 := if_pos hlt
      rw [hRE] at l ho
      obtain ⟨b0, s', e, hp, _, o, l'⟩ := ex_round k hlt l
      have hk5 := lsn_E k hlt
      obtain ⟨nn, hnn⟩ : ∃ nn, nn = 1 + k := ⟨_, rfl⟩
      obtain ⟨nb, hnb⟩ : ∃ nb, nb = 3 + (k : Int) := ⟨_, rfl⟩
      have q1 := Lib.hid (fun (W : World) (h : Mem.Own w (exL X F D G R J (jw 4 (cE k) R3) s A) W) => x_arm l.calm.fu h)
      have q2 := Lib.hid (fun (W : World) (h : Mem.Own w (exL X F D G R J (jw 4 (cE k) R3) (armed s 1) A) W) => x_app e (l.jok (by decide) (small_E k hlt 1 (by decide)) (armed s 1) rfl) HZ.out.1 h)
      have q3 := Lib.hid (fun (W : World) (h : Mem.Own w (exL X F D G R J ((jw 4 (cE k) R3).told 10) b0 A) W) => And.intro (x_app (dead_app _ _ dE) (told_jok hlt l hp (by decide)) HZ.out.2.2 h) (And.intro (x_com (cap := 0) (dead_com _ _ xE 0) (by decide) (told_jok hlt l hp (by decide)) (fun i hi => absurd hi (by omega)) (sao_none W xE) h) (And.intro (x_lsn hk5 h) (x_crash (c := ⟨k, -1, 0⟩) (by rcases (by omega : k = 0 ∨ k = 1) with rfl | rfl <;> exact ⟨by decide, by decide, by decide, by decide, by decide⟩) h))))
      have q4 := Lib.hid (fun (W : World) (h : Mem.Own w (exL X F D G R J ((jw 4 (cE k) R3).told 10) (b0.settled (Ch.left ⟨k, -1, 0⟩)) A) W) => x_reset h)
      have q5 := Lib.hid (fun (W : World) (h : Mem.Own w (exL X F D G R J ((jw 4 (cE k) R3).told 10) (crashed b0 (Ch.left ⟨k, -1, 0⟩)) A) W) => And.intro (x_app (dead_app _ _ dD) (told_jok hlt l (Nat.zero_le _) (by decide)) HZ.out.2.1 h) (x_open (c' := cE (k + 1)) (n := nn) o rfl (by rw [hnn]; exact len_E k hlt) h))
      have q6 := Lib.hid (fun (J' : Nat) (A' : List As) (W : World) (h : Mem.Own w (exL X F D G R J' (jw 4 (cE (k + 1)) (RE (k + 1))) s' A') W) => x_boot (N := nb) (by rw [hnb]; exact boot_E k hlt) h)
      have hstr := str_E k hlt
      have HX := Lib.hid (And.intro l' hstr)
      have HN := Lib.hid (And.intro hnn hnb)
      clear hnn hnb
      have k1 := Lib.hid ho
      clear l ho e hp o l' hk5 hstr hRE
      rcases hzk with ⟨rfl, rfl⟩ | ⟨rfl, rfl⟩ | ⟨rfl, rfl⟩
      rotate_left 2
      · exact absurd hlt (by decide)
      all_goals
        have f1 := (x_cells k1.out).1
        go_upto_region 25 with (first
          | (go_at_call 28; (with_reducible refine (q1.out _ k1.out).mono ?_); rintro e u2 ⟨rfl, k2'⟩; have k2 := Lib.hid k2'; clear k2')
          | (go_at_call 9; first
              | ((with_reducible refine (q5.out _ k8.out).1.mono ?_); rintro e u9 ⟨rfl, k9'⟩; have f4 := (x_cells k9').2; have k9 := Lib.hid k9'; clear k9')
              | ((with_reducible refine (q3.out _ k3.out).1.mono ?_); rintro e u4 ⟨rfl, k4'⟩; have k4 := Lib.hid k4'; clear k4')
              | ((with_reducible refine (q2.out _ k2.out).mono ?_); rintro e u3 ⟨rfl, k3'⟩; have k3 := Lib.hid k3'; clear k3'))
          | (go_at_call 12; (with_reducible refine (q3.out _ k4.out).2.1.mono ?_); rintro e u5 ⟨rfl, k5'⟩; have k5 := Lib.hid k5'; clear k5')
          | (go_at_call 25; (with_reducible refine (q3.out _ k5.out).2.2.1.mono ?_); rintro e u6 ⟨rfl, k6'⟩; have f2 := (x_cells k6').2; have k6 := Lib.hid k6'; clear k6')
          | (go_at_call 29; (refine (q3.out _ k6.out).2.2.2.mono ?_); rintro e u7 ⟨rfl, k7'⟩; have f3 := (x_cells k7').1; have k7 := Lib.hid k7'; clear k7')
          | (go_at_call 30; (with_reducible refine (q4.out _ k7.out).mono ?_); rintro e u8 ⟨rfl, k8'⟩; have k8 := Lib.hid k8'; clear k8')
          | (go_at_call 23; (with_reducible refine (q5.out _ k9.out).2.mono ?_); rintro e u10 ⟨J3, aS3, dS3, aR3, dR3, rfl, k10'⟩; have k10 := Lib.hid k10'; clear k10'))
        clear f1 f2 f3 f4 k1 k2 k3 k4 k5 k6 k7 k8 k9
      · obtain rfl : nn = 1 := HN.out.1
        obtain rfl : nb = 3 := HN.out.2
        have hal := (Kept.refl u10).alloc (.cells #[.string dB, .string dC] 9)
        obtain ⟨g, o, rfl, c0⟩ := (x_rows k10.out).1 0 (by decide)
        obtain ⟨g', o', e', c1⟩ := ((x_rows k10.out).1.kept hal) 0 (by decide)
        cases e'
        have c2 : u10.cell? ⟨g, o, none⟩ = some (.string dB) := c0
        have c3 : (u10.alloc (.cells #[.string dB, .string dC] 9)).cell? ⟨g, o, none⟩ = some (.string dB) := c1
        obtain ⟨g2, o2, e2, c4⟩ := built2 u10 dB dC 0 (by decide)
        cases e2
        have c5 : (u10.alloc (.cells #[.string dB, .string dC] 9)).cell? ⟨u10.heap.size, 0, none⟩ = some (.string dB) := c4
        have c5d : (u10.alloc (.cells #[.string dB, .string dC] 9)).drew.cell? ⟨u10.heap.size, 0, none⟩ = some (.string dB) := c5
        have kd := Lib.hid (k10.out.later hal).drew
        have c2d : u10.drew.cell? ⟨g, o, none⟩ = some (.string dB) := c2
        have c3d : (u10.alloc (.cells #[.string dB, .string dC] 9)).drew.cell? ⟨g, o, none⟩ = some (.string dB) := c3
        clear hal c0 c1 c4
        go_cut [241] from 206 to 240 (fun v241 wx => v241 = .bool false ∧ Mem.Own w (exL X F D G R J3 (jw 4 (cE (0 + 1)) (RE (0 + 1))) s' (secA (.slice (some ⟨g, o, none⟩) 1 dR3) 1 (fun i => xsF (RE (0 + 1)) (2 + i)) :: secA (.slice aS3 2 dS3) 2 (xsF (RE (0 + 1))) :: jA J D ((jw 4 (cE 0) R3).told 10) :: A)) wx)
        case first =>
          refine wp_region_any (by kernel_rfl) ?_
          change wpAny _ _ _ _ _ _ _ (World.drew _)
          refine wpAny_take (i := 0) (v := .pointer (some ⟨J3, 0, none⟩)) rfl (by kernel_rfl) (by kernel_rfl) (by kernel_rfl) (fun _ _ _ h => h) (Or.inl ⟨by kernel_rfl, fun _ => by kernel_rfl⟩) ?_
          refine wpAny_take (i := 1) (v := .bool false) rfl (by kernel_rfl) (by kernel_rfl) (by kernel_rfl) (fun _ _ _ h => h) (Or.inl ⟨by kernel_rfl, fun _ => by kernel_rfl⟩) ?_
          refine wpAny_take (i := 2) (v := .bool false) rfl (by kernel_rfl) (by kernel_rfl) (by kernel_rfl) (fun _ _ _ h => h) (Or.inl ⟨by kernel_rfl, fun _ => by kernel_rfl⟩) ?_
          refine wpAny_take (i := 3) (v := .slice aS3 2 dS3) rfl (by kernel_rfl) (by kernel_rfl) (by kernel_rfl) (fun _ _ _ h => h) (Or.inl ⟨by kernel_rfl, fun _ => by kernel_rfl⟩) ?_
          refine wpAny_take (i := 4) (v := .int .i64 2) rfl (by kernel_rfl) (by kernel_rfl) (by kernel_rfl) (fun _ _ _ h => h) (Or.inl ⟨by kernel_rfl, fun _ => by kernel_rfl⟩) ?_
          refine wpAny_take (i := 5) (v := .bool false) rfl (by kernel_rfl) (by kernel_rfl) (by kernel_rfl) (fun _ _ _ h => h) (Or.inl ⟨by kernel_rfl, fun _ => by kernel_rfl⟩) ?_
          refine wpAny_take (i := 6) (v := .bool false) rfl (by kernel_rfl) (by kernel_rfl) (by kernel_rfl) (fun _ _ _ h => h) (Or.inl ⟨by kernel_rfl, fun _ => by kernel_rfl⟩) ?_
          refine wpAny_take (i := 7) (v := .bool false) rfl (by kernel_rfl) (by kernel_rfl) (by kernel_rfl) (fun _ _ _ h => h) (Or.inl ⟨by kernel_rfl, fun _ => by kernel_rfl⟩) ?_
          refine wpAny_take (i := 8) (v := .slice (some ⟨g, o, none⟩) 1 dR3) rfl (by kernel_rfl) (by kernel_rfl) (by kernel_rfl) (fun _ _ _ h => h) (Or.inl ⟨by kernel_rfl, fun _ => by kernel_rfl⟩) ?_
          refine wpAny_take (i := 9) (v := .int .i64 1) rfl (by kernel_rfl) (by kernel_rfl) (by kernel_rfl) (fun _ _ _ h => h) (Or.inl ⟨by kernel_rfl, fun _ => by kernel_rfl⟩) ?_
          refine wpAny_take (i := 10) (v := .int .i64 0) rfl (by kernel_rfl) (by kernel_rfl) (by kernel_rfl) (fun _ _ _ h => h) (Or.inl ⟨by kernel_rfl, fun _ => by kernel_rfl⟩) ?_
          refine wpAny_take (i := 11) (v := .int .i64 1) rfl (by kernel_rfl) (by kernel_rfl) (by kernel_rfl) (fun _ _ _ h => h) (Or.inl ⟨by kernel_rfl, fun _ => by kernel_rfl⟩) ?_
          refine wpAny_take (i := 12) (v := .bool false) rfl (by kernel_rfl) (by kernel_rfl) (by kernel_rfl) (fun _ _ _ h => h) (Or.inl ⟨by kernel_rfl, fun _ => by kernel_rfl⟩) ?_
          refine wpAny_take (i := 13) (v := .bool false) rfl (by kernel_rfl) (by kernel_rfl) (by kernel_rfl) (fun _ _ _ h => h) (Or.inl ⟨by kernel_rfl, fun _ => by kernel_rfl⟩) ?_
          refine wpAny_take (i := 14) (v := .bool false) rfl (by kernel_rfl) (by kernel_rfl) (by kernel_rfl) (fun _ _ _ h => h) (Or.inl ⟨by kernel_rfl, fun _ => by kernel_rfl⟩) ?_
          refine wpAny_take (i := 15) (v := .slice (some ⟨g, o, none⟩) 1 dR3) rfl (by kernel_rfl) (by kernel_rfl) (by kernel_rfl) (fun _ _ _ h => h) (Or.inl ⟨by kernel_rfl, fun _ => by kernel_rfl⟩) ?_
          refine wpAny_take (i := 16) (v := .int .i64 0) rfl (by kernel_rfl) (by kernel_rfl) (by kernel_rfl) (fun _ _ _ h => h) (Or.inl ⟨by kernel_rfl, fun _ => by kernel_rfl⟩) ?_
          refine wpAny_take (i := 17) (v := .pointer (some ⟨g, o, none⟩)) rfl (by kernel_rfl) (by kernel_rfl) (by kernel_rfl) (fun _ _ _ h => h) (Or.inl ⟨by kernel_rfl, fun _ => by kernel_rfl⟩) ?_
          refine wpAny_take (i := 20) (v := .int .i64 0) rfl (by kernel_rfl) (by kernel_rfl) (by kernel_rfl) (fun _ _ _ h => h) (Or.inl ⟨by kernel_rfl, fun _ => by kernel_rfl⟩) ?_
          refine wpAny_ready (rs := [18, 19]) (by kernel_rfl) (by simp) ?_
          refine ready_run (i := 18) rfl (by kernel_rfl) (run_ld rfl (by kernel_rfl) c2d) ?_ ?_
          · refine wpAny_ready (rs := [19]) (by kernel_rfl) (by simp) ?_
            refine ready_run (i := 19) (v := .slice (some ⟨u10.heap.size, 0, none⟩) 2 2) (w' := (u10.alloc (.cells #[.string dB, .string dC] 9)).drew) rfl (by kernel_rfl) (by kernel_rfl) ?_ ?_
            rotate_left
            · exact AllReady.nil
            refine wpAny_take (i := 21) (v := .pointer (some ⟨u10.heap.size, 0, none⟩)) rfl (by kernel_rfl) (by kernel_rfl) (by kernel_rfl) (fun _ _ _ h => h) (Or.inl ⟨by kernel_rfl, fun _ => by kernel_rfl⟩) ?_
            refine wpAny_ready (rs := [22]) (by kernel_rfl) (by simp) ?_
            refine ready_run (i := 22) rfl (by kernel_rfl) (run_ld rfl (by kernel_rfl) c5d) ?_ ?_
            rotate_left
            · exact AllReady.nil
            refine wpAny_take (i := 23) (v := .bool false) rfl (by kernel_rfl) (by kernel_rfl) (by kernel_rfl) (fun _ _ _ h => h) (Or.inl ⟨by kernel_rfl, fun _ => by kernel_rfl⟩) ?_
            refine wpAny_take (i := 24) (v := .bool false) rfl (by kernel_rfl) (by kernel_rfl) (by kernel_rfl) (fun _ _ _ h => h) (Or.inl ⟨by kernel_rfl, fun _ => by kernel_rfl⟩) ?_
            refine wpAny_take (i := 25) (v := .bool false) rfl (by kernel_rfl) (by kernel_rfl) (by kernel_rfl) (fun _ _ _ h => h) (Or.inl ⟨by kernel_rfl, fun _ => by kernel_rfl⟩) ?_
            refine wpAny_take (i := 26) (v := .int .i64 0) rfl (by kernel_rfl) (by kernel_rfl) (by kernel_rfl) (fun _ _ _ h => h) (Or.inl ⟨by kernel_rfl, fun _ => by kernel_rfl⟩) ?_
            refine wpAny_take (i := 27) (v := .bool false) rfl (by kernel_rfl) (by kernel_rfl) (by kernel_rfl) (fun _ _ _ h => h) (Or.inl ⟨by kernel_rfl, fun _ => by kernel_rfl⟩) ?_
            refine wpAny_take (i := 28) (v := .bool false) rfl (by kernel_rfl) (by kernel_rfl) (by kernel_rfl) (fun _ _ _ h => h) (Or.inl ⟨by kernel_rfl, fun _ => by kernel_rfl⟩) ?_
            refine wpAny_take (i := 29) (v := .bool false) rfl (by kernel_rfl) (by kernel_rfl) (by kernel_rfl) (fun _ _ _ h => h) (Or.inl ⟨by kernel_rfl, fun _ => by kernel_rfl⟩) ?_
            refine wpAny_take (i := 30) (v := .pointer (some ⟨J3, 0, none⟩)) rfl (by kernel_rfl) (by kernel_rfl) (by kernel_rfl) (fun _ _ _ h => h) (Or.inl ⟨by kernel_rfl, fun _ => by kernel_rfl⟩) ?_
            refine wpAny_take (i := 32) (v := .int .i64 0) rfl (by kernel_rfl) (by kernel_rfl) (by kernel_rfl) (fun _ _ _ h => h) (Or.inl ⟨by kernel_rfl, fun _ => by kernel_rfl⟩) ?_
            refine wpAny_take (i := 33) (v := .int .i64 3) rfl (by kernel_rfl) (by kernel_rfl) (by kernel_rfl) (fun _ _ _ h => h) (Or.inl ⟨by kernel_rfl, fun _ => by kernel_rfl⟩) ?_
            refine wpAny_ready (rs := [31]) (by kernel_rfl) (by simp) ?_
            refine ready_call (i := 31) rfl (by kernel_rfl) (by kernel_rfl) ((q6.out _ _ _ kd.out).mono ?_) AllReady.nil
            rintro e u11 ⟨rfl, k11'⟩
            refine ⟨_, rfl, ?_⟩
            have k11 := Lib.hid k11'
            clear k11'
            refine wpAny_take (i := 34) (v := .bool false) rfl (by kernel_rfl) (by kernel_rfl) (by kernel_rfl) (fun _ _ _ h => h) (Or.inl ⟨by kernel_rfl, fun _ => by kernel_rfl⟩) ?_
            refine wpAny_take (i := 35) (v := .bool false) rfl (by kernel_rfl) (by kernel_rfl) (by kernel_rfl) (fun _ _ _ h => h) (Or.inl ⟨by kernel_rfl, fun _ => by kernel_rfl⟩) ?_
            refine wpAny_done (by kernel_rfl) ?_ _
            go_wp2_with fail
            go_meet
            exact ⟨rfl, k11.out⟩
          refine ready_run (i := 19) (v := .slice (some ⟨u10.heap.size, 0, none⟩) 2 2) (w' := (u10.alloc (.cells #[.string dB, .string dC] 9)).drew) rfl (by kernel_rfl) (by kernel_rfl) ?_ ?_
          rotate_left
          · exact AllReady.nil
          refine wpAny_take (i := 21) (v := .pointer (some ⟨u10.heap.size, 0, none⟩)) rfl (by kernel_rfl) (by kernel_rfl) (by kernel_rfl) (fun _ _ _ h => h) (Or.inl ⟨by kernel_rfl, fun _ => by kernel_rfl⟩) ?_
          refine wpAny_ready (rs := [18, 22]) (by kernel_rfl) (by simp) ?_
          refine ready_run (i := 18) rfl (by kernel_rfl) (run_ld rfl (by kernel_rfl) c3d) ?_ ?_
          · refine wpAny_ready (rs := [22]) (by kernel_rfl) (by simp) ?_
            refine ready_run (i := 22) rfl (by kernel_rfl) (run_ld rfl (by kernel_rfl) c5d) ?_ ?_
            rotate_left
            · exact AllReady.nil
            refine wpAny_take (i := 23) (v := .bool false) rfl (by kernel_rfl) (by kernel_rfl) (by kernel_rfl) (fun _ _ _ h => h) (Or.inl ⟨by kernel_rfl, fun _ => by kernel_rfl⟩) ?_
            refine wpAny_take (i := 24) (v := .bool false) rfl (by kernel_rfl) (by kernel_rfl) (by kernel_rfl) (fun _ _ _ h => h) (Or.inl ⟨by kernel_rfl, fun _ => by kernel_rfl⟩) ?_
            refine wpAny_take (i := 25) (v := .bool false) rfl (by kernel_rfl) (by kernel_rfl) (by kernel_rfl) (fun _ _ _ h => h) (Or.inl ⟨by kernel_rfl, fun _ => by kernel_rfl⟩) ?_
            refine wpAny_take (i := 26) (v := .int .i64 0) rfl (by kernel_rfl) (by kernel_rfl) (by kernel_rfl) (fun _ _ _ h => h) (Or.inl ⟨by kernel_rfl, fun _ => by kernel_rfl⟩) ?_
            refine wpAny_take (i := 27) (v := .bool false) rfl (by kernel_rfl) (by kernel_rfl) (by kernel_rfl) (fun _ _ _ h => h) (Or.inl ⟨by kernel_rfl, fun _ => by kernel_rfl⟩) ?_
            refine wpAny_take (i := 28) (v := .bool false) rfl (by kernel_rfl) (by kernel_rfl) (by kernel_rfl) (fun _ _ _ h => h) (Or.inl ⟨by kernel_rfl, fun _ => by kernel_rfl⟩) ?_
            refine wpAny_take (i := 29) (v := .bool false) rfl (by kernel_rfl) (by kernel_rfl) (by kernel_rfl) (fun _ _ _ h => h) (Or.inl ⟨by kernel_rfl, fun _ => by kernel_rfl⟩) ?_
            refine wpAny_take (i := 30) (v := .pointer (some ⟨J3, 0, none⟩)) rfl (by kernel_rfl) (by kernel_rfl) (by kernel_rfl) (fun _ _ _ h => h) (Or.inl ⟨by kernel_rfl, fun _ => by kernel_rfl⟩) ?_
            refine wpAny_take (i := 32) (v := .int .i64 0) rfl (by kernel_rfl) (by kernel_rfl) (by kernel_rfl) (fun _ _ _ h => h) (Or.inl ⟨by kernel_rfl, fun _ => by kernel_rfl⟩) ?_
            refine wpAny_take (i := 33) (v := .int .i64 3) rfl (by kernel_rfl) (by kernel_rfl) (by kernel_rfl) (fun _ _ _ h => h) (Or.inl ⟨by kernel_rfl, fun _ => by kernel_rfl⟩) ?_
            refine wpAny_ready (rs := [31]) (by kernel_rfl) (by simp) ?_
            refine ready_call (i := 31) rfl (by kernel_rfl) (by kernel_rfl) ((q6.out _ _ _ kd.out).mono ?_) AllReady.nil
            rintro e u11 ⟨rfl, k11'⟩
            refine ⟨_, rfl, ?_⟩
            have k11 := Lib.hid k11'
            clear k11'
            refine wpAny_take (i := 34) (v := .bool false) rfl (by kernel_rfl) (by kernel_rfl) (by kernel_rfl) (fun _ _ _ h => h) (Or.inl ⟨by kernel_rfl, fun _ => by kernel_rfl⟩) ?_
            refine wpAny_take (i := 35) (v := .bool false) rfl (by kernel_rfl) (by kernel_rfl) (by kernel_rfl) (fun _ _ _ h => h) (Or.inl ⟨by kernel_rfl, fun _ => by kernel_rfl⟩) ?_
            refine wpAny_done (by kernel_rfl) ?_ _
            go_wp2_with fail
            go_meet
            exact ⟨rfl, k11.out⟩
          refine ready_run (i := 22) rfl (by kernel_rfl) (run_ld rfl (by kernel_rfl) c5d) ?_ ?_
          rotate_left
          · exact AllReady.nil
          refine wpAny_ready (rs := [18]) (by kernel_rfl) (by simp) ?_
          refine ready_run (i := 18) rfl (by kernel_rfl) (run_ld rfl (by kernel_rfl) c3d) ?_ ?_
          rotate_left
          · exact AllReady.nil
          refine wpAny_take (i := 23) (v := .bool false) rfl (by kernel_rfl) (by kernel_rfl) (by kernel_rfl) (fun _ _ _ h => h) (Or.inl ⟨by kernel_rfl, fun _ => by kernel_rfl⟩) ?_
          refine wpAny_take (i := 24) (v := .bool false) rfl (by kernel_rfl) (by kernel_rfl) (by kernel_rfl) (fun _ _ _ h => h) (Or.inl ⟨by kernel_rfl, fun _ => by kernel_rfl⟩) ?_
          refine wpAny_take (i := 25) (v := .bool false) rfl (by kernel_rfl) (by kernel_rfl) (by kernel_rfl) (fun _ _ _ h => h) (Or.inl ⟨by kernel_rfl, fun _ => by kernel_rfl⟩) ?_
          refine wpAny_take (i := 26) (v := .int .i64 0) rfl (by kernel_rfl) (by kernel_rfl) (by kernel_rfl) (fun _ _ _ h => h) (Or.inl ⟨by kernel_rfl, fun _ => by kernel_rfl⟩) ?_
          refine wpAny_take (i := 27) (v := .bool false) rfl (by kernel_rfl) (by kernel_rfl) (by kernel_rfl) (fun _ _ _ h => h) (Or.inl ⟨by kernel_rfl, fun _ => by kernel_rfl⟩) ?_
          refine wpAny_take (i := 28) (v := .bool false) rfl (by kernel_rfl) (by kernel_rfl) (by kernel_rfl) (fun _ _ _ h => h) (Or.inl ⟨by kernel_rfl, fun _ => by kernel_rfl⟩) ?_
          refine wpAny_take (i := 29) (v := .bool false) rfl (by kernel_rfl) (by kernel_rfl) (by kernel_rfl) (fun _ _ _ h => h) (Or.inl ⟨by kernel_rfl, fun _ => by kernel_rfl⟩) ?_
          refine wpAny_take (i := 30) (v := .pointer (some ⟨J3, 0, none⟩)) rfl (by kernel_rfl) (by kernel_rfl) (by kernel_rfl) (fun _ _ _ h => h) (Or.inl ⟨by kernel_rfl, fun _ => by kernel_rfl⟩) ?_
          refine wpAny_take (i := 32) (v := .int .i64 0) rfl (by kernel_rfl) (by kernel_rfl) (by kernel_rfl) (fun _ _ _ h => h) (Or.inl ⟨by kernel_rfl, fun _ => by kernel_rfl⟩) ?_
          refine wpAny_take (i := 33) (v := .int .i64 3) rfl (by kernel_rfl) (by kernel_rfl) (by kernel_rfl) (fun _ _ _ h => h) (Or.inl ⟨by kernel_rfl, fun _ => by kernel_rfl⟩) ?_
          refine wpAny_ready (rs := [31]) (by kernel_rfl) (by simp) ?_
          refine ready_call (i := 31) rfl (by kernel_rfl) (by kernel_rfl) ((q6.out _ _ _ kd.out).mono ?_) AllReady.nil
          rintro e u11 ⟨rfl, k11'⟩
          refine ⟨_, rfl, ?_⟩
          have k11 := Lib.hid k11'
          clear k11'
          refine wpAny_take (i := 34) (v := .bool false) rfl (by kernel_rfl) (by kernel_rfl) (by kernel_rfl) (fun _ _ _ h => h) (Or.inl ⟨by kernel_rfl, fun _ => by kernel_rfl⟩) ?_
          refine wpAny_take (i := 35) (v := .bool false) rfl (by kernel_rfl) (by kernel_rfl) (by kernel_rfl) (fun _ _ _ h => h) (Or.inl ⟨by kernel_rfl, fun _ => by kernel_rfl⟩) ?_
          refine wpAny_done (by kernel_rfl) ?_ _
          go_wp2_with fail
          go_meet
          exact ⟨rfl, k11.out⟩
        case rest =>
          obtain ⟨rfl, h12⟩ := hcut
          have k12 := Lib.hid h12
          clear h12 c2 c3 c5
          go_wp2_with fail
          go_roundw
          case rel => exact ⟨1, 1, J3, s', _, .inr (.inl ⟨rfl, rfl⟩), rfl, rfl, HX.out.1, k12.out⟩
          case measure => simp [intOf]
      · obtain rfl : nn = 2 := HN.out.1
        obtain rfl : nb = 4 := HN.out.2
        have hal := (Kept.refl u10).alloc (.cells #[.string dB, .string dC] 9)
        obtain ⟨g, o, rfl, c0⟩ := (x_rows k10.out).1 1 (by decide)
        obtain ⟨g', o', e', c1⟩ := ((x_rows k10.out).1.kept hal) 1 (by decide)
        cases e'
        have c2 : u10.cell? ⟨g, o + 1, none⟩ = some (.string dC) := c0
        have c3 : (u10.alloc (.cells #[.string dB, .string dC] 9)).cell? ⟨g, o + 1, none⟩ = some (.string dC) := c1
        obtain ⟨g2, o2, e2, c4⟩ := built2 u10 dB dC 1 (by decide)
        cases e2
        have c5 : (u10.alloc (.cells #[.string dB, .string dC] 9)).cell? ⟨u10.heap.size, 1, none⟩ = some (.string dC) := c4
        have c5d : (u10.alloc (.cells #[.string dB, .string dC] 9)).drew.cell? ⟨u10.heap.size, 1, none⟩ = some (.string dC) := c5
        have kd := Lib.hid (k10.out.later hal).drew
        have c2d : u10.drew.cell? ⟨g, o + 1, none⟩ = some (.string dC) := c2
        have c3d : (u10.alloc (.cells #[.string dB, .string dC] 9)).drew.cell? ⟨g, o + 1, none⟩ = some (.string dC) := c3
        clear hal c0 c1 c4
        go_cut [241] from 206 to 240 (fun v241 wx => v241 = .bool false ∧ Mem.Own w (exL X F D G R J3 (jw 4 (cE (1 + 1)) (RE (1 + 1))) s' (secA (.slice (some ⟨g, o, none⟩) 2 dR3) 2 (fun i => xsF (RE (1 + 1)) (2 + i)) :: secA (.slice aS3 2 dS3) 2 (xsF (RE (1 + 1))) :: jA J D ((jw 4 (cE 1) R3).told 10) :: A)) wx)
        case first =>
          refine wp_region_any (by kernel_rfl) ?_
          change wpAny _ _ _ _ _ _ _ (World.drew _)
          refine wpAny_take (i := 0) (v := .pointer (some ⟨J3, 0, none⟩)) rfl (by kernel_rfl) (by kernel_rfl) (by kernel_rfl) (fun _ _ _ h => h) (Or.inl ⟨by kernel_rfl, fun _ => by kernel_rfl⟩) ?_
          refine wpAny_take (i := 1) (v := .bool false) rfl (by kernel_rfl) (by kernel_rfl) (by kernel_rfl) (fun _ _ _ h => h) (Or.inl ⟨by kernel_rfl, fun _ => by kernel_rfl⟩) ?_
          refine wpAny_take (i := 2) (v := .bool false) rfl (by kernel_rfl) (by kernel_rfl) (by kernel_rfl) (fun _ _ _ h => h) (Or.inl ⟨by kernel_rfl, fun _ => by kernel_rfl⟩) ?_
          refine wpAny_take (i := 3) (v := .slice aS3 2 dS3) rfl (by kernel_rfl) (by kernel_rfl) (by kernel_rfl) (fun _ _ _ h => h) (Or.inl ⟨by kernel_rfl, fun _ => by kernel_rfl⟩) ?_
          refine wpAny_take (i := 4) (v := .int .i64 2) rfl (by kernel_rfl) (by kernel_rfl) (by kernel_rfl) (fun _ _ _ h => h) (Or.inl ⟨by kernel_rfl, fun _ => by kernel_rfl⟩) ?_
          refine wpAny_take (i := 5) (v := .bool false) rfl (by kernel_rfl) (by kernel_rfl) (by kernel_rfl) (fun _ _ _ h => h) (Or.inl ⟨by kernel_rfl, fun _ => by kernel_rfl⟩) ?_
          refine wpAny_take (i := 6) (v := .bool false) rfl (by kernel_rfl) (by kernel_rfl) (by kernel_rfl) (fun _ _ _ h => h) (Or.inl ⟨by kernel_rfl, fun _ => by kernel_rfl⟩) ?_
          refine wpAny_take (i := 7) (v := .bool false) rfl (by kernel_rfl) (by kernel_rfl) (by kernel_rfl) (fun _ _ _ h => h) (Or.inl ⟨by kernel_rfl, fun _ => by kernel_rfl⟩) ?_
          refine wpAny_take (i := 8) (v := .slice (some ⟨g, o, none⟩) 2 dR3) rfl (by kernel_rfl) (by kernel_rfl) (by kernel_rfl) (fun _ _ _ h => h) (Or.inl ⟨by kernel_rfl, fun _ => by kernel_rfl⟩) ?_
          refine wpAny_take (i := 9) (v := .int .i64 2) rfl (by kernel_rfl) (by kernel_rfl) (by kernel_rfl) (fun _ _ _ h => h) (Or.inl ⟨by kernel_rfl, fun _ => by kernel_rfl⟩) ?_
          refine wpAny_take (i := 10) (v := .int .i64 1) rfl (by kernel_rfl) (by kernel_rfl) (by kernel_rfl) (fun _ _ _ h => h) (Or.inl ⟨by kernel_rfl, fun _ => by kernel_rfl⟩) ?_
          refine wpAny_take (i := 11) (v := .int .i64 2) rfl (by kernel_rfl) (by kernel_rfl) (by kernel_rfl) (fun _ _ _ h => h) (Or.inl ⟨by kernel_rfl, fun _ => by kernel_rfl⟩) ?_
          refine wpAny_take (i := 12) (v := .bool false) rfl (by kernel_rfl) (by kernel_rfl) (by kernel_rfl) (fun _ _ _ h => h) (Or.inl ⟨by kernel_rfl, fun _ => by kernel_rfl⟩) ?_
          refine wpAny_take (i := 13) (v := .bool false) rfl (by kernel_rfl) (by kernel_rfl) (by kernel_rfl) (fun _ _ _ h => h) (Or.inl ⟨by kernel_rfl, fun _ => by kernel_rfl⟩) ?_
          refine wpAny_take (i := 14) (v := .bool false) rfl (by kernel_rfl) (by kernel_rfl) (by kernel_rfl) (fun _ _ _ h => h) (Or.inl ⟨by kernel_rfl, fun _ => by kernel_rfl⟩) ?_
          refine wpAny_take (i := 15) (v := .slice (some ⟨g, o, none⟩) 2 dR3) rfl (by kernel_rfl) (by kernel_rfl) (by kernel_rfl) (fun _ _ _ h => h) (Or.inl ⟨by kernel_rfl, fun _ => by kernel_rfl⟩) ?_
          refine wpAny_take (i := 16) (v := .int .i64 1) rfl (by kernel_rfl) (by kernel_rfl) (by kernel_rfl) (fun _ _ _ h => h) (Or.inl ⟨by kernel_rfl, fun _ => by kernel_rfl⟩) ?_
          refine wpAny_take (i := 17) (v := .pointer (some ⟨g, o + 1, none⟩)) rfl (by kernel_rfl) (by kernel_rfl) (by kernel_rfl) (fun _ _ _ h => h) (Or.inl ⟨by kernel_rfl, fun _ => by kernel_rfl⟩) ?_
          refine wpAny_take (i := 20) (v := .int .i64 1) rfl (by kernel_rfl) (by kernel_rfl) (by kernel_rfl) (fun _ _ _ h => h) (Or.inl ⟨by kernel_rfl, fun _ => by kernel_rfl⟩) ?_
          refine wpAny_ready (rs := [18, 19]) (by kernel_rfl) (by simp) ?_
          refine ready_run (i := 18) rfl (by kernel_rfl) (run_ld rfl (by kernel_rfl) c2d) ?_ ?_
          · refine wpAny_ready (rs := [19]) (by kernel_rfl) (by simp) ?_
            refine ready_run (i := 19) (v := .slice (some ⟨u10.heap.size, 0, none⟩) 2 2) (w' := (u10.alloc (.cells #[.string dB, .string dC] 9)).drew) rfl (by kernel_rfl) (by kernel_rfl) ?_ ?_
            rotate_left
            · exact AllReady.nil
            refine wpAny_take (i := 21) (v := .pointer (some ⟨u10.heap.size, 1, none⟩)) rfl (by kernel_rfl) (by kernel_rfl) (by kernel_rfl) (fun _ _ _ h => h) (Or.inl ⟨by kernel_rfl, fun _ => by kernel_rfl⟩) ?_
            refine wpAny_ready (rs := [22]) (by kernel_rfl) (by simp) ?_
            refine ready_run (i := 22) rfl (by kernel_rfl) (run_ld rfl (by kernel_rfl) c5d) ?_ ?_
            rotate_left
            · exact AllReady.nil
            refine wpAny_take (i := 23) (v := .bool false) rfl (by kernel_rfl) (by kernel_rfl) (by kernel_rfl) (fun _ _ _ h => h) (Or.inl ⟨by kernel_rfl, fun _ => by kernel_rfl⟩) ?_
            refine wpAny_take (i := 24) (v := .bool false) rfl (by kernel_rfl) (by kernel_rfl) (by kernel_rfl) (fun _ _ _ h => h) (Or.inl ⟨by kernel_rfl, fun _ => by kernel_rfl⟩) ?_
            refine wpAny_take (i := 25) (v := .bool false) rfl (by kernel_rfl) (by kernel_rfl) (by kernel_rfl) (fun _ _ _ h => h) (Or.inl ⟨by kernel_rfl, fun _ => by kernel_rfl⟩) ?_
            refine wpAny_take (i := 26) (v := .int .i64 0) rfl (by kernel_rfl) (by kernel_rfl) (by kernel_rfl) (fun _ _ _ h => h) (Or.inl ⟨by kernel_rfl, fun _ => by kernel_rfl⟩) ?_
            refine wpAny_take (i := 27) (v := .bool false) rfl (by kernel_rfl) (by kernel_rfl) (by kernel_rfl) (fun _ _ _ h => h) (Or.inl ⟨by kernel_rfl, fun _ => by kernel_rfl⟩) ?_
            refine wpAny_take (i := 28) (v := .bool false) rfl (by kernel_rfl) (by kernel_rfl) (by kernel_rfl) (fun _ _ _ h => h) (Or.inl ⟨by kernel_rfl, fun _ => by kernel_rfl⟩) ?_
            refine wpAny_take (i := 29) (v := .bool false) rfl (by kernel_rfl) (by kernel_rfl) (by kernel_rfl) (fun _ _ _ h => h) (Or.inl ⟨by kernel_rfl, fun _ => by kernel_rfl⟩) ?_
            refine wpAny_take (i := 30) (v := .pointer (some ⟨J3, 0, none⟩)) rfl (by kernel_rfl) (by kernel_rfl) (by kernel_rfl) (fun _ _ _ h => h) (Or.inl ⟨by kernel_rfl, fun _ => by kernel_rfl⟩) ?_
            refine wpAny_take (i := 32) (v := .int .i64 1) rfl (by kernel_rfl) (by kernel_rfl) (by kernel_rfl) (fun _ _ _ h => h) (Or.inl ⟨by kernel_rfl, fun _ => by kernel_rfl⟩) ?_
            refine wpAny_take (i := 33) (v := .int .i64 4) rfl (by kernel_rfl) (by kernel_rfl) (by kernel_rfl) (fun _ _ _ h => h) (Or.inl ⟨by kernel_rfl, fun _ => by kernel_rfl⟩) ?_
            refine wpAny_ready (rs := [31]) (by kernel_rfl) (by simp) ?_
            refine ready_call (i := 31) rfl (by kernel_rfl) (by kernel_rfl) ((q6.out _ _ _ kd.out).mono ?_) AllReady.nil
            rintro e u11 ⟨rfl, k11'⟩
            refine ⟨_, rfl, ?_⟩
            have k11 := Lib.hid k11'
            clear k11'
            refine wpAny_take (i := 34) (v := .bool false) rfl (by kernel_rfl) (by kernel_rfl) (by kernel_rfl) (fun _ _ _ h => h) (Or.inl ⟨by kernel_rfl, fun _ => by kernel_rfl⟩) ?_
            refine wpAny_take (i := 35) (v := .bool false) rfl (by kernel_rfl) (by kernel_rfl) (by kernel_rfl) (fun _ _ _ h => h) (Or.inl ⟨by kernel_rfl, fun _ => by kernel_rfl⟩) ?_
            refine wpAny_done (by kernel_rfl) ?_ _
            go_wp2_with fail
            go_meet
            exact ⟨rfl, k11.out⟩
          refine ready_run (i := 19) (v := .slice (some ⟨u10.heap.size, 0, none⟩) 2 2) (w' := (u10.alloc (.cells #[.string dB, .string dC] 9)).drew) rfl (by kernel_rfl) (by kernel_rfl) ?_ ?_
          rotate_left
          · exact AllReady.nil
          refine wpAny_take (i := 21) (v := .pointer (some ⟨u10.heap.size, 1, none⟩)) rfl (by kernel_rfl) (by kernel_rfl) (by kernel_rfl) (fun _ _ _ h => h) (Or.inl ⟨by kernel_rfl, fun _ => by kernel_rfl⟩) ?_
          refine wpAny_ready (rs := [18, 22]) (by kernel_rfl) (by simp) ?_
          refine ready_run (i := 18) rfl (by kernel_rfl) (run_ld rfl (by kernel_rfl) c3d) ?_ ?_
          · refine wpAny_ready (rs := [22]) (by kernel_rfl) (by simp) ?_
            refine ready_run (i := 22) rfl (by kernel_rfl) (run_ld rfl (by kernel_rfl) c5d) ?_ ?_
            rotate_left
            · exact AllReady.nil
            refine wpAny_take (i := 23) (v := .bool false) rfl (by kernel_rfl) (by kernel_rfl) (by kernel_rfl) (fun _ _ _ h => h) (Or.inl ⟨by kernel_rfl, fun _ => by kernel_rfl⟩) ?_
            refine wpAny_take (i := 24) (v := .bool false) rfl (by kernel_rfl) (by kernel_rfl) (by kernel_rfl) (fun _ _ _ h => h) (Or.inl ⟨by kernel_rfl, fun _ => by kernel_rfl⟩) ?_
            refine wpAny_take (i := 25) (v := .bool false) rfl (by kernel_rfl) (by kernel_rfl) (by kernel_rfl) (fun _ _ _ h => h) (Or.inl ⟨by kernel_rfl, fun _ => by kernel_rfl⟩) ?_
            refine wpAny_take (i := 26) (v := .int .i64 0) rfl (by kernel_rfl) (by kernel_rfl) (by kernel_rfl) (fun _ _ _ h => h) (Or.inl ⟨by kernel_rfl, fun _ => by kernel_rfl⟩) ?_
            refine wpAny_take (i := 27) (v := .bool false) rfl (by kernel_rfl) (by kernel_rfl) (by kernel_rfl) (fun _ _ _ h => h) (Or.inl ⟨by kernel_rfl, fun _ => by kernel_rfl⟩) ?_
            refine wpAny_take (i := 28) (v := .bool false) rfl (by kernel_rfl) (by kernel_rfl) (by kernel_rfl) (fun _ _ _ h => h) (Or.inl ⟨by kernel_rfl, fun _ => by kernel_rfl⟩) ?_
            refine wpAny_take (i := 29) (v := .bool false) rfl (by kernel_rfl) (by kernel_rfl) (by kernel_rfl) (fun _ _ _ h => h) (Or.inl ⟨by kernel_rfl, fun _ => by kernel_rfl⟩) ?_
            refine wpAny_take (i := 30) (v := .pointer (some ⟨J3, 0, none⟩)) rfl (by kernel_rfl) (by kernel_rfl) (by kernel_rfl) (fun _ _ _ h => h) (Or.inl ⟨by kernel_rfl, fun _ => by kernel_rfl⟩) ?_
            refine wpAny_take (i := 32) (v := .int .i64 1) rfl (by kernel_rfl) (by kernel_rfl) (by kernel_rfl) (fun _ _ _ h => h) (Or.inl ⟨by kernel_rfl, fun _ => by kernel_rfl⟩) ?_
            refine wpAny_take (i := 33) (v := .int .i64 4) rfl (by kernel_rfl) (by kernel_rfl) (by kernel_rfl) (fun _ _ _ h => h) (Or.inl ⟨by kernel_rfl, fun _ => by kernel_rfl⟩) ?_
            refine wpAny_ready (rs := [31]) (by kernel_rfl) (by simp) ?_
            refine ready_call (i := 31) rfl (by kernel_rfl) (by kernel_rfl) ((q6.out _ _ _ kd.out).mono ?_) AllReady.nil
            rintro e u11 ⟨rfl, k11'⟩
            refine ⟨_, rfl, ?_⟩
            have k11 := Lib.hid k11'
            clear k11'
            refine wpAny_take (i := 34) (v := .bool false) rfl (by kernel_rfl) (by kernel_rfl) (by kernel_rfl) (fun _ _ _ h => h) (Or.inl ⟨by kernel_rfl, fun _ => by kernel_rfl⟩) ?_
            refine wpAny_take (i := 35) (v := .bool false) rfl (by kernel_rfl) (by kernel_rfl) (by kernel_rfl) (fun _ _ _ h => h) (Or.inl ⟨by kernel_rfl, fun _ => by kernel_rfl⟩) ?_
            refine wpAny_done (by kernel_rfl) ?_ _
            go_wp2_with fail
            go_meet
            exact ⟨rfl, k11.out⟩
          refine ready_run (i := 22) rfl (by kernel_rfl) (run_ld rfl (by kernel_rfl) c5d) ?_ ?_
          rotate_left
          · exact AllReady.nil
          refine wpAny_ready (rs := [18]) (by kernel_rfl) (by simp) ?_
          refine ready_run (i := 18) rfl (by kernel_rfl) (run_ld rfl (by kernel_rfl) c3d) ?_ ?_
          rotate_left
          · exact AllReady.nil
          refine wpAny_take (i := 23) (v := .bool false) rfl (by kernel_rfl) (by kernel_rfl) (by kernel_rfl) (fun _ _ _ h => h) (Or.inl ⟨by kernel_rfl, fun _ => by kernel_rfl⟩) ?_
          refine wpAny_take (i := 24) (v := .bool false) rfl (by kernel_rfl) (by kernel_rfl) (by kernel_rfl) (fun _ _ _ h => h) (Or.inl ⟨by kernel_rfl, fun _ => by kernel_rfl⟩) ?_
          refine wpAny_take (i := 25) (v := .bool false) rfl (by kernel_rfl) (by kernel_rfl) (by kernel_rfl) (fun _ _ _ h => h) (Or.inl ⟨by kernel_rfl, fun _ => by kernel_rfl⟩) ?_
          refine wpAny_take (i := 26) (v := .int .i64 0) rfl (by kernel_rfl) (by kernel_rfl) (by kernel_rfl) (fun _ _ _ h => h) (Or.inl ⟨by kernel_rfl, fun _ => by kernel_rfl⟩) ?_
          refine wpAny_take (i := 27) (v := .bool false) rfl (by kernel_rfl) (by kernel_rfl) (by kernel_rfl) (fun _ _ _ h => h) (Or.inl ⟨by kernel_rfl, fun _ => by kernel_rfl⟩) ?_
          refine wpAny_take (i := 28) (v := .bool false) rfl (by kernel_rfl) (by kernel_rfl) (by kernel_rfl) (fun _ _ _ h => h) (Or.inl ⟨by kernel_rfl, fun _ => by kernel_rfl⟩) ?_
          refine wpAny_take (i := 29) (v := .bool false) rfl (by kernel_rfl) (by kernel_rfl) (by kernel_rfl) (fun _ _ _ h => h) (Or.inl ⟨by kernel_rfl, fun _ => by kernel_rfl⟩) ?_
          refine wpAny_take (i := 30) (v := .pointer (some ⟨J3, 0, none⟩)) rfl (by kernel_rfl) (by kernel_rfl) (by kernel_rfl) (fun _ _ _ h => h) (Or.inl ⟨by kernel_rfl, fun _ => by kernel_rfl⟩) ?_
          refine wpAny_take (i := 32) (v := .int .i64 1) rfl (by kernel_rfl) (by kernel_rfl) (by kernel_rfl) (fun _ _ _ h => h) (Or.inl ⟨by kernel_rfl, fun _ => by kernel_rfl⟩) ?_
          refine wpAny_take (i := 33) (v := .int .i64 4) rfl (by kernel_rfl) (by kernel_rfl) (by kernel_rfl) (fun _ _ _ h => h) (Or.inl ⟨by kernel_rfl, fun _ => by kernel_rfl⟩) ?_
          refine wpAny_ready (rs := [31]) (by kernel_rfl) (by simp) ?_
          refine ready_call (i := 31) rfl (by kernel_rfl) (by kernel_rfl) ((q6.out _ _ _ kd.out).mono ?_) AllReady.nil
          rintro e u11 ⟨rfl, k11'⟩
          refine ⟨_, rfl, ?_⟩
          have k11 := Lib.hid k11'
          clear k11'
          refine wpAny_take (i := 34) (v := .bool false) rfl (by kernel_rfl) (by kernel_rfl) (by kernel_rfl) (fun _ _ _ h => h) (Or.inl ⟨by kernel_rfl, fun _ => by kernel_rfl⟩) ?_
          refine wpAny_take (i := 35) (v := .bool false) rfl (by kernel_rfl) (by kernel_rfl) (by kernel_rfl) (fun _ _ _ h => h) (Or.inl ⟨by kernel_rfl, fun _ => by kernel_rfl⟩) ?_
          refine wpAny_done (by kernel_rfl) ?_ _
          go_wp2_with fail
          go_meet
          exact ⟨rfl, k11.out⟩
        case rest =>
          obtain ⟨rfl, h12⟩ := hcut
          have k12 := Lib.hid h12
          clear h12 c2 c3 c5
          go_wp2_with fail
          go_roundw
          case rel => exact ⟨2, 2, J3, s', _, .inr (.inr ⟨rfl, rfl⟩), rfl, rfl, HX.out.1, k12.out⟩
          case measure => simp [intOf]
    · rcases hzk with ⟨rfl, rfl⟩ | ⟨rfl, rfl⟩ | ⟨rfl, rfl⟩
      · exact absurd (by decide) hlt
      · exact absurd (by decide) hlt
      have l : Live 4 s (cE 2) R4 := l
      have ho : Mem.Own w (exL X F D G R J (jw 4 (cE 2) R4) s A) wr := ho
      obtain ⟨e1, e2, e3⟩ := ex_end l
      have hn : s.n = 10 := l.calm.n
      have jj : ∀ m, m < 70000 → Jok (jw 4 (cE 2) R4) (sf s true) m := fun m hm => l.jok (by decide) ⟨by decide, by decide, by show (6 : Int) + _ < _; omega⟩ (sf s true) rfl
      obtain ⟨E, j9, s9, e4⟩ : ∃ E j9 s9, compacts (jw 4 (cE 2) R4) (sf s true) xE 2 = (E, j9, s9) := ⟨_, _, _, rfl⟩
      have hE : E = 0 := by rw [e4] at e3; exact e3
      subst hE
      have hx : ∀ m i, i < m → (xE i).size ≤ maxLen := fun _ _ _ => HZ.out.2.2
      have q1 := Lib.hid (fun (W : World) (h : Mem.Own w (exL X F D G R J (jw 4 (cE 2) R4) s A) W) => And.intro (x_five hn h) (And.intro (x_zero h) (x_full h)))
      have q2 := Lib.hid (fun (W : World) (h : Mem.Own w (exL X F D G R J (jw 4 (cE 2) R4) (sf s true) A) W) => And.intro (x_com (cap := 5) e1 (by decide) (jj 5 (by decide)) (hx 5) (built5 W dE) (h.later ((Kept.refl W).alloc (.cells #[.string dE, .string dE, .string dE, .string dE, .string dE] 9)))) (And.intro (x_app e2 (jj 1 (by decide)) HZ.out.2.2 h) (x_com (cap := 2) e4 (by decide) (jj 2 (by decide)) (hx 2) (sao_E (built2 W dE dE)) (h.later ((Kept.refl W).alloc (.cells #[.string dE, .string dE] 9))))))
      have k1 := Lib.hid ho
      clear l ho e1 e2 e3 hn jj e4 hx
      go_wp2_with (first
        | (go_at_call 23; first
            | ((with_reducible refine (open_nil wr).mono ?_); rintro e u2 ⟨rfl, k2'⟩; have k2 := Lib.hid (k1.out.later k2'); have f1 := (x_cells k2.out).2; clear k2')
            | ((with_reducible refine (q1.out _ k2.out).1.mono ?_); rintro e u3 ⟨rfl, k3'⟩; have k3 := Lib.hid k3'; have f2 := (x_cells k3').2; clear k3')
            | ((with_reducible refine (q1.out _ k3.out).2.1.mono ?_); rintro e u4 ⟨rfl, k4'⟩; have k4 := Lib.hid k4'; have f3 := (x_cells k4').2; clear k4'))
        | (go_at_call 17; (with_reducible refine (q1.out _ k4.out).2.2.mono ?_); rintro e u5 ⟨rfl, k5'⟩; have k5 := Lib.hid k5'; clear k5')
        | (go_at_call 12; first
            | ((with_reducible refine (q2.out _ k5.out).1.mono ?_); rintro e u6 ⟨rfl, k6'⟩; have k6 := Lib.hid k6'; clear k6')
            | ((with_reducible refine (q2.out _ k7.out).2.2.mono ?_); rintro e u8 ⟨rfl, k8'⟩; have k8 := Lib.hid k8'; clear k8')
            | ((with_reducible refine (compact_nil _).mono ?_); rintro e u10 ⟨rfl, k10'⟩; have k10 := Lib.hid (k9.out.trans k10'); clear k10'))
        | (go_at_call 9; first
            | ((with_reducible refine (q2.out _ k6.out).2.1.mono ?_); rintro e u7 ⟨rfl, k7'⟩; have k7 := Lib.hid k7'; clear k7')
            | ((with_reducible refine (append_nil _).mono ?_); rintro e u9 ⟨rfl, k9'⟩; have k9 := Lib.hid (k8.out.kept.trans k9'); clear k9'))
        | (go_at_call 24; (with_reducible refine (boot_nil _).mono ?_); rintro e u11 ⟨rfl, k11'⟩; have k11 := Lib.hid (k10.out.trans k11'); clear k11')
        | (go_at_call 25; (with_reducible refine (lsn_nil _).mono ?_); rintro e u12 ⟨rfl, k12'⟩; have k12 := Lib.hid (k11.out.trans k12'); clear k12')
        | (go_at_call 26; (with_reducible refine (room_nil _).mono ?_); rintro e u13 ⟨rfl, k13'⟩; have k13 := Lib.hid (k12.out.trans k13'); clear k13'))
      go_ret
      exact ⟨rfl, k13.out⟩
end Go.Proofs.YtjbcpfndpfeepaaGreat.Jk
