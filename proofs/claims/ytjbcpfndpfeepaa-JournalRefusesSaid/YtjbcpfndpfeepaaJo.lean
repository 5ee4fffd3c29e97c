/-
  The statements' run: opens, begin.
-/
import Derived.Test.YtjbcpfndpfeepaaJi
import Derived.Test.YtjbcpfndpfeepaaJn
namespace Go.Proofs.Ytjbcpfndpfeepaa.Jk
open Go Go.RowKit Go.ChangeShapes Go.WideShapes Go.ChangeAt Go.Proofs.Ytjbcpfndpfeepaa.Mem Go.Proofs.Ytjbcpfndpfeepaa.Pk Go.Proofs.Ytjbcpfndpfeepaa.Fk Go.Proofs.Ytjbcpfndpfeepaa.Dz Go.Proofs.Ytjbcpfndpfeepaa.Fz Go.Proofs.Ytjbcpfndpfeepaa.Rc
open Go.Proofs.Ytjbcpfndpfeepaa.Hk (Hd saves loads o_save o_load hblock)

def runC (F D : Nat) (vJ : Value) (area : Nat) (vS vR : Value) (boot : Int) : Array Value := #[.pointer (some ⟨F, 0, none⟩), .pointer (some ⟨D, 0, none⟩), vJ, .int .i64 (area : Int), vS, vR, .int .i64 boot]
def runA (B F D : Nat) (vJ : Value) (area : Nat) (vS vR : Value) (boot : Int) : As := boxA B (runC F D vJ area vS vR boot) 40
theorem runBlock {w0 w : World} {L : List As} (h : Mem.Own w0 L w) (i : Nat) {B F D : Nat} {vJ : Value} {area : Nat} {vS vR : Value} {boot : Int} (hi : L[i]? = some (runA B F D vJ area vS vR boot)) :
    (w.cell? ⟨B, 0, none⟩ = some (.pointer (some ⟨F, 0, none⟩)) ∧ w.cell? ⟨B, 1, none⟩ = some (.pointer (some ⟨D, 0, none⟩)) ∧ w.cell? ⟨B, 2, none⟩ = some vJ ∧ w.cell? ⟨B, 3, none⟩ = some (.int .i64 (area : Int)) ∧ w.cell? ⟨B, 4, none⟩ = some vS ∧ w.cell? ⟨B, 5, none⟩ = some vR ∧ w.cell? ⟨B, 6, none⟩ = some (.int .i64 boot)) ∧ ∀ i, w.frozen? ⟨B, i, none⟩ = false := by
  have hb := h.boxed i hi
  exact ⟨⟨cell_of_row _ _ _ _ _ _ hb, cell_of_row _ _ _ _ _ _ hb, cell_of_row _ _ _ _ _ _ hb, cell_of_row _ _ _ _ _ _ hb, cell_of_row _ _ _ _ _ _ hb, cell_of_row _ _ _ _ _ _ hb, cell_of_row _ _ _ _ _ _ hb⟩, fun i => frozen_of_row w B i _ _ hb⟩
/-- What there is for an opening to succeed. -/
structure Opens (s : Ds) (area : Nat) (c : Hd) (R : List Fr) (m : Nat) (s1 : Ds) : Prop where
  ok : s.ok
  ar : 1 ≤ area ∧ area ≤ 32000
  n : s.n = 2 + 2 * area
  room : s.pend.length < 4294967296
  new : newestHd s = (c, 0)
  hok : Hok c m
  found : Found s.look (beg area c.area + area) (beg area c.area) c.first 1 m R
  most : m ≤ R.length
  save : saves s (nextHd c) = (0, s1)
theorem Opens.len {s : Ds} {area : Nat} {c : Hd} {R : List Fr} {m : Nat} {s1 : Ds} (h : Opens s area c R m s1) : R.length ≤ area := by
  have e := chain_le (Nat.le_add_right _ _) h.found.chain
  have key : ∀ X : List Fr, X.length ≤ total X := fun X => by
    induction X with
    | nil => exact Nat.le_refl _
    | cons r X ih => have := parts_pos r.data.size; show X.length + 1 ≤ parts r.data.size + total X; omega
  have := key R
  omega
theorem o_open1 {w0 w : World} {L : List As} {F D : Nat} {s s1 : Ds} {area : Nat} {c : Hd} {R : List Fr} {m : Nat} (h : Mem.Own w0 (dk F D s :: L) w) (q : Opens s area c R m s1) :
    Calls Try.prog 23 #[.pointer (some ⟨D, 0, none⟩), .int .i64 (area : Int)] w fun e w' =>
      ∃ J aS dS aR dR, e = .returned (.tuple #[.pointer (some ⟨J, 0, none⟩), .slice aS m dS, .slice aR (R.length - m) dR, .int .i64 0]) ∧ Mem.Own w0 (jA J D (jw area (nextHd c) R) :: dk F D s1 :: secA (.slice aR (R.length - m) dR) (R.length - m) (fun i => xsF R (m + i)) :: secA (.slice aS m dS) m (xsF R) :: L) w' := by
  refine (o_open h q.ok area q.ar q.n q.room c m q.new q.hok R q.found q.most).mono ?_
  rw [q.save]
  rintro e w' ⟨hw0, _⟩
  obtain ⟨J, vS, vR, he, hw1⟩ := hw0 rfl
  obtain ⟨aR, dR, eR⟩ := own_slice hw1 2 rfl
  obtain ⟨aS, dS, eS⟩ := own_slice hw1 3 rfl
  rw [eR, eS] at he hw1
  exact ⟨J, aS, dS, aR, dR, he, hw1⟩
set_option maxRecDepth 100000 in
set_option maxHeartbeats 8000000 in
theorem o_opens {w0 w : World} {A : List As} {B F D : Nat} {vJ : Value} {area : Nat} {vS vR : Value} {boot : Int} {s s1 : Ds} {c : Hd} {R : List Fr} {m : Nat} (h : Mem.Own w0 (runA B F D vJ area vS vR boot :: dk F D s :: A) w) (q : Opens s area c R m s1) (hboot : boot < c.boot + 1)
    {v1 v2 : Value} {n1 n2 n3 n4 : Nat} {x1 x2 x3 x4 : Nat → ByteArray} (sS : Sees w0 A vS n1 x1) (sR : Sees w0 A vR n2 x2) (sv1 : Sees w0 A v1 n3 x3) (sv2 : Sees w0 A v2 n4 x4) (hn1 : n1 < 4294967296) (hn2 : n2 < 4294967296) (hn3 : n3 < 4294967296) (hn4 : n4 < 4294967296)
    (hq : (eqS m (xsF R) n1 x1 = true ∧ eqS (R.length - m) (fun i => xsF R (m + i)) n2 x2 = true) ∨ (eqS m (xsF R) n3 x3 = true ∧ eqS (R.length - m) (fun i => xsF R (m + i)) n4 x4 = true)) :
    Calls Try.prog 11 #[.pointer (some ⟨B, 0, none⟩), v1, v2] w fun e w' => ∃ J vS' vR', e = .returned (.bool true) ∧
      Mem.Own w0 (runA B F D (.pointer (some ⟨J, 0, none⟩)) area vS' vR' (c.boot + 1) :: jA J D (jw area (nextHd c) R) :: dk F D s1 :: secA vR' (R.length - m) (fun i => xsF R (m + i)) :: secA vS' m (xsF R) :: A) w' := by
  obtain ⟨aoS, cpS, eS, _⟩ := id sS
  obtain ⟨aoR, cpR, eR, _⟩ := id sR
  obtain ⟨ao1, cp1, ev1, _⟩ := id sv1
  obtain ⟨ao2, cp2, ev2, _⟩ := id sv2
  subst eS eR ev1 ev2
  have hop : ∀ W, Mem.Own w0 (runA B F D vJ area (.slice aoS n1 cpS) (.slice aoR n2 cpR) boot :: dk F D s :: A) W → Calls Try.prog 23 #[.pointer (some ⟨D, 0, none⟩), .int .i64 (area : Int)] W fun e w' =>
      ∃ J aS dS aR dR, e = .returned (.tuple #[.pointer (some ⟨J, 0, none⟩), .slice aS m dS, .slice aR (R.length - m) dR, .int .i64 0]) ∧ Mem.Own w0 ([runA B F D vJ area (.slice aoS n1 cpS) (.slice aoR n2 cpR) boot, jA J D (jw area (nextHd c) R), dk F D s1] ++ secA (.slice aR (R.length - m) dR) (R.length - m) (fun i => xsF R (m + i)) :: secA (.slice aS m dS) m (xsF R) :: A) w' := fun W hW => by
    refine (o_open1 (own_swap (L1 := []) hW) q).mono ?_
    rintro e w' ⟨J, aS, dS, aR, dR, rfl, hw⟩
    have g1 := own_swap (L1 := [_, _, _]) hw
    have g2 := own_swap (L1 := [_, _]) g1
    have g3 := own_swap (L1 := [_]) g2
    have g4 := own_swap (L1 := []) g3
    exact ⟨J, aS, dS, aR, dR, rfl, g4⟩
  have hlook : ∀ Y W, Mem.Own w0 (runA B F D vJ area (.slice aoS n1 cpS) (.slice aoR n2 cpR) boot :: Y) W → (W.cell? ⟨B, 1, none⟩ = some (.pointer (some ⟨D, 0, none⟩)) ∧ W.cell? ⟨B, 3, none⟩ = some (.int .i64 (area : Int))) := fun Y W hW => by
    obtain ⟨⟨_, c1, _, c3, _, _, _⟩, _⟩ := runBlock hW 0 rfl
    exact ⟨c1, c3⟩
  have hlook2 : ∀ Y W, Mem.Own w0 (runA B F D vJ area (.slice aoS n1 cpS) (.slice aoR n2 cpR) boot :: Y) W → (W.cell? ⟨B, 2, none⟩ = some vJ ∧ W.cell? ⟨B, 4, none⟩ = some (.slice aoS n1 cpS) ∧ W.cell? ⟨B, 5, none⟩ = some (.slice aoR n2 cpR) ∧ W.cell? ⟨B, 6, none⟩ = some (.int .i64 boot)) ∧ ∀ i, W.frozen? ⟨B, i, none⟩ = false := fun Y W hW => by
    obtain ⟨⟨_, _, c2, _, c4, c5, c6⟩, fz⟩ := runBlock hW 0 rfl
    exact ⟨⟨c2, c4, c5, c6⟩, fz⟩
  have hbt : ∀ J Y W, Mem.Own w0 (runA B F D vJ area (.slice aoS n1 cpS) (.slice aoR n2 cpR) boot :: jA J D (jw area (nextHd c) R) :: Y) W → Calls Try.prog 30 #[.pointer (some ⟨J, 0, none⟩)] W fun e w' => e = .returned (.int .i64 (c.boot + 1)) ∧ W = w' := fun J Y W hW => boot_c J D _ W (own_j hW 1 rfl)
  have hlen := q.len
  have har := q.ar
  have hmo := q.most
  have heqs : ∀ J aS dS aR dR W, Mem.Own w0 ([runA B F D vJ area (.slice aoS n1 cpS) (.slice aoR n2 cpR) boot, jA J D (jw area (nextHd c) R), dk F D s1] ++ secA (.slice aR (R.length - m) dR) (R.length - m) (fun i => xsF R (m + i)) :: secA (.slice aS m dS) m (xsF R) :: A) W →
      ((Calls Try.prog 27 #[.slice aS m dS, (.slice aoS n1 cpS)] W fun e w' => e = .returned (.bool (eqS m (xsF R) n1 x1)) ∧ Mem.Own w0 ([runA B F D vJ area (.slice aoS n1 cpS) (.slice aoR n2 cpR) boot, jA J D (jw area (nextHd c) R), dk F D s1] ++ secA (.slice aR (R.length - m) dR) (R.length - m) (fun i => xsF R (m + i)) :: secA (.slice aS m dS) m (xsF R) :: A) w') ∧
       (Calls Try.prog 27 #[.slice aR (R.length - m) dR, (.slice aoR n2 cpR)] W fun e w' => e = .returned (.bool (eqS (R.length - m) (fun i => xsF R (m + i)) n2 x2)) ∧ Mem.Own w0 ([runA B F D vJ area (.slice aoS n1 cpS) (.slice aoR n2 cpR) boot, jA J D (jw area (nextHd c) R), dk F D s1] ++ secA (.slice aR (R.length - m) dR) (R.length - m) (fun i => xsF R (m + i)) :: secA (.slice aS m dS) m (xsF R) :: A) w')) ∧
      ((Calls Try.prog 27 #[.slice aS m dS, .slice ao1 n3 cp1] W fun e w' => e = .returned (.bool (eqS m (xsF R) n3 x3)) ∧ Mem.Own w0 ([runA B F D vJ area (.slice aoS n1 cpS) (.slice aoR n2 cpR) boot, jA J D (jw area (nextHd c) R), dk F D s1] ++ secA (.slice aR (R.length - m) dR) (R.length - m) (fun i => xsF R (m + i)) :: secA (.slice aS m dS) m (xsF R) :: A) w') ∧
       (Calls Try.prog 27 #[.slice aR (R.length - m) dR, .slice ao2 n4 cp2] W fun e w' => e = .returned (.bool (eqS (R.length - m) (fun i => xsF R (m + i)) n4 x4)) ∧ Mem.Own w0 ([runA B F D vJ area (.slice aoS n1 cpS) (.slice aoR n2 cpR) boot, jA J D (jw area (nextHd c) R), dk F D s1] ++ secA (.slice aR (R.length - m) dR) (R.length - m) (fun i => xsF R (m + i)) :: secA (.slice aS m dS) m (xsF R) :: A) w')) := fun J aS dS aR dR W hW => by
    have r2 : Sees w0 (secA (.slice aR (R.length - m) dR) (R.length - m) (fun i => xsF R (m + i)) :: secA (.slice aS m dS) m (xsF R) :: A) (.slice aR (R.length - m) dR) (R.length - m) (fun i => xsF R (m + i)) := Sees.row hW
    have r1 : Sees w0 (secA (.slice aR (R.length - m) dR) (R.length - m) (fun i => xsF R (m + i)) :: secA (.slice aS m dS) m (xsF R) :: A) (.slice aS m dS) m (xsF R) := (Sees.row (L := [runA B F D vJ area (.slice aoS n1 cpS) (.slice aoR n2 cpR) boot, jA J D (jw area (nextHd c) R), dk F D s1, secA (.slice aR (R.length - m) dR) (R.length - m) (fun i => xsF R (m + i))]) hW).more [_]
    exact ⟨⟨o_equals hW r1 (sS.more [_, _]) (by omega) hn1, o_equals hW r2 (sR.more [_, _]) (by omega) hn2⟩, ⟨o_equals hW r1 (sv1.more [_, _]) (by omega) hn3, o_equals hW r2 (sv2.more [_, _]) (by omega) hn4⟩⟩
  have hend : ∀ J aS dS aR dR W, Mem.Own w0 ([runA B F D vJ area (.slice aoS n1 cpS) (.slice aoR n2 cpR) boot, jA J D (jw area (nextHd c) R), dk F D s1] ++ secA (.slice aR (R.length - m) dR) (R.length - m) (fun i => xsF R (m + i)) :: secA (.slice aS m dS) m (xsF R) :: A) W →
      Mem.Own w0 (runA B F D (.pointer (some ⟨J, 0, none⟩)) area (.slice aS m dS) (.slice aR (R.length - m) dR) (c.boot + 1) :: jA J D (jw area (nextHd c) R) :: dk F D s1 :: secA (.slice aR (R.length - m) dR) (R.length - m) (fun i => xsF R (m + i)) :: secA (.slice aS m dS) m (xsF R) :: A) ((((W.setCell ⟨B, 2, none⟩ (.pointer (some ⟨J, 0, none⟩))).setCell ⟨B, 4, none⟩ (.slice aS m dS)).setCell ⟨B, 5, none⟩ (.slice aR (R.length - m) dR)).setCell ⟨B, 6, none⟩ (.int .i64 (c.boot + 1))) := fun J aS dS aR dR W hW =>
    (((hW.boxset 0 rfl 2 (.pointer (some ⟨J, 0, none⟩))).boxset 0 rfl 4 (.slice aS m dS)).boxset 0 rfl 5 (.slice aR (R.length - m) dR)).boxset 0 rfl 6 (.int .i64 (c.boot + 1))
  obtain ⟨q1, hq1⟩ : ∃ q1, q1 = eqS m (xsF R) n1 x1 := ⟨_, rfl⟩
  obtain ⟨q2, hq2⟩ : ∃ q2, q2 = eqS (R.length - m) (fun i => xsF R (m + i)) n2 x2 := ⟨_, rfl⟩
  obtain ⟨q3, hq3⟩ : ∃ q3, q3 = eqS m (xsF R) n3 x3 := ⟨_, rfl⟩
  obtain ⟨q4, hq4⟩ : ∃ q4, q4 = eqS (R.length - m) (fun i => xsF R (m + i)) n4 x4 := ⟨_, rfl⟩
  rw [← hq1, ← hq2, ← hq3, ← hq4] at heqs hq
  have S1 := hlook _ _ h
  have S2 := hlook _ _ h.drew
  obtain ⟨b2, b4, b5, b6⟩ := (hlook2 _ _ h).1
  have fzB := (hlook2 _ _ h).2
  have tb : decide (c.boot + 1 ≤ boot) = false := by simp; omega
  have hop1 := hop _ h.drew
  have HH := Lib.hid (And.intro hop1 (And.intro hlook (And.intro hlook2 (And.intro hbt (And.intro heqs hend)))))
  clear hop hop1 hlook hlook2 hbt heqs hend hq1 hq2 hq3 hq4 sS sR sv1 sv2 q h hboot
  obtain ⟨nS, hnS⟩ : ∃ nS, nS = R.length - m := ⟨_, rfl⟩
  rw [← hnS] at HH
  rw [← hnS]
  clear hlen hmo hnS har
  obtain ⟨⟨s1a, s1b⟩, s1c⟩ := And.intro S1 trivial
  go_enter Try.func11, Try.ntmps11
  go_wp2
  go_region_held3 (fun W => W.cell? ⟨B, 1, none⟩ = some (.pointer (some ⟨D, 0, none⟩)) ∧ W.cell? ⟨B, 3, none⟩ = some (.int .i64 (area : Int)))
    (first | with_reducible assumption)
    (first
      | (go_at_call 23; (with_reducible refine HH.out.1.mono ?_); rintro e u3 ⟨J, aS, dS, aR, dR, rfl, k3'⟩; have S3 := HH.out.2.1 _ _ k3'; have k3 := Lib.hid k3'; clear k3'))
  obtain ⟨⟨d2, d4, d5, d6⟩, fz3⟩ := HH.out.2.2.1 _ _ k3.out
  have hb3 := HH.out.2.2.2.1 J _ _ k3.out
  have hb3d := HH.out.2.2.2.1 J _ _ k3.out.drew
  have T1 : u3.cell? ⟨B, 6, none⟩ = some (.int .i64 boot) := d6
  have T2 : u3.drew.cell? ⟨B, 6, none⟩ = some (.int .i64 boot) := d6
  have HB := Lib.hid (And.intro hb3 hb3d)
  clear hb3 hb3d
  go_wp2
  go_region_held3 (fun W => W.cell? ⟨B, 6, none⟩ = some (.int .i64 boot))
    (first | with_reducible assumption)
    (first
      | (go_at_call 30; (with_reducible refine HB.out.2.mono ?_); rintro e u4 ⟨rfl, rfl⟩))
  have K0 := Lib.hid k3.out.drew
  clear T1 T2
  cases q1
  · obtain ⟨rfl, rfl⟩ := hq.resolve_left (fun h => absurd h.1 (by decide))
    go_wp2_with (first
    | (go_at_call 27; (with_reducible refine (HH.out.2.2.2.2.1 J aS dS aR dR _ K0.out).1.1.mono ?_); rintro e u4 ⟨rfl, k4'⟩; have k4 := Lib.hid k4'; obtain ⟨⟨_, _, _, _⟩, _⟩ := HH.out.2.2.1 _ _ k4'; clear k4')
    | (go_at_call 27; (with_reducible refine (HH.out.2.2.2.2.1 J aS dS aR dR _ k4.out).2.1.mono ?_); rintro e u5 ⟨rfl, k5'⟩; have k5 := Lib.hid k5'; obtain ⟨⟨_, _, _, _⟩, _⟩ := HH.out.2.2.1 _ _ k5'; clear k5')
    | (go_at_call 27; (with_reducible refine (HH.out.2.2.2.2.1 J aS dS aR dR _ k5.out).2.2.mono ?_); rintro e u6 ⟨rfl, k6'⟩; have k6 := Lib.hid k6'; obtain ⟨⟨_, _, _, _⟩, _⟩ := HH.out.2.2.1 _ _ k6'; clear k6')
    | (go_at_call 30; have hb9 := HH.out.2.2.2.1 J _ _ k6.out; (with_reducible refine hb9.mono ?_); rintro e u9 ⟨rfl, rfl⟩))
    go_ret
    exact ⟨J, _, _, rfl, HH.out.2.2.2.2.2 J aS dS aR dR _ k6.out⟩
  · cases q2
    · obtain ⟨rfl, rfl⟩ := hq.resolve_left (fun h => absurd h.2 (by decide))
      go_wp2_with (first
      | (go_at_call 27; (with_reducible refine (HH.out.2.2.2.2.1 J aS dS aR dR _ K0.out).1.1.mono ?_); rintro e u4 ⟨rfl, k4'⟩; have k4 := Lib.hid k4'; obtain ⟨⟨_, _, _, _⟩, _⟩ := HH.out.2.2.1 _ _ k4'; clear k4')
      | (go_at_call 27; (with_reducible refine (HH.out.2.2.2.2.1 J aS dS aR dR _ k4.out).1.2.mono ?_); rintro e u5 ⟨rfl, k5'⟩; have k5 := Lib.hid k5'; obtain ⟨⟨_, _, _, _⟩, _⟩ := HH.out.2.2.1 _ _ k5'; clear k5')
      | (go_at_call 27; (with_reducible refine (HH.out.2.2.2.2.1 J aS dS aR dR _ k5.out).2.1.mono ?_); rintro e u6 ⟨rfl, k6'⟩; have k6 := Lib.hid k6'; obtain ⟨⟨_, _, _, _⟩, _⟩ := HH.out.2.2.1 _ _ k6'; clear k6')
      | (go_at_call 27; (with_reducible refine (HH.out.2.2.2.2.1 J aS dS aR dR _ k6.out).2.2.mono ?_); rintro e u7 ⟨rfl, k7'⟩; have k7 := Lib.hid k7'; obtain ⟨⟨_, _, _, _⟩, _⟩ := HH.out.2.2.1 _ _ k7'; clear k7')
      | (go_at_call 30; have hb9 := HH.out.2.2.2.1 J _ _ k7.out; (with_reducible refine hb9.mono ?_); rintro e u9 ⟨rfl, rfl⟩))
      go_ret
      exact ⟨J, _, _, rfl, HH.out.2.2.2.2.2 J aS dS aR dR _ k7.out⟩
    · go_wp2_with (first
      | (go_at_call 27; (with_reducible refine (HH.out.2.2.2.2.1 J aS dS aR dR _ K0.out).1.1.mono ?_); rintro e u4 ⟨rfl, k4'⟩; have k4 := Lib.hid k4'; obtain ⟨⟨_, _, _, _⟩, _⟩ := HH.out.2.2.1 _ _ k4'; clear k4')
      | (go_at_call 27; (with_reducible refine (HH.out.2.2.2.2.1 J aS dS aR dR _ k4.out).1.2.mono ?_); rintro e u5 ⟨rfl, k5'⟩; have k5 := Lib.hid k5'; obtain ⟨⟨_, _, _, _⟩, _⟩ := HH.out.2.2.1 _ _ k5'; clear k5')
      | (go_at_call 30; have hb9 := HH.out.2.2.2.1 J _ _ k5.out; (with_reducible refine hb9.mono ?_); rintro e u9 ⟨rfl, rfl⟩))
      go_ret
      exact ⟨J, _, _, rfl, HH.out.2.2.2.2.2 J aS dS aR dR _ k5.out⟩
end Go.Proofs.Ytjbcpfndpfeepaa.Jk
