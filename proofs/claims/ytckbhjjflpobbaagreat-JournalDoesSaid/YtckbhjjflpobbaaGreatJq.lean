/-
  The statements' begin and known.
-/
import Derived.Test.YtckbhjjflpobbaaGreatJo
import Derived.Test.YtckbhjjflpobbaaGreatJc
namespace Go.Proofs.YtckbhjjflpobbaaGreat.Jk
open Go Go.RowKit Go.ChangeShapes Go.WideShapes Go.ChangeAt Go.Proofs.YtckbhjjflpobbaaGreat.Mem Go.Proofs.YtckbhjjflpobbaaGreat.Pk Go.Proofs.YtckbhjjflpobbaaGreat.Fk Go.Proofs.YtckbhjjflpobbaaGreat.Dz Go.Proofs.YtckbhjjflpobbaaGreat.Fz Go.Proofs.YtckbhjjflpobbaaGreat.Rc
open Go.Proofs.YtckbhjjflpobbaaGreat.Hk (Hd saves loads o_save o_load hblock)

theorem fresh_open {area : Nat} (ha : 1 ≤ area ∧ area ≤ 32000) : ∃ s1, Opens (fresh (2 + 2 * area) .idle) area h0 [] 0 s1 ∧ Live area s1 h11 [] := by
  obtain ⟨s1, h1, h2⟩ := fresh_opens ha.2
  obtain ⟨g1, g2, g3⟩ := fresh_finds (area := area)
  exact ⟨s1, ⟨(fresh_calm ha.2).ok, ha, rfl, (by show (0 : Nat) < _; decide), g1, g2, g3, Nat.le_refl _, h1⟩, h2⟩
theorem Lain.open1 {area : Nat} {s : Ds} {c : Hd} {R : List Fr} (l : Lain area s c R) (ha : 1 ≤ area ∧ area ≤ 32000) (k : c.boot < 4294967295 ∧ c.seq < 281474976710000) : ∃ s1, Opens s area c R c.snaps.toNat s1 ∧ Live area s1 (nextHd c) R := by
  obtain ⟨⟨s1, h1, h2⟩, _⟩ := l.opens k
  obtain ⟨g1, g2, g3, g4⟩ := l.finds k
  exact ⟨s1, ⟨l.calm.ok, ha, l.calm.n, (by rw [l.calm.pend]; decide), g1, g2, g3, g4, h1⟩, h2⟩
theorem Live.jok {area : Nat} {s : Ds} {c : Hd} {R : List Fr} {m : Nat} (l : Live area s c R) (ha : area ≤ 32000) (k : Small c R m) (s' : Ds) (hp : s'.pend = s.pend) : Jok (jw area c R) s' m :=
  ⟨l.jo.jv.half, ha, l.jo.jv.total, lsn_pos l.jo.jv, by have := k.lsn; show lsnOf c R + _ < _; omega, ⟨l.jo.jv.two.good.b1, l.jo.jv.two.good.b2⟩, ⟨by have := l.jo.jv.two.good.s1; show 0 ≤ c.seq; omega, by have := k.seq; show c.seq < _; omega⟩, by rw [hp, l.calm.pend]; decide⟩
/-! known -/
def kStr : ByteArray := ⟨#[107]⟩
theorem small11 (m : Nat) (hm : m < 70000) : Small h11 [] m := ⟨by decide, by decide, by show (0 : Int) + _ < _; omega⟩
theorem known_disk : ∃ s1 s2 s3, Opens (fresh (2 + 2 * 3) .idle) 3 h0 [] 0 s1 ∧ appends (jw 3 h11 []) s1 kStr = (0, jw 3 h11 [recd 1 1 2 kStr], s2) ∧ Jok (jw 3 h11 []) s1 1 ∧ Opens s2 3 h11 [recd 1 1 2 kStr] 0 s3 := by
  obtain ⟨s1, o1, l1⟩ := fresh_open (area := 3) (by decide)
  obtain ⟨s2, l2, a2, _⟩ := l1.append (small11 1 (by decide)) (d := kStr) (by decide) (by decide)
  obtain ⟨s3, o3, _⟩ := l2.lain.open1 (by decide) (by decide)
  exact ⟨s1, s2, s3, o1, a2, l1.jok (by decide) (small11 1 (by decide)) s1 rfl, o3⟩
set_option maxRecDepth 100000 in
set_option maxHeartbeats 8000000 in
theorem known_c (w : World) : Calls Tryz.prog 5 #[] w fun e w' => e = .returned (.bool true) ∧ Kept w w' := by
  obtain ⟨s1, s2, s3, o1, a2, j1, o3⟩ := known_disk
  have hfn : Calls Tryz.prog 23 #[] w fun e w' => ∃ F, e = .returned (.pointer (some ⟨F, 0, none⟩)) ∧ Mem.Own w [fzA F .idle] w' := o_fnew (Mem.Own.nil w)
  have hnew : ∀ (F : Nat) (W : World), Mem.Own w [fzA F .idle] W → Calls Tryz.prog 22 #[.int .i64 8, .pointer (some ⟨F, 0, none⟩)] W fun e w' => ∃ D, e = .returned (.tuple #[.pointer (some ⟨D, 0, none⟩), .int .i64 0]) ∧ Mem.Own w [dk F D (fresh (2 + 2 * 3) .idle)] w' := fun F W h => o_new h 0 rfl (n := 8) (by omega) (by omega)
  have h1 : ∀ F D W, Mem.Own w [dk F D (fresh (2 + 2 * 3) .idle)] W → Calls Tryz.prog 24 #[.pointer (some ⟨D, 0, none⟩), .int .i64 3] W fun e w' =>
      ∃ J aS dS aR dR, e = .returned (.tuple #[.pointer (some ⟨J, 0, none⟩), .slice aS 0 dS, .slice aR 0 dR, .int .i64 0]) ∧ Mem.Own w (jA J D (jw 3 h11 []) :: dk F D s1 :: secA (.slice aR 0 dR) 0 (fun i => xsF [] (0 + i)) :: secA (.slice aS 0 dS) 0 (xsF []) :: []) w' := fun F D W h => o_open1 h o1
  have h2 : ∀ F D J A W, Mem.Own w (jA J D (jw 3 h11 []) :: dk F D s1 :: A) W → Calls Tryz.prog 8 #[.pointer (some ⟨J, 0, none⟩), .string ⟨#[107]⟩] W fun e w' => e = .returned (.int .i64 0) ∧ Mem.Own w (jA J D (jw 3 h11 [recd 1 1 2 kStr]) :: dk F D s2 :: A) w' := fun F D J A W h => by
    have := o_append h j1 kStr (by decide)
    rw [a2] at this
    exact this
  have h3 : ∀ F D J A W, Mem.Own w (jA J D (jw 3 h11 [recd 1 1 2 kStr]) :: dk F D s2 :: A) W → Calls Tryz.prog 24 #[.pointer (some ⟨D, 0, none⟩), .int .i64 3] W fun e w' =>
      ∃ J2 aS dS aR dR, e = .returned (.tuple #[.pointer (some ⟨J2, 0, none⟩), .slice aS 0 dS, .slice aR 1 dR, .int .i64 0]) ∧ Kept w w' ∧ SAo w' aR 1 (fun i => xsF [recd 1 1 2 kStr] (0 + i)) := fun F D J A W h => by
    refine (o_open1 (own_swap (L1 := []) h) o3).mono ?_
    rintro e w' ⟨J2, aS, dS, aR, dR, rfl, hw⟩
    exact ⟨J2, aS, dS, aR, dR, rfl, hw.kept, wide (own_strs hw 2 rfl)⟩
  have h4 : ∀ (aR : Option Addr) (dR : Nat) W, SAo W aR 1 (fun i => xsF [recd 1 1 2 kStr] (0 + i)) → Calls Tryz.prog 13 #[.slice aR 1 dR, .slice (some ⟨W.heap.size, 0, none⟩) 1 1] (W.alloc (.cells #[.string ⟨#[107]⟩] 9)) fun e w' => e = .returned (.bool true) ∧ Kept W w' := fun aR dR W h => by
    have k1 := (Kept.refl W).alloc (.cells #[.string ⟨#[107]⟩] 9)
    refine (equalsb_c aR _ 1 1 dR 1 _ (fun _ => kStr) (by decide) (by decide) _ (h.kept k1) (wide (row1 W kStr))).mono ?_
    rintro e w' ⟨rfl, hk⟩
    refine ⟨?_, k1.trans hk⟩
    rw [eqS_iff.mpr ⟨rfl, fun i hi => by
      obtain rfl : i = 0 := by omega
      rfl⟩]
  have HB := Lib.hid (And.intro hnew (And.intro h1 (And.intro h2 (And.intro h3 h4))))
  clear hnew h1 h2 h3 h4 o1 a2 j1 o3
  go_enter Tryz.func5, Tryz.ntmps5
  go_wp2_with (first
    | (go_at_call 23; (with_reducible refine hfn.mono ?_); rintro e u1 ⟨F, rfl, k1'⟩; have k1 := Lib.hid k1'; clear k1')
    | (go_at_call 22; (with_reducible refine (HB.out.1 _ _ k1.out).mono ?_); rintro e u2 ⟨D, rfl, k2'⟩; have k2 := Lib.hid k2'; clear k2')
    | (go_at_call 24; first
        | ((with_reducible refine (HB.out.2.2.2.1 _ _ _ _ _ k4.out).mono ?_); rintro e u5 ⟨J2, aS2, dS2, aR2, dR2, rfl, q1', q2'⟩; have q1 := Lib.hid q1'; have q2 := Lib.hid q2'; clear q1' q2')
        | ((with_reducible refine (HB.out.2.1 _ _ _ k2.out).mono ?_); rintro e u3 ⟨J, aS, dS, aR, dR, rfl, k3'⟩; have k3 := Lib.hid k3'; clear k3'))
    | (go_at_call 8; (with_reducible refine (HB.out.2.2.1 _ _ _ _ _ k3.out).mono ?_); rintro e u4 ⟨rfl, k4'⟩; have k4 := Lib.hid k4'; clear k4')
    | (go_at_call 13; (with_reducible refine (HB.out.2.2.2.2 _ _ _ q2.out).mono ?_); rintro e u6 ⟨rfl, q6'⟩; have q6 := Lib.hid q6'; clear q6'))
  go_ret
  exact ⟨rfl, q1.out.trans q6.out⟩
end Go.Proofs.YtckbhjjflpobbaaGreat.Jk
