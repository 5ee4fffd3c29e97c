/-
  Package journal: Open.
-/
import Derived.Test.YtckbhjjflpobbaaGreatJf
import Derived.Test.YtckbhjjflpobbaaGreatHq
namespace Go.Proofs.YtckbhjjflpobbaaGreat.Jk
open Go Go.RowKit Go.ChangeShapes Go.WideShapes Go.ChangeAt Go.Proofs.YtckbhjjflpobbaaGreat.Mem Go.Proofs.YtckbhjjflpobbaaGreat.Pk Go.Proofs.YtckbhjjflpobbaaGreat.Fk Go.Proofs.YtckbhjjflpobbaaGreat.Dz Go.Proofs.YtckbhjjflpobbaaGreat.Fz Go.Proofs.YtckbhjjflpobbaaGreat.Rc
open Go.Proofs.YtckbhjjflpobbaaGreat.Hk (Hd saves loads o_save o_load hblock)

theorem own_swap {w0 w : World} {L1 L : List As} {a b : As} (h : Mem.Own w0 (L1 ++ a :: b :: L) w) : Mem.Own w0 (L1 ++ b :: a :: L) w := by
  refine h.pick (fun i => if i = L1.length then L1.length + 1 else if i = L1.length + 1 then L1.length else i) (fun i j _ _ e => ?_) fun i c hi => ?_
  · by_cases h1 : i = L1.length <;> by_cases h2 : j = L1.length <;> by_cases h3 : i = L1.length + 1 <;> by_cases h4 : j = L1.length + 1 <;> simp [h1, h2, h3, h4] at e ⊢ <;> omega
  · by_cases h1 : i < L1.length
    · rw [if_neg (by omega), if_neg (by omega), List.getElem?_append_left h1]
      rw [List.getElem?_append_left h1] at hi
      exact hi
    · rw [List.getElem?_append_right (by omega)] at hi
      by_cases h2 : i = L1.length
      · subst h2
        rw [if_pos rfl, List.getElem?_append_right (by omega), Nat.add_sub_cancel_left]
        rw [Nat.sub_self] at hi
        exact hi
      · by_cases h3 : i = L1.length + 1
        · subst h3
          rw [if_neg (by omega), if_pos rfl, List.getElem?_append_right (by omega), Nat.sub_self]
          rw [Nat.add_sub_cancel_left] at hi
          exact hi
        · rw [if_neg h2, if_neg h3, List.getElem?_append_right (by omega)]
          obtain ⟨q, rfl⟩ : ∃ q, i = L1.length + 2 + q := ⟨i - L1.length - 2, by omega⟩
          rw [show L1.length + 2 + q - L1.length = q + 2 by omega] at hi ⊢
          exact hi
theorem newest_alive {s : Ds} {c : Hd} (h : newestHd s = (c, 0)) : s.fu.dead = false := by
  cases hd : s.fu.dead with
  | false => rfl
  | true =>
    unfold newestHd loads at h
    by_cases h2 : s.n < 2
    · rw [if_pos h2] at h
      rw [if_neg (by decide)] at h
      have h' := congrArg Prod.snd h; simp at h'
    · rw [if_neg h2, if_pos hd] at h
      rw [if_neg (by decide)] at h
      have h' := congrArg Prod.snd h; simp at h'
/-- What Open asks of the header that counts as the newest. -/
structure Hok (c : Hd) (m : Nat) : Prop where
  area : c.area = 0 ∨ c.area = 1
  snaps : c.snaps = (m : Int)
  small : m < 65536
  first : 1 ≤ c.first ∧ c.first < 281474976710656
  seq : 0 ≤ c.seq ∧ c.seq < 4611686018427387904
  boot : 0 ≤ c.boot ∧ c.boot < 4611686018427387904
def opened (area : Nat) (c : Hd) (R : List Fr) : Jw := ⟨area, nextHd c, c.first - 1 + (R.length : Int), total R, false⟩
set_option maxRecDepth 100000 in
set_option maxHeartbeats 8000000 in
theorem o_open {w0 w : World} {L : List As} {F D : Nat} {s : Ds} (h : Mem.Own w0 (dk F D s :: L) w) (hok : s.ok) (area : Nat) (ha : 1 ≤ area ∧ area ≤ 32000) (hn : s.n = 2 + 2 * area) (hroom : s.pend.length < 4294967296) (c : Hd) (m : Nat) (hc : newestHd s = (c, 0)) (hh : Hok c m) (R : List Fr)
    (hF : Found s.look (beg area c.area + area) (beg area c.area) c.first 1 m R) (hm : m ≤ R.length) :
    Calls Tryz.prog 24 #[.pointer (some ⟨D, 0, none⟩), .int .i64 (area : Int)] w fun e w' =>
      ((saves s (nextHd c)).1 = 0 → ∃ J vS vR, e = .returned (.tuple #[.pointer (some ⟨J, 0, none⟩), vS, vR, .int .i64 0]) ∧ Mem.Own w0 (jA J D (opened area c R) :: dk F D (saves s (nextHd c)).2 :: secA vR (R.length - m) (fun i => xsF R (m + i)) :: secA vS m (xsF R) :: L) w') ∧
      ((saves s (nextHd c)).1 ≠ 0 → e = .returned (.tuple #[.pointer none, .slice none 0 0, .slice none 0 0, .int .i64 (saves s (nextHd c)).1]) ∧ Mem.Own w0 (dk F D (saves s (nextHd c)).2 :: L) w') := by
  have hdead := newest_alive hc
  obtain ⟨A, hA, hA2⟩ : ∃ A : Nat, c.area = (A : Int) ∧ A < 2 := by
    rcases hh.area with e | e
    · exact ⟨0, e, by decide⟩
    · exact ⟨1, e, by decide⟩
  have hsect : ∀ W, Mem.Own w0 (dk F D s :: L) W → Calls Tryz.prog 45 #[.pointer (some ⟨D, 0, none⟩)] W fun e w' => e = .returned (.int .i64 (s.n : Int)) ∧ Mem.Own w0 (dk F D s :: L) w' := fun W hW => o_sectors hW 0 rfl
  have hnew : ∀ W, Mem.Own w0 (dk F D s :: L) W → Calls Tryz.prog 49 #[.pointer (some ⟨D, 0, none⟩)] W fun e w' => e = .returned (.tuple #[.agg #[.int .i64 c.seq, .int .i64 c.boot, .int .i64 c.area, .int .i64 c.first, .int .i64 c.snaps], .int .i64 0]) ∧ Mem.Own w0 (dk F D s :: L) w' := fun W hW => by
    have := o_newest hW 0 (s := s) rfl
    rw [hc] at this
    exact this
  -- the journal and the header's box
  have hmade : ∀ W, Mem.Own w0 (dk F D s :: L) W → Mem.Own w0 (jA (W.heap.size + 1) D ⟨area, c, c.first - 1, 0, false⟩ :: dk F D s :: boxA W.heap.size #[.int .i64 c.seq, .int .i64 c.boot, .int .i64 c.area, .int .i64 c.first, .int .i64 c.snaps] 74 :: L)
      ((W.alloc (.cells #[.int .i64 c.seq, .int .i64 c.boot, .int .i64 c.area, .int .i64 c.first, .int .i64 c.snaps] 74)).alloc (.cells #[.pointer (some ⟨D, 0, none⟩), .int .i64 (area : Int), .int .i64 2, .int .i64 (2 + (area : Int)), .int .i64 c.seq, .int .i64 c.boot, .int .i64 c.area, .int .i64 c.first, .int .i64 c.snaps, .int .i64 (c.first - 1), .int .i64 0, .bool false] 76)) := fun W hW => by
    have h1 := (hW.box #[.int .i64 c.seq, .int .i64 c.boot, .int .i64 c.area, .int .i64 c.first, .int .i64 c.snaps] 74).box #[.pointer (some ⟨D, 0, none⟩), .int .i64 (area : Int), .int .i64 2, .int .i64 (2 + (area : Int)), .int .i64 c.seq, .int .i64 c.boot, .int .i64 c.area, .int .i64 c.first, .int .i64 c.snaps, .int .i64 (c.first - 1), .int .i64 0, .bool false] 76
    rw [World.size_alloc] at h1
    exact own_swap (L1 := [_]) h1
  have hcol : ∀ J B W, Mem.Own w0 (jA J D ⟨area, c, c.first - 1, 0, false⟩ :: dk F D s :: boxA B #[.int .i64 c.seq, .int .i64 c.boot, .int .i64 c.area, .int .i64 c.first, .int .i64 c.snaps] 74 :: L) W →
      Calls Tryz.prog 50 #[.pointer (some ⟨J, 0, none⟩)] W fun e w' => ∃ aS dS aR dR, e = .returned (.tuple #[.slice aS m dS, .slice aR (R.length - m) dR]) ∧
        (w'.cell? ⟨B, 0, none⟩ = some (.int .i64 c.seq) ∧ w'.cell? ⟨B, 1, none⟩ = some (.int .i64 c.boot) ∧ w'.cell? ⟨B, 2, none⟩ = some (.int .i64 c.area) ∧ w'.cell? ⟨B, 3, none⟩ = some (.int .i64 c.first) ∧ w'.cell? ⟨B, 4, none⟩ = some (.int .i64 c.snaps)) ∧ (∀ i, w'.frozen? ⟨B, i, none⟩ = false) ∧
        Mem.Own w0 (boxA B #[.int .i64 c.seq, .int .i64 c.boot, .int .i64 c.area, .int .i64 c.first, .int .i64 c.snaps] 74 :: jA J D ⟨area, c, c.first - 1 + (R.length : Int), total R, false⟩ :: dk F D s :: secA (.slice aR (R.length - m) dR) (R.length - m) (fun i => xsF R (m + i)) :: secA (.slice aS m dS) m (xsF R) :: L) w' := fun J B W hW => by
    refine (o_collect hW hok hdead A hA hA2 ha.2 hn rfl m hh.snaps hh.small ⟨by have := hh.first; show 0 ≤ c.first - 1; omega, by have := hh.first; show c.first - 1 < _; omega⟩ R (by
      show Found s.look (beg area c.area + area) (beg area c.area) (c.first - 1 + 1) 1 m R
      rw [show c.first - 1 + 1 = c.first by omega]; exact hF)).mono ?_
    rintro e w' ⟨vS, vR, rfl, hw⟩
    rw [show min R.length m = m by omega] at hw
    obtain ⟨aR, dR, rfl⟩ := own_slice hw 0 rfl
    obtain ⟨aS, dS, rfl⟩ := own_slice hw 1 rfl
    have hb := hblock (hw.boxed 4 rfl)
    refine ⟨aS, dS, aR, dR, rfl, hb.1, hb.2, ?_⟩
    -- vR vS j d B  ->  B j d vR vS
    have h1 := own_swap (L1 := []) hw
    have h2 := own_swap (L1 := [_]) h1
    have h3 := own_swap (L1 := [_, _]) h2
    have h4 := own_swap (L1 := [_, _, _]) h3
    have h5 := own_swap (L1 := []) h4
    have h6 := own_swap (L1 := [_]) h5
    have h7 := own_swap (L1 := [_, _]) h6
    have g1 := own_swap (L1 := [_]) h7
    have g2 := own_swap (L1 := []) g1
    have g3 := own_swap (L1 := [_, _, _]) g2
    exact g3
  have hsv : ∀ J B aS dS aR dR W, Mem.Own w0 (boxA B #[.int .i64 c.seq, .int .i64 c.boot, .int .i64 c.area, .int .i64 c.first, .int .i64 c.snaps] 74 :: jA J D ⟨area, c, c.first - 1 + (R.length : Int), total R, false⟩ :: dk F D s :: secA (.slice aR (R.length - m) dR) (R.length - m) (fun i => xsF R (m + i)) :: secA (.slice aS m dS) m (xsF R) :: L) W →
      Calls Tryz.prog 35 #[.pointer (some ⟨J, 0, none⟩), .agg #[.int .i64 (c.seq + 1), .int .i64 (c.boot + 1), .int .i64 c.area, .int .i64 c.first, .int .i64 c.snaps]] ((W.setCell ⟨B, 0, none⟩ (.int .i64 (c.seq + 1))).setCell ⟨B, 1, none⟩ (.int .i64 (c.boot + 1))) fun e w' => e = .returned (.int .i64 (saves s (nextHd c)).1) ∧
        ((saves s (nextHd c)).1 = 0 → Mem.Own w0 (jA J D (opened area c R) :: dk F D (saves s (nextHd c)).2 :: secA (.slice aR (R.length - m) dR) (R.length - m) (fun i => xsF R (m + i)) :: secA (.slice aS m dS) m (xsF R) :: L) w') ∧
        ((saves s (nextHd c)).1 ≠ 0 → Mem.Own w0 (dk F D (saves s (nextHd c)).2 :: L) w') := fun J B aS dS aR dR W hW => by
    have h1 := ((hW.boxset 0 rfl 0 (.int .i64 (c.seq + 1))).boxset 0 rfl 1 (.int .i64 (c.boot + 1))).tail
    refine (o_jsave h1 hroom (nextHd c)).mono ?_
    rintro e w' ⟨rfl, hw⟩
    refine ⟨rfl, fun h0 => ?_, fun _ => ?_⟩
    · have ej : (jsaves ⟨area, c, c.first - 1 + (R.length : Int), total R, false⟩ s (nextHd c)).2.1 = opened area c R := by
        unfold jsaves opened
        simp only [h0]
        rfl
      rw [ej] at hw
      exact hw
    · have q1 := hw.tail
      exact q1.pick (fun i => if i = 0 then 0 else i + 2) (fun i j _ _ e => by by_cases hi : i = 0 <;> by_cases hj : j = 0 <;> simp [hi, hj] at e <;> omega) fun i a hi => by
        match i, hi with
        | 0, hi => exact hi
        | i + 1, hi => exact hi
  obtain ⟨V, hV⟩ : ∃ V, V = saves s (nextHd c) := ⟨_, rfl⟩
  rw [← hV] at hsv ⊢
  obtain ⟨E, hE⟩ : ∃ E, E = V.1 := ⟨_, rfl⟩
  rw [← hE] at hsv ⊢
  have HH := Lib.hid (And.intro hsect (And.intro hnew (And.intro hmade (And.intro hcol (And.intro hsv h)))))
  have t1 : decide ((area : Int) < 1) = false := by simp; omega
  have t2 : decide ((area : Int) > 32000) = false := by simp; omega
  have t3 : ((s.n : Int) != 2 + 2 * (area : Int)) = false := by simp; omega
  have hs1 := hh.seq
  have hs2 := hh.boot
  have hs3 := hh.first
  have hs4 := hh.snaps
  have t4 : decide ((m : Int) < c.snaps) = false := by rw [hs4]; simp
  obtain ⟨S, hS⟩ : ∃ S : Int, S = (s.n : Int) := ⟨_, rfl⟩
  clear hsect hnew hmade hcol hsv h hF hc hV hE hok hh hA hs4
  by_cases he : E = 0
  · subst he
    go_enter Tryz.func24, Tryz.ntmps24
    go_wp2_with (first
      | (go_at_call 45; (with_reducible refine (HH.out.1 _ HH.out.2.2.2.2.2).mono ?_); rintro e u1 ⟨rfl, k1'⟩; have k1 := Lib.hid k1'; clear k1')
      | (go_at_call 49; (with_reducible refine (HH.out.2.1 _ k1.out).mono ?_); rintro e u2 ⟨rfl, k2'⟩; have k2 := Lib.hid (HH.out.2.2.1 _ k2'); clear k2')
      | (go_at_call 50; (with_reducible refine (HH.out.2.2.2.1 _ _ _ k2.out).mono ?_); rintro e u3 ⟨aS, dS, aR, dR, rfl, ⟨_, _, _, _, _⟩, fz, k3'⟩; have k3 := Lib.hid k3'; clear k3')
      | (go_at_call 35; (with_reducible refine (HH.out.2.2.2.2.1 _ _ _ _ _ _ _ k3.out).mono ?_); rintro e u4 ⟨rfl, k4', _⟩; have k4 := Lib.hid k4'; clear k4'))
    refine bodyPost_ret (v := .tuple #[.pointer (some ⟨u2.heap.size + 1, 0, none⟩), .slice aS m dS, .slice aR (R.length - m) dR, .int .i64 0]) (by simp [results, Tryz.results24, go_sem]) rfl ?_
    exact ⟨fun _ => ⟨_, _, _, rfl, k4.out (by trivial)⟩, fun h => absurd rfl h⟩
  · have te : (E != 0) = true := by simpa using he
    have HE := Lib.hid he
    clear he
    go_enter Tryz.func24, Tryz.ntmps24
    go_wp2_with (first
      | (go_at_call 45; (with_reducible refine (HH.out.1 _ HH.out.2.2.2.2.2).mono ?_); rintro e u1 ⟨rfl, k1'⟩; have k1 := Lib.hid k1'; clear k1')
      | (go_at_call 49; (with_reducible refine (HH.out.2.1 _ k1.out).mono ?_); rintro e u2 ⟨rfl, k2'⟩; have k2 := Lib.hid (HH.out.2.2.1 _ k2'); clear k2')
      | (go_at_call 50; (with_reducible refine (HH.out.2.2.2.1 _ _ _ k2.out).mono ?_); rintro e u3 ⟨aS, dS, aR, dR, rfl, ⟨_, _, _, _, _⟩, fz, k3'⟩; have k3 := Lib.hid k3'; clear k3')
      | (go_at_call 35; (with_reducible refine (HH.out.2.2.2.2.1 _ _ _ _ _ _ _ k3.out).mono ?_); rintro e u4 ⟨rfl, _, k4'⟩; have k4 := Lib.hid k4'; clear k4'))
    refine bodyPost_ret (v := .tuple #[.pointer none, .slice none 0 0, .slice none 0 0, .int .i64 E]) (by simp [results, Tryz.results24, go_sem]) rfl ?_
    exact ⟨fun h => absurd h HE.out, fun _ => ⟨rfl, k4.out HE.out⟩⟩
end Go.Proofs.YtckbhjjflpobbaaGreat.Jk
