/-
  The specification's Read of a record where the first frame does not rule it out.
-/
import Derived.Test.YtckbhjjflpobbaaGreatGq
import Derived.Test.YtckbhjjflpobbaaGreatGr
namespace Go.Proofs.YtckbhjjflpobbaaGreat.Rc
open Go Go.RowKit Go.ChangeShapes Go.WideShapes Go.ChangeAt Go.Proofs.YtckbhjjflpobbaaGreat.Mem Go.Proofs.YtckbhjjflpobbaaGreat.Pk Go.Proofs.YtckbhjjflpobbaaGreat.Fk Go.Proofs.YtckbhjjflpobbaaGreat.Dz Go.Proofs.YtckbhjjflpobbaaGreat.Fz
set_option linter.unusedVariables false

theorem cat_any (a : List UInt8) (s : ByteArray) (h : a.length + s.size ≤ 100000) (W : World) : (Op.stringOp .add (str a) s).run Tryz.prog W = .ok (.string (str (a ++ s.data.toList))) W := by
  have := cat_str a s.data.toList (a ++ s.data.toList) rfl (by rw [size_list]; omega) W
  have e : (⟨s.data.toList.toArray⟩ : ByteArray) = s := str_list s
  rw [e] at this
  exact this
set_option maxRecDepth 100000 in
set_option maxHeartbeats 8000000 in
theorem rfetch_main (w w1 : World) (R G Sb n t u p : Nat) (lsn boot : Int) (S : Nat → ByteArray) (X : Fr) (hX : X = decF (S t)) (hg : X.good) (hk : X.kind < 256) (hE : decE (S t) = 0) (a2 : X.lsn = lsn) (a3 : boot ≤ X.boot) (a4 : X.part = 0) (hp : X.parts = (p : Int)) (hp1 : 1 ≤ p) (hp255 : p ≤ 255) (htu : t < u) (hpu : t + p ≤ u) (hun : u ≤ n) (hn : n ≤ 65536)
    (HW : Hid (w1 = w.alloc (.cells #[.int .i64 0, .int .i64 0, .int .i64 0, .int .i64 0, .int .u8 0, .string ⟨#[]⟩] 113)))
    (H0 : Hid (Kept w w1 ∧ w1.heap[w.heap.size]? = some (.cells (fcells 0 0 0 0 0 ⟨#[]⟩) 113 (0, 0)))) (hs1 : w1.heap.size = w.heap.size + 1)
    (s0 : (w.alloc (.cells #[.int .i64 0, .int .i64 0, .int .i64 0, .int .i64 0, .int .u8 0, .string ⟨#[]⟩] 113)).cell? ⟨R, 0, none⟩ = some (.slice (some ⟨Sb, 0, none⟩) n n))
    (s2 : (w.alloc (.cells #[.int .i64 0, .int .i64 0, .int .i64 0, .int .i64 0, .int .u8 0, .string ⟨#[]⟩] 113)).cell? ⟨R, 2, none⟩ = some (.pointer (some ⟨G, 0, none⟩)))
    (sd : (w.alloc (.cells #[.int .i64 0, .int .i64 0, .int .i64 0, .int .i64 0, .int .u8 0, .string ⟨#[]⟩] 113)).cell? ⟨G, 1, none⟩ = some (.bool false))
    (hrd : ∀ (m : Nat) (W : World), m < n → Kept w1 W → Calls Tryz.prog 47 #[.pointer (some ⟨R, 0, none⟩), .int .i64 (m : Int)] W fun e w' => e = .returned (.tuple #[.string (S m), .int .i64 0]) ∧ Kept W w')
    (HRET : Hid (∀ (W : World), Kept w1 W → ∀ (f : Fr) (E : Int) (tm : Array Value), tm[10]?.getD undef = .pointer (some ⟨w.heap.size, 0, none⟩) → tm[11]?.getD undef = .int .i64 E → bodyPost Tryz.prog Tryz.f53 (fun e w' => e = .returned (.tuple #[.agg #[.int .i64 f.boot, .int .i64 f.lsn, .int .i64 f.part, .int .i64 f.parts, .int .u8 (f.kind : Int), .string f.data], .int .i64 E]) ∧ Kept w w') Exit.ret ⟨tm, []⟩
      ((((((W.setCell ⟨w.heap.size, 0, none⟩ (.int .i64 f.boot)).setCell ⟨w.heap.size, 1, none⟩ (.int .i64 f.lsn)).setCell ⟨w.heap.size, 2, none⟩ (.int .i64 f.part)).setCell ⟨w.heap.size, 3, none⟩ (.int .i64 f.parts)).setCell ⟨w.heap.size, 4, none⟩ (.int .u8 (f.kind : Int))).setCell ⟨w.heap.size, 5, none⟩ (.string f.data)))) :
    Calls Tryz.prog 53 #[.pointer (some ⟨R, 0, none⟩), .int .i64 (t : Int), .int .i64 (u : Int), .int .i64 lsn, .int .i64 boot] w fun ed w' => ed = .returned (.tuple #[.agg #[.int .i64 (rdF S t u lsn boot).boot, .int .i64 (rdF S t u lsn boot).lsn, .int .i64 (rdF S t u lsn boot).part, .int .i64 (rdF S t u lsn boot).parts, .int .u8 ((rdF S t u lsn boot).kind : Int), .string (rdF S t u lsn boot).data], .int .i64 (rdE S t u lsn boot)]) ∧ Kept w w' := by
  subst a2
  have g1 : decide ((u : Int) < (t : Int)) = false := by simp; omega
  have g2 : decide ((n : Int) < (u : Int)) = false := by simp; omega
  have g3 : ((t : Int) == (u : Int)) = false := by simp; omega
  have b3 : decide (X.boot < boot) = false := by simp; omega
  have b4 : (X.part != 0) = false := by simp [a4]
  have b5 : decide ((u : Int) - (t : Int) < (p : Int)) = false := by simp; omega
  obtain ⟨DT, hDT⟩ : ∃ DT, DT = str (joined S t p) := ⟨_, rfl⟩
  have hDs : DT.size ≤ 11220 := by
    rw [hDT, size_str]
    have := data_len (S := S) (t := t) (k := p)
    omega
  have hcand : cand S t = ⟨X.boot, X.lsn, 0, X.parts, X.kind, DT⟩ := by
    unfold cand
    rw [← hX, hp, Int.toNat_natCast, hDT]
  have hnum : num X.boot X.lsn := ⟨hg.b1, hg.b2, hg.l1, hg.l2⟩
  obtain ⟨E2, hE2⟩ : ∃ E2, E2 = secE X.boot X.lsn DT := ⟨_, rfl⟩
  obtain ⟨M, hM⟩ : ∃ M, M = nS X.boot X.lsn DT := ⟨_, rfl⟩
  obtain ⟨Y, hY⟩ : ∃ Y, Y = sec X.boot X.lsn X.kind DT := ⟨_, rfl⟩
  have hM255 : M ≤ 300 := by rw [hM]; unfold nS parts; split <;> omega
  have csec : ∀ W, Calls Tryz.prog 61 #[.int .i64 X.boot, .int .i64 X.lsn, .int .u8 (X.kind : Int), .string DT] W fun e w' => ∃ ao cap, e = .returned (.tuple #[.slice ao M cap, .int .i64 E2]) ∧ SAt w' ao M Y ∧ Kept W w' := fun W => by
    refine (rsectors_c X.boot X.lsn X.kind DT hk (Nat.le_trans hDs (by decide)) W).mono ?_
    rintro e w' ⟨v, he, hrow, hk⟩
    obtain ⟨ao, cap, rfl, hs⟩ := strings_at hrow
    rw [← hM, ← hE2] at he
    rw [← hM, ← hY] at hs
    exact ⟨ao, cap, he, hs, hk⟩
  -- what decides
  have hno : (E2 ≠ 0 ∨ M ≠ p ∨ ∃ i, i < M ∧ S (t + i) ≠ Y i) → rdF S t u X.lsn boot = Fr.nil ∧ rdE S t u X.lsn boot = 12 := fun h => by
    refine rdF_bad (rd_not ?_)
    rw [hcand, ← hX]
    by_cases h4 : 4096 < DT.size
    · exact .inl h4
    · obtain ⟨e1, e2⟩ := secE_ok (d := DT) (by omega) hnum
      rw [← hE2] at e1
      rw [← hM] at e2
      rcases h with h | h | ⟨i, h1, h2⟩
      · exact absurd e1 h
      · exact .inr (.inl (by rw [hp]; show (p : Int) ≠ (parts DT.size : Int); omega))
      · exact .inr (.inr ⟨i, by rw [← e2]; exact h1, by rw [← hY]; exact h2⟩)
  have hyes : E2 = 0 → M = p → (∀ i, i < M → S (t + i) = Y i) → rdF S t u X.lsn boot = ⟨X.boot, X.lsn, 0, X.parts, X.kind, DT⟩ ∧ rdE S t u X.lsn boot = 0 := fun h1 h2 h3 => by
    obtain ⟨_, h4⟩ := (secE_zero _ _ _).mp (hE2 ▸ h1)
    obtain ⟨_, e2⟩ := secE_ok (d := DT) h4 hnum
    rw [← hM] at e2
    have hr := rd_cand (S := S) (t := t) (u := u) (lsn := X.lsn) (boot := boot) hE (by rw [← hX]) (by rw [← hX]; exact a3) (by rw [← hX, hp]; omega) (by rw [hcand]; exact h4) (by rw [hcand, ← hX, hp, ← h2, e2]) (fun i hi => by
      rw [hcand] at hi ⊢
      rw [← hX, ← hY]
      exact h3 i (by rw [e2]; exact hi))
    rw [hcand] at hr
    exact rdF_ok hr
  have hr0 := hrd t _ (by omega) (Kept.refl w1)
  rw [HW.out] at hr0
  have hcd : ∀ i W, Calls Tryz.prog 77 #[.string (S (t + i))] W fun e w' => e = .returned (.tuple #[.agg #[.int .i64 (Xs S t i).boot, .int .i64 (Xs S t i).lsn, .int .i64 (Xs S t i).part, .int .i64 (Xs S t i).parts, .int .u8 ((Xs S t i).kind : Int), .string (Xs S t i).data], .int .i64 (decE (S (t + i)))]) ∧ Kept W w' := fun i W => rdecode_c (S (t + i)) W
  have hc0 := rdecode_c (S t)
  rw [← hX, hE] at hc0
  have hrd2 : ∀ (i : Nat) (W : World), i < p → Kept w1 W → Calls Tryz.prog 47 #[.pointer (some ⟨R, 0, none⟩), .int .i64 ((t : Int) + (i : Int))] W fun e w' => e = .returned (.tuple #[.string (S (t + i)), .int .i64 0]) ∧ Kept W w' := fun i W hi hW => hrd (t + i) W (by omega) hW
  have hcat : ∀ i W, i < p → (Op.stringOp .add (str (joined S t i)) (Xs S t i).data).run Tryz.prog W = .ok (.string (str (joined S t (i + 1)))) W := fun i W hi => by
    have h44 : (Xs S t i).data.size ≤ 44 := by
      unfold Xs
      rcases decE_or (S (t + i)) with ⟨h, _⟩ | ⟨_, _, e⟩
      · exact (dec_good h).1.short
      · rw [e]; decide
    exact cat_any _ _ (by have := data_len (S := S) (t := t) (k := i); omega) W
  have hj1 : joined S t 1 = X.data.data.toList := by rw [hX]; rfl
  obtain ⟨L0, hL0⟩ : ∃ L0, L0 = S t := ⟨_, rfl⟩
  rw [← hL0] at hr0 hc0
  obtain ⟨XB, XP, XD, hXX⟩ : ∃ XB XP XD, XB = X.boot ∧ XP = X.part ∧ XD = X.data := ⟨_, _, _, rfl, rfl, rfl⟩
  have HA := Lib.hid (And.intro hno (And.intro hyes (And.intro csec (And.intro hcd (And.intro hrd2 (And.intro hcat (And.intro hj1 hDT)))))))
  clear hno hyes csec hcd hrd2 hcat hj1 hDT hL0 hcand hnum hE2 hM hY hE hrd hX hg hXX XB XP XD
  rw [hp] at hc0
  go_enter Tryz.func53, Tryz.ntmps53
  go_wp2_with (first
    | (go_at_call 47; (with_reducible refine hr0.mono ?_); rintro e u1 ⟨rfl, k2⟩; rw [← HW.out] at k2)
    | (go_at_call 77; (with_reducible refine (hc0 _).mono ?_); rintro e u2 ⟨rfl, k3⟩; have kz := Lib.hid (k2.trans k3); clear k2 k3))
  have hfb : w1.heap.size ≤ u2.heap.size := kz.out.size
  have kV0 : Kept w1 (u2.alloc (.cells #[.int .i64 X.boot, .int .i64 X.lsn, .int .i64 0, .int .i64 (p : Int), .int .u8 (X.kind : Int), .string X.data] 113)) := kz.out.alloc _
  have bV0 : (u2.alloc (.cells #[.int .i64 X.boot, .int .i64 X.lsn, .int .i64 0, .int .i64 (p : Int), .int .u8 (X.kind : Int), .string X.data] 113)).heap[u2.heap.size]? = some (.cells (fcells X.boot X.lsn 0 (p : Int) X.kind X.data) 113 (0, 0)) := World.alloc_heap_new u2 _
  generalize (u2.alloc (.cells #[.int .i64 X.boot, .int .i64 X.lsn, .int .i64 0, .int .i64 (p : Int), .int .u8 (X.kind : Int), .string X.data] 113)) = V at kV0 bV0 ⊢
  have HV := Lib.hid (And.intro kV0 bV0)
  clear kV0 bV0 hc0 hr0 kz s0 s2 sd
  generalize u2.heap.size = fb at hfb HV ⊢
  go_loopw [16, 17] (fun d i wr => ∃ k : Nat, 1 ≤ k ∧ k ≤ p ∧ i = .int .i64 (k : Int) ∧ d = .string (str (joined S t k)) ∧ Kept V wr) (fun _ i _ => p - (intOf i).toNat)
  case atStart => exact ⟨1, Nat.le_refl 1, hp1, rfl, by rw [HA.out.2.2.2.2.2.2.1, str_list], Kept.refl _⟩
  case round =>
    obtain ⟨k, h1k, hkp, rfl, rfl, hK⟩ := hrel
    have HK := Lib.hid hK
    clear hK
    obtain ⟨⟨r0, r1, r2, r3, r4, r5⟩, fz⟩ := rblock (HK.out.block HV.out.2)
    by_cases hlt : k < p
    · have hrd3 := HA.out.2.2.2.2.1 k wr hlt (HV.out.1.trans HK.out)
      have hcd3 := HA.out.2.2.2.1 k
      have hcat := fun W => HA.out.2.2.2.2.2.1 k W hlt
      generalize Xs S t k = Z at hcd3 hcat
      generalize decE (S (t + k)) = Ez at hcd3
      generalize S (t + k) = Lk at hrd3 hcd3
      obtain ⟨W0, hW0⟩ : ∃ W0, W0 = str (joined S t k) := ⟨_, rfl⟩
      obtain ⟨W1, hW1⟩ : ∃ W1, W1 = str (joined S t (k + 1)) := ⟨_, rfl⟩
      rw [← hW0, ← hW1] at hcat
      rw [← hW0]
      have H1 := Lib.hid hW1
      clear hW0 hW1
      go_wp2_with (first
        | (go_at_call 47; (with_reducible refine hrd3.mono ?_); rintro e u3 ⟨rfl, k3⟩; have kk3 := Lib.hid (HK.out.trans k3); clear k3)
        | (go_at_call 77; (with_reducible refine (hcd3 _).mono ?_); rintro e u4 ⟨rfl, k4⟩; have kk4 := Lib.hid (kk3.out.trans k4); clear k4))
      exact ⟨⟨k + 1, by omega, by omega, rfl, by rw [H1.out], kk4.out.alloc _⟩, by simp [intOf]; omega⟩
    · obtain rfl : k = p := by omega
      obtain ⟨DT', hDT'⟩ : ∃ DT', DT' = str (joined S t k) := ⟨_, rfl⟩
      have eDT : DT = DT' := HA.out.2.2.2.2.2.2.2.trans hDT'.symm
      rw [← hDT']
      subst eDT
      clear hDT'
      by_cases hE0 : E2 = 0
      · by_cases hMk : M = k
        · have hq1 : (E2 != 0) = false := by simp [hE0]
          have hq2 : ((M : Int) != (k : Int)) = false := by simp [hMk]
          have HE := Lib.hid (And.intro hE0 hMk)
          clear hE0 hMk
          go_wp2_with (go_at_call 61; refine (HA.out.2.2.1 _).mono ?_; rintro e u5 ⟨ao, cap, rfl, hS, k5⟩; have kk5 := Lib.hid (HK.out.trans k5); clear k5; obtain ⟨⟨c0, c1, c2, c3, c4, c5⟩, cz⟩ := rblock (kk5.out.block HV.out.2); obtain ⟨⟨d0, d1, d2, d3, d4, d5⟩, dz⟩ := rblock ((HV.out.1.trans kk5.out).block H0.out.2))
          have HS := Lib.hid hS
          clear hS r0 r1 r2 r3 r4 r5 fz c0 c1 c2 c3 c4 c5 cz d0 d1 d2 d3 d4 d5 dz
          go_loopw [21] (fun i wr => ∃ j : Nat, j ≤ M ∧ i = .int .i64 (j : Int) ∧ (∀ i, i < j → S (t + i) = Y i) ∧ Kept u5 wr) (fun i _ => M - (intOf i).toNat)
          case atStart => exact ⟨0, Nat.zero_le _, rfl, fun i h => absurd h (by omega), Kept.refl _⟩
          case round =>
            obtain ⟨j, hj, rfl, hall, hK6⟩ := hrel
            have HK6 := Lib.hid hK6
            clear hK6
            obtain ⟨⟨c0, c1, c2, c3, c4, c5⟩, cz⟩ := rblock ((kk5.out.trans HK6.out).block HV.out.2)
            obtain ⟨⟨d0, d1, d2, d3, d4, d5⟩, dz⟩ := rblock ((HV.out.1.trans (kk5.out.trans HK6.out)).block H0.out.2)
            have hneA : ¬ w.heap.size = fb := by omega
            have hneB : ¬ fb = w.heap.size := by omega
            by_cases hlt : j < M
            · have hrd4 := HA.out.2.2.2.2.1 j wr (by rw [← HE.out.2]; exact hlt) (HV.out.1.trans (kk5.out.trans HK6.out))
              by_cases hq : S (t + j) = Y j
              · obtain ⟨Lj, hLj⟩ : ∃ Lj, Lj = Y j := ⟨_, rfl⟩
                rw [hq, ← hLj] at hrd4
                have HJ := Lib.hid (And.intro hq (And.intro hall hLj))
                clear hq hall hLj c0 c1 c2 c3 c4 c5 cz d0 d1 d2 d3 d4 d5 dz
                go_wp2_with (go_at_call 47; (with_reducible refine hrd4.mono ?_); rintro e u7 ⟨rfl, k7⟩; have kk7 := Lib.hid (HK6.out.trans k7); clear k7; obtain ⟨g, eg, x0⟩ := (HS.out.kept kk7.out) j hlt; cases eg; rw [← HJ.out.2.2] at x0)
                exact ⟨⟨j + 1, by omega, rfl, fun i hi => by
                  by_cases e : i = j
                  · rw [e]; exact HJ.out.1
                  · exact HJ.out.2.1 i (by omega), kk7.out⟩, by simp [intOf]; omega⟩
              · have ht := toList_ne hq
                obtain ⟨e1, e2⟩ := HA.out.1 (.inr (.inr ⟨j, hlt, hq⟩))
                generalize S (t + j) = Lk at hrd4 ht
                obtain ⟨Lj, hLj⟩ : ∃ Lj, Lj = Y j := ⟨_, rfl⟩
                rw [← hLj] at ht
                have HJ := Lib.hid (And.intro hLj (And.intro e1 e2))
                clear hq hall hLj c0 c1 c2 c3 c4 c5 cz d0 d1 d2 d3 d4 d5 dz e1 e2
                go_wp2_with (go_at_call 47; (with_reducible refine hrd4.mono ?_); rintro e u7 ⟨rfl, k7⟩; have kk7 := Lib.hid (HK6.out.trans k7); clear k7; obtain ⟨g, eg, x0⟩ := (HS.out.kept kk7.out) j hlt; cases eg; rw [← HJ.out.1] at x0; obtain ⟨⟨d0, d1, d2, d3, d4, d5⟩, dz⟩ := rblock ((HV.out.1.trans (kk5.out.trans kk7.out)).block H0.out.2))
                rw [HJ.out.2.1, HJ.out.2.2]
                exact HRET.out _ (HV.out.1.trans (kk5.out.trans kk7.out)) Fr.nil 12 _ rfl rfl
            · obtain rfl : j = M := by omega
              obtain ⟨e1, e2⟩ := HA.out.2.1 HE.out.1 HE.out.2 hall
              have HJ := Lib.hid (And.intro e1 e2)
              clear hall e1 e2
              go_wp2
              rw [HJ.out.1, HJ.out.2, hp]
              exact HRET.out _ ((HV.out.1.trans (kk5.out.trans HK6.out)).setCell hfb _) ⟨X.boot, X.lsn, 0, (k : Int), X.kind, DT⟩ 0 _ rfl rfl
        · have hq1 : (E2 != 0) = false := by simp [hE0]
          have hq2 : ((M : Int) != (k : Int)) = true := by simp; omega
          obtain ⟨e1, e2⟩ := HA.out.1 (.inr (.inl hMk))
          have HEE := Lib.hid (And.intro e1 e2)
          clear e1 e2 hE0 hMk
          go_wp2_with (go_at_call 61; refine (HA.out.2.2.1 _).mono ?_; rintro e u5 ⟨ao, cap, rfl, hS, k5⟩; have kk5 := Lib.hid (HK.out.trans k5); clear k5; obtain ⟨⟨c0, c1, c2, c3, c4, c5⟩, cz⟩ := rblock (kk5.out.block HV.out.2); obtain ⟨⟨d0, d1, d2, d3, d4, d5⟩, dz⟩ := rblock ((HV.out.1.trans kk5.out).block H0.out.2))
          rw [HEE.out.1, HEE.out.2]
          exact HRET.out _ (HV.out.1.trans kk5.out) Fr.nil 12 _ rfl rfl
      · have hq1 : (E2 != 0) = true := by simp [hE0]
        obtain ⟨e1, e2⟩ := HA.out.1 (.inl hE0)
        have HEE := Lib.hid (And.intro e1 e2)
        clear e1 e2 hE0
        go_wp2_with (go_at_call 61; refine (HA.out.2.2.1 _).mono ?_; rintro e u5 ⟨ao, cap, rfl, hS, k5⟩; have kk5 := Lib.hid (HK.out.trans k5); clear k5; obtain ⟨⟨c0, c1, c2, c3, c4, c5⟩, cz⟩ := rblock (kk5.out.block HV.out.2); obtain ⟨⟨d0, d1, d2, d3, d4, d5⟩, dz⟩ := rblock ((HV.out.1.trans kk5.out).block H0.out.2))
        rw [HEE.out.1, HEE.out.2]
        exact HRET.out _ (HV.out.1.trans kk5.out) Fr.nil 12 _ rfl rfl
end Go.Proofs.YtckbhjjflpobbaaGreat.Rc
