/-
  JournalRefuses: its walk.
-/
import Derived.Test.YtjbcpfndpfeepaaJra
import Derived.Deep.RegionLaw
import Derived.Deep.AppendLies
import Derived.Deep.RegionHeldLaw
namespace Go.Proofs.Ytjbcpfndpfeepaa.Jk
open Go Go.RowKit Go.ChangeShapes Go.WideShapes Go.ChangeAt Go.Proofs.Ytjbcpfndpfeepaa.Mem Go.Proofs.Ytjbcpfndpfeepaa.Pk Go.Proofs.Ytjbcpfndpfeepaa.Fk Go.Proofs.Ytjbcpfndpfeepaa.Dz Go.Proofs.Ytjbcpfndpfeepaa.Fz Go.Proofs.Ytjbcpfndpfeepaa.Rc
open Go.Proofs.Ytjbcpfndpfeepaa.Hk (Hd saves loads o_save o_load hblock)

theorem perm_ja {w0 w : World} {a b c : As} {A : List As} (h : Mem.Own w0 (a :: b :: c :: A) w) : Mem.Own w0 (b :: c :: a :: A) w :=
  own_swap (L1 := [_]) (own_swap (L1 := []) h)
theorem perm_aj {w0 w : World} {a b c : As} {A : List As} (h : Mem.Own w0 (b :: c :: a :: A) w) : Mem.Own w0 (a :: b :: c :: A) w :=
  own_swap (L1 := []) (own_swap (L1 := [_]) h)
set_option maxRecDepth 100000 in
set_option maxHeartbeats 8000000 in
theorem refuses_core (w : World) (n : Nat) (hn : n ≤ 255) {aL : Option Addr} {lenL capL : Nat} {XL : Nat → ByteArray} (hX : SAo w aL lenL XL) (hoL : ∀ i, i < lenL → (XL i).size ≤ maxLen) (d : ByteArray) (hd : d.size ≤ maxLen) {aS : Option Addr} {lenS capS : Nat} {XS : Nat → ByteArray} (hS : SAo w aS lenS XS) (hoS : ∀ i, i < lenS → (XS i).size ≤ maxLen) (h1 : ¬ 12 < lenL) (h2 : ¬ 20 < lenS) (h3 : ¬ 5000 < d.size) :
    Calls Try.prog 6 #[.int .u8 (n : Int), .slice aL lenL capL, .string d, .slice aS lenS capS] w fun e w' => e = .returned (.bool true) ∧ Kept w w' := by
  have H := Lib.hid (And.intro hX (And.intro hoL (And.intro hS hoS)))
  clear hX hoL hS hoS
  have t1 : decide (12 < (lenL : Int)) = false := by simp; omega
  have t2 : decide (12 < lenL) = false := by simp; omega
  have t3 : decide (20 < (lenS : Int)) = false := by simp; omega
  have t4 : decide (20 < lenS) = false := by simp; omega
  have t5 : decide (5000 < (d.size : Int)) = false := by simp; omega
  have t6 : decide (5000 < d.size) = false := by simp; omega
  have HB := Lib.hid (And.intro h1 (And.intro h2 h3))
  clear h1 h2 h3
  obtain ⟨area, hA, hA1, hA2⟩ : ∃ area : Nat, (n : Int) % 12 + 1 = (area : Int) ∧ 1 ≤ area ∧ area ≤ 12 := ⟨n % 12 + 1, by omega, by omega, by omega⟩
  have hbg := Lib.hid (begin_r area ⟨hA1, by omega⟩ w)
  go_enter Try.func6, Try.ntmps6
  go_wp2_with fail
  go_loopw [9, 10] (fun v9 v10 wr => ∃ (z : Int) (k : Nat), k ≤ lenS ∧ v9 = .int .i64 z ∧ v10 = .int .i64 (k : Int) ∧ wr = w) (fun _ i _ => lenS - (intOf i).toNat)
  case atStart => exact ⟨0, 0, by omega, rfl, rfl, rfl⟩
  case round =>
    obtain ⟨z, k, hk, rfl, rfl, hwr⟩ := hrel
    obtain rfl : w = wr := hwr.symm
    by_cases hlt : k < lenS
    · have hb2 := HB.out.2.1
      obtain ⟨g, o, rfl, x0⟩ := H.out.2.2.1 k hlt
      obtain ⟨Y, hY⟩ : ∃ Y, Y = XS k := ⟨_, rfl⟩
      rw [← hY] at x0
      clear hY
      go_wp2_with fail
      go_roundw
      case rel => exact ⟨_, k + 1, by omega, rfl, by go_num, by trivial⟩
      case measure => simp [intOf]; omega
    · go_wp2_with fail
      go_loopw [9, 11] (fun v9 v11 wr => ∃ (z : Int) (k : Nat), k ≤ lenL ∧ v9 = .int .i64 z ∧ v11 = .int .i64 (k : Int) ∧ wr = w) (fun _ i _ => lenL - (intOf i).toNat)
      case atStart => exact ⟨z, 0, by omega, rfl, rfl, rfl⟩
      case round =>
        clear hlt hk
        obtain ⟨z, k, hk, rfl, rfl, hwr⟩ := hrel
        obtain rfl : w = wr := hwr.symm
        by_cases hlt : k < lenL
        · have hb2 := HB.out.1
          obtain ⟨g, o, rfl, x0⟩ := H.out.1 k hlt
          obtain ⟨Y, hY⟩ : ∃ Y, Y = XL k := ⟨_, rfl⟩
          rw [← hY] at x0
          clear hY
          go_wp2_with fail
          go_roundw
          case rel => exact ⟨_, k + 1, by omega, rfl, by go_num, by trivial⟩
          case measure => simp [intOf]; omega
        · by_cases hz : 5000 < z
          · have tz : decide (5000 < z) = true := by simp; omega
            go_wp2_with (first
              | (go_at_call 9; (with_reducible refine hbg.out.mono ?_); rintro e u2 ⟨B, rfl, hr⟩; have k2 := Lib.hid hr; clear hr)
              | (go_at_call 8; (with_reducible refine (Jk.known_c _).mono ?_); rintro e u6 ⟨rfl, k6'⟩; have k6 := Lib.hid k6'; clear k6'))
            go_ret
            obtain ⟨F, D, J, s, c, R, A, vS, vR, nS, xS, nR, xR, r⟩ := k2.out
            exact ⟨rfl, r.own.kept.trans k6.out⟩
          · have tz : decide (5000 < z) = false := by simp; omega
            go_wp2_with (go_at_call 9; (with_reducible refine hbg.out.mono ?_); rintro e u2 ⟨B, rfl, hr⟩; have k2 := Lib.hid hr; clear hr)
            clear hbg tz hz hlt hk
            go_loopw [13] (fun i wr => ∃ z : Nat, z ≤ lenL ∧ i = .int .i64 (z : Int) ∧ IsRown w B area 1 1 (z : Int) wr) (fun i _ => lenL - (intOf i).toNat)
            case atStart => exact ⟨0, by omega, rfl, k2.out⟩
            case round =>
              obtain ⟨z, hz, rfl, hr⟩ := hrel
              have HRz := Lib.hid hr
              clear k2 hr
              by_cases hlt : z < lenL
              · obtain ⟨g, o, rfl, x0⟩ := H.out.1 z hlt
                obtain ⟨F, D, J, s, c, R, A, vS, vR, nS, xS, nR, xR, r⟩ := HRz.out
                obtain ⟨Y, hY⟩ : ∃ Y, Y = XL z := ⟨_, rfl⟩
                have hYs : Y.size ≤ maxLen := by rw [hY]; exact H.out.2.1 z hlt
                rw [← hY] at x0
                obtain ⟨aR, cR, rfl⟩ := own_slice r.own 3 rfl
                have hlb := HB.out.1
                have hjok := r.live.jok (by omega) (r.bnd.small (by omega) (by omega) (by omega) (m := 1) (by decide)) s rfl
                have hnR : nR ≤ 32000 := by have := r.data.cr; have := r.live.small; omega
                have hS18 : ∀ Q R' vv W, Mem.Own w (runA B F D (.pointer (some ⟨J, 0, none⟩)) area vS vv c.boot :: jA J D R' :: Q) W → (W.cell? ⟨B, 2, none⟩ = some (.pointer (some ⟨J, 0, none⟩)) ∧ W.cell? ⟨B, 5, none⟩ = some vv ∧ W.cell? ⟨g, o + z, none⟩ = some (.string Y)) := fun Q R' vv W h => by
                  have hb := (runBlock h 0 rfl).1
                  obtain ⟨g', o', e', x1⟩ := (H.out.1.kept h.kept) z hlt
                  cases e'
                  rw [← hY] at x1
                  exact ⟨hb.2.2.1, hb.2.2.2.2.2.1, x1⟩
                clear hY x0
                have HK := Lib.hid hS18
                rcases app_idle r.live r.bnd (by omega) (by omega) (by omega) r.data Y with ⟨E, hE, e⟩ | ⟨s', R', e, l', k', dd⟩
                · have happ : Calls Try.prog 17 #[.pointer (some ⟨J, 0, none⟩), .string Y] wr.drew fun e w' => e = .returned (.int .i64 E) ∧ Mem.Own w (runA B F D (.pointer (some ⟨J, 0, none⟩)) area vS (.slice aR nR cR) c.boot :: jA J D (jw area c R) :: dk F D s :: secA (.slice aR nR cR) nR xR :: A) w' := by
                    have q := o_append (perm_ja r.own.drew) hjok Y hYs
                    rw [e] at q
                    exact q.mono fun _ _ ⟨he, hw⟩ => ⟨he, perm_aj hw⟩
                  have HA := Lib.hid happ
                  have S1 := HK.out _ _ _ _ r.own
                  have S2 := HK.out _ _ _ _ r.own.drew
                  have HR := Lib.hid r
                  clear happ hS18 e r hjok
                  go_upto_region 18 with fail
                  rcases hE with rfl | rfl
                  all_goals
                    go_region_held3 (fun W => (W.cell? ⟨B, 2, none⟩ = some (.pointer (some ⟨J, 0, none⟩)) ∧ W.cell? ⟨B, 5, none⟩ = some (.slice aR nR cR) ∧ W.cell? ⟨g, o + z, none⟩ = some (.string Y)))
                      (first | with_reducible assumption)
                      (first
                        | (go_at_call 17; (with_reducible refine HA.out.mono ?_); rintro e u3 ⟨rfl, k3'⟩; have S3 := HK.out _ _ _ _ k3'; have k3 := Lib.hid k3'; clear k3'))
                    all_goals
                      go_wp2_with fail
                      go_roundw
                      case rel =>
                        exact ⟨z + 1, by omega, by go_num, F, D, J, s, c, R, A, vS, _, nS, xS, nR, xR, ⟨k3.out, HR.out.live, HR.out.sees, HR.out.data, HR.out.bnd.more (by omega) (by omega) (by omega)⟩⟩
                      case measure => simp [intOf]; omega
                · have happ : Calls Try.prog 17 #[.pointer (some ⟨J, 0, none⟩), .string Y] wr.drew fun e w' => e = .returned (.int .i64 0) ∧ Mem.Own w (runA B F D (.pointer (some ⟨J, 0, none⟩)) area vS (.slice aR nR cR) c.boot :: jA J D (jw area c R') :: dk F D s' :: secA (.slice aR nR cR) nR xR :: A) w' := by
                    have q := o_append (perm_ja r.own.drew) hjok Y hYs
                    rw [e] at q
                    exact q.mono fun _ _ ⟨he, hw⟩ => ⟨he, perm_aj hw⟩
                  have HA := Lib.hid happ
                  have S1 := HK.out _ _ _ _ r.own
                  have S2 := HK.out _ _ _ _ r.own.drew
                  have HR := Lib.hid (And.intro r.sees (And.intro l' (And.intro k' dd)))
                  clear happ hS18 e r hjok l' k' dd
                  go_upto_region 18 with fail
                  go_region_held3 (fun W => (W.cell? ⟨B, 2, none⟩ = some (.pointer (some ⟨J, 0, none⟩)) ∧ W.cell? ⟨B, 5, none⟩ = some (.slice aR nR cR) ∧ W.cell? ⟨g, o + z, none⟩ = some (.string Y)))
                    (first | with_reducible assumption)
                    (first
                      | (go_at_call 17; (with_reducible refine HA.out.mono ?_); rintro e u3 ⟨rfl, k3'⟩; have S3 := HK.out _ _ _ _ k3'; have k3 := Lib.hid k3'; clear k3'))
                  go_upto_region 19 with fail
                  clear S1 S2 S3
                  obtain ⟨⟨_, _, _, _, _, _, _⟩, fzB⟩ := runBlock k3.out 0 rfl
                  have fz5 := fzB 5
                  clear fzB
                  obtain ⟨i0, hi, hz0, hz1, hz2⟩ := info_parts string_info'
                  obtain ⟨_, _, x3⟩ := HK.out _ _ _ _ k3.out
                  obtain ⟨a2, a5, ax⟩ := HK.out _ _ _ _ (k3.out.later ((Kept.refl u3).alloc (.cells #[.string Y] 9)))
                  go_region_law (first
                    | (refine step_append_lies _ (by rfl) _ _ 29 (by rfl) 0 9 i0 (.string ByteArray.empty) 1 16 Try.underlying29 hi hz0 hz1 hz2 rfl (by decide) _ _ _ (by rfl) ((Own.row k3.out 3 rfl).alloc _) ⟨u3.heap.size, 0, none⟩ 1 1 [.string Y] (by rfl) rfl (cell_one_new _ _ _) (by intro x hx; simp at hx; subst hx; rfl) (by decide) (by unfold maxLen; omega) (by omega) (Nat.zero_le _) _ rfl ?_; intro g2 cp2 w1 hown1 hgrow hloc hlt; have kz' := k3.out.appended 3 rfl ((Kept.refl _).alloc _).drew hown1 hgrow (lies hloc); obtain ⟨⟨_, _, _, _, _, _, _⟩, fzC⟩ := runBlock kz' 0 rfl; have fz6 := fzC 5; have kz := Lib.hid kz'; clear hown1 hgrow hloc hlt kz' fzC))
                  all_goals
                    go_wp2_with fail
                    go_roundw
                    case rel =>
                      exact ⟨z + 1, by omega, by go_num, F, D, J, s', c, R', A, vS, _, nS, xS, nR + 1, snoc nR xR Y, ⟨by rw [secA_snoc]; exact kz.out.boxset 0 rfl 5 _, HR.out.2.1, HR.out.1, HR.out.2.2.2, HR.out.2.2.1.more (by omega) (by omega) (by omega)⟩⟩
                    case measure => simp [intOf]; omega
              · obtain ⟨F, D, J, s, c, R, A, vS, vR, nS, xS, nR, xR, r⟩ := HRz.out
                obtain ⟨aR, cR, rfl⟩ := own_slice r.own 3 rfl
                obtain ⟨aoS, cpS, eS, _⟩ := id r.sees
                subst eS
                obtain ⟨L, hL⟩ : ∃ L : Ds → List As, L = fun st => runA B F D (.pointer (some ⟨J, 0, none⟩)) area (.slice aoS nS cpS) (.slice aR nR cR) c.boot :: jA J D (jw area c R) :: dk F D st :: secA (.slice aR nR cR) nR xR :: A := ⟨_, rfl⟩
                have hlb := HB.out.1
                have hmS := HB.out.2.1
                have htot := r.live.jo.jv.total
                have hblk : ∀ st W, Mem.Own w (L st) W → (W.cell? ⟨B, 0, none⟩ = some (.pointer (some ⟨F, 0, none⟩)) ∧ W.cell? ⟨B, 1, none⟩ = some (.pointer (some ⟨D, 0, none⟩)) ∧ W.cell? ⟨B, 2, none⟩ = some (.pointer (some ⟨J, 0, none⟩)) ∧ W.cell? ⟨B, 3, none⟩ = some (.int .i64 (area : Int)) ∧ W.cell? ⟨B, 4, none⟩ = some (.slice aoS nS cpS) ∧ W.cell? ⟨B, 5, none⟩ = some (.slice aR nR cR)) := fun st W h => by
                  rw [hL] at h
                  obtain ⟨⟨b0, b1, b2, b3, b4, b5, _⟩, _⟩ := runBlock h 0 rfl
                  exact ⟨b0, b1, b2, b3, b4, b5⟩
                obtain ⟨N, hN⟩ : ∃ N, N = lsnOf c R := ⟨_, rfl⟩
                obtain ⟨M, hM⟩ : ∃ M : Nat, M = area - total R := ⟨_, rfl⟩
                have hlsn : ∀ st W, Mem.Own w (L st) W → Calls Try.prog 20 #[.pointer (some ⟨J, 0, none⟩)] W fun e w' => e = .returned (.int .i64 N) ∧ Mem.Own w (L st) w' := fun st W h => by
                  have h' := h
                  rw [hL] at h'
                  refine (lsn_c J D _ W (own_j h' 1 rfl)).mono ?_
                  rintro e w' ⟨rfl, rfl⟩
                  exact ⟨by rw [hN]; rfl, h⟩
                have hroom : ∀ st W, Mem.Own w (L st) W → Calls Try.prog 21 #[.pointer (some ⟨J, 0, none⟩)] W fun e w' => e = .returned (.int .i64 (M : Int)) ∧ Mem.Own w (L st) w' := fun st W h => by
                  have h' := h
                  rw [hL] at h'
                  refine (room_c J D _ (show area ≤ 32000 by omega) (show total R ≤ area from htot) W (own_j h' 1 rfl)).mono ?_
                  rintro e w' ⟨rfl, hk⟩
                  refine ⟨?_, h.later hk⟩
                  have : ((jw area c R).area : Int) - ((jw area c R).used : Int) = (M : Int) := by
                    show (area : Int) - (total R : Int) = _
                    omega
                  rw [this]
                have hful := r.live.calm.full
                have hfu := r.live.calm.fu
                have hset1 : ∀ W, Mem.Own w (L s) W → Calls Try.prog 24 #[.pointer (some ⟨D, 0, none⟩), .bool true] W fun e w' => e = .returned (.tuple #[]) ∧ Mem.Own w (L (sf s true)) w' := fun W h => by
                  rw [hL] at h ⊢
                  exact o_setfull h 2 rfl true
                have harm : ∀ W, Mem.Own w (L (sf s true)) W → Calls Try.prog 16 #[.pointer (some ⟨F, 0, none⟩), .int .i64 0] W fun e w' => e = .returned (.int .i64 0) ∧ Mem.Own w (L (armed (sf s true) 0)) w' := fun W h => by
                  rw [hL] at h ⊢
                  exact o_arm h 2 rfl hfu 0 (by decide)
                have hj : ∀ st : Ds, st.pend = s.pend → Jok (jw area c R) st 20 := fun st hp => r.live.jok (by omega) (r.bnd.small (by omega) (by omega) (by omega) (m := 20) (by decide)) st hp
                have hj1 : ∀ st : Ds, st.pend = s.pend → Jok (jw area c R) st 1 := fun st hp => r.live.jok (by omega) (r.bnd.small (by omega) (by omega) (by omega) (m := 1) (by decide)) st hp
                obtain ⟨E0, hE0⟩ : ∃ E0 : Int, (E0 = 5 ∧ 4096 < d.size ∨ E0 = 9 ∧ d.size ≤ 4096) ∧ appends (jw area c R) (armed (sf s true) 0) d = (E0, jw area c R, armed (sf s true) 0) := by
                  refine ⟨_, ?_, app_full area c R _ rfl d⟩
                  by_cases h : 4096 < d.size
                  · exact .inl ⟨by rw [if_pos h], h⟩
                  · exact .inr ⟨by rw [if_neg h], by omega⟩
                have happ1 : ∀ W, Mem.Own w (L (armed (sf s true) 0)) W → Calls Try.prog 17 #[.pointer (some ⟨J, 0, none⟩), .string d] W fun e w' => e = .returned (.int .i64 E0) ∧ Mem.Own w (L (armed (sf s true) 0)) w' := fun W h => by
                  rw [hL] at h ⊢
                  have q := o_append (perm_ja h) (hj1 _ rfl) d hd
                  rw [hE0.2] at q
                  exact q.mono fun _ _ ⟨he, hw⟩ => ⟨he, perm_aj hw⟩
                have hblw : ∀ (t : Ds) W, Mem.Own w (L (armed t 0)) W → Calls Try.prog 18 #[.pointer (some ⟨F, 0, none⟩)] W fun e w' => e = .returned (.bool false) ∧ Mem.Own w (L (armed t 0)) w' := fun t W h => by
                  rw [hL] at h ⊢
                  exact o_blown h 2 rfl
                have hset2 : ∀ W, Mem.Own w (L (armed (sf s true) 0)) W → Calls Try.prog 24 #[.pointer (some ⟨D, 0, none⟩), .bool false] W fun e w' => e = .returned (.tuple #[]) ∧ Mem.Own w (L (armed s 0)) w' := fun W h => by
                  have e : armed s 0 = { armed (sf s true) 0 with full := false } := by
                    cases s; simp only at hful; subst hful; rfl
                  rw [e]
                  rw [hL] at h ⊢
                  exact o_setfull h 2 rfl false
                obtain ⟨p, hp⟩ : ∃ p, p = parts d.size := ⟨_, rfl⟩
                obtain ⟨P, Q, hPQ, hP⟩ : ∃ P Q : Int, (4096 < d.size ∧ P = 0 ∧ Q = 5 ∨ d.size ≤ 4096 ∧ P = (p : Int) ∧ Q = 0) ∧ ∀ W, Calls Try.prog 15 #[.int .i64 (d.size : Int)] W fun e w' => e = .returned (.tuple #[.int .i64 P, .int .i64 Q]) ∧ W = w' := by
                  refine ⟨_, _, ?_, fun W => parts_c (d.size : Int) ⟨by omega, by unfold maxLen at hd; omega⟩ W⟩
                  by_cases h : 4096 < d.size
                  · exact .inl ⟨h, (pF_big h).1, (pF_big h).2⟩
                  · exact .inr ⟨by omega, by rw [hp]; exact (pF_nat (by omega)).1, (pF_nat (by omega)).2⟩
                have happ2 : (4096 < d.size ∨ M < p) → ∃ E : Int, (E = 5 ∨ E = 9) ∧ ∀ W, Mem.Own w (L (armed s 0)) W → Calls Try.prog 17 #[.pointer (some ⟨J, 0, none⟩), .string d] W fun e w' => e = .returned (.int .i64 E) ∧ Mem.Own w (L (armed s 0)) w' := fun hh => by
                  obtain ⟨E, hE, e⟩ := app_room area c R (armed s 0) d (hh.imp id fun h => by omega)
                  refine ⟨E, hE, fun W h => ?_⟩
                  rw [hL] at h ⊢
                  have q := o_append (perm_ja h) (hj1 _ rfl) d hd
                  rw [e] at q
                  exact q.mono fun _ _ ⟨he, hw⟩ => ⟨he, perm_aj hw⟩
                have hcom : area < need XS lenS → ∃ E : Int, (E = 5 ∨ E = 9) ∧ ∀ W, Mem.Own w (L (armed s 0)) W → Calls Try.prog 19 #[.pointer (some ⟨J, 0, none⟩), .slice aS lenS capS] W fun e w' => e = .returned (.int .i64 E) ∧ Mem.Own w (L (armed s 0)) w' := fun hh => by
                  obtain ⟨E, hE, e⟩ := com_room c R (armed s 0) hh
                  refine ⟨E, hE, fun W h => ?_⟩
                  rw [hL] at h ⊢
                  have hjm : Jok (jw area c R) (armed s 0) lenS := r.live.jok (by omega) (r.bnd.small (by omega) (by omega) (by omega) (m := lenS) (by omega)) _ rfl
                  have q := o_compact (perm_ja h) aS capS lenS XS (by omega) hjm H.out.2.2.2 (H.out.2.2.1.kept h.kept)
                  rw [e] at q
                  exact q.mono fun _ _ ⟨he, hw⟩ => ⟨he, perm_aj hw⟩
                have hres : ∀ W, Mem.Own w (L (armed s 0)) W → Calls Try.prog 22 #[.pointer (some ⟨F, 0, none⟩)] W fun e w' => e = .returned (.tuple #[]) ∧ Mem.Own w (L s) w' := fun W h => by
                  have e : s = { armed s 0 with fu := .idle } := (armed_idle hfu 0).symm
                  rw [hL] at h
                  have q := o_reset h 2 rfl
                  rw [← e] at q
                  rw [hL]
                  exact q
                have hopn : ∀ W, Mem.Own w (L s) W → Calls Try.prog 11 #[.pointer (some ⟨B, 0, none⟩), .slice aoS nS cpS, .slice aR nR cR] W fun e w' => e = .returned (.bool true) ∧ IsRan w B area 2 2 (z : Int) w' := fun W h => by
                  rw [hL] at h
                  have rr : Rown w B area 1 1 (z : Int) F D J s c R A (.slice aoS nS cpS) (.slice aR nR cR) nS xS nR xR W := ⟨h, r.live, r.sees, r.data, r.bnd⟩
                  exact rr.ran.again ⟨hA1, by omega⟩ (by omega) (by omega)
                have k0 : Hid (Mem.Own w (L s) wr) := Lib.hid (by rw [hL]; exact r.own)
                have HC := Lib.hid (And.intro hlsn (And.intro hroom (And.intro hset1 (And.intro harm (And.intro happ1 (And.intro hblw (And.intro hset2 (And.intro hP (And.intro happ2 (And.intro hcom (And.intro hres hopn)))))))))))
                have HK := Lib.hid hblk
                have HE := Lib.hid (And.intro hE0.1 hPQ)
                clear hlsn hroom hset1 harm happ1 hblw hset2 hP happ2 hcom hres hopn hblk hE0 hPQ hj hj1 hful hfu htot hN hM hL hp r HRz
                go_upto_region 20 with fail
                go_cut [14, 15] from 110 to 119 (fun v14 v15 wx => v14 = .int .i64 N ∧ v15 = .int .i64 (M : Int) ∧ Mem.Own w (L s) wx)
                case first =>
                  have S1 := (HK.out _ _ k0.out).2.2.1
                  have S2 := (HK.out _ _ k0.out.drew).2.2.1
                  go_region_held3 (fun W => W.cell? ⟨B, 2, none⟩ = some (.pointer (some ⟨J, 0, none⟩)))
                    (first | with_reducible assumption)
                    (first
                      | (go_at_call 20; first
                          | ((with_reducible refine (HC.out.1 _ _ k3.out).mono ?_); rintro e u4 ⟨rfl, k4'⟩; have S4 := (HK.out _ _ k4').2.2.1; have k4 := Lib.hid k4'; clear k4')
                          | ((with_reducible refine (HC.out.1 _ _ k0.out.drew).mono ?_); rintro e u3 ⟨rfl, k3'⟩; have S3 := (HK.out _ _ k3').2.2.1; have k3 := Lib.hid k3'; clear k3'))
                      | (go_at_call 21; first
                          | ((with_reducible refine (HC.out.2.1 _ _ k3.out).mono ?_); rintro e u4 ⟨rfl, k4'⟩; have S4 := (HK.out _ _ k4').2.2.1; have k4 := Lib.hid k4'; clear k4')
                          | ((with_reducible refine (HC.out.2.1 _ _ k0.out.drew).mono ?_); rintro e u3 ⟨rfl, k3'⟩; have S3 := (HK.out _ _ k3').2.2.1; have k3 := Lib.hid k3'; clear k3')))
                  all_goals
                    go_wp2_with fail
                    go_meet
                    exact ⟨rfl, rfl, k4.out⟩
                case rest =>
                  obtain ⟨rfl, rfl, h1⟩ := hcut
                  have k1 := Lib.hid h1
                  have f1 := (HK.out _ _ h1).2.1
                  clear h1 k0
                  go_upto_region 25 with (first
                    | (go_at_call 24; (with_reducible refine (HC.out.2.2.1 _ k1.out).mono ?_); rintro e u2 ⟨rfl, k2'⟩; have f2 := (HK.out _ _ k2').1; have k2 := Lib.hid k2'; clear k2')
                    | (go_at_call 16; (with_reducible refine (HC.out.2.2.2.1 _ k2.out).mono ?_); rintro e u3 ⟨rfl, k3'⟩; have f3 := (HK.out _ _ k3').2.2.1; have k3 := Lib.hid k3'; clear k3')
                    | (go_at_call 17; (with_reducible refine (HC.out.2.2.2.2.1 _ k3.out).mono ?_); rintro e u4 ⟨rfl, k4'⟩; have f4 := (HK.out _ _ k4').1; have k4 := Lib.hid k4'; clear k4'))
                  go_cut [157] from 137 to 156 (fun v157 wx => v157 = .bool false ∧ Mem.Own w (L (armed (sf s true) 0)) wx)
                  case first =>
                    rcases HE.out.1 with ⟨rfl, hb⟩ | ⟨rfl, hb⟩
                    · have tb : decide (4096 < (d.size : Int)) = true := by simp; omega
                      have tb2 : decide (4096 < d.size) = true := by simp; omega
                      go_wp2_with (go_at_call 18; (with_reducible refine (HC.out.2.2.2.2.2.1 _ _ k4.out).mono ?_); rintro e u5 ⟨rfl, k5'⟩; have k5 := Lib.hid k5'; clear k5')
                      go_meet
                      exact ⟨rfl, k5.out⟩
                    · have tb : decide (4096 < (d.size : Int)) = false := by simp; omega
                      have tb2 : decide (4096 < d.size) = false := by simp; omega
                      go_wp2_with (go_at_call 18; (with_reducible refine (HC.out.2.2.2.2.2.1 _ _ k4.out).mono ?_); rintro e u5 ⟨rfl, k5'⟩; have k5 := Lib.hid k5'; clear k5')
                      go_meet
                      exact ⟨rfl, k5.out⟩
                  case rest =>
                    obtain ⟨rfl, h5⟩ := hcut
                    have k5 := Lib.hid h5
                    clear f1 f2 f3 f4
                    have f5 := (HK.out _ _ h5).2.1
                    clear h5 k1 k2 k3 k4
                    go_upto_region 29 with (first
                      | (go_at_call 24; (with_reducible refine (HC.out.2.2.2.2.2.2.1 _ k5.out).mono ?_); rintro e u6 ⟨rfl, k6'⟩; have k6 := Lib.hid k6'; clear k6')
                      | (go_at_call 15; (with_reducible refine (HC.out.2.2.2.2.2.2.2.1 _).mono ?_); rintro e u7 ⟨rfl, rfl⟩))
                    go_cut [175] from 169 to 174 (fun v175 wx => ∃ q : Bool, v175 = .bool q ∧ (q = true → (4096 < d.size ∨ M < p)) ∧ Mem.Own w (L (armed s 0)) wx)
                    case first =>
                      rcases HE.out.2 with ⟨hb, rfl, rfl⟩ | ⟨hb, rfl, rfl⟩
                      · go_wp2_with fail
                        go_meet
                        exact ⟨true, rfl, fun _ => .inl hb, k6.out⟩
                      · go_wp2_with fail
                        go_meet
                        exact ⟨_, rfl, fun h => .inr (by simpa using h), k6.out⟩
                    case rest =>
                      obtain ⟨q, rfl, hq, h6⟩ := hcut
                      have HQ := Lib.hid hq
                      have k6 := Lib.hid h6
                      clear f5
                      have f6 := (HK.out _ _ h6).2.2.1
                      clear h6 hq k5
                      go_upto_if 175 with fail
                      go_cut [19] from 176 to 194 (fun v19 wx => Mem.Own w (L (armed s 0)) wx)
                      case first =>
                        cases q
                        · go_wp2_with fail
                          go_meet
                          exact k6.out
                        · obtain ⟨E, hE, hc⟩ := HC.out.2.2.2.2.2.2.2.2.1 (HQ.out rfl)
                          have HD := Lib.hid hc
                          clear hc
                          rcases hE with rfl | rfl
                          all_goals
                            go_wp2_with (first
                              | (go_at_call 17; (with_reducible refine (HD.out _ k6.out).mono ?_); rintro e u7 ⟨rfl, k7'⟩; have f7 := (HK.out _ _ k7').1; have k7 := Lib.hid k7'; clear k7')
                              | (go_at_call 18; (with_reducible refine (HC.out.2.2.2.2.2.1 _ _ k7.out).mono ?_); rintro e u8 ⟨rfl, k8'⟩; have k8 := Lib.hid k8'; clear k8'))
                            go_meet
                            exact k8.out
                      case rest =>
                        have k7 := Lib.hid hcut
                        clear hcut k6 HQ f6
                        go_wp2_with fail
                        go_loopw [20, 21, 22, 23] (fun v20 v21 _ _ wr => ∃ k : Nat, k ≤ lenS ∧ v20 = .int .i64 (need XS k : Int) ∧ v21 = .int .i64 (k : Int) ∧ Mem.Own w (L (armed s 0)) wr) (fun _ i _ _ _ => lenS - (intOf i).toNat)
                        case atStart => exact ⟨0, by omega, rfl, rfl, k7.out⟩
                        case round =>
                          obtain ⟨k, hk, rfl, rfl, ho⟩ := hrel
                          clear k7
                          by_cases hlt : k < lenS
                          · obtain ⟨g, o, rfl, x0⟩ := (H.out.2.2.1.kept ho.kept) k hlt
                            have ko := Lib.hid ho
                            have hYs : (XS k).size ≤ maxLen := H.out.2.2.2 k hlt
                            have nl := need_le (x := XS) k
                            have hpc := parts_c ((XS k).size : Int) ⟨by omega, by unfold maxLen at hYs; omega⟩
                            by_cases hb : 4096 < (XS k).size
                            · have e1 : need XS (k + 1) = 1048576 := if_pos hb
                              rw [(pF_big hb).1, (pF_big hb).2] at hpc
                              obtain ⟨NN, hNN⟩ : ∃ NN, NN = need XS k := ⟨_, rfl⟩
                              rw [← hNN] at nl ⊢
                              obtain ⟨Y, hY⟩ : ∃ Y, Y = XS k := ⟨_, rfl⟩
                              rw [← hY] at x0 hpc
                              have HP := Lib.hid (And.intro e1 hpc)
                              clear ho hYs hb e1 hpc hNN hY
                              go_wp2_with (go_at_call 15; (with_reducible refine (HP.out.2 _).mono ?_); rintro e w' ⟨rfl, rfl⟩)
                              go_roundw
                              case rel => exact ⟨k + 1, by omega, by rw [HP.out.1]; go_num, by go_num, ko.out⟩
                              case measure => simp [intOf]; omega
                            · have e1 : need XS (k + 1) = need XS k + parts (XS k).size := if_neg hb
                              rw [(pF_nat (by omega : (XS k).size ≤ 4096)).1, (pF_nat (by omega : (XS k).size ≤ 4096)).2] at hpc
                              have hpq : parts (XS k).size ≤ 94 := parts_le (by omega)
                              obtain ⟨NN, hNN⟩ : ∃ NN, NN = need XS k := ⟨_, rfl⟩
                              rw [← hNN] at nl e1 ⊢
                              obtain ⟨Y, hY⟩ : ∃ Y, Y = XS k := ⟨_, rfl⟩
                              rw [← hY] at x0 hpc e1 hpq
                              obtain ⟨qq, hqq⟩ : ∃ qq, qq = parts Y.size := ⟨_, rfl⟩
                              rw [← hqq] at hpc e1 hpq
                              have HP := Lib.hid (And.intro e1 hpc)
                              clear ho hYs hb e1 hpc hNN hY hqq
                              go_wp2_with (go_at_call 15; (with_reducible refine (HP.out.2 _).mono ?_); rintro e w' ⟨rfl, rfl⟩)
                              go_roundw
                              case rel => exact ⟨k + 1, by omega, by rw [HP.out.1]; go_num, by go_num, ko.out⟩
                              case measure => simp [intOf]; omega
                          · obtain rfl : k = lenS := by omega
                            have k8 := Lib.hid ho
                            have f8 := (HK.out _ _ ho).2.2.2.1
                            have f8b := (HK.out _ _ ho).2.2.1
                            clear ho
                            obtain ⟨NN, hNN⟩ : ∃ NN, NN = need XS k := ⟨_, rfl⟩
                            have HC2 := Lib.hid HC.out.2.2.2.2.2.2.2.2.2.1
                            rw [← hNN] at HC2 ⊢
                            have HN := Lib.hid hNN
                            clear hNN
                            go_upto_if 220 with fail
                            go_cut [24] from 220 to 239 (fun v24 wx => Mem.Own w (L (armed s 0)) wx)
                            case first =>
                              by_cases hb : area < NN
                              · have tb : decide ((area : Int) < (NN : Int)) = true := by simp; omega
                                have tb2 : decide (area < NN) = true := by simp; omega
                                obtain ⟨E, hE, hc⟩ := HC2.out hb
                                have HD := Lib.hid hc
                                clear hc
                                rcases hE with rfl | rfl
                                all_goals
                                  go_wp2_with (first
                                    | (go_at_call 19; (with_reducible refine (HD.out _ k8.out).mono ?_); rintro e u7 ⟨rfl, k9'⟩; have f9 := (HK.out _ _ k9').1; have k9 := Lib.hid k9'; clear k9')
                                    | (go_at_call 18; (with_reducible refine (HC.out.2.2.2.2.2.1 _ _ k9.out).mono ?_); rintro e u8 ⟨rfl, k10'⟩; have k10 := Lib.hid k10'; clear k10'))
                                  go_meet
                                  exact k10.out
                              · have tb : decide ((area : Int) < (NN : Int)) = false := by simp; omega
                                have tb2 : decide (area < NN) = false := by simp; omega
                                go_wp2_with fail
                                go_meet
                                exact k8.out
                            case rest =>
                              have k9 := Lib.hid hcut
                              clear f8 f8b
                              have f10 := (HK.out _ _ hcut).2.2.1
                              clear hcut k8 HC2
                              go_upto_region 48 with (first
                                | (go_at_call 20; (with_reducible refine (HC.out.1 _ _ k9.out).mono ?_); rintro e u10 ⟨rfl, k10'⟩; have f11 := (HK.out _ _ k10').2.2.1; have k10 := Lib.hid k10'; clear k10')
                                | (go_at_call 21; (with_reducible refine (HC.out.2.1 _ _ k10.out).mono ?_); rintro e u11 ⟨rfl, k11'⟩; have f12 := (HK.out _ _ k11').1; have k11 := Lib.hid k11'; clear k11')
                                | (go_at_call 22; (with_reducible refine (HC.out.2.2.2.2.2.2.2.2.2.2.1 _ k11.out).mono ?_); rintro e u12 ⟨rfl, k12'⟩; have k12 := Lib.hid k12'; clear k12'))
                              have f13 := (HK.out _ _ k12.out).2.2.2.2.1
                              have f14 := (HK.out _ _ k12.out).2.2.2.2.2
                              clear f10 f11 f12 k9 k10 k11
                              have ho48 := Lib.hid (HC.out.2.2.2.2.2.2.2.2.2.2.2 _ k12.out.drew)
                              go_cut [271] from 261 to 270 (fun v271 wx => v271 = .bool false ∧ IsRan w B area 2 2 (z : Int) wx)
                              case first =>
                                go_region_with (go_at_call 11; (with_reducible refine ho48.out.mono ?_); rintro e u13 ⟨rfl, k13'⟩; have k13 := Lib.hid k13'; clear k13')
                                all_goals
                                  go_wp2_with fail
                                  go_meet
                                  exact ⟨rfl, k13.out⟩
                              case rest =>
                                obtain ⟨rfl, h13⟩ := hcut
                                have k13 := Lib.hid h13
                                clear h13
                                obtain ⟨F2, D2, J2, s2, c2, R2, A2, vS2, vR2, nS2, xS2, nR2, xR2, r2⟩ := k13.out
                                obtain ⟨L2, hL2⟩ : ∃ L2 : Jw → Ds → List As, L2 = fun j st => runA B F2 D2 (.pointer (some ⟨J2, 0, none⟩)) area vS2 vR2 c2.boot :: jA J2 D2 j :: dk F2 D2 st :: A2 := ⟨_, rfl⟩
                                have hlb := HB.out.1
                                have hmS := HB.out.2.1
                                have hblk : ∀ j st W, Mem.Own w (L2 j st) W → (W.cell? ⟨B, 1, none⟩ = some (.pointer (some ⟨D2, 0, none⟩)) ∧ W.cell? ⟨B, 2, none⟩ = some (.pointer (some ⟨J2, 0, none⟩)) ∧ W.cell? ⟨B, 3, none⟩ = some (.int .i64 (area : Int))) := fun j st W h => by
                                  rw [hL2] at h
                                  obtain ⟨⟨_, b1, b2, b3, _, _, _⟩, _⟩ := runBlock h 0 rfl
                                  exact ⟨b1, b2, b3⟩
                                have hset1 : ∀ W, Mem.Own w (L2 (jw area c2 R2) s2) W → Calls Try.prog 24 #[.pointer (some ⟨D2, 0, none⟩), .bool true] W fun e w' => e = .returned (.tuple #[]) ∧ Mem.Own w (L2 (jw area c2 R2) (sf s2 true)) w' := fun W h => by
                                  rw [hL2] at h ⊢
                                  exact o_setfull h 2 rfl true
                                have hcom2 : ∃ (E : Int) (j' : Jw) (st' : Ds), (E == 0) = decide (NN ≤ area) ∧ ∀ W, Mem.Own w (L2 (jw area c2 R2) (sf s2 true)) W → Calls Try.prog 19 #[.pointer (some ⟨J2, 0, none⟩), .slice aS k capS] W fun e w' => e = .returned (.int .i64 E) ∧ Mem.Own w (L2 j' st') w' := by
                                  refine ⟨(compacts (jw area c2 R2) (sf s2 true) XS k).1, (compacts (jw area c2 R2) (sf s2 true) XS k).2.1, (compacts (jw area c2 R2) (sf s2 true) XS k).2.2, ?_, fun W h => ?_⟩
                                  rotate_left
                                  · rw [hL2] at h ⊢
                                    have hjm : Jok (jw area c2 R2) (sf s2 true) k := r2.live.jok (by omega) (r2.bnd.small (by omega) (by omega) (by omega) (m := k) (by omega)) _ rfl
                                    have q := o_compact (perm_ja h) aS capS k XS (by omega) hjm H.out.2.2.2 (H.out.2.2.1.kept h.kept)
                                    exact q.mono fun _ _ ⟨he, hw⟩ => ⟨he, perm_aj hw⟩
                                  · rw [HN.out]
                                    exact com_full (by omega) r2.live r2.bnd (by omega) (by omega) (by omega) XS k (by omega)
                                obtain ⟨E4, j4, st4, hE4, hc4⟩ := hcom2
                                have k14 : Hid (Mem.Own w (L2 (jw area c2 R2) s2) wc) := Lib.hid (by rw [hL2]; exact r2.own)
                                have HC4 := Lib.hid (And.intro hset1 hc4)
                                have HK4 := Lib.hid hblk
                                clear hset1 hc4 hblk hL2 r2
                                clear f13 f14 ho48
                                have f15 := (HK4.out _ _ _ k14.out).1
                                go_upto_region 51 with (go_at_call 24; (with_reducible refine (HC4.out.1 _ k14.out).mono ?_); rintro e u14 ⟨rfl, k15'⟩; have k15 := Lib.hid k15'; clear k15')
                                clear f15
                                have S1 := (HK4.out _ _ _ k15.out).2
                                have S2 := (HK4.out _ _ _ k15.out.drew).2
                                by_cases hfin : NN ≤ area
                                · have tf : decide ((NN : Int) ≤ (area : Int)) = true := by simp; omega
                                  have tf2 : decide (NN ≤ area) = true := by simp; omega
                                  have te : (E4 == 0) = true := by rw [hE4]; exact tf2
                                  have HF := Lib.hid (And.intro hfin hE4)
                                  clear hfin hE4
                                  go_region_held3 (fun W => W.cell? ⟨B, 2, none⟩ = some (.pointer (some ⟨J2, 0, none⟩)) ∧ W.cell? ⟨B, 3, none⟩ = some (.int .i64 (area : Int)))
                                    (first | with_reducible assumption)
                                    (first
                                      | (go_at_call 19; (with_reducible refine (HC4.out.2 _ k15.out.drew).mono ?_); rintro e u16 ⟨rfl, k16'⟩; have S3 := (HK4.out _ _ _ k16').2; have k16 := Lib.hid k16'; clear k16')
                                      | (go_at_call 8; (with_reducible refine (Jk.known_c _).mono ?_); rintro e u17 ⟨rfl, k17'⟩; have S4 := (HK4.out _ _ _ (k16.out.later k17')).2; have k17 := Lib.hid k17'; clear k17'))
                                  all_goals
                                    go_wp2_with fail
                                    go_ret
                                    exact ⟨rfl, k16.out.kept.trans k17.out⟩
                                · have tf : decide ((NN : Int) ≤ (area : Int)) = false := by simp; omega
                                  have tf2 : decide (NN ≤ area) = false := by simp; omega
                                  have te : (E4 == 0) = false := by rw [hE4]; exact tf2
                                  have HF := Lib.hid (And.intro hfin hE4)
                                  clear hfin hE4
                                  go_region_held3 (fun W => W.cell? ⟨B, 2, none⟩ = some (.pointer (some ⟨J2, 0, none⟩)) ∧ W.cell? ⟨B, 3, none⟩ = some (.int .i64 (area : Int)))
                                    (first | with_reducible assumption)
                                    (first
                                      | (go_at_call 19; (with_reducible refine (HC4.out.2 _ k15.out.drew).mono ?_); rintro e u16 ⟨rfl, k16'⟩; have S3 := (HK4.out _ _ _ k16').2; have k16 := Lib.hid k16'; clear k16')
                                      | (go_at_call 8; (with_reducible refine (Jk.known_c _).mono ?_); rintro e u17 ⟨rfl, k17'⟩; have S4 := (HK4.out _ _ _ (k16.out.later k17')).2; have k17 := Lib.hid k17'; clear k17'))
                                  all_goals
                                    go_wp2_with fail
                                    go_ret
                                    exact ⟨rfl, k16.out.kept.trans k17.out⟩
end Go.Proofs.Ytjbcpfndpfeepaa.Jk
