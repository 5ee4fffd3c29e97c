/-
  PROVED: the statement 'JournalCountsSaid': for every input the law JournalCounts returns true, and each argument reads afterwards as it read before. No condition.
-/
import Derived.Test.YtjbcpfndpfeepaaJr
import Derived.Test.YtjbcpfndpfeepaaGw
import Derived.Test.YtjbcpfndpfeepaaRows
import Derived.WalkKit
import Derived.Deep.RegionHeld3
import Derived.BigQuiet
import Derived.ProofKit
import Derived.OpenShut
import Derived.ShutString
namespace Go.Proofs.Ytjbcpfndpfeepaa.journalCounts
open Go.ChangeShapes Go.WideShapes Go.ChangeAt Go.RowKit
open Go.Proofs.Ytjbcpfndpfeepaa.Mem Go.Proofs.Ytjbcpfndpfeepaa.Pk Go.Proofs.Ytjbcpfndpfeepaa.Rc Go.Proofs.Ytjbcpfndpfeepaa.Fk Go.Proofs.Ytjbcpfndpfeepaa.Dz Go.Proofs.Ytjbcpfndpfeepaa.Fz Go.Proofs.Ytjbcpfndpfeepaa.Jk
set_option linter.unusedVariables false

theorem own : ownKnob Try.prog.godebug = none := by kernel_rfl
theorem laidOut : laidOutB Try.prog = true := by kernel_rfl

set_option maxRecDepth 100000 in
theorem long1 (w : World) (s : ByteArray) (hs : s.size ≤ maxLen) (ao : Option Addr) (len cap : Nat) (h : 1000 < s.size) :
    Calls Try.prog 5 #[.string s, .slice ao len cap] w fun e w' => e = .returned (.bool true) ∧ Kept w w' := by
  have t1 : decide (1000 < (s.size : Int)) = true := by simp; omega
  have t2 : decide (1000 < s.size) = true := by simp; omega
  clear h
  go_enter Try.func5, Try.ntmps5
  go_wp2_with (go_at_call 8; (with_reducible refine (Jk.known_c _).mono ?_); rintro e u10 ⟨rfl, k10⟩)
  go_ret
  exact ⟨rfl, k10⟩
set_option maxRecDepth 100000 in
theorem long2 (w : World) (s : ByteArray) (hs : s.size ≤ maxLen) (ao : Option Addr) (len cap : Nat) (h1 : ¬ 1000 < s.size) (h : 5 < len) :
    Calls Try.prog 5 #[.string s, .slice ao len cap] w fun e w' => e = .returned (.bool true) ∧ Kept w w' := by
  have t1 : decide (1000 < (s.size : Int)) = false := by simp; omega
  have t2 : decide (1000 < s.size) = false := by simp; omega
  have t3 : decide (5 < (len : Int)) = true := by simp; omega
  have t4 : decide (5 < len) = true := by simp; omega
  clear h1 h
  go_enter Try.func5, Try.ntmps5
  go_wp2_with (go_at_call 8; (with_reducible refine (Jk.known_c _).mono ?_); rintro e u10 ⟨rfl, k10⟩)
  go_ret
  exact ⟨rfl, k10⟩
set_option maxHeartbeats 8000000 in
set_option maxRecDepth 100000 in
theorem core (w : World) (s : ByteArray) (h1 : ¬ 1000 < s.size) (ao : Option Addr) (len cap : Nat) (h5 : ¬ 5 < len) (X : Nat → ByteArray) (hX : SAo w ao len X) :
    Calls Try.prog 5 #[.string s, .slice ao len cap] w fun e w' => e = .returned (.bool true) ∧ Kept w w' := by
  have t1 : decide (1000 < (s.size : Int)) = false := by simp; omega
  have t2 : decide (1000 < s.size) = false := by simp; omega
  have t3 : decide (5 < (len : Int)) = false := by simp; omega
  have t4 : decide (5 < len) = false := by simp; omega
  obtain ⟨s1, l1, hbeg⟩ := o_begin 64 (by decide)
  replace hbeg : ∀ w : World, Calls Try.prog 9 #[.int .i64 64] w fun e w' => ∃ B F D J vS vR, e = .returned (.pointer (some ⟨B, 0, none⟩)) ∧
      Mem.Own w (runA B F D (.pointer (some ⟨J, 0, none⟩)) 64 vS vR 1 :: jA J D (jw 64 h11 []) :: dk F D s1 :: secA vR 0 (fun i => xsF [] (0 + i)) :: secA vS 0 (xsF []) :: []) w' := hbeg
  have hpc : ∀ W, Calls Try.prog 15 #[.int .i64 (s.size : Int)] W fun e w' => e = .returned (.tuple #[.int .i64 (parts s.size : Int), .int .i64 0]) ∧ W = w' := fun W => by
    have := parts_c (s.size : Int) ⟨by omega, by omega⟩ W
    rw [(pF_nat (by omega : s.size ≤ 4096)).1, (pF_nat (by omega : s.size ≤ 4096)).2] at this
    exact this
  obtain ⟨N, hN⟩ : ∃ N, N = parts s.size := ⟨_, rfl⟩
  have hN1 : 1 ≤ N ∧ N ≤ 23 := by rw [hN]; unfold parts; omega
  have t5 : decide ((N : Int) < 1) = false := by simp; omega
  have t6 : decide (N < 1) = false := by simp; omega
  rw [← hN] at hpc
  have HS := Lib.hid hX
  have HN := Lib.hid hN
  clear hX hN
  go_enter Try.func5, Try.ntmps5
  go_wp2_with (go_at_call 15; (with_reducible refine (hpc _).mono ?_); rintro e w' ⟨rfl, rfl⟩)
  go_loopw [7, 8] (fun a i wr => ∃ k : Nat, k ≤ len ∧ a = .int .i64 (pre X k : Int) ∧ i = .int .i64 k ∧ (∀ i, i < k → (X i).size ≤ 300) ∧ wr = w) (fun _ i _ => len - (intOf i).toNat)
  case atStart => exact ⟨0, by omega, rfl, rfl, fun i hi => absurd hi (by omega), rfl⟩
  case round =>
    obtain ⟨k, hk, rfl, rfl, hf, hwr⟩ := hrel
    obtain rfl : w = wr := hwr.symm
    by_cases hlt : k < len
    · obtain ⟨g, o, rfl, x0⟩ := HS.out k hlt
      have hpl : pre X k ≤ 94 * k := pre_le fun i hi => by have := hf i hi; omega
      by_cases hbig : 300 < (X k).size
      · have t7 : decide (300 < ((X k).size : Int)) = true := by simp; omega
        have t8 : decide (300 < (X k).size) = true := by simp; omega
        obtain ⟨Y, hY⟩ : ∃ Y, Y = X k := ⟨_, rfl⟩
        rw [← hY] at x0 t7 t8
        clear hbig hf hY
        go_wp2_with (go_at_call 8; (with_reducible refine (Jk.known_c _).mono ?_); rintro e u10 ⟨rfl, k10⟩)
        go_ret
        exact ⟨rfl, k10⟩
      · have t7 : decide (300 < ((X k).size : Int)) = false := by simp; omega
        have t8 : decide (300 < (X k).size) = false := by simp; omega
        have hp2 : ∀ W, Calls Try.prog 15 #[.int .i64 ((X k).size : Int)] W fun e w' => e = .returned (.tuple #[.int .i64 (parts (X k).size : Int), .int .i64 0]) ∧ W = w' := fun W => by
          have := parts_c ((X k).size : Int) ⟨by omega, by omega⟩ W
          rw [(pF_nat (by omega : (X k).size ≤ 4096)).1, (pF_nat (by omega : (X k).size ≤ 4096)).2] at this
          exact this
        have hpr : pre X (k + 1) = pre X k + parts (X k).size := rfl
        have hpq : parts (X k).size ≤ 94 := parts_le (by omega)
        have hf' : ∀ i, i < k + 1 → (X i).size ≤ 300 := fun i hi => by
          by_cases e : i = k
          · rw [e]; omega
          · exact hf i (by omega)
        obtain ⟨Y, hY⟩ : ∃ Y, Y = X k := ⟨_, rfl⟩
        rw [← hY] at x0 t7 t8 hp2 hpr hpq
        obtain ⟨p, hp0⟩ : ∃ p, p = pre X k := ⟨_, rfl⟩
        rw [← hp0] at hpr hpl ⊢
        obtain ⟨q, hq0⟩ : ∃ q, q = parts Y.size := ⟨_, rfl⟩
        rw [← hq0] at hpr hp2 hpq
        have HP := Lib.hid (And.intro hpr hf')
        clear hbig hf hf' hY hpr hp0 hq0
        go_wp2_with (go_at_call 15; (with_reducible refine (hp2 _).mono ?_); rintro e w' ⟨rfl, rfl⟩)
        go_roundw
        case rel => exact ⟨k + 1, by omega, by rw [HP.out.1]; go_num, by go_num, HP.out.2, by trivial⟩
        case measure => simp [intOf]; omega
    · obtain rfl : k = len := by omega
      have hfit : fits X k := fun i hi => by have := hf i hi; omega
      have hpm : pre X k ≤ 64 := by
        have key : ∀ n, (∀ i, i < n → (X i).size ≤ 300) → pre X n ≤ 7 * n := fun n => by
          induction n with
          | zero => intro _; exact Nat.le_refl _
          | succ n ih =>
            intro h
            have := ih fun i hi => h i (by omega)
            have h2 := h n (by omega)
            have : parts (X n).size ≤ 7 := by unfold parts; omega
            show pre X n + _ ≤ _
            omega
        have := key k hf
        omega
      have hr0 := round l1 (d := s) (x := X) (m := k) (by omega) (by omega) hfit hpm (cut := 0) (by decide)
      have hr1 := round l1 (d := s) (x := X) (m := k) (by omega) (by omega) hfit hpm (cut := 1) (by decide)
      have hsm : s.size ≤ maxLen := by unfold maxLen; omega
      have hXm : ∀ i, i < k → (X i).size ≤ maxLen := fun i hi => by have := hf i hi; unfold maxLen; omega
      have hj1 : ∀ s', s'.pend = s1.pend → ∀ n, n ≤ 5 → Jok (jw 64 h11 []) s' n := fun s' hp n hn => l1.jok (by decide) (small11 n (by omega)) s' hp
      have hfu := l1.calm.fu
      have hpend := l1.calm.pend
      obtain ⟨M, hM⟩ : ∃ M, M = pre X k := ⟨_, rfl⟩
      rw [← hM]
      rw [← hM] at hpm
      have HC := Lib.hid (And.intro hr0 (And.intro hr1 (And.intro hsm (And.intro hXm (And.intro hj1 (And.intro hfu (And.intro hM (And.intro HN.out l1))))))))
      clear hr0 hr1 hsm hXm hj1 hfu hpend hM hf hfit l1
      go_wp2
      go_loopw [11] (fun c wr => ∃ z : Int, (z = 0 ∨ z = 1 ∨ z = 2) ∧ c = .int .i64 z ∧ Kept w wr) (fun c _ => 2 - (intOf c).toNat)
      case atStart => exact ⟨0, .inl rfl, rfl, Kept.refl w⟩
      case round =>
        obtain ⟨z, hz, rfl, hkw⟩ := hrel
        rcases hz with rfl | rfl | rfl
        · obtain ⟨⟨E1, j1, t1', ha1, ha2, ha3⟩, E2, j2, t2', c2, R2, hb1, hb2, hb3, hb4, hb5, hb6, hb7, hb8, hb9, hb10, hb11, hb12⟩ := HC.out.1
          rw [← HC.out.2.2.2.2.2.2.2.1] at ha1
          rw [← HC.out.2.2.2.2.2.2.1] at hb1 hb4
          rw [show N + 1 - 0 = N + 1 by omega] at ha1
          rw [show M + 3 - 0 = M + 3 by omega] at hb1
          have hfu := HC.out.2.2.2.2.2.1
          have hj1 := HC.out.2.2.2.2.1
          obtain rfl : E1 = 0 := by simpa using ha2
          obtain rfl : E2 = 0 := by simpa using hb2
          obtain ⟨hn1, hn2, hn3⟩ := hb4 rfl
          have hV : (Hk.saves (Jk.armed { t2' with fu := .idle } 2) (nextHd c2)).1 = 0 := by simpa using hb12
          have ha3' : t1'.fu.dead = false := by simpa using ha3
          have hb3' : t2'.fu.dead = false := by simpa using hb3
          have q1 : ∀ (w0 : World) B F D J vS vR A W, Mem.Own w0 (runA B F D (.pointer (some ⟨J, 0, none⟩)) 64 vS vR 1 :: jA J D (jw 64 h11 []) :: dk F D s1 :: A) W → Calls Try.prog 16 #[.pointer (some ⟨F, 0, none⟩), .int .i64 ((N : Int) + 1)] W fun e w' => e = .returned (.int .i64 0) ∧ Mem.Own w0 (runA B F D (.pointer (some ⟨J, 0, none⟩)) 64 vS vR 1 :: jA J D (jw 64 h11 []) :: dk F D (Jk.armed s1 (N + 1)) :: A) w' := fun w0 B F D J vS vR A W h => o_arm h 2 rfl hfu (N + 1) (by omega)
          have q2 : ∀ (w0 : World) B F D J vS vR A W, Mem.Own w0 (runA B F D (.pointer (some ⟨J, 0, none⟩)) 64 vS vR 1 :: jA J D (jw 64 h11 []) :: dk F D (Jk.armed s1 (N + 1)) :: A) W → Calls Try.prog 17 #[.pointer (some ⟨J, 0, none⟩), .string s] W fun e w' => e = .returned (.int .i64 0) ∧ Mem.Own w0 (runA B F D (.pointer (some ⟨J, 0, none⟩)) 64 vS vR 1 :: jA J D j1 :: dk F D t1' :: A) w' := fun w0 B F D J vS vR A W h => by
            have g := h.pick (M := jA J D (jw 64 h11 []) :: dk F D (Jk.armed s1 (N + 1)) :: (runA B F D (.pointer (some ⟨J, 0, none⟩)) 64 vS vR 1 :: A)) (fun i => if i = 0 then 1 else if i = 1 then 2 else if i = 2 then 0 else i) (fun i j _ _ e => by by_cases i0 : i = 0 <;> by_cases i1 : i = 1 <;> by_cases i2 : i = 2 <;> by_cases j0 : j = 0 <;> by_cases j1 : j = 1 <;> by_cases j2 : j = 2 <;> simp [i0, i1, i2, j0, j1, j2] at e ⊢ <;> omega) (fun i a hi => by match i, hi with | 0, hi => exact hi | 1, hi => exact hi | 2, hi => exact hi | i + 3, hi => exact hi)
            have r := o_append g (hj1 (Jk.armed s1 (N + 1)) rfl 1 (by decide)) s HC.out.2.2.1
            rw [ha1] at r
            exact r.mono fun e w' ⟨he, ho⟩ => ⟨he, own_swap (L1 := []) (own_swap (L1 := [_]) ho)⟩
          have q3 : ∀ (w0 : World) B F D J vS vR A W, Mem.Own w0 (runA B F D (.pointer (some ⟨J, 0, none⟩)) 64 vS vR 1 :: jA J D j1 :: dk F D t1' :: A) W → Calls Try.prog 18 #[.pointer (some ⟨F, 0, none⟩)] W fun e w' => e = .returned (.bool false) ∧ Mem.Own w0 (runA B F D (.pointer (some ⟨J, 0, none⟩)) 64 vS vR 1 :: jA J D j1 :: dk F D t1' :: A) w' := fun w0 B F D J vS vR A W h => by have r := o_blown h 2 rfl; rw [ha3'] at r; exact r
          have q4 : ∀ (w0 : World) B F D J vS vR A W, Mem.Own w0 (runA B F D (.pointer (some ⟨J, 0, none⟩)) 64 vS vR 1 :: jA J D (jw 64 h11 []) :: dk F D s1 :: A) W → Calls Try.prog 16 #[.pointer (some ⟨F, 0, none⟩), .int .i64 ((M : Int) + 3)] W fun e w' => e = .returned (.int .i64 0) ∧ Mem.Own w0 (runA B F D (.pointer (some ⟨J, 0, none⟩)) 64 vS vR 1 :: jA J D (jw 64 h11 []) :: dk F D (Jk.armed s1 (M + 3)) :: A) w' := fun w0 B F D J vS vR A W h => o_arm h 2 rfl hfu (M + 3) (by omega)
          have q5 : ∀ (w0 : World) B F D J vS vR A W, Kept w w0 → Mem.Own w0 (runA B F D (.pointer (some ⟨J, 0, none⟩)) 64 vS vR 1 :: jA J D (jw 64 h11 []) :: dk F D (Jk.armed s1 (M + 3)) :: A) W → Calls Try.prog 19 #[.pointer (some ⟨J, 0, none⟩), .slice ao k cap] W fun e w' => e = .returned (.int .i64 0) ∧ Mem.Own w0 (runA B F D (.pointer (some ⟨J, 0, none⟩)) 64 vS vR 1 :: jA J D j2 :: dk F D t2' :: A) w' := fun w0 B F D J vS vR A W hkw h => by
            have g := h.pick (M := jA J D (jw 64 h11 []) :: dk F D (Jk.armed s1 (M + 3)) :: (runA B F D (.pointer (some ⟨J, 0, none⟩)) 64 vS vR 1 :: A)) (fun i => if i = 0 then 1 else if i = 1 then 2 else if i = 2 then 0 else i) (fun i j _ _ e => by by_cases i0 : i = 0 <;> by_cases i1 : i = 1 <;> by_cases i2 : i = 2 <;> by_cases j0 : j = 0 <;> by_cases j1 : j = 1 <;> by_cases j2 : j = 2 <;> simp [i0, i1, i2, j0, j1, j2] at e ⊢ <;> omega) (fun i a hi => by match i, hi with | 0, hi => exact hi | 1, hi => exact hi | 2, hi => exact hi | i + 3, hi => exact hi)
            have r := o_compact g ao cap k X (by omega) (hj1 (Jk.armed s1 (M + 3)) rfl k (by omega)) HC.out.2.2.2.1 (HS.out.kept (hkw.trans h.kept))
            rw [hb1] at r
            exact r.mono fun e w' ⟨he, ho⟩ => ⟨he, own_swap (L1 := []) (own_swap (L1 := [_]) ho)⟩
          have q6 : ∀ (w0 : World) B F D J vS vR A W, Mem.Own w0 (runA B F D (.pointer (some ⟨J, 0, none⟩)) 64 vS vR 1 :: jA J D j2 :: dk F D t2' :: A) W → Calls Try.prog 18 #[.pointer (some ⟨F, 0, none⟩)] W fun e w' => e = .returned (.bool false) ∧ Mem.Own w0 (runA B F D (.pointer (some ⟨J, 0, none⟩)) 64 vS vR 1 :: jA J D j2 :: dk F D t2' :: A) w' := fun w0 B F D J vS vR A W h => by have r := o_blown h 2 rfl; rw [hb3'] at r; exact r
          have q7 : ∀ (w0 : World) B F D J vS vR A W, Mem.Own w0 (runA B F D (.pointer (some ⟨J, 0, none⟩)) 64 vS vR 1 :: jA J D j2 :: dk F D t2' :: A) W → Calls Try.prog 20 #[.pointer (some ⟨J, 0, none⟩)] W fun e w' => e = .returned (.int .i64 (k : Int)) ∧ Mem.Own w0 (runA B F D (.pointer (some ⟨J, 0, none⟩)) 64 vS vR 1 :: jA J D j2 :: dk F D t2' :: A) w' := fun w0 B F D J vS vR A W h => by have r := lsn_c J D j2 W (own_j h 1 rfl); rw [hn1] at r; exact r.mono fun e w' ⟨he, hw⟩ => ⟨he, hw ▸ h⟩
          have q8 : ∀ (w0 : World) B F D J vS vR A W, Mem.Own w0 (runA B F D (.pointer (some ⟨J, 0, none⟩)) 64 vS vR 1 :: jA J D j2 :: dk F D t2' :: A) W → Calls Try.prog 21 #[.pointer (some ⟨J, 0, none⟩)] W fun e w' => e = .returned (.int .i64 (64 - (M : Int))) ∧ Mem.Own w0 (runA B F D (.pointer (some ⟨J, 0, none⟩)) 64 vS vR 1 :: jA J D j2 :: dk F D t2' :: A) w' := fun w0 B F D J vS vR A W h => by have r := room_c J D j2 (by omega) (by omega) W (own_j h 1 rfl); rw [hn2, hn3] at r; exact r.mono fun e w' ⟨he, hw⟩ => ⟨he, h.later hw⟩
          have q9 : ∀ (w0 : World) B F D J vS vR A W, Mem.Own w0 (runA B F D (.pointer (some ⟨J, 0, none⟩)) 64 vS vR 1 :: jA J D j2 :: dk F D t2' :: A) W → Calls Try.prog 22 #[.pointer (some ⟨F, 0, none⟩)] W fun e w' => e = .returned (.tuple #[]) ∧ Mem.Own w0 (runA B F D (.pointer (some ⟨J, 0, none⟩)) 64 vS vR 1 :: jA J D j2 :: dk F D { t2' with fu := .idle } :: A) w' := fun w0 B F D J vS vR A W h => o_reset h 2 rfl
          have q10 : ∀ (w0 : World) B F D J vS vR A W, Mem.Own w0 (runA B F D (.pointer (some ⟨J, 0, none⟩)) 64 vS vR 1 :: jA J D j2 :: dk F D { t2' with fu := .idle } :: A) W → Calls Try.prog 16 #[.pointer (some ⟨F, 0, none⟩), .int .i64 2] W fun e w' => e = .returned (.int .i64 0) ∧ Mem.Own w0 (runA B F D (.pointer (some ⟨J, 0, none⟩)) 64 vS vR 1 :: jA J D j2 :: dk F D (Jk.armed { t2' with fu := .idle } 2) :: A) w' := fun w0 B F D J vS vR A W h => o_arm h 2 rfl rfl 2 (by decide)
          have q11 : ∀ (w0 : World) B F D J vS vR A W, Mem.Own w0 (runA B F D (.pointer (some ⟨J, 0, none⟩)) 64 vS vR 1 :: jA J D j2 :: dk F D (Jk.armed { t2' with fu := .idle } 2) :: A) W → Calls Try.prog 23 #[.pointer (some ⟨D, 0, none⟩), .int .i64 64] W fun e w' => (∃ J2 vS2 vR2, e = .returned (.tuple #[.pointer (some ⟨J2, 0, none⟩), vS2, vR2, .int .i64 0])) ∧ Kept w0 w' := fun w0 B F D J vS vR A W h => by
            have g := own_swap (L1 := []) (own_swap (L1 := [_]) h)
            refine (o_open g hb5 64 (by decide) hb6 hb7 c2 _ hb8 hb9 R2 hb10 hb11).mono ?_
            rintro e w' ⟨hw, _⟩
            obtain ⟨J2, vS2, vR2, he, ho⟩ := hw hV
            exact ⟨⟨J2, vS2, vR2, he⟩, ho.kept⟩
          have HQ := Lib.hid (And.intro q1 (And.intro q2 (And.intro q3 (And.intro q4 (And.intro q5 (And.intro q6 (And.intro q7 (And.intro q8 (And.intro q9 (And.intro q10 q11))))))))))
          have HB := Lib.hid (And.intro hbeg hkw)
          clear q1 q2 q3 q4 q5 q6 q7 q8 q9 q10 q11 ha1 ha2 ha3 ha3' hb1 hb2 hb3 hb3' hb4 hb5 hb6 hb7 hb8 hb9 hb10 hb11 hb12 hV hfu hj1 hbeg hkw hn1 hn2 hn3
          go_wp2_with (first
            | (go_at_call 9; first
                | ((with_reducible refine (HB.out.1 u4).mono ?_); rintro e u5 ⟨B2, F2, D2, J2, vS2, vR2, rfl, k5'⟩; have k5 := Lib.hid k5'; obtain ⟨⟨_, _, _, _, _, _, _⟩, _⟩ := runBlock k5' 0 rfl; clear k5')
                | ((with_reducible refine (HB.out.1 wr).mono ?_); rintro e u1 ⟨B, F, D, J, vS, vR, rfl, k1'⟩; have k1 := Lib.hid k1'; obtain ⟨⟨_, _, _, _, _, _, _⟩, _⟩ := runBlock k1' 0 rfl; clear k1'))
            | (go_at_call 16; first
                | ((with_reducible refine (HQ.out.2.2.2.2.2.2.2.2.2.1 _ _ _ _ _ _ _ _ _ k9.out).mono ?_); rintro e u10 ⟨rfl, k10'⟩; have k10 := Lib.hid k10'; obtain ⟨⟨_, _, _, _, _, _, _⟩, _⟩ := runBlock k10' 0 rfl; clear k10')
                | ((with_reducible refine (HQ.out.2.2.2.1 _ _ _ _ _ _ _ _ _ k5.out).mono ?_); rintro e u6 ⟨rfl, k6'⟩; have k6 := Lib.hid k6'; obtain ⟨⟨_, _, _, _, _, _, _⟩, _⟩ := runBlock k6' 0 rfl; clear k6')
                | ((with_reducible refine (HQ.out.1 _ _ _ _ _ _ _ _ _ k1.out).mono ?_); rintro e u2 ⟨rfl, k2'⟩; have k2 := Lib.hid k2'; obtain ⟨⟨_, _, _, _, _, _, _⟩, _⟩ := runBlock k2' 0 rfl; clear k2'))
            | (go_at_call 17; (with_reducible refine (HQ.out.2.1 _ _ _ _ _ _ _ _ _ k2.out).mono ?_); rintro e u3 ⟨rfl, k3'⟩; have k3 := Lib.hid k3'; obtain ⟨⟨_, _, _, _, _, _, _⟩, _⟩ := runBlock k3' 0 rfl; clear k3')
            | (go_at_call 18; first
                | ((with_reducible refine (HQ.out.2.2.2.2.2.1 _ _ _ _ _ _ _ _ _ k7.out).mono ?_); rintro e u8 ⟨rfl, k8'⟩; have k8 := Lib.hid k8'; obtain ⟨⟨_, _, _, _, _, _, _⟩, _⟩ := runBlock k8' 0 rfl; clear k8')
                | ((with_reducible refine (HQ.out.2.2.1 _ _ _ _ _ _ _ _ _ k3.out).mono ?_); rintro e u4 ⟨rfl, k4'⟩; have k4 := Lib.hid k4'; obtain ⟨⟨_, _, _, _, _, _, _⟩, _⟩ := runBlock k4' 0 rfl; have W1 := Lib.hid (HB.out.2.trans k4'.kept); clear k4'))
            | (go_at_call 19; (with_reducible refine (HQ.out.2.2.2.2.1 _ _ _ _ _ _ _ _ _ W1.out k6.out).mono ?_); rintro e u7 ⟨rfl, k7'⟩; have k7 := Lib.hid k7'; obtain ⟨⟨_, _, _, _, _, _, _⟩, _⟩ := runBlock k7' 0 rfl; clear k7')
            | (go_at_call 20; (with_reducible refine (HQ.out.2.2.2.2.2.2.1 _ _ _ _ _ _ _ _ _ k8.out).mono ?_); rintro e u81 ⟨rfl, k81'⟩; have k81 := Lib.hid k81'; obtain ⟨⟨_, _, _, _, _, _, _⟩, _⟩ := runBlock k81' 0 rfl; clear k81')
            | (go_at_call 21; (with_reducible refine (HQ.out.2.2.2.2.2.2.2.1 _ _ _ _ _ _ _ _ _ k81.out).mono ?_); rintro e u82 ⟨rfl, k82'⟩; have k82 := Lib.hid k82'; obtain ⟨⟨_, _, _, _, _, _, _⟩, _⟩ := runBlock k82' 0 rfl; clear k82')
            | (go_at_call 22; (with_reducible refine (HQ.out.2.2.2.2.2.2.2.2.1 _ _ _ _ _ _ _ _ _ k82.out).mono ?_); rintro e u9 ⟨rfl, k9'⟩; have k9 := Lib.hid k9'; obtain ⟨⟨_, _, _, _, _, _, _⟩, _⟩ := runBlock k9' 0 rfl; clear k9')
            | (go_at_call 23; (with_reducible refine (HQ.out.2.2.2.2.2.2.2.2.2.2 _ _ _ _ _ _ _ _ _ k10.out).mono ?_); rintro e u11 ⟨⟨J2', vS2', vR2', rfl⟩, k11'⟩; have k11 := Lib.hid k11'; clear k11'))
          go_roundw
          case rel => exact ⟨1, .inr (.inl rfl), rfl, W1.out.trans k11.out⟩
          case measure => simp [intOf]
        · obtain ⟨⟨E1, j1, t1', ha1, ha2, ha3⟩, E2, j2, t2', c2, R2, hb1, hb2, hb3, hb4, hb5, hb6, hb7, hb8, hb9, hb10, hb11, hb12⟩ := HC.out.2.1
          rw [← HC.out.2.2.2.2.2.2.2.1] at ha1
          rw [← HC.out.2.2.2.2.2.2.1] at hb1 hb4
          rw [show N + 1 - 1 = N by omega] at ha1
          rw [show M + 3 - 1 = M + 2 by omega] at hb1
          have hfu := HC.out.2.2.2.2.2.1
          have hj1 := HC.out.2.2.2.2.1
          have te1 : (E1 == 0) = false := by have h : ¬ E1 = 0 := (by simpa using ha2); simpa using h
          have te2 : (E2 == 0) = false := by have h : ¬ E2 = 0 := (by simpa using hb2); simpa using h
          have hV : (Hk.saves (Jk.armed { t2' with fu := .idle } 1) (nextHd c2)).1 ≠ 0 := by simpa using hb12
          have ha3' : t1'.fu.dead = true := by simpa using ha3
          have hb3' : t2'.fu.dead = true := by simpa using hb3
          have q1 : ∀ (w0 : World) B F D J vS vR A W, Mem.Own w0 (runA B F D (.pointer (some ⟨J, 0, none⟩)) 64 vS vR 1 :: jA J D (jw 64 h11 []) :: dk F D s1 :: A) W → Calls Try.prog 16 #[.pointer (some ⟨F, 0, none⟩), .int .i64 (N : Int)] W fun e w' => e = .returned (.int .i64 0) ∧ Mem.Own w0 (runA B F D (.pointer (some ⟨J, 0, none⟩)) 64 vS vR 1 :: jA J D (jw 64 h11 []) :: dk F D (Jk.armed s1 (N)) :: A) w' := fun w0 B F D J vS vR A W h => o_arm h 2 rfl hfu (N) (by omega)
          have q2 : ∀ (w0 : World) B F D J vS vR A W, Mem.Own w0 (runA B F D (.pointer (some ⟨J, 0, none⟩)) 64 vS vR 1 :: jA J D (jw 64 h11 []) :: dk F D (Jk.armed s1 (N)) :: A) W → Calls Try.prog 17 #[.pointer (some ⟨J, 0, none⟩), .string s] W fun e w' => e = .returned (.int .i64 E1) ∧ Mem.Own w0 (runA B F D (.pointer (some ⟨J, 0, none⟩)) 64 vS vR 1 :: jA J D j1 :: dk F D t1' :: A) w' := fun w0 B F D J vS vR A W h => by
            have g := h.pick (M := jA J D (jw 64 h11 []) :: dk F D (Jk.armed s1 (N)) :: (runA B F D (.pointer (some ⟨J, 0, none⟩)) 64 vS vR 1 :: A)) (fun i => if i = 0 then 1 else if i = 1 then 2 else if i = 2 then 0 else i) (fun i j _ _ e => by by_cases i0 : i = 0 <;> by_cases i1 : i = 1 <;> by_cases i2 : i = 2 <;> by_cases j0 : j = 0 <;> by_cases j1 : j = 1 <;> by_cases j2 : j = 2 <;> simp [i0, i1, i2, j0, j1, j2] at e ⊢ <;> omega) (fun i a hi => by match i, hi with | 0, hi => exact hi | 1, hi => exact hi | 2, hi => exact hi | i + 3, hi => exact hi)
            have r := o_append g (hj1 (Jk.armed s1 N) rfl 1 (by decide)) s HC.out.2.2.1
            rw [ha1] at r
            exact r.mono fun e w' ⟨he, ho⟩ => ⟨he, own_swap (L1 := []) (own_swap (L1 := [_]) ho)⟩
          have q3 : ∀ (w0 : World) B F D J vS vR A W, Mem.Own w0 (runA B F D (.pointer (some ⟨J, 0, none⟩)) 64 vS vR 1 :: jA J D j1 :: dk F D t1' :: A) W → Calls Try.prog 18 #[.pointer (some ⟨F, 0, none⟩)] W fun e w' => e = .returned (.bool true) ∧ Mem.Own w0 (runA B F D (.pointer (some ⟨J, 0, none⟩)) 64 vS vR 1 :: jA J D j1 :: dk F D t1' :: A) w' := fun w0 B F D J vS vR A W h => by have r := o_blown h 2 rfl; rw [ha3'] at r; exact r
          have q4 : ∀ (w0 : World) B F D J vS vR A W, Mem.Own w0 (runA B F D (.pointer (some ⟨J, 0, none⟩)) 64 vS vR 1 :: jA J D (jw 64 h11 []) :: dk F D s1 :: A) W → Calls Try.prog 16 #[.pointer (some ⟨F, 0, none⟩), .int .i64 ((M : Int) + 3 - 1)] W fun e w' => e = .returned (.int .i64 0) ∧ Mem.Own w0 (runA B F D (.pointer (some ⟨J, 0, none⟩)) 64 vS vR 1 :: jA J D (jw 64 h11 []) :: dk F D (Jk.armed s1 (M + 2)) :: A) w' := fun w0 B F D J vS vR A W h => by
            have r := o_arm h 2 rfl hfu (M + 2) (by omega)
            rw [show ((M + 2 : Nat) : Int) = (M : Int) + 3 - 1 by omega] at r
            exact r
          have q5 : ∀ (w0 : World) B F D J vS vR A W, Kept w w0 → Mem.Own w0 (runA B F D (.pointer (some ⟨J, 0, none⟩)) 64 vS vR 1 :: jA J D (jw 64 h11 []) :: dk F D (Jk.armed s1 (M + 2)) :: A) W → Calls Try.prog 19 #[.pointer (some ⟨J, 0, none⟩), .slice ao k cap] W fun e w' => e = .returned (.int .i64 E2) ∧ Mem.Own w0 (runA B F D (.pointer (some ⟨J, 0, none⟩)) 64 vS vR 1 :: jA J D j2 :: dk F D t2' :: A) w' := fun w0 B F D J vS vR A W hkw h => by
            have g := h.pick (M := jA J D (jw 64 h11 []) :: dk F D (Jk.armed s1 (M + 2)) :: (runA B F D (.pointer (some ⟨J, 0, none⟩)) 64 vS vR 1 :: A)) (fun i => if i = 0 then 1 else if i = 1 then 2 else if i = 2 then 0 else i) (fun i j _ _ e => by by_cases i0 : i = 0 <;> by_cases i1 : i = 1 <;> by_cases i2 : i = 2 <;> by_cases j0 : j = 0 <;> by_cases j1 : j = 1 <;> by_cases j2 : j = 2 <;> simp [i0, i1, i2, j0, j1, j2] at e ⊢ <;> omega) (fun i a hi => by match i, hi with | 0, hi => exact hi | 1, hi => exact hi | 2, hi => exact hi | i + 3, hi => exact hi)
            have r := o_compact g ao cap k X (by omega) (hj1 (Jk.armed s1 (M + 2)) rfl k (by omega)) HC.out.2.2.2.1 (HS.out.kept (hkw.trans h.kept))
            rw [hb1] at r
            exact r.mono fun e w' ⟨he, ho⟩ => ⟨he, own_swap (L1 := []) (own_swap (L1 := [_]) ho)⟩
          have q6 : ∀ (w0 : World) B F D J vS vR A W, Mem.Own w0 (runA B F D (.pointer (some ⟨J, 0, none⟩)) 64 vS vR 1 :: jA J D j2 :: dk F D t2' :: A) W → Calls Try.prog 18 #[.pointer (some ⟨F, 0, none⟩)] W fun e w' => e = .returned (.bool true) ∧ Mem.Own w0 (runA B F D (.pointer (some ⟨J, 0, none⟩)) 64 vS vR 1 :: jA J D j2 :: dk F D t2' :: A) w' := fun w0 B F D J vS vR A W h => by have r := o_blown h 2 rfl; rw [hb3'] at r; exact r
          have q7 : True := trivial
          have q8 : True := trivial
          have q9 : ∀ (w0 : World) B F D J vS vR A W, Mem.Own w0 (runA B F D (.pointer (some ⟨J, 0, none⟩)) 64 vS vR 1 :: jA J D j2 :: dk F D t2' :: A) W → Calls Try.prog 22 #[.pointer (some ⟨F, 0, none⟩)] W fun e w' => e = .returned (.tuple #[]) ∧ Mem.Own w0 (runA B F D (.pointer (some ⟨J, 0, none⟩)) 64 vS vR 1 :: jA J D j2 :: dk F D { t2' with fu := .idle } :: A) w' := fun w0 B F D J vS vR A W h => o_reset h 2 rfl
          have q10 : ∀ (w0 : World) B F D J vS vR A W, Mem.Own w0 (runA B F D (.pointer (some ⟨J, 0, none⟩)) 64 vS vR 1 :: jA J D j2 :: dk F D { t2' with fu := .idle } :: A) W → Calls Try.prog 16 #[.pointer (some ⟨F, 0, none⟩), .int .i64 1] W fun e w' => e = .returned (.int .i64 0) ∧ Mem.Own w0 (runA B F D (.pointer (some ⟨J, 0, none⟩)) 64 vS vR 1 :: jA J D j2 :: dk F D (Jk.armed { t2' with fu := .idle } 1) :: A) w' := fun w0 B F D J vS vR A W h => o_arm h 2 rfl rfl 1 (by decide)
          have q11 : ∀ (w0 : World) B F D J vS vR A W, Mem.Own w0 (runA B F D (.pointer (some ⟨J, 0, none⟩)) 64 vS vR 1 :: jA J D j2 :: dk F D (Jk.armed { t2' with fu := .idle } 1) :: A) W → Calls Try.prog 23 #[.pointer (some ⟨D, 0, none⟩), .int .i64 64] W fun e w' => (∃ E3, e = .returned (.tuple #[.pointer none, .slice none 0 0, .slice none 0 0, .int .i64 E3]) ∧ E3 ≠ 0) ∧ Kept w0 w' := fun w0 B F D J vS vR A W h => by
            have g := own_swap (L1 := []) (own_swap (L1 := [_]) h)
            refine (o_open g hb5 64 (by decide) hb6 hb7 c2 _ hb8 hb9 R2 hb10 hb11).mono ?_
            rintro e w' ⟨_, hw⟩
            obtain ⟨he, ho⟩ := hw hV
            exact ⟨⟨_, he, hV⟩, ho.kept⟩
          have HQ := Lib.hid (And.intro q1 (And.intro q2 (And.intro q3 (And.intro q4 (And.intro q5 (And.intro q6 (And.intro q7 (And.intro q8 (And.intro q9 (And.intro q10 q11))))))))))
          have HB := Lib.hid (And.intro hbeg hkw)
          clear q1 q2 q3 q4 q5 q6 q7 q8 q9 q10 q11 ha1 ha2 ha3 ha3' hb1 hb2 hb3 hb3' hb4 hb5 hb6 hb7 hb8 hb9 hb10 hb11 hb12 hV hfu hj1 hbeg hkw
          go_wp2_with (first
            | (go_at_call 9; first
                | ((with_reducible refine (HB.out.1 u4).mono ?_); rintro e u5 ⟨B2, F2, D2, J2, vS2, vR2, rfl, k5'⟩; have k5 := Lib.hid k5'; obtain ⟨⟨_, _, _, _, _, _, _⟩, _⟩ := runBlock k5' 0 rfl; clear k5')
                | ((with_reducible refine (HB.out.1 wr).mono ?_); rintro e u1 ⟨B, F, D, J, vS, vR, rfl, k1'⟩; have k1 := Lib.hid k1'; obtain ⟨⟨_, _, _, _, _, _, _⟩, _⟩ := runBlock k1' 0 rfl; clear k1'))
            | (go_at_call 16; first
                | ((with_reducible refine (HQ.out.2.2.2.2.2.2.2.2.2.1 _ _ _ _ _ _ _ _ _ k9.out).mono ?_); rintro e u10 ⟨rfl, k10'⟩; have k10 := Lib.hid k10'; obtain ⟨⟨_, _, _, _, _, _, _⟩, _⟩ := runBlock k10' 0 rfl; clear k10')
                | ((with_reducible refine (HQ.out.2.2.2.1 _ _ _ _ _ _ _ _ _ k5.out).mono ?_); rintro e u6 ⟨rfl, k6'⟩; have k6 := Lib.hid k6'; obtain ⟨⟨_, _, _, _, _, _, _⟩, _⟩ := runBlock k6' 0 rfl; clear k6')
                | ((with_reducible refine (HQ.out.1 _ _ _ _ _ _ _ _ _ k1.out).mono ?_); rintro e u2 ⟨rfl, k2'⟩; have k2 := Lib.hid k2'; obtain ⟨⟨_, _, _, _, _, _, _⟩, _⟩ := runBlock k2' 0 rfl; clear k2'))
            | (go_at_call 17; (with_reducible refine (HQ.out.2.1 _ _ _ _ _ _ _ _ _ k2.out).mono ?_); rintro e u3 ⟨rfl, k3'⟩; have k3 := Lib.hid k3'; obtain ⟨⟨_, _, _, _, _, _, _⟩, _⟩ := runBlock k3' 0 rfl; clear k3')
            | (go_at_call 18; first
                | ((with_reducible refine (HQ.out.2.2.2.2.2.1 _ _ _ _ _ _ _ _ _ k7.out).mono ?_); rintro e u8 ⟨rfl, k8'⟩; have k8 := Lib.hid k8'; obtain ⟨⟨_, _, _, _, _, _, _⟩, _⟩ := runBlock k8' 0 rfl; clear k8')
                | ((with_reducible refine (HQ.out.2.2.1 _ _ _ _ _ _ _ _ _ k3.out).mono ?_); rintro e u4 ⟨rfl, k4'⟩; have k4 := Lib.hid k4'; obtain ⟨⟨_, _, _, _, _, _, _⟩, _⟩ := runBlock k4' 0 rfl; have W1 := Lib.hid (HB.out.2.trans k4'.kept); clear k4'))
            | (go_at_call 19; (with_reducible refine (HQ.out.2.2.2.2.1 _ _ _ _ _ _ _ _ _ W1.out k6.out).mono ?_); rintro e u7 ⟨rfl, k7'⟩; have k7 := Lib.hid k7'; obtain ⟨⟨_, _, _, _, _, _, _⟩, _⟩ := runBlock k7' 0 rfl; clear k7')
            | (go_at_call 22; (with_reducible refine (HQ.out.2.2.2.2.2.2.2.2.1 _ _ _ _ _ _ _ _ _ k8.out).mono ?_); rintro e u9 ⟨rfl, k9'⟩; have k9 := Lib.hid k9'; obtain ⟨⟨_, _, _, _, _, _, _⟩, _⟩ := runBlock k9' 0 rfl; clear k9')
            | (go_at_call 23; (with_reducible refine (HQ.out.2.2.2.2.2.2.2.2.2.2 _ _ _ _ _ _ _ _ _ k10.out).mono ?_); rintro e u11 ⟨⟨E3, rfl, hE3⟩, k11'⟩; have te3 : (E3 == 0) = false := (by simpa using hE3); have k11 := Lib.hid k11'; clear k11' hE3))
          go_roundw
          case rel => exact ⟨2, .inr (.inr rfl), rfl, W1.out.trans k11.out⟩
          case measure => simp [intOf]
        · have HK := Lib.hid hkw
          clear hkw
          go_wp2_with (go_at_call 8; (with_reducible refine (Jk.known_c _).mono ?_); rintro e u10 ⟨rfl, k10⟩)
          go_ret
          exact ⟨rfl, HK.out.trans k10⟩
theorem walk (w : World) (s : ByteArray) (hs : s.size ≤ maxLen) (ao : Option Addr) (len cap : Nat) (X : Nat → ByteArray) (hc : 0 < len → ∃ b off, ao = some ⟨b, off, none⟩ ∧ b < w.heap.size ∧ ∀ i, i < len → w.cell? ⟨b, off + i, none⟩ = some (.string (X i))) (ho : ∀ i, i < len → (X i).size ≤ maxLen) (hm : len ≤ maxLen) :
    Calls Try.prog 5 #[.string s, .slice ao len cap] w fun e w' => e = .returned (.bool true) ∧ Kept w w' := by
  by_cases h1 : 1000 < s.size
  · exact long1 w s hs ao len cap h1
  by_cases h5 : 5 < len
  · exact long2 w s hs ao len cap h1 h5
  exact core w s h1 ao len cap h5 X fun i hi => by
    obtain ⟨b, off, e, _, h⟩ := hc (by omega)
    exact ⟨b, off, e, h i hi⟩

set_option maxRecDepth 100000 in
theorem lifted (os : Os) (started : os.Started) (H : Type) (enc : TypeId × Value → H) :
    ReturnsInHanded {} Try.checked os 5 .any (Rows.journalCountsSpec.pre6 enc Try.prog Try.f5 Rows.journalCountsRow.domain false) (Rows.journalCountsSpec.post enc Try.prog Try.f5 false true false false) := by
  refine returnsInHanded_of_change (C := Try.checked) own started (by kernel_rfl) Try.func5
    (ChangeSpec.witness6 (enc := enc) (C := Try.checked) false ⟨#[], #[.string ByteArray.empty, .slice none 0 0], []⟩ 8 (by kernel_rfl) (by kernel_rfl) (by kernel_rfl) (by kernel_rfl)) ?_
  intro W base args ds gs before hval0 hW hcnd _
  have hval : ∀ (j : Nat) t v, Try.f5.params[j]? = some t → args[j]? = some v → Value.okWide Try.prog W .any base t v := hval0
  have hW' := hW
  obtain ⟨p, q, hA0, hV, rfl, hfz, hnd⟩ := hW
  have hA : DataW.TrodAll enc Try.prog W 0 (fun _ => true) true Try.f5.params.toList args.toList ds p := hA0
  rw [Try.params5] at hA hval
  obtain ⟨v0, vs0, d0, ds0, p0, q0, hargs0, rfl, rfl, h0, r0⟩ := trodAll_cons hA
  obtain ⟨v1, vs1, d1, ds1, p1, q1, hargs1, rfl, rfl, h1, r1⟩ := trodAll_cons r0
  obtain ⟨rfl, rfl, rfl⟩ := trodAll_nil r1
  obtain rfl : args = #[v0, v1] := by cases args; simp_all
  obtain ⟨rfl, rfl⟩ := trodVars_none hV
  obtain ⟨n0, b0, e0⟩ := open_str (hval 0 9 v0 rfl rfl) h0
  obtain ⟨ao1, len1, cap1, X1, e1, c1, o1, m1⟩ := open_strs (hval 1 29 v1 rfl rfl) h1
  clear hA0 hval0
  simp only [List.append_nil] at hW'
  have hlt0 : ∀ x ∈ p0, x.block < W.heap.size := fun x hx => hW'.lt x (by simp [hx])
  have hlt1 : ∀ x ∈ p1, x.block < W.heap.size := fun x hx => hW'.lt x (by simp [hx])
  have hwalk := walk W n0 b0 ao1 len1 cap1 X1 c1 o1 m1
  rw [← e0, ← e1] at hwalk
  refine hwalk.mono fun e W' ⟨he, hg⟩ => ?_
  subst he
  exact ⟨_, rfl, _, _, _, [], _, [], hW', (trodAll_cons_mk (shut_bool Try.underlying4 _) trodAll_mk0), (trodAll_cons_mk (Below.trod laidOut (by kernel_rfl) (of_decide_eq_true (by kernel_rfl)) h0 hg hlt0) (trodAll_cons_mk (Below.trod laidOut (by kernel_rfl) (of_decide_eq_true (by kernel_rfl)) h1 hg hlt1) trodAll_mk0)), rfl, Below.frame hg _, fun h => by cases h⟩

theorem over : Rows.journalCountsRow.holds Try.pinned (OpenSpec.ofChange Rows.journalCountsSpec) :=
  OpenClaim.holds_of_wide 5 Try.f5 rfl rfl rfl rfl rfl rfl rfl ⟨rfl, rfl, rfl, rfl, rfl⟩ rfl rfl rfl rfl rfl (by kernel_rfl) Try.func5 (by kernel_rfl)
    (of_decide_eq_true (by kernel_rfl)) (by unfold Func.isWrapper; first | (rw [if_pos (by decide +kernel)]; kernel_rfl) | (rw [if_neg (by decide +kernel)]; exact ⟨rfl, rfl⟩))
    (fun os started H enc _ => lifted os started H enc)

/-- ████ THE STATEMENT ████ -/
theorem proved : Rows.JournalCountsSaid :=
  over
#print axioms proved
end Go.Proofs.Ytjbcpfndpfeepaa.journalCounts
