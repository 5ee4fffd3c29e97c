/-
  PROVED: the statement 'SlotsOneSaid': for every input the law SlotsOne returns true, and each argument reads afterwards as it read before. No condition.
-/
import Derived.Test.YtmmlgnoicecgfaaKm
import Derived.Test.YtmmlgnoicecgfaaKt
import Derived.Test.YtmmlgnoicecgfaaRows
import Derived.WalkKit
import Derived.Deep.RegionHeld3
import Derived.BigQuiet
import Derived.ProofKit
import Derived.OpenShut
import Derived.ShutString
namespace Go.Proofs.Ytmmlgnoicecgfaa.slotsOne
open Go.ChangeShapes Go.WideShapes Go.ChangeAt Go.RowKit
open Go.Proofs.Ytmmlgnoicecgfaa.Mem Go.Proofs.Ytmmlgnoicecgfaa.Hk Go.Proofs.Ytmmlgnoicecgfaa.Pk Go.Proofs.Ytmmlgnoicecgfaa.Dz Go.Proofs.Ytmmlgnoicecgfaa.Fz
set_option linter.unusedVariables false

theorem own : ownKnob Try.prog.godebug = none := by kernel_rfl
theorem laidOut : laidOutB Try.prog = true := by kernel_rfl

theorem neqH (q b a f n q' b' a' f' n' : Int) (w : World) :
    (binOp .neq 50 (.agg #[.int .i64 q, .int .i64 b, .int .i64 a, .int .i64 f, .int .i64 n]) (.agg #[.int .i64 q', .int .i64 b', .int .i64 a', .int .i64 f', .int .i64 n'])).run Try.prog w = .ok (.bool (!sameH q b a f n q' b' a' f' n')) w := by
  unfold sameH
  simp [go_sem, Try.underlying50]
  (repeat' split) <;> simp_all
theorem neq_same (q b a f n : Int) (w : World) :
    (binOp .neq 50 (.agg #[.int .i64 q, .int .i64 b, .int .i64 a, .int .i64 f, .int .i64 n]) (.agg #[.int .i64 q, .int .i64 b, .int .i64 a, .int .i64 f, .int .i64 n])).run Try.prog w = .ok (.bool false) w := by
  rw [neqH, show sameH q b a f n q b a f n = true by simp [sameH]]; rfl
theorem neq_next (q b a f n b' a' f' n' : Int) (w : World) :
    (binOp .neq 50 (.agg #[.int .i64 (q + 1), .int .i64 b', .int .i64 a', .int .i64 f', .int .i64 n']) (.agg #[.int .i64 q, .int .i64 b, .int .i64 a, .int .i64 f, .int .i64 n])).run Try.prog w = .ok (.bool true) w := by
  rw [neqH, show sameH (q + 1) b' a' f' n' q b a f n = false by unfold sameH; simp; omega]; rfl
set_option maxRecDepth 100000 in
theorem long (w : World) (ao : Option Addr) (len cap : Nat) (h : 30 < len) :
    Calls Try.prog 8 #[.slice ao len cap] w fun e w' => e = .returned (.bool true) ∧ Kept w w' := by
  have hkn : ∀ W, Calls Try.prog 18 #[] W fun e w' => e = .returned (.bool true) ∧ Kept W w' := known_c
  have t1 : decide (30 < (len : Int)) = true := by simp; omega
  have t2 : decide (30 < len) = true := by simp; omega
  clear h
  go_enter Try.func8, Try.ntmps8
  go_wp2_with (go_at_call 18; (with_reducible refine (hkn _).mono ?_); rintro e u10 ⟨rfl, k10⟩)
  go_ret
  exact ⟨rfl, k10⟩
set_option maxHeartbeats 8000000 in
set_option maxRecDepth 100000 in
theorem core (w : World) (ao : Option Addr) (len cap : Nat) (X : Nat → Trial) (h30 : len ≤ 30) (hX : ∀ i, i < len → ∃ b off, ao = some ⟨b, off, none⟩ ∧ b < w.heap.size ∧ (X i).at b (off + i * 6) w) (hok : ∀ i, i < len → (X i).ok) :
    Calls Try.prog 8 #[.slice ao len cap] w fun e w' => e = .returned (.bool true) ∧ Kept w w' := by
  have hkn : ∀ W, Calls Try.prog 18 #[] W fun e w' => e = .returned (.bool true) ∧ Kept W w' := known_c
  have t1 : decide (30 < (len : Int)) = false := by simp; omega
  have t2 : decide (30 < len) = false := by simp; omega
  have hh := head_c 1 1
  have hfn : Calls Try.prog 33 #[] w fun e w' => ∃ F, e = .returned (.pointer (some ⟨F, 0, none⟩)) ∧ Mem.Own w [fzA F .idle] w' := o_fnew (Mem.Own.nil w)
  have hnew : ∀ (F : Nat) (W : World), Mem.Own w [fzA F .idle] W → Calls Try.prog 34 #[.int .i64 2, .pointer (some ⟨F, 0, none⟩)] W fun e w' => ∃ D, e = .returned (.tuple #[.pointer (some ⟨D, 0, none⟩), .int .i64 0]) ∧ Mem.Own w [dk F D (fresh 2 .idle)] w' := fun F W h => o_new h 0 rfl (n := 2) (by decide) (by decide)
  obtain ⟨S0, hS0⟩ : ∃ S0, S0 = saved (fresh 2 .idle) h11 := ⟨_, rfl⟩
  have hsv : ∀ (F D : Nat) (W : World), Mem.Own w [dk F D (fresh 2 .idle)] W → Calls Try.prog 23 #[.pointer (some ⟨D, 0, none⟩), .agg #[.int .i64 1, .int .i64 1, .int .i64 0, .int .i64 1, .int .i64 0]] W fun e w' => e = .returned (.int .i64 0) ∧ Mem.Own w [dk F D S0] w' := fun F D W h => by
    have := o_save h 0 rfl (by decide) h11
    rw [first_saves] at this
    rw [hS0]
    exact this
  have HS0 := Lib.hid (show Hk.Calm S0 h11 by rw [hS0]; exact first_calm)
  have HX := Lib.hid (And.intro hX (And.intro hok h30))
  clear hS0 hX hok
  go_enter Try.func8, Try.ntmps8
  go_wp2_with (first
    | (go_at_call 33; (with_reducible refine hfn.mono ?_); rintro e u1 ⟨F, rfl, p1⟩)
    | (go_at_call 34; (with_reducible refine (hnew F _ p1).mono ?_); rintro e u2 ⟨D, rfl, p2⟩)
    | (go_at_call 23; (with_reducible refine (hsv F D _ p3).mono ?_); rintro e u4 ⟨rfl, p4⟩)
    | (go_at_call 31; (with_reducible refine (hh _).mono ?_); rintro e u3 ⟨rfl, k3⟩; (first | (have p5 := (p4.later k3).box #[.int .i64 1, .int .i64 1, .int .i64 0, .int .i64 1, .int .i64 0] 50) | (have p3 := p2.later k3))))
  obtain ⟨B, hB⟩ : ∃ B, B = u3.heap.size := ⟨_, rfl⟩
  rw [← hB] at p5 ⊢
  go_loopw [7] (fun v wr => ∃ (j : Nat) (s : Ds) (h : Hd), j ≤ len ∧ v = .int .i64 (j : Int) ∧ Hk.Calm s h ∧ h.seq ≤ (j : Int) + 1 ∧ Mem.Own w [boxA B #[.int .i64 h.seq, .int .i64 h.boot, .int .i64 h.area, .int .i64 h.first, .int .i64 h.snaps] 50, dk F D s] wr) (fun v _ => len - (intOf v).toNat)
  case atStart => exact ⟨0, S0, h11, by omega, rfl, HS0.out, by decide, p5⟩
  case round =>
    clear p1 p2 p3 p4 p5 k3 hB hnew hfn hsv hh HS0
    obtain ⟨j, s, h, hj, rfl, hr, hsq, hp⟩ := hrel
    by_cases hlt : j < len
    · obtain ⟨b, off, rfl, hb, hat⟩ := HX.out.1 j hlt
      have ho := HX.out.2.1 j hlt
      have hj30 : j ≤ 30 := by have := HX.out.2.2; omega
      obtain ⟨x, hx⟩ : ∃ x, x = X j := ⟨_, rfl⟩
      rw [← hx] at hat ho
      obtain ⟨kb, ar, kk, ch⟩ := x
      clear hx
      have HAT := Lib.hid (fun (W : World) (hW : Kept w W) => hat.kept hW hb)
      clear hat
      have hkb : kb ≤ 255 := ho.hi_boot
      have hkk : kk ≤ 255 := ho.hi_k
      have hch : ch.ok := ho.hi_c
      clear ho
      have hs1 := hr.two.good.s1
      obtain ⟨K, hK, hK3⟩ : ∃ K : Nat, (kk : Int) % 3 = (K : Int) ∧ K < 3 := ⟨kk % 3, by omega, by omega⟩
      obtain ⟨A, hA⟩ : ∃ A : Int, A = if ar = true then 1 else 0 := ⟨_, rfl⟩
      have g : (Hd.mk (h.seq + 1) ((kb : Int) + 1) A (1 + (j : Int)) (j : Int)).good := by
        refine ⟨?_, ?_, ?_, ?_, ?_, ?_, ?_, ?_, ?_, ?_⟩
        · show 1 ≤ h.seq + 1; omega
        · show h.seq + 1 ≤ _; omega
        · show 1 ≤ 1 + (j : Int); omega
        · show 1 + (j : Int) ≤ _; omega
        · show 1 ≤ (kb : Int) + 1; omega
        · show (kb : Int) + 1 ≤ _; omega
        · show 0 ≤ A; rw [hA]; split <;> decide
        · show A ≤ 1; rw [hA]; split <;> decide
        · show 0 ≤ (j : Int); omega
        · show (j : Int) ≤ 65535; omega
      obtain ⟨E, r, kp, s1, s2, s3, s4, hw, hr4, hT⟩ := hr.turn g rfl (by show h.seq + 1 < _; omega) hK3 hch
      have T := Lib.hid (hT w D F)
      clear hT g hr hch
      obtain ⟨q, bo, a, f, n⟩ := h
      dsimp only at T hp hw hsq hs1
      obtain ⟨keep, torn, bytes⟩ := ch
      have tc := T.out.crash
      unfold Ch.cells at tc
      dsimp only at tc
      have TC := Lib.hid tc
      clear tc
      have n1 := neq_same q bo a f n
      have hqm := tmod2 hs1
      have n2 := neq_next q bo a f n ((kb : Int) + 1) A (1 + (j : Int)) (j : Int)
      have n3 := neq_same (q + 1) ((kb : Int) + 1) A (1 + (j : Int)) (j : Int)
      have R4 := Lib.hid hr4
      have q2 := (hp.box #[.int .i64 0, .int .i64 0, .int .i64 0, .int .i64 0, .int .i64 0] 50).drew
      obtain ⟨_, _, _, _, _⟩ := (hblock (q2.boxed 1 rfl)).1
      obtain ⟨_, _, _, _, _⟩ := (hblock (hp.drew.boxed 0 rfl)).1
      obtain ⟨e0, e1, e2, e3, e4, e5⟩ := HAT.out _ hp.drew.kept
      dsimp only at e0 e1 e2 e3 e4 e5
      obtain ⟨⟨_, _, _, _, _⟩, hfz⟩ := hblock (q2.boxed 0 rfl)
      have f0 := hfz 0
      have f1 := hfz 1
      have f2 := hfz 2
      have f3 := hfz 3
      have f4 := hfz 4
      obtain ⟨d0, d1, d2, d3, d4, d5⟩ := HAT.out _ q2.kept
      dsimp only at d0 d1 d2 d3 d4 d5
      -- BEGIN
      have P0 := Lib.hid hp
      clear hp hr4 q2 hfz
      go_wp2
      go_region
      have P1 := (P0.out.box #[.int .i64 (q + 1), .int .i64 ((kb : Int) + 1), .int .i64 0, .int .i64 (1 + (j : Int)), .int .i64 (j : Int)] 50).drew
      obtain ⟨Z, hZ⟩ : ∃ Z, Z = wr.heap.size := ⟨_, rfl⟩
      obtain ⟨V, hV⟩ : ∃ V, V = (wr.alloc (.cells #[.int .i64 (q + 1), .int .i64 ((kb : Int) + 1), .int .i64 0, .int .i64 (1 + (j : Int)), .int .i64 (j : Int)] 50)).drew := ⟨_, rfl⟩
      rw [← hV, ← hZ] at P1 ⊢
      clear hV hZ P0
      clear d0 d1 d2 d3 d4 d5 e0 e1 e2 e3 e4 e5 f0 f1 f2 f3 f4
      obtain ⟨⟨_, _, _, _, _⟩, hfz⟩ := hblock (P1.boxed 0 rfl)
      have fz2 := hfz 2
      clear hfz
      obtain ⟨_, _, _, _, _⟩ := (hblock (P1.boxed 1 rfl)).1
      obtain ⟨d0, d1, d2, d3, d4, d5⟩ := HAT.out _ P1.kept
      dsimp only at d0 d1 d2 d3 d4 d5
      cases ar with
      | true =>
        obtain rfl : A = 1 := by simpa using hA
        have P3 : Mem.Own w [boxA Z #[.int .i64 (q + 1), .int .i64 ((kb : Int) + 1), .int .i64 1, .int .i64 (1 + (j : Int)), .int .i64 (j : Int)] 50, boxA B #[.int .i64 q, .int .i64 bo, .int .i64 a, .int .i64 f, .int .i64 n] 50, dk F D s] (V.setCell ⟨Z, 2, none⟩ (.int .i64 1)) := P1.boxset 0 rfl 2 (.int .i64 1)
        obtain ⟨⟨_, _, _, _, _⟩, ⟨_, _, _, _, _⟩⟩ := two_heads P3
        obtain ⟨g0, g1, g2, g3, g4, g5⟩ := HAT.out _ P3.kept
        dsimp only at g0 g1 g2 g3 g4 g5
        have Q3 := Lib.hid P3
        clear P1 P3 hA
        rcases hw with ⟨hk, rfl, rfl⟩ | ⟨hk, rfl, rfl⟩ | ⟨hk, rfl, rfl⟩ | ⟨hk, rfl, rfl⟩
        · rw [hk] at hK T
          clear hk hK3 K
          go_wp2_with (first
            | (go_at_call 35; (with_reducible refine (T.out.dur _ _ _ Q3.out).mono ?_); rintro e v1 ⟨rfl, p4⟩; obtain ⟨⟨_, _, _, _, _⟩, ⟨_, _, _, _, _⟩⟩ := two_heads p4; obtain ⟨_, _, x2, x3, x4, x5⟩ := HAT.out _ p4.kept; dsimp only at x2 x3 x4 x5)
            | (go_at_call 16; (with_reducible refine (T.out.arm _ _ _ p4).mono ?_); rintro e v2 ⟨rfl, p5⟩; obtain ⟨⟨_, _, _, _, _⟩, ⟨_, _, _, _, _⟩⟩ := two_heads p5; obtain ⟨_, _, x2, x3, x4, x5⟩ := HAT.out _ p5.kept; dsimp only at x2 x3 x4 x5)
            | (go_at_call 23; (with_reducible refine (T.out.save _ _ _ p5).mono ?_); rintro e v3 ⟨rfl, p6⟩; obtain ⟨⟨_, _, _, _, _⟩, ⟨_, _, _, _, _⟩⟩ := two_heads p6; obtain ⟨_, _, x2, x3, x4, x5⟩ := HAT.out _ p6.kept; dsimp only at x2 x3 x4 x5)
            | (go_at_call 36; (with_reducible refine (TC.out _ _ _ p6).mono ?_); rintro e v4 ⟨rfl, p7⟩)
            | (go_at_call 37; (with_reducible refine (T.out.reset _ _ _ p7).mono ?_); rintro e v5 ⟨rfl, p8⟩)
            | (go_at_call 25; (with_reducible refine (T.out.load _ _ _ p8).mono ?_); rintro e v6 ⟨rfl, p9⟩; have p10 := p9.box #[.int .i64 q, .int .i64 bo, .int .i64 a, .int .i64 f, .int .i64 n] 50; obtain ⟨⟨_, _, _, _, _⟩, ⟨_, _, _, _, _⟩⟩ := two_heads p10; obtain ⟨⟨_, _, _, _, _⟩, fz⟩ := hblock (p10.boxed 2 rfl); have P10 := Lib.hid p10; clear p9 p10)
            | (go_at_call 35; (with_reducible refine (T.out.again _ _ _ _ P10.out).mono ?_); rintro e v7 ⟨rfl, p11⟩; obtain ⟨⟨_, _, _, _, _⟩, ⟨_, _, _, _, _⟩⟩ := two_heads p11; obtain ⟨⟨_, _, _, _, _⟩, fz⟩ := hblock (p11.boxed 2 rfl); have fz0 := fz 0; have fz1 := fz 1; have fz2 := fz 2; have fz3 := fz 3; have fz4 := fz 4; clear fz; have P11 := Lib.hid p11; clear p11))
          have P12 := ((((P11.out.boxset 2 rfl 0 (.int .i64 q)).boxset 2 rfl 1 (.int .i64 bo)).boxset 2 rfl 2 (.int .i64 a)).boxset 2 rfl 3 (.int .i64 f)).boxset 2 rfl 4 (.int .i64 n)
          have P13 := Lib.hid P12.tail.tail
          go_roundw
          case rel => exact ⟨j + 1, s4, ⟨q, bo, a, f, n⟩, by omega, by go_num, R4.out, by show q ≤ _; omega, P13.out⟩
          case measure => simp [intOf]; omega
        · rw [hk] at hK T
          clear hk hK3 K
          go_wp2_with (first
            | (go_at_call 35; (with_reducible refine (T.out.dur _ _ _ Q3.out).mono ?_); rintro e v1 ⟨rfl, p4⟩; obtain ⟨⟨_, _, _, _, _⟩, ⟨_, _, _, _, _⟩⟩ := two_heads p4; obtain ⟨_, _, x2, x3, x4, x5⟩ := HAT.out _ p4.kept; dsimp only at x2 x3 x4 x5)
            | (go_at_call 16; (with_reducible refine (T.out.arm _ _ _ p4).mono ?_); rintro e v2 ⟨rfl, p5⟩; obtain ⟨⟨_, _, _, _, _⟩, ⟨_, _, _, _, _⟩⟩ := two_heads p5; obtain ⟨_, _, x2, x3, x4, x5⟩ := HAT.out _ p5.kept; dsimp only at x2 x3 x4 x5)
            | (go_at_call 23; (with_reducible refine (T.out.save _ _ _ p5).mono ?_); rintro e v3 ⟨rfl, p6⟩; obtain ⟨⟨_, _, _, _, _⟩, ⟨_, _, _, _, _⟩⟩ := two_heads p6; obtain ⟨_, _, x2, x3, x4, x5⟩ := HAT.out _ p6.kept; dsimp only at x2 x3 x4 x5)
            | (go_at_call 36; (with_reducible refine (TC.out _ _ _ p6).mono ?_); rintro e v4 ⟨rfl, p7⟩)
            | (go_at_call 37; (with_reducible refine (T.out.reset _ _ _ p7).mono ?_); rintro e v5 ⟨rfl, p8⟩)
            | (go_at_call 25; (with_reducible refine (T.out.load _ _ _ p8).mono ?_); rintro e v6 ⟨rfl, p9⟩; have p10 := p9.box #[.int .i64 q, .int .i64 bo, .int .i64 a, .int .i64 f, .int .i64 n] 50; obtain ⟨⟨_, _, _, _, _⟩, ⟨_, _, _, _, _⟩⟩ := two_heads p10; obtain ⟨⟨_, _, _, _, _⟩, fz⟩ := hblock (p10.boxed 2 rfl); have P10 := Lib.hid p10; clear p9 p10)
            | (go_at_call 35; (with_reducible refine (T.out.again _ _ _ _ P10.out).mono ?_); rintro e v7 ⟨rfl, p11⟩; obtain ⟨⟨_, _, _, _, _⟩, ⟨_, _, _, _, _⟩⟩ := two_heads p11; obtain ⟨⟨_, _, _, _, _⟩, fz⟩ := hblock (p11.boxed 2 rfl); have fz0 := fz 0; have fz1 := fz 1; have fz2 := fz 2; have fz3 := fz 3; have fz4 := fz 4; clear fz; have P11 := Lib.hid p11; clear p11))
          have P12 := ((((P11.out.boxset 2 rfl 0 (.int .i64 q)).boxset 2 rfl 1 (.int .i64 bo)).boxset 2 rfl 2 (.int .i64 a)).boxset 2 rfl 3 (.int .i64 f)).boxset 2 rfl 4 (.int .i64 n)
          have P13 := Lib.hid P12.tail.tail
          go_roundw
          case rel => exact ⟨j + 1, s4, ⟨q, bo, a, f, n⟩, by omega, by go_num, R4.out, by show q ≤ _; omega, P13.out⟩
          case measure => simp [intOf]; omega
        · rw [hk] at hK T
          clear hk hK3 K
          go_wp2_with (first
            | (go_at_call 35; (with_reducible refine (T.out.dur _ _ _ Q3.out).mono ?_); rintro e v1 ⟨rfl, p4⟩; obtain ⟨⟨_, _, _, _, _⟩, ⟨_, _, _, _, _⟩⟩ := two_heads p4; obtain ⟨_, _, x2, x3, x4, x5⟩ := HAT.out _ p4.kept; dsimp only at x2 x3 x4 x5)
            | (go_at_call 16; (with_reducible refine (T.out.arm _ _ _ p4).mono ?_); rintro e v2 ⟨rfl, p5⟩; obtain ⟨⟨_, _, _, _, _⟩, ⟨_, _, _, _, _⟩⟩ := two_heads p5; obtain ⟨_, _, x2, x3, x4, x5⟩ := HAT.out _ p5.kept; dsimp only at x2 x3 x4 x5)
            | (go_at_call 23; (with_reducible refine (T.out.save _ _ _ p5).mono ?_); rintro e v3 ⟨rfl, p6⟩; obtain ⟨⟨_, _, _, _, _⟩, ⟨_, _, _, _, _⟩⟩ := two_heads p6; obtain ⟨_, _, x2, x3, x4, x5⟩ := HAT.out _ p6.kept; dsimp only at x2 x3 x4 x5)
            | (go_at_call 36; (with_reducible refine (TC.out _ _ _ p6).mono ?_); rintro e v4 ⟨rfl, p7⟩)
            | (go_at_call 37; (with_reducible refine (T.out.reset _ _ _ p7).mono ?_); rintro e v5 ⟨rfl, p8⟩)
            | (go_at_call 25; (with_reducible refine (T.out.load _ _ _ p8).mono ?_); rintro e v6 ⟨rfl, p9⟩; have p10 := p9.box #[.int .i64 (q + 1), .int .i64 ((kb : Int) + 1), .int .i64 1, .int .i64 (1 + (j : Int)), .int .i64 (j : Int)] 50; obtain ⟨⟨_, _, _, _, _⟩, ⟨_, _, _, _, _⟩⟩ := two_heads p10; obtain ⟨⟨_, _, _, _, _⟩, fz⟩ := hblock (p10.boxed 2 rfl); have P10 := Lib.hid p10; clear p9 p10)
            | (go_at_call 35; (with_reducible refine (T.out.again _ _ _ _ P10.out).mono ?_); rintro e v7 ⟨rfl, p11⟩; obtain ⟨⟨_, _, _, _, _⟩, ⟨_, _, _, _, _⟩⟩ := two_heads p11; obtain ⟨⟨_, _, _, _, _⟩, fz⟩ := hblock (p11.boxed 2 rfl); have fz0 := fz 0; have fz1 := fz 1; have fz2 := fz 2; have fz3 := fz 3; have fz4 := fz 4; clear fz; have P11 := Lib.hid p11; clear p11))
          have P12 := ((((P11.out.boxset 2 rfl 0 (.int .i64 (q + 1))).boxset 2 rfl 1 (.int .i64 ((kb : Int) + 1))).boxset 2 rfl 2 (.int .i64 1)).boxset 2 rfl 3 (.int .i64 (1 + (j : Int)))).boxset 2 rfl 4 (.int .i64 (j : Int))
          have P13 := Lib.hid P12.tail.tail
          go_roundw
          case rel => exact ⟨j + 1, s4, ⟨(q + 1), ((kb : Int) + 1), 1, (1 + (j : Int)), (j : Int)⟩, by omega, by go_num, R4.out, by show (q + 1) ≤ _; omega, P13.out⟩
          case measure => simp [intOf]; omega
        · rw [hk] at hK T
          clear hk hK3 K
          go_wp2_with (first
            | (go_at_call 35; (with_reducible refine (T.out.dur _ _ _ Q3.out).mono ?_); rintro e v1 ⟨rfl, p4⟩; obtain ⟨⟨_, _, _, _, _⟩, ⟨_, _, _, _, _⟩⟩ := two_heads p4; obtain ⟨_, _, x2, x3, x4, x5⟩ := HAT.out _ p4.kept; dsimp only at x2 x3 x4 x5)
            | (go_at_call 16; (with_reducible refine (T.out.arm _ _ _ p4).mono ?_); rintro e v2 ⟨rfl, p5⟩; obtain ⟨⟨_, _, _, _, _⟩, ⟨_, _, _, _, _⟩⟩ := two_heads p5; obtain ⟨_, _, x2, x3, x4, x5⟩ := HAT.out _ p5.kept; dsimp only at x2 x3 x4 x5)
            | (go_at_call 23; (with_reducible refine (T.out.save _ _ _ p5).mono ?_); rintro e v3 ⟨rfl, p6⟩; obtain ⟨⟨_, _, _, _, _⟩, ⟨_, _, _, _, _⟩⟩ := two_heads p6; obtain ⟨_, _, x2, x3, x4, x5⟩ := HAT.out _ p6.kept; dsimp only at x2 x3 x4 x5)
            | (go_at_call 36; (with_reducible refine (TC.out _ _ _ p6).mono ?_); rintro e v4 ⟨rfl, p7⟩)
            | (go_at_call 37; (with_reducible refine (T.out.reset _ _ _ p7).mono ?_); rintro e v5 ⟨rfl, p8⟩)
            | (go_at_call 25; (with_reducible refine (T.out.load _ _ _ p8).mono ?_); rintro e v6 ⟨rfl, p9⟩; have p10 := p9.box #[.int .i64 (q + 1), .int .i64 ((kb : Int) + 1), .int .i64 1, .int .i64 (1 + (j : Int)), .int .i64 (j : Int)] 50; obtain ⟨⟨_, _, _, _, _⟩, ⟨_, _, _, _, _⟩⟩ := two_heads p10; obtain ⟨⟨_, _, _, _, _⟩, fz⟩ := hblock (p10.boxed 2 rfl); have P10 := Lib.hid p10; clear p9 p10)
            | (go_at_call 35; (with_reducible refine (T.out.again _ _ _ _ P10.out).mono ?_); rintro e v7 ⟨rfl, p11⟩; obtain ⟨⟨_, _, _, _, _⟩, ⟨_, _, _, _, _⟩⟩ := two_heads p11; obtain ⟨⟨_, _, _, _, _⟩, fz⟩ := hblock (p11.boxed 2 rfl); have fz0 := fz 0; have fz1 := fz 1; have fz2 := fz 2; have fz3 := fz 3; have fz4 := fz 4; clear fz; have P11 := Lib.hid p11; clear p11))
          have P12 := ((((P11.out.boxset 2 rfl 0 (.int .i64 (q + 1))).boxset 2 rfl 1 (.int .i64 ((kb : Int) + 1))).boxset 2 rfl 2 (.int .i64 1)).boxset 2 rfl 3 (.int .i64 (1 + (j : Int)))).boxset 2 rfl 4 (.int .i64 (j : Int))
          have P13 := Lib.hid P12.tail.tail
          go_roundw
          case rel => exact ⟨j + 1, s4, ⟨(q + 1), ((kb : Int) + 1), 1, (1 + (j : Int)), (j : Int)⟩, by omega, by go_num, R4.out, by show (q + 1) ≤ _; omega, P13.out⟩
          case measure => simp [intOf]; omega
      | false =>
        obtain rfl : A = 0 := by simpa using hA
        have P3 := P1
        have Q3 := Lib.hid P3
        clear P1 P3 hA
        rcases hw with ⟨hk, rfl, rfl⟩ | ⟨hk, rfl, rfl⟩ | ⟨hk, rfl, rfl⟩ | ⟨hk, rfl, rfl⟩
        · rw [hk] at hK T
          clear hk hK3 K
          go_wp2_with (first
            | (go_at_call 35; (with_reducible refine (T.out.dur _ _ _ Q3.out).mono ?_); rintro e v1 ⟨rfl, p4⟩; obtain ⟨⟨_, _, _, _, _⟩, ⟨_, _, _, _, _⟩⟩ := two_heads p4; obtain ⟨_, _, x2, x3, x4, x5⟩ := HAT.out _ p4.kept; dsimp only at x2 x3 x4 x5)
            | (go_at_call 16; (with_reducible refine (T.out.arm _ _ _ p4).mono ?_); rintro e v2 ⟨rfl, p5⟩; obtain ⟨⟨_, _, _, _, _⟩, ⟨_, _, _, _, _⟩⟩ := two_heads p5; obtain ⟨_, _, x2, x3, x4, x5⟩ := HAT.out _ p5.kept; dsimp only at x2 x3 x4 x5)
            | (go_at_call 23; (with_reducible refine (T.out.save _ _ _ p5).mono ?_); rintro e v3 ⟨rfl, p6⟩; obtain ⟨⟨_, _, _, _, _⟩, ⟨_, _, _, _, _⟩⟩ := two_heads p6; obtain ⟨_, _, x2, x3, x4, x5⟩ := HAT.out _ p6.kept; dsimp only at x2 x3 x4 x5)
            | (go_at_call 36; (with_reducible refine (TC.out _ _ _ p6).mono ?_); rintro e v4 ⟨rfl, p7⟩)
            | (go_at_call 37; (with_reducible refine (T.out.reset _ _ _ p7).mono ?_); rintro e v5 ⟨rfl, p8⟩)
            | (go_at_call 25; (with_reducible refine (T.out.load _ _ _ p8).mono ?_); rintro e v6 ⟨rfl, p9⟩; have p10 := p9.box #[.int .i64 q, .int .i64 bo, .int .i64 a, .int .i64 f, .int .i64 n] 50; obtain ⟨⟨_, _, _, _, _⟩, ⟨_, _, _, _, _⟩⟩ := two_heads p10; obtain ⟨⟨_, _, _, _, _⟩, fz⟩ := hblock (p10.boxed 2 rfl); have P10 := Lib.hid p10; clear p9 p10)
            | (go_at_call 35; (with_reducible refine (T.out.again _ _ _ _ P10.out).mono ?_); rintro e v7 ⟨rfl, p11⟩; obtain ⟨⟨_, _, _, _, _⟩, ⟨_, _, _, _, _⟩⟩ := two_heads p11; obtain ⟨⟨_, _, _, _, _⟩, fz⟩ := hblock (p11.boxed 2 rfl); have fz0 := fz 0; have fz1 := fz 1; have fz2 := fz 2; have fz3 := fz 3; have fz4 := fz 4; clear fz; have P11 := Lib.hid p11; clear p11))
          have P12 := ((((P11.out.boxset 2 rfl 0 (.int .i64 q)).boxset 2 rfl 1 (.int .i64 bo)).boxset 2 rfl 2 (.int .i64 a)).boxset 2 rfl 3 (.int .i64 f)).boxset 2 rfl 4 (.int .i64 n)
          have P13 := Lib.hid P12.tail.tail
          go_roundw
          case rel => exact ⟨j + 1, s4, ⟨q, bo, a, f, n⟩, by omega, by go_num, R4.out, by show q ≤ _; omega, P13.out⟩
          case measure => simp [intOf]; omega
        · rw [hk] at hK T
          clear hk hK3 K
          go_wp2_with (first
            | (go_at_call 35; (with_reducible refine (T.out.dur _ _ _ Q3.out).mono ?_); rintro e v1 ⟨rfl, p4⟩; obtain ⟨⟨_, _, _, _, _⟩, ⟨_, _, _, _, _⟩⟩ := two_heads p4; obtain ⟨_, _, x2, x3, x4, x5⟩ := HAT.out _ p4.kept; dsimp only at x2 x3 x4 x5)
            | (go_at_call 16; (with_reducible refine (T.out.arm _ _ _ p4).mono ?_); rintro e v2 ⟨rfl, p5⟩; obtain ⟨⟨_, _, _, _, _⟩, ⟨_, _, _, _, _⟩⟩ := two_heads p5; obtain ⟨_, _, x2, x3, x4, x5⟩ := HAT.out _ p5.kept; dsimp only at x2 x3 x4 x5)
            | (go_at_call 23; (with_reducible refine (T.out.save _ _ _ p5).mono ?_); rintro e v3 ⟨rfl, p6⟩; obtain ⟨⟨_, _, _, _, _⟩, ⟨_, _, _, _, _⟩⟩ := two_heads p6; obtain ⟨_, _, x2, x3, x4, x5⟩ := HAT.out _ p6.kept; dsimp only at x2 x3 x4 x5)
            | (go_at_call 36; (with_reducible refine (TC.out _ _ _ p6).mono ?_); rintro e v4 ⟨rfl, p7⟩)
            | (go_at_call 37; (with_reducible refine (T.out.reset _ _ _ p7).mono ?_); rintro e v5 ⟨rfl, p8⟩)
            | (go_at_call 25; (with_reducible refine (T.out.load _ _ _ p8).mono ?_); rintro e v6 ⟨rfl, p9⟩; have p10 := p9.box #[.int .i64 q, .int .i64 bo, .int .i64 a, .int .i64 f, .int .i64 n] 50; obtain ⟨⟨_, _, _, _, _⟩, ⟨_, _, _, _, _⟩⟩ := two_heads p10; obtain ⟨⟨_, _, _, _, _⟩, fz⟩ := hblock (p10.boxed 2 rfl); have P10 := Lib.hid p10; clear p9 p10)
            | (go_at_call 35; (with_reducible refine (T.out.again _ _ _ _ P10.out).mono ?_); rintro e v7 ⟨rfl, p11⟩; obtain ⟨⟨_, _, _, _, _⟩, ⟨_, _, _, _, _⟩⟩ := two_heads p11; obtain ⟨⟨_, _, _, _, _⟩, fz⟩ := hblock (p11.boxed 2 rfl); have fz0 := fz 0; have fz1 := fz 1; have fz2 := fz 2; have fz3 := fz 3; have fz4 := fz 4; clear fz; have P11 := Lib.hid p11; clear p11))
          have P12 := ((((P11.out.boxset 2 rfl 0 (.int .i64 q)).boxset 2 rfl 1 (.int .i64 bo)).boxset 2 rfl 2 (.int .i64 a)).boxset 2 rfl 3 (.int .i64 f)).boxset 2 rfl 4 (.int .i64 n)
          have P13 := Lib.hid P12.tail.tail
          go_roundw
          case rel => exact ⟨j + 1, s4, ⟨q, bo, a, f, n⟩, by omega, by go_num, R4.out, by show q ≤ _; omega, P13.out⟩
          case measure => simp [intOf]; omega
        · rw [hk] at hK T
          clear hk hK3 K
          go_wp2_with (first
            | (go_at_call 35; (with_reducible refine (T.out.dur _ _ _ Q3.out).mono ?_); rintro e v1 ⟨rfl, p4⟩; obtain ⟨⟨_, _, _, _, _⟩, ⟨_, _, _, _, _⟩⟩ := two_heads p4; obtain ⟨_, _, x2, x3, x4, x5⟩ := HAT.out _ p4.kept; dsimp only at x2 x3 x4 x5)
            | (go_at_call 16; (with_reducible refine (T.out.arm _ _ _ p4).mono ?_); rintro e v2 ⟨rfl, p5⟩; obtain ⟨⟨_, _, _, _, _⟩, ⟨_, _, _, _, _⟩⟩ := two_heads p5; obtain ⟨_, _, x2, x3, x4, x5⟩ := HAT.out _ p5.kept; dsimp only at x2 x3 x4 x5)
            | (go_at_call 23; (with_reducible refine (T.out.save _ _ _ p5).mono ?_); rintro e v3 ⟨rfl, p6⟩; obtain ⟨⟨_, _, _, _, _⟩, ⟨_, _, _, _, _⟩⟩ := two_heads p6; obtain ⟨_, _, x2, x3, x4, x5⟩ := HAT.out _ p6.kept; dsimp only at x2 x3 x4 x5)
            | (go_at_call 36; (with_reducible refine (TC.out _ _ _ p6).mono ?_); rintro e v4 ⟨rfl, p7⟩)
            | (go_at_call 37; (with_reducible refine (T.out.reset _ _ _ p7).mono ?_); rintro e v5 ⟨rfl, p8⟩)
            | (go_at_call 25; (with_reducible refine (T.out.load _ _ _ p8).mono ?_); rintro e v6 ⟨rfl, p9⟩; have p10 := p9.box #[.int .i64 (q + 1), .int .i64 ((kb : Int) + 1), .int .i64 0, .int .i64 (1 + (j : Int)), .int .i64 (j : Int)] 50; obtain ⟨⟨_, _, _, _, _⟩, ⟨_, _, _, _, _⟩⟩ := two_heads p10; obtain ⟨⟨_, _, _, _, _⟩, fz⟩ := hblock (p10.boxed 2 rfl); have P10 := Lib.hid p10; clear p9 p10)
            | (go_at_call 35; (with_reducible refine (T.out.again _ _ _ _ P10.out).mono ?_); rintro e v7 ⟨rfl, p11⟩; obtain ⟨⟨_, _, _, _, _⟩, ⟨_, _, _, _, _⟩⟩ := two_heads p11; obtain ⟨⟨_, _, _, _, _⟩, fz⟩ := hblock (p11.boxed 2 rfl); have fz0 := fz 0; have fz1 := fz 1; have fz2 := fz 2; have fz3 := fz 3; have fz4 := fz 4; clear fz; have P11 := Lib.hid p11; clear p11))
          have P12 := ((((P11.out.boxset 2 rfl 0 (.int .i64 (q + 1))).boxset 2 rfl 1 (.int .i64 ((kb : Int) + 1))).boxset 2 rfl 2 (.int .i64 0)).boxset 2 rfl 3 (.int .i64 (1 + (j : Int)))).boxset 2 rfl 4 (.int .i64 (j : Int))
          have P13 := Lib.hid P12.tail.tail
          go_roundw
          case rel => exact ⟨j + 1, s4, ⟨(q + 1), ((kb : Int) + 1), 0, (1 + (j : Int)), (j : Int)⟩, by omega, by go_num, R4.out, by show (q + 1) ≤ _; omega, P13.out⟩
          case measure => simp [intOf]; omega
        · rw [hk] at hK T
          clear hk hK3 K
          go_wp2_with (first
            | (go_at_call 35; (with_reducible refine (T.out.dur _ _ _ Q3.out).mono ?_); rintro e v1 ⟨rfl, p4⟩; obtain ⟨⟨_, _, _, _, _⟩, ⟨_, _, _, _, _⟩⟩ := two_heads p4; obtain ⟨_, _, x2, x3, x4, x5⟩ := HAT.out _ p4.kept; dsimp only at x2 x3 x4 x5)
            | (go_at_call 16; (with_reducible refine (T.out.arm _ _ _ p4).mono ?_); rintro e v2 ⟨rfl, p5⟩; obtain ⟨⟨_, _, _, _, _⟩, ⟨_, _, _, _, _⟩⟩ := two_heads p5; obtain ⟨_, _, x2, x3, x4, x5⟩ := HAT.out _ p5.kept; dsimp only at x2 x3 x4 x5)
            | (go_at_call 23; (with_reducible refine (T.out.save _ _ _ p5).mono ?_); rintro e v3 ⟨rfl, p6⟩; obtain ⟨⟨_, _, _, _, _⟩, ⟨_, _, _, _, _⟩⟩ := two_heads p6; obtain ⟨_, _, x2, x3, x4, x5⟩ := HAT.out _ p6.kept; dsimp only at x2 x3 x4 x5)
            | (go_at_call 36; (with_reducible refine (TC.out _ _ _ p6).mono ?_); rintro e v4 ⟨rfl, p7⟩)
            | (go_at_call 37; (with_reducible refine (T.out.reset _ _ _ p7).mono ?_); rintro e v5 ⟨rfl, p8⟩)
            | (go_at_call 25; (with_reducible refine (T.out.load _ _ _ p8).mono ?_); rintro e v6 ⟨rfl, p9⟩; have p10 := p9.box #[.int .i64 (q + 1), .int .i64 ((kb : Int) + 1), .int .i64 0, .int .i64 (1 + (j : Int)), .int .i64 (j : Int)] 50; obtain ⟨⟨_, _, _, _, _⟩, ⟨_, _, _, _, _⟩⟩ := two_heads p10; obtain ⟨⟨_, _, _, _, _⟩, fz⟩ := hblock (p10.boxed 2 rfl); have P10 := Lib.hid p10; clear p9 p10)
            | (go_at_call 35; (with_reducible refine (T.out.again _ _ _ _ P10.out).mono ?_); rintro e v7 ⟨rfl, p11⟩; obtain ⟨⟨_, _, _, _, _⟩, ⟨_, _, _, _, _⟩⟩ := two_heads p11; obtain ⟨⟨_, _, _, _, _⟩, fz⟩ := hblock (p11.boxed 2 rfl); have fz0 := fz 0; have fz1 := fz 1; have fz2 := fz 2; have fz3 := fz 3; have fz4 := fz 4; clear fz; have P11 := Lib.hid p11; clear p11))
          have P12 := ((((P11.out.boxset 2 rfl 0 (.int .i64 (q + 1))).boxset 2 rfl 1 (.int .i64 ((kb : Int) + 1))).boxset 2 rfl 2 (.int .i64 0)).boxset 2 rfl 3 (.int .i64 (1 + (j : Int)))).boxset 2 rfl 4 (.int .i64 (j : Int))
          have P13 := Lib.hid P12.tail.tail
          go_roundw
          case rel => exact ⟨j + 1, s4, ⟨(q + 1), ((kb : Int) + 1), 0, (1 + (j : Int)), (j : Int)⟩, by omega, by go_num, R4.out, by show (q + 1) ≤ _; omega, P13.out⟩
          case measure => simp [intOf]; omega
    · obtain rfl : j = len := by omega
      have P := Lib.hid hp
      clear hp hr hsq
      go_wp2_with (go_at_call 18; (with_reducible refine (hkn _).mono ?_); rintro e u10 ⟨rfl, k10⟩)
      go_ret
      exact ⟨rfl, P.out.kept.trans k10⟩
theorem walk (w : World) (ao : Option Addr) (len cap : Nat) (X : Nat → Trial) (hX : 0 < len → ∃ b off, ao = some ⟨b, off, none⟩ ∧ b < w.heap.size ∧ ∀ i, i < len → (X i).at b (off + i * 6) w)
    (hok : ∀ i, i < len → (X i).ok) (_hm : len ≤ maxLen) :
    Calls Try.prog 8 #[.slice ao len cap] w fun e w' => e = .returned (.bool true) ∧ Kept w w' := by
  by_cases h30 : 30 < len
  · exact long w ao len cap h30
  · refine core w ao len cap X (by omega) (fun i hi => ?_) hok
    obtain ⟨b, off, e, hb, hx⟩ := hX (by omega)
    exact ⟨b, off, e, hb, hx i hi⟩

set_option maxRecDepth 100000 in
theorem lifted (os : Os) (started : os.Started) (H : Type) (enc : TypeId × Value → H) :
    ReturnsInHanded {} Try.checked os 8 .any (Rows.slotsOneSpec.pre6 enc Try.prog Try.f8 Rows.slotsOneRow.domain false) (Rows.slotsOneSpec.post enc Try.prog Try.f8 false true false false) := by
  refine returnsInHanded_of_change (C := Try.checked) own started (by kernel_rfl) Try.func8
    (ChangeSpec.witness6 (enc := enc) (C := Try.checked) false ⟨#[], #[.slice none 0 0], []⟩ 8 (by kernel_rfl) (by kernel_rfl) (by kernel_rfl) (by kernel_rfl)) ?_
  intro W base args ds gs before hval0 hW hcnd _
  have hval : ∀ (j : Nat) t v, Try.f8.params[j]? = some t → args[j]? = some v → Value.okWide Try.prog W .any base t v := hval0
  have hW' := hW
  obtain ⟨p, q, hA0, hV, rfl, hfz, hnd⟩ := hW
  have hA : DataW.TrodAll enc Try.prog W 0 (fun _ => true) true Try.f8.params.toList args.toList ds p := hA0
  rw [Try.params8] at hA hval
  obtain ⟨v0, vs0, d0, ds0, p0, q0, hargs0, rfl, rfl, h0, r0⟩ := trodAll_cons hA
  obtain ⟨rfl, rfl, rfl⟩ := trodAll_nil r0
  obtain rfl : args = #[v0] := by cases args; simp_all
  obtain ⟨rfl, rfl⟩ := trodVars_none hV
  obtain ⟨ao0, len0, cap0, X0, e0, c0, o0, m0⟩ := open_trials (hval 0 74 v0 rfl rfl) h0
  clear hA0 hval0
  simp only [List.append_nil] at hW'
  have hlt0 : ∀ x ∈ p0, x.block < W.heap.size := fun x hx => hW'.lt x (by simp [hx])
  have hwalk := walk W ao0 len0 cap0 X0 c0 o0 m0
  rw [← e0] at hwalk
  refine hwalk.mono fun e W' ⟨he, hg⟩ => ?_
  subst he
  exact ⟨_, rfl, _, _, _, [], _, [], hW', (trodAll_cons_mk (shut_bool Try.underlying4 _) trodAll_mk0), (trodAll_cons_mk (Below.trod laidOut (by kernel_rfl) (of_decide_eq_true (by kernel_rfl)) h0 hg hlt0) trodAll_mk0), rfl, Below.frame hg _, fun h => by cases h⟩

theorem over : Rows.slotsOneRow.holds Try.pinned (OpenSpec.ofChange Rows.slotsOneSpec) :=
  OpenClaim.holds_of_wide 8 Try.f8 rfl rfl rfl rfl rfl rfl rfl ⟨rfl, rfl, rfl, rfl, rfl⟩ rfl rfl rfl rfl rfl (by kernel_rfl) Try.func8 (by kernel_rfl)
    (of_decide_eq_true (by kernel_rfl)) (by unfold Func.isWrapper; first | (rw [if_pos (by decide +kernel)]; kernel_rfl) | (rw [if_neg (by decide +kernel)]; exact ⟨rfl, rfl⟩))
    (fun os started H enc _ => lifted os started H enc)

/-- ████ THE STATEMENT ████ -/
theorem proved : Rows.SlotsOneSaid :=
  over
#print axioms proved
end Go.Proofs.Ytmmlgnoicecgfaa.slotsOne
