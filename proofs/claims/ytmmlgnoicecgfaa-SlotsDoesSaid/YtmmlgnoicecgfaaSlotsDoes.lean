/-
  PROVED: the statement 'SlotsDoesSaid': for every input the law SlotsDoes returns true, and each argument reads afterwards as it read before. No condition.
-/
import Derived.Test.YtmmlgnoicecgfaaKv
import Derived.Test.YtmmlgnoicecgfaaKm
import Derived.Test.YtmmlgnoicecgfaaKu
import Derived.Test.YtmmlgnoicecgfaaRows
import Derived.WalkKit
import Derived.Deep.RegionHeld3
import Derived.BigQuiet
import Derived.ProofKit
import Derived.OpenShut
import Derived.ShutString
namespace Go.Proofs.Ytmmlgnoicecgfaa.slotsDoes
open Go.ChangeShapes Go.WideShapes Go.ChangeAt Go.RowKit
open Go.Proofs.Ytmmlgnoicecgfaa.Mem Go.Proofs.Ytmmlgnoicecgfaa.Hk Go.Proofs.Ytmmlgnoicecgfaa.Pk Go.Proofs.Ytmmlgnoicecgfaa.Dz Go.Proofs.Ytmmlgnoicecgfaa.Fz
set_option linter.unusedVariables false

theorem own : ownKnob Try.prog.godebug = none := by kernel_rfl
theorem laidOut : laidOutB Try.prog = true := by kernel_rfl

theorem neqH (q b a f n q' b' a' f' n' : Int) (w : World) :
    (binOp .neq 50 (.agg #[.int .i64 q, .int .i64 b, .int .i64 a, .int .i64 f, .int .i64 n]) (.agg #[.int .i64 q', .int .i64 b', .int .i64 a', .int .i64 f', .int .i64 n'])).run Try.prog w = .ok (.bool (!sameH q b a f n q' b' a' f' n')) w := by
  unfold sameH
  simp [go_sem, Try.underlying50]
  (repeat' split) <;> simp_all
theorem neq_same (q b a f n : Int) (w : World) :
    (binOp .neq 50 (.agg #[.int .i64 q, .int .i64 b, .int .i64 a, .int .i64 f, .int .i64 n]) (.agg #[.int .i64 q, .int .i64 b, .int .i64 a, .int .i64 f, .int .i64 n])).run Try.prog w = .ok (.bool false) w := by
  rw [neqH, show sameH q b a f n q b a f n = true by simp [sameH]]; rfl
set_option maxRecDepth 100000 in
theorem long (w : World) (n : Nat) (hn : n ≤ 255) (ao : Option Addr) (len cap : Nat) (h : 60 < len) :
    Calls Try.prog 5 #[.int .u8 (n : Int), .slice ao len cap] w fun e w' => e = .returned (.bool true) ∧ Kept w w' := by
  have hkn : ∀ W, Calls Try.prog 18 #[] W fun e w' => e = .returned (.bool true) ∧ Kept W w' := known_c
  have t1 : decide (60 < (len : Int)) = true := by simp; omega
  have t2 : decide (60 < len) = true := by simp; omega
  clear h
  go_enter Try.func5, Try.ntmps5
  go_wp2_with (go_at_call 18; (with_reducible refine (hkn _).mono ?_); rintro e u10 ⟨rfl, k10⟩)
  go_ret
  exact ⟨rfl, k10⟩
set_option maxHeartbeats 8000000 in
set_option maxRecDepth 100000 in
theorem core (w : World) (n : Nat) (hn : n ≤ 255) (ao : Option Addr) (len cap : Nat) (Y : Nat → Step) (h60 : len ≤ 60) (hX : ∀ i, i < len → ∃ b off, ao = some ⟨b, off, none⟩ ∧ b < w.heap.size ∧ (Y i).at b (off + i * 10) w) (hok : ∀ i, i < len → (Y i).ok) :
    Calls Try.prog 5 #[.int .u8 (n : Int), .slice ao len cap] w fun e w' => e = .returned (.bool true) ∧ Kept w w' := by
  have hkn : ∀ W, Calls Try.prog 18 #[] W fun e w' => e = .returned (.bool true) ∧ Kept W w' := known_c
  have t1 : decide (60 < (len : Int)) = false := by simp; omega
  have t2 : decide (60 < len) = false := by simp; omega
  obtain ⟨N, hN, hN1, hN2⟩ : ∃ N : Nat, (n : Int) % 4 + 1 = (N : Int) ∧ 1 ≤ N ∧ N ≤ 4 := ⟨n % 4 + 1, by omega, by omega, by omega⟩
  have hnew : Calls Try.prog 11 #[.int .i64 (N : Int)] w fun e w' => ∃ X F D G R, e = .returned (.pointer (some ⟨X, 0, none⟩)) ∧ Mem.Own w (pair X F D G R (fresh N .idle) []) w' := bnew_c (Mem.Own.nil w) N hN1 (by omega)
  have HX := Lib.hid (And.intro hX (And.intro hok h60))
  clear hX hok hN1 hN2
  go_enter Try.func5, Try.ntmps5
  go_wp2_with (go_at_call 11; (with_reducible refine hnew.mono ?_); rintro e u1 ⟨X, F, D, G, R, rfl, k1⟩)
  go_loopw [6] (fun i wr => ∃ (k : Nat) (s : Ds), k ≤ len ∧ i = .int .i64 (k : Int) ∧ Mem.Own w (pair X F D G R s []) wr ∧ s.pend.length ≤ k) (fun i _ => len - (intOf i).toNat)
  case atStart => exact ⟨0, _, by omega, rfl, k1, by simp [fresh]⟩
  case round =>
    clear k1 hnew hN
    obtain ⟨k, s, hk, rfl, hp, hl⟩ := hrel
    by_cases hlt : k < len
    · obtain ⟨b, off, rfl, hb, hat⟩ := HX.out.1 k hlt
      have ho := HX.out.2.1 k hlt
      have hk60 : k ≤ 60 := by have := HX.out.2.2; omega
      obtain ⟨x, hx⟩ : ∃ x, x = Y k := ⟨_, rfl⟩
      rw [← hx] at hat ho
      clear hx
      obtain ⟨d, c, i, ch⟩ := x
      have hat := hat.kept hp.kept hb
      have hd : d ≤ 255 := ho.hi_d
      have hi : -9223372036854775808 ≤ i ∧ i ≤ 9223372036854775807 := ⟨ho.lo_k, ho.hi_k⟩
      have hch : ch.ok := ho.hi_c
      clear ho
      have hsok := pair_ok hp
      obtain ⟨q, bo, a, f, m⟩ := c
      obtain ⟨keep, torn, bytes⟩ := ch
      obtain ⟨c0, c1, c2, c3, c4, c5, c6, c7, c8, c9⟩ := hat
      dsimp only at c0 c1 c2 c3 c4 c5 c6 c7 c8 c9
      have hq := hp.push (b := boxA wr.heap.size #[.int .u8 (d : Int), .int .i64 q, .int .i64 bo, .int .i64 a, .int .i64 f, .int .i64 m, .int .i64 i, .int .u64 (keep : Int), .int .i64 torn, .int .i64 bytes] 61) ((Kept.refl wr).alloc (.cells #[.int .u8 (d : Int), .int .i64 q, .int .i64 bo, .int .i64 a, .int .i64 f, .int .i64 m, .int .i64 i, .int .u64 (keep : Int), .int .i64 torn, .int .i64 bytes] 61)) ⟨heap_alloc_new _ _, .inr ⟨Nat.le_refl _, by simp⟩⟩
      obtain ⟨o1, o3, _⟩ := step_box hq _ (Kept.refl _)
      obtain ⟨V, hV⟩ : ∃ V, V = wr.alloc (.cells #[.int .u8 (d : Int), .int .i64 q, .int .i64 bo, .int .i64 a, .int .i64 f, .int .i64 m, .int .i64 i, .int .u64 (keep : Int), .int .i64 torn, .int .i64 bytes] 61) := ⟨_, rfl⟩
      obtain ⟨B, hB⟩ : ∃ B, B = wr.heap.size := ⟨_, rfl⟩
      rw [← hV, ← hB] at hq
      have hq : Mem.Own w [boxA X #[.pointer (some ⟨F, 0, none⟩), .pointer (some ⟨D, 0, none⟩), .pointer (some ⟨G, 0, none⟩), .pointer (some ⟨R, 0, none⟩)] 38, rk G R s, dk F D s, boxA B #[.int .u8 (d : Int), .int .i64 q, .int .i64 bo, .int .i64 a, .int .i64 f, .int .i64 m, .int .i64 i, .int .u64 (keep : Int), .int .i64 torn, .int .i64 bytes] 61] V := hq
      have drop : ∀ (t : Ds) (W : World), Mem.Own w (pair X F D G R t [boxA B #[.int .u8 (d : Int), .int .i64 q, .int .i64 bo, .int .i64 a, .int .i64 f, .int .i64 m, .int .i64 i, .int .u64 (keep : Int), .int .i64 torn, .int .i64 bytes] 61]) W → Mem.Own w (pair X F D G R t []) W := fun t W h => Mem.Own.tail (Mem.Own.front (L := pair X F D G R t []) h)
      have DR := Lib.hid drop
      have SB := Lib.hid (fun (s1 s2 : Ds) (u : World) (h : Mem.Own w [boxA X #[.pointer (some ⟨F, 0, none⟩), .pointer (some ⟨D, 0, none⟩), .pointer (some ⟨G, 0, none⟩), .pointer (some ⟨R, 0, none⟩)] 38, rk G R s1, dk F D s2, boxA B #[.int .u8 (d : Int), .int .i64 q, .int .i64 bo, .int .i64 a, .int .i64 f, .int .i64 m, .int .i64 i, .int .u64 (keep : Int), .int .i64 torn, .int .i64 bytes] 61] u) => step_box h u (Kept.refl u))
      have hroom : s.pend.length < 4294967296 := by omega
      have P := Lib.hid hq
      obtain ⟨x1, x3, b0, b1, b2, b3, b4, b5, b6, b7, b8, b9⟩ := SB.out _ _ _ hq
      clear drop hp hq
      rcases (by omega : (d : Int) % 5 = 0 ∨ (d : Int) % 5 = 1 ∨ (d : Int) % 5 = 2 ∨ (d : Int) % 5 = 3 ∨ (d : Int) % 5 = 4) with hd5 | hd5 | hd5 | hd5 | hd5
      · -- case 0
        have ht := pend_saves s ⟨q, bo, a, f, m⟩
        have hA := fun (W : World) (h : Mem.Own w [boxA X #[.pointer (some ⟨F, 0, none⟩), .pointer (some ⟨D, 0, none⟩), .pointer (some ⟨G, 0, none⟩), .pointer (some ⟨R, 0, none⟩)] 38, rk G R s, dk F D s, boxA B #[.int .u8 (d : Int), .int .i64 q, .int .i64 bo, .int .i64 a, .int .i64 f, .int .i64 m, .int .i64 i, .int .u64 (keep : Int), .int .i64 torn, .int .i64 bytes] 61] W) => o_save h 2 rfl hroom ⟨q, bo, a, f, m⟩
        have hB2 := fun (W : World) (h : Mem.Own w [boxA X #[.pointer (some ⟨F, 0, none⟩), .pointer (some ⟨D, 0, none⟩), .pointer (some ⟨G, 0, none⟩), .pointer (some ⟨R, 0, none⟩)] 38, rk G R s, dk F D (saves s ⟨q, bo, a, f, m⟩).2, boxA B #[.int .u8 (d : Int), .int .i64 q, .int .i64 bo, .int .i64 a, .int .i64 f, .int .i64 m, .int .i64 i, .int .u64 (keep : Int), .int .i64 torn, .int .i64 bytes] 61] W) => o_rsave h 1 rfl hroom ⟨q, bo, a, f, m⟩
        obtain ⟨E, hE⟩ : ∃ E, E = (saves s ⟨q, bo, a, f, m⟩).1 := ⟨_, rfl⟩
        obtain ⟨t, hT⟩ : ∃ t, t = (saves s ⟨q, bo, a, f, m⟩).2 := ⟨_, rfl⟩
        rw [← hE, ← hT] at hA hB2
        rw [← hT] at ht
        have hA : ∀ (W : World), Mem.Own w [boxA X #[.pointer (some ⟨F, 0, none⟩), .pointer (some ⟨D, 0, none⟩), .pointer (some ⟨G, 0, none⟩), .pointer (some ⟨R, 0, none⟩)] 38, rk G R s, dk F D s, boxA B #[.int .u8 (d : Int), .int .i64 q, .int .i64 bo, .int .i64 a, .int .i64 f, .int .i64 m, .int .i64 i, .int .u64 (keep : Int), .int .i64 torn, .int .i64 bytes] 61] W → Calls Try.prog 23 #[.pointer (some ⟨D, 0, none⟩), .agg #[.int .i64 q, .int .i64 bo, .int .i64 a, .int .i64 f, .int .i64 m]] W fun e w' => e = .returned (.int .i64 E) ∧ Mem.Own w [boxA X #[.pointer (some ⟨F, 0, none⟩), .pointer (some ⟨D, 0, none⟩), .pointer (some ⟨G, 0, none⟩), .pointer (some ⟨R, 0, none⟩)] 38, rk G R s, dk F D t, boxA B #[.int .u8 (d : Int), .int .i64 q, .int .i64 bo, .int .i64 a, .int .i64 f, .int .i64 m, .int .i64 i, .int .u64 (keep : Int), .int .i64 torn, .int .i64 bytes] 61] w' := hA
        have hB2 : ∀ (W : World), Mem.Own w [boxA X #[.pointer (some ⟨F, 0, none⟩), .pointer (some ⟨D, 0, none⟩), .pointer (some ⟨G, 0, none⟩), .pointer (some ⟨R, 0, none⟩)] 38, rk G R s, dk F D t, boxA B #[.int .u8 (d : Int), .int .i64 q, .int .i64 bo, .int .i64 a, .int .i64 f, .int .i64 m, .int .i64 i, .int .u64 (keep : Int), .int .i64 torn, .int .i64 bytes] 61] W → Calls Try.prog 24 #[.pointer (some ⟨R, 0, none⟩), .agg #[.int .i64 q, .int .i64 bo, .int .i64 a, .int .i64 f, .int .i64 m]] W fun e w' => e = .returned (.int .i64 E) ∧ Mem.Own w [boxA X #[.pointer (some ⟨F, 0, none⟩), .pointer (some ⟨D, 0, none⟩), .pointer (some ⟨G, 0, none⟩), .pointer (some ⟨R, 0, none⟩)] 38, rk G R t, dk F D t, boxA B #[.int .u8 (d : Int), .int .i64 q, .int .i64 bo, .int .i64 a, .int .i64 f, .int .i64 m, .int .i64 i, .int .u64 (keep : Int), .int .i64 torn, .int .i64 bytes] 61] w' := hB2
        have HT := Lib.hid (Nat.le_trans ht (Nat.succ_le_succ hl))
        have htr : t.pend.length < 4294967296 := by have := HT.out; omega
        have hS : ∀ (W : World), Mem.Own w [boxA X #[.pointer (some ⟨F, 0, none⟩), .pointer (some ⟨D, 0, none⟩), .pointer (some ⟨G, 0, none⟩), .pointer (some ⟨R, 0, none⟩)] 38, rk G R t, dk F D t, boxA B #[.int .u8 (d : Int), .int .i64 q, .int .i64 bo, .int .i64 a, .int .i64 f, .int .i64 m, .int .i64 i, .int .u64 (keep : Int), .int .i64 torn, .int .i64 bytes] 61] W → Calls Try.prog 30 #[.pointer (some ⟨X, 0, none⟩)] W fun e w' => e = .returned (.bool true) ∧ Mem.Own w [boxA X #[.pointer (some ⟨F, 0, none⟩), .pointer (some ⟨D, 0, none⟩), .pointer (some ⟨G, 0, none⟩), .pointer (some ⟨R, 0, none⟩)] 38, rk G R t, dk F D t, boxA B #[.int .u8 (d : Int), .int .i64 q, .int .i64 bo, .int .i64 a, .int .i64 f, .int .i64 m, .int .i64 i, .int .u64 (keep : Int), .int .i64 torn, .int .i64 bytes] 61] w' := fun W h => bsame_c h (by omega)
        have HA := Lib.hid hA
        have HB := Lib.hid hB2
        have HS := Lib.hid hS
        clear hA hB2 hS hE hT ht hl htr hsok hroom hch
        go_wp2
        rw [← hV, ← hB]
        clear hV hB c0 c1 c2 c3 c4 c5 c6 c7 c8 c9 o1 o3
        have S1 := And.intro x1 (And.intro x3 (And.intro b1 (And.intro b2 (And.intro b3 (And.intro b4 b5)))))
        have pd := P.out.later (Kept.refl V).drew
        have PD := Lib.hid pd
        obtain ⟨z1, z3, z0, y1, y2, y3, y4, y5, y6, y7, y8, y9⟩ := SB.out _ _ _ pd
        have S1' := And.intro z1 (And.intro z3 (And.intro y1 (And.intro y2 (And.intro y3 (And.intro y4 y5)))))
        clear z1 z3 z0 y1 y2 y3 y4 y5 y6 y7 y8 y9 x1 x3 b0 b1 b2 b3 b4 b5 b6 b7 b8 b9 pd
        go_region_held3 (fun W => W.cell? ⟨X, 1, none⟩ = some (.pointer (some ⟨D, 0, none⟩)) ∧ W.cell? ⟨X, 3, none⟩ = some (.pointer (some ⟨R, 0, none⟩)) ∧ W.cell? ⟨B, 1, none⟩ = some (.int .i64 q) ∧ W.cell? ⟨B, 2, none⟩ = some (.int .i64 bo) ∧ W.cell? ⟨B, 3, none⟩ = some (.int .i64 a) ∧ W.cell? ⟨B, 4, none⟩ = some (.int .i64 f) ∧ W.cell? ⟨B, 5, none⟩ = some (.int .i64 m))
          (first | assumption)
          (first
            | (go_at_call 23; (with_reducible refine (HA.out _ PD.out).mono ?_); rintro e u2 ⟨rfl, k2⟩; obtain ⟨z1, z3, z0, y1, y2, y3, y4, y5, y6, y7, y8, y9⟩ := SB.out _ _ _ k2; have S2 := And.intro z1 (And.intro z3 (And.intro y1 (And.intro y2 (And.intro y3 (And.intro y4 y5))))); clear z1 z3 z0 y1 y2 y3 y4 y5 y6 y7 y8 y9)
            | (go_at_call 24; (with_reducible refine (HB.out _ k2).mono ?_); rintro e u3 ⟨rfl, k3⟩; obtain ⟨z1, z3, z0, y1, y2, y3, y4, y5, y6, y7, y8, y9⟩ := SB.out _ _ _ k3; have S3 := And.intro z1 (And.intro z3 (And.intro y1 (And.intro y2 (And.intro y3 (And.intro y4 y5))))); clear z1 z3 z0 y1 y2 y3 y4 y5 y6 y7 y8 y9))
        go_wp2_with (go_at_call 30; (with_reducible refine (HS.out _ k3).mono ?_); rintro e u4 ⟨rfl, k4⟩; have P4 := Lib.hid k4; clear k4)
        go_roundw
        case rel => exact ⟨k + 1, t, by omega, by go_num, DR.out _ _ P4.out, HT.out⟩
        case measure => simp [intOf]; omega
      · -- case 1
        have ht := hl
        have hA := fun (W : World) (h : Mem.Own w [boxA X #[.pointer (some ⟨F, 0, none⟩), .pointer (some ⟨D, 0, none⟩), .pointer (some ⟨G, 0, none⟩), .pointer (some ⟨R, 0, none⟩)] 38, rk G R s, dk F D s, boxA B #[.int .u8 (d : Int), .int .i64 q, .int .i64 bo, .int .i64 a, .int .i64 f, .int .i64 m, .int .i64 i, .int .u64 (keep : Int), .int .i64 torn, .int .i64 bytes] 61] W) => o_load h 2 rfl
        have hB2 := fun (A : As) (W : World) (h : Mem.Own w (A :: [boxA X #[.pointer (some ⟨F, 0, none⟩), .pointer (some ⟨D, 0, none⟩), .pointer (some ⟨G, 0, none⟩), .pointer (some ⟨R, 0, none⟩)] 38, rk G R s, dk F D s, boxA B #[.int .u8 (d : Int), .int .i64 q, .int .i64 bo, .int .i64 a, .int .i64 f, .int .i64 m, .int .i64 i, .int .u64 (keep : Int), .int .i64 torn, .int .i64 bytes] 61]) W) => o_rload h 2 rfl
        obtain ⟨lo, hlo⟩ : ∃ lo, lo = loads s := ⟨_, rfl⟩
        rw [← hlo] at hA hB2
        obtain ⟨⟨q1, b1', a1, f1, m1⟩, E⟩ := lo
        have hA : ∀ (W : World), Mem.Own w [boxA X #[.pointer (some ⟨F, 0, none⟩), .pointer (some ⟨D, 0, none⟩), .pointer (some ⟨G, 0, none⟩), .pointer (some ⟨R, 0, none⟩)] 38, rk G R s, dk F D s, boxA B #[.int .u8 (d : Int), .int .i64 q, .int .i64 bo, .int .i64 a, .int .i64 f, .int .i64 m, .int .i64 i, .int .u64 (keep : Int), .int .i64 torn, .int .i64 bytes] 61] W → Calls Try.prog 25 #[.pointer (some ⟨D, 0, none⟩)] W fun e w' => e = .returned (.tuple #[.agg #[.int .i64 q1, .int .i64 b1', .int .i64 a1, .int .i64 f1, .int .i64 m1], .int .i64 E]) ∧ Mem.Own w [boxA X #[.pointer (some ⟨F, 0, none⟩), .pointer (some ⟨D, 0, none⟩), .pointer (some ⟨G, 0, none⟩), .pointer (some ⟨R, 0, none⟩)] 38, rk G R s, dk F D s, boxA B #[.int .u8 (d : Int), .int .i64 q, .int .i64 bo, .int .i64 a, .int .i64 f, .int .i64 m, .int .i64 i, .int .u64 (keep : Int), .int .i64 torn, .int .i64 bytes] 61] w' := hA
        have hB2 : ∀ (A : As) (W : World), Mem.Own w (A :: [boxA X #[.pointer (some ⟨F, 0, none⟩), .pointer (some ⟨D, 0, none⟩), .pointer (some ⟨G, 0, none⟩), .pointer (some ⟨R, 0, none⟩)] 38, rk G R s, dk F D s, boxA B #[.int .u8 (d : Int), .int .i64 q, .int .i64 bo, .int .i64 a, .int .i64 f, .int .i64 m, .int .i64 i, .int .u64 (keep : Int), .int .i64 torn, .int .i64 bytes] 61]) W → Calls Try.prog 26 #[.pointer (some ⟨R, 0, none⟩)] W fun e w' => e = .returned (.tuple #[.agg #[.int .i64 q1, .int .i64 b1', .int .i64 a1, .int .i64 f1, .int .i64 m1], .int .i64 E]) ∧ Mem.Own w (A :: [boxA X #[.pointer (some ⟨F, 0, none⟩), .pointer (some ⟨D, 0, none⟩), .pointer (some ⟨G, 0, none⟩), .pointer (some ⟨R, 0, none⟩)] 38, rk G R s, dk F D s, boxA B #[.int .u8 (d : Int), .int .i64 q, .int .i64 bo, .int .i64 a, .int .i64 f, .int .i64 m, .int .i64 i, .int .u64 (keep : Int), .int .i64 torn, .int .i64 bytes] 61]) w' := hB2
        have hn1 := neq_same q1 b1' a1 f1 m1
        have HT := Lib.hid (Nat.le_trans hl (Nat.le_succ k))
        have hS : ∀ (W : World), Mem.Own w [boxA X #[.pointer (some ⟨F, 0, none⟩), .pointer (some ⟨D, 0, none⟩), .pointer (some ⟨G, 0, none⟩), .pointer (some ⟨R, 0, none⟩)] 38, rk G R s, dk F D s, boxA B #[.int .u8 (d : Int), .int .i64 q, .int .i64 bo, .int .i64 a, .int .i64 f, .int .i64 m, .int .i64 i, .int .u64 (keep : Int), .int .i64 torn, .int .i64 bytes] 61] W → Calls Try.prog 30 #[.pointer (some ⟨X, 0, none⟩)] W fun e w' => e = .returned (.bool true) ∧ Mem.Own w [boxA X #[.pointer (some ⟨F, 0, none⟩), .pointer (some ⟨D, 0, none⟩), .pointer (some ⟨G, 0, none⟩), .pointer (some ⟨R, 0, none⟩)] 38, rk G R s, dk F D s, boxA B #[.int .u8 (d : Int), .int .i64 q, .int .i64 bo, .int .i64 a, .int .i64 f, .int .i64 m, .int .i64 i, .int .u64 (keep : Int), .int .i64 torn, .int .i64 bytes] 61] w' := fun W h => bsame_c h (by omega)
        have HA := Lib.hid hA
        have HB := Lib.hid hB2
        have HS := Lib.hid hS
        clear hA hB2 hS hlo ht hl hsok hroom hch
        go_wp2_with (first
          | (go_at_call 25; (try rw [← hV]); (try rw [← hB]); (with_reducible refine (HA.out _ P.out).mono ?_); rintro e u2 ⟨rfl, k2⟩; have k3 := k2.box #[.int .i64 q1, .int .i64 b1', .int .i64 a1, .int .i64 f1, .int .i64 m1] 50; obtain ⟨_, _, _, _, _⟩ := (hblock (k3.boxed 0 rfl)).1; obtain ⟨z1, z3, _⟩ := SB.out _ _ _ k3.tail)
          | (go_at_call 26; (with_reducible refine (HB.out _ _ k3).mono ?_); rintro e u4 ⟨rfl, k4⟩; have k5 := k4.box #[.int .i64 q1, .int .i64 b1', .int .i64 a1, .int .i64 f1, .int .i64 m1] 50; obtain ⟨⟨_, _, _, _, _⟩, ⟨_, _, _, _, _⟩⟩ := two_heads k5; obtain ⟨v1, v3, _⟩ := SB.out _ _ _ k5.tail.tail)
          | (go_at_call 30; (with_reducible refine (HS.out _ k5.tail.tail).mono ?_); rintro e u6 ⟨rfl, k6⟩; have P6 := Lib.hid k6; clear k6))
        go_roundw
        case rel => exact ⟨k + 1, s, by omega, by go_num, DR.out _ _ P6.out, HT.out⟩
        case measure => simp [intOf]; omega
      · -- case 2
        have hA : ∀ (W : World), Mem.Own w [boxA X #[.pointer (some ⟨F, 0, none⟩), .pointer (some ⟨D, 0, none⟩), .pointer (some ⟨G, 0, none⟩), .pointer (some ⟨R, 0, none⟩)] 38, rk G R s, dk F D s, boxA B #[.int .u8 (d : Int), .int .i64 q, .int .i64 bo, .int .i64 a, .int .i64 f, .int .i64 m, .int .i64 i, .int .u64 (keep : Int), .int .i64 torn, .int .i64 bytes] 61] W → Calls Try.prog 27 #[.pointer (some ⟨X, 0, none⟩), .int .i64 i] W fun e w' => e = .returned (.bool true) ∧ Mem.Own w [boxA X #[.pointer (some ⟨F, 0, none⟩), .pointer (some ⟨D, 0, none⟩), .pointer (some ⟨G, 0, none⟩), .pointer (some ⟨R, 0, none⟩)] 38, rk G R { s with fu := s.fu.arm i }, dk F D { s with fu := s.fu.arm i }, boxA B #[.int .u8 (d : Int), .int .i64 q, .int .i64 bo, .int .i64 a, .int .i64 f, .int .i64 m, .int .i64 i, .int .u64 (keep : Int), .int .i64 torn, .int .i64 bytes] 61] w' := fun W h => barm_c h hsok.fu i (by omega)
        obtain ⟨t, hT⟩ : ∃ t : Ds, t = { s with fu := s.fu.arm i } := ⟨_, rfl⟩
        have ht : t.pend.length ≤ k + 1 := by rw [hT]; exact Nat.le_trans hl (Nat.le_succ k)
        rw [← hT] at hA
        have HT := Lib.hid ht
        have hS : ∀ (W : World), Mem.Own w [boxA X #[.pointer (some ⟨F, 0, none⟩), .pointer (some ⟨D, 0, none⟩), .pointer (some ⟨G, 0, none⟩), .pointer (some ⟨R, 0, none⟩)] 38, rk G R t, dk F D t, boxA B #[.int .u8 (d : Int), .int .i64 q, .int .i64 bo, .int .i64 a, .int .i64 f, .int .i64 m, .int .i64 i, .int .u64 (keep : Int), .int .i64 torn, .int .i64 bytes] 61] W → Calls Try.prog 30 #[.pointer (some ⟨X, 0, none⟩)] W fun e w' => e = .returned (.bool true) ∧ Mem.Own w [boxA X #[.pointer (some ⟨F, 0, none⟩), .pointer (some ⟨D, 0, none⟩), .pointer (some ⟨G, 0, none⟩), .pointer (some ⟨R, 0, none⟩)] 38, rk G R t, dk F D t, boxA B #[.int .u8 (d : Int), .int .i64 q, .int .i64 bo, .int .i64 a, .int .i64 f, .int .i64 m, .int .i64 i, .int .u64 (keep : Int), .int .i64 torn, .int .i64 bytes] 61] w' := fun W h => bsame_c h (by omega)
        have HA := Lib.hid hA
        have HS := Lib.hid hS
        clear hA hS hT ht hl hsok hroom hch
        go_wp2_with (first
          | (go_at_call 27; (try rw [← hV]); (try rw [← hB]); (with_reducible refine (HA.out _ P.out).mono ?_); rintro e u2 ⟨rfl, k2⟩)
          | (go_at_call 30; (with_reducible refine (HS.out _ k2).mono ?_); rintro e u6 ⟨rfl, k6⟩; have P6 := Lib.hid k6; clear k6))
        go_roundw
        case rel => exact ⟨k + 1, t, by omega, by go_num, DR.out _ _ P6.out, HT.out⟩
        case measure => simp [intOf]; omega
      · -- case 3
        have hA : ∀ (W : World), Mem.Own w [boxA X #[.pointer (some ⟨F, 0, none⟩), .pointer (some ⟨D, 0, none⟩), .pointer (some ⟨G, 0, none⟩), .pointer (some ⟨R, 0, none⟩)] 38, rk G R s, dk F D s, boxA B #[.int .u8 (d : Int), .int .i64 q, .int .i64 bo, .int .i64 a, .int .i64 f, .int .i64 m, .int .i64 i, .int .u64 (keep : Int), .int .i64 torn, .int .i64 bytes] 61] W → Calls Try.prog 28 #[.pointer (some ⟨X, 0, none⟩), .agg #[.int .u64 (keep : Int), .int .i64 torn, .int .i64 bytes]] W fun e w' => e = .returned (.tuple #[]) ∧ Mem.Own w [boxA X #[.pointer (some ⟨F, 0, none⟩), .pointer (some ⟨D, 0, none⟩), .pointer (some ⟨G, 0, none⟩), .pointer (some ⟨R, 0, none⟩)] 38, rk G R { s.settled (Ch.left ⟨keep, torn, bytes⟩) with fu := .idle }, dk F D { s.settled (Ch.left ⟨keep, torn, bytes⟩) with fu := .idle }, boxA B #[.int .u8 (d : Int), .int .i64 q, .int .i64 bo, .int .i64 a, .int .i64 f, .int .i64 m, .int .i64 i, .int .u64 (keep : Int), .int .i64 torn, .int .i64 bytes] 61] w' := fun W h => bcrash_c h hch
        obtain ⟨t, hT⟩ : ∃ t : Ds, t = { s.settled (Ch.left ⟨keep, torn, bytes⟩) with fu := .idle } := ⟨_, rfl⟩
        have ht : t.pend.length ≤ k + 1 := by rw [hT]; simp [Ds.settled]
        rw [← hT] at hA
        have HT := Lib.hid ht
        have hS : ∀ (W : World), Mem.Own w [boxA X #[.pointer (some ⟨F, 0, none⟩), .pointer (some ⟨D, 0, none⟩), .pointer (some ⟨G, 0, none⟩), .pointer (some ⟨R, 0, none⟩)] 38, rk G R t, dk F D t, boxA B #[.int .u8 (d : Int), .int .i64 q, .int .i64 bo, .int .i64 a, .int .i64 f, .int .i64 m, .int .i64 i, .int .u64 (keep : Int), .int .i64 torn, .int .i64 bytes] 61] W → Calls Try.prog 30 #[.pointer (some ⟨X, 0, none⟩)] W fun e w' => e = .returned (.bool true) ∧ Mem.Own w [boxA X #[.pointer (some ⟨F, 0, none⟩), .pointer (some ⟨D, 0, none⟩), .pointer (some ⟨G, 0, none⟩), .pointer (some ⟨R, 0, none⟩)] 38, rk G R t, dk F D t, boxA B #[.int .u8 (d : Int), .int .i64 q, .int .i64 bo, .int .i64 a, .int .i64 f, .int .i64 m, .int .i64 i, .int .u64 (keep : Int), .int .i64 torn, .int .i64 bytes] 61] w' := fun W h => bsame_c h (by omega)
        have HA := Lib.hid hA
        have HS := Lib.hid hS
        clear hA hS hT ht hl hsok hroom hch
        go_wp2_with (first
          | (go_at_call 28; (try rw [← hV]); (try rw [← hB]); (with_reducible refine (HA.out _ P.out).mono ?_); rintro e u2 ⟨rfl, k2⟩)
          | (go_at_call 30; (with_reducible refine (HS.out _ k2).mono ?_); rintro e u6 ⟨rfl, k6⟩; have P6 := Lib.hid k6; clear k6))
        go_roundw
        case rel => exact ⟨k + 1, t, by omega, by go_num, DR.out _ _ P6.out, HT.out⟩
        case measure => simp [intOf]; omega
      · -- case 4
        have ce := rencode_c ⟨q, bo, a, f, m⟩
        generalize Hd.err ⟨q, bo, a, f, m⟩ = E at ce
        generalize Hd.enc ⟨q, bo, a, f, m⟩ = Z at ce
        have CE : RowKit.Hid (∀ (W : World), Calls Try.prog 20 #[.agg #[.int .i64 q, .int .i64 bo, .int .i64 a, .int .i64 f, .int .i64 m]] W fun e w' => e = .returned (.tuple #[.string Z, .int .i64 E]) ∧ Kept W w') := Lib.hid ce
        clear ce
        by_cases hE : E = 0
        · have tE : (E == 0) = true := by simpa using hE
          have ht := pend_writes7 s i Z
          have hA := fun (W : World) (h : Mem.Own w [boxA X #[.pointer (some ⟨F, 0, none⟩), .pointer (some ⟨D, 0, none⟩), .pointer (some ⟨G, 0, none⟩), .pointer (some ⟨R, 0, none⟩)] 38, rk G R s, dk F D s, boxA B #[.int .u8 (d : Int), .int .i64 q, .int .i64 bo, .int .i64 a, .int .i64 f, .int .i64 m, .int .i64 i, .int .u64 (keep : Int), .int .i64 torn, .int .i64 bytes] 61] W) => o_write h 2 rfl hroom i Z
          have hB2 := fun (W : World) (h : Mem.Own w [boxA X #[.pointer (some ⟨F, 0, none⟩), .pointer (some ⟨D, 0, none⟩), .pointer (some ⟨G, 0, none⟩), .pointer (some ⟨R, 0, none⟩)] 38, rk G R s, dk F D (s.writes i Z).2, boxA B #[.int .u8 (d : Int), .int .i64 q, .int .i64 bo, .int .i64 a, .int .i64 f, .int .i64 m, .int .i64 i, .int .u64 (keep : Int), .int .i64 torn, .int .i64 bytes] 61] W) => o_rwrite h 1 rfl hroom i Z
          obtain ⟨E2, hE2⟩ : ∃ E2, E2 = (s.writes i Z).1 := ⟨_, rfl⟩
          obtain ⟨t, hT⟩ : ∃ t, t = (s.writes i Z).2 := ⟨_, rfl⟩
          rw [← hE2, ← hT] at hA hB2
          rw [← hT] at ht
          have hA : ∀ (W : World), Mem.Own w [boxA X #[.pointer (some ⟨F, 0, none⟩), .pointer (some ⟨D, 0, none⟩), .pointer (some ⟨G, 0, none⟩), .pointer (some ⟨R, 0, none⟩)] 38, rk G R s, dk F D s, boxA B #[.int .u8 (d : Int), .int .i64 q, .int .i64 bo, .int .i64 a, .int .i64 f, .int .i64 m, .int .i64 i, .int .u64 (keep : Int), .int .i64 torn, .int .i64 bytes] 61] W → Calls Try.prog 14 #[.pointer (some ⟨D, 0, none⟩), .int .i64 i, .string Z] W fun e w' => e = .returned (.int .i64 E2) ∧ Mem.Own w [boxA X #[.pointer (some ⟨F, 0, none⟩), .pointer (some ⟨D, 0, none⟩), .pointer (some ⟨G, 0, none⟩), .pointer (some ⟨R, 0, none⟩)] 38, rk G R s, dk F D t, boxA B #[.int .u8 (d : Int), .int .i64 q, .int .i64 bo, .int .i64 a, .int .i64 f, .int .i64 m, .int .i64 i, .int .u64 (keep : Int), .int .i64 torn, .int .i64 bytes] 61] w' := hA
          have hB2 : ∀ (W : World), Mem.Own w [boxA X #[.pointer (some ⟨F, 0, none⟩), .pointer (some ⟨D, 0, none⟩), .pointer (some ⟨G, 0, none⟩), .pointer (some ⟨R, 0, none⟩)] 38, rk G R s, dk F D t, boxA B #[.int .u8 (d : Int), .int .i64 q, .int .i64 bo, .int .i64 a, .int .i64 f, .int .i64 m, .int .i64 i, .int .u64 (keep : Int), .int .i64 torn, .int .i64 bytes] 61] W → Calls Try.prog 29 #[.pointer (some ⟨R, 0, none⟩), .int .i64 i, .string Z] W fun e w' => e = .returned (.int .i64 E2) ∧ Mem.Own w [boxA X #[.pointer (some ⟨F, 0, none⟩), .pointer (some ⟨D, 0, none⟩), .pointer (some ⟨G, 0, none⟩), .pointer (some ⟨R, 0, none⟩)] 38, rk G R t, dk F D t, boxA B #[.int .u8 (d : Int), .int .i64 q, .int .i64 bo, .int .i64 a, .int .i64 f, .int .i64 m, .int .i64 i, .int .u64 (keep : Int), .int .i64 torn, .int .i64 bytes] 61] w' := hB2
          have HT := Lib.hid (Nat.le_trans ht (Nat.succ_le_succ hl))
          have htr : t.pend.length < 4294967296 := by have := HT.out; omega
          have hS : ∀ (W : World), Mem.Own w [boxA X #[.pointer (some ⟨F, 0, none⟩), .pointer (some ⟨D, 0, none⟩), .pointer (some ⟨G, 0, none⟩), .pointer (some ⟨R, 0, none⟩)] 38, rk G R t, dk F D t, boxA B #[.int .u8 (d : Int), .int .i64 q, .int .i64 bo, .int .i64 a, .int .i64 f, .int .i64 m, .int .i64 i, .int .u64 (keep : Int), .int .i64 torn, .int .i64 bytes] 61] W → Calls Try.prog 30 #[.pointer (some ⟨X, 0, none⟩)] W fun e w' => e = .returned (.bool true) ∧ Mem.Own w [boxA X #[.pointer (some ⟨F, 0, none⟩), .pointer (some ⟨D, 0, none⟩), .pointer (some ⟨G, 0, none⟩), .pointer (some ⟨R, 0, none⟩)] 38, rk G R t, dk F D t, boxA B #[.int .u8 (d : Int), .int .i64 q, .int .i64 bo, .int .i64 a, .int .i64 f, .int .i64 m, .int .i64 i, .int .u64 (keep : Int), .int .i64 torn, .int .i64 bytes] 61] w' := fun W h => bsame_c h (by omega)
          have HA := Lib.hid hA
          have HB := Lib.hid hB2
          have HS := Lib.hid hS
          clear hA hB2 hS hE hE2 hT ht hl htr hsok hroom hch
          go_wp2_with (go_at_call 20; (try rw [← hV]); (try rw [← hB]); (with_reducible refine (CE.out _).mono ?_); rintro e u2 ⟨rfl, k2⟩)
          rw [← hB]
          clear hV hB c0 c1 c2 c3 c4 c5 c6 c7 c8 c9 o1 o3
          have p2 := P.out.later k2
          have P2 := Lib.hid p2
          have pd := p2.later (Kept.refl u2).drew
          have PD := Lib.hid pd
          clear x1 x3 b0 b1 b2 b3 b4 b5 b6 b7 b8 b9
          obtain ⟨z1, z3, z0, y1, y2, y3, y4, y5, y6, y7, y8, y9⟩ := SB.out _ _ _ p2
          have S1 := And.intro z1 (And.intro z3 y6)
          clear z1 z3 z0 y1 y2 y3 y4 y5 y6 y7 y8 y9
          obtain ⟨z1, z3, z0, y1, y2, y3, y4, y5, y6, y7, y8, y9⟩ := SB.out _ _ _ pd
          have S1' := And.intro z1 (And.intro z3 y6)
          clear z1 z3 z0 y1 y2 y3 y4 y5 y6 y7 y8 y9
          clear p2 pd
          go_region_held3 (fun W => W.cell? ⟨X, 1, none⟩ = some (.pointer (some ⟨D, 0, none⟩)) ∧ W.cell? ⟨X, 3, none⟩ = some (.pointer (some ⟨R, 0, none⟩)) ∧ W.cell? ⟨B, 6, none⟩ = some (.int .i64 i))
            (first | assumption)
            (first
              | (go_at_call 14; (with_reducible refine (HA.out _ PD.out).mono ?_); rintro e u3 ⟨rfl, k3⟩; obtain ⟨z1, z3, z0, y1, y2, y3, y4, y5, y6, y7, y8, y9⟩ := SB.out _ _ _ k3; have S2 := And.intro z1 (And.intro z3 y6); clear z1 z3 z0 y1 y2 y3 y4 y5 y6 y7 y8 y9)
              | (go_at_call 29; (with_reducible refine (HB.out _ k3).mono ?_); rintro e u4 ⟨rfl, k4⟩; obtain ⟨z1, z3, z0, y1, y2, y3, y4, y5, y6, y7, y8, y9⟩ := SB.out _ _ _ k4; have S3 := And.intro z1 (And.intro z3 y6); clear z1 z3 z0 y1 y2 y3 y4 y5 y6 y7 y8 y9))
          go_wp2_with (go_at_call 30; (with_reducible refine (HS.out _ k4).mono ?_); rintro e u5 ⟨rfl, k5⟩; have P5 := Lib.hid k5; clear k5)
          go_roundw
          case rel => exact ⟨k + 1, t, by omega, by go_num, DR.out _ _ P5.out, HT.out⟩
          case measure => simp [intOf]; omega
        · have tE : (E == 0) = false := by simpa using hE
          have HT := Lib.hid (Nat.le_trans hl (Nat.le_succ k))
          have hS : ∀ (W : World), Mem.Own w [boxA X #[.pointer (some ⟨F, 0, none⟩), .pointer (some ⟨D, 0, none⟩), .pointer (some ⟨G, 0, none⟩), .pointer (some ⟨R, 0, none⟩)] 38, rk G R s, dk F D s, boxA B #[.int .u8 (d : Int), .int .i64 q, .int .i64 bo, .int .i64 a, .int .i64 f, .int .i64 m, .int .i64 i, .int .u64 (keep : Int), .int .i64 torn, .int .i64 bytes] 61] W → Calls Try.prog 30 #[.pointer (some ⟨X, 0, none⟩)] W fun e w' => e = .returned (.bool true) ∧ Mem.Own w [boxA X #[.pointer (some ⟨F, 0, none⟩), .pointer (some ⟨D, 0, none⟩), .pointer (some ⟨G, 0, none⟩), .pointer (some ⟨R, 0, none⟩)] 38, rk G R s, dk F D s, boxA B #[.int .u8 (d : Int), .int .i64 q, .int .i64 bo, .int .i64 a, .int .i64 f, .int .i64 m, .int .i64 i, .int .u64 (keep : Int), .int .i64 torn, .int .i64 bytes] 61] w' := fun W h => bsame_c h (by omega)
          have HS := Lib.hid hS
          clear hS hE hl hsok hroom hch
          go_wp2_with (go_at_call 20; (try rw [← hV]); (try rw [← hB]); (with_reducible refine (CE.out _).mono ?_); rintro e u2 ⟨rfl, k2⟩)
          rw [← hB]
          clear hV hB c0 c1 c2 c3 c4 c5 c6 c7 c8 c9 o1 o3
          have p2 := P.out.later k2
          have P2 := Lib.hid p2
          have pd := p2.later (Kept.refl u2).drew
          have PD := Lib.hid pd
          clear x1 x3 b0 b1 b2 b3 b4 b5 b6 b7 b8 b9
          obtain ⟨z1, z3, z0, y1, y2, y3, y4, y5, y6, y7, y8, y9⟩ := SB.out _ _ _ p2
          have S1 := And.intro z1 (And.intro z3 y6)
          clear z1 z3 z0 y1 y2 y3 y4 y5 y6 y7 y8 y9
          obtain ⟨z1, z3, z0, y1, y2, y3, y4, y5, y6, y7, y8, y9⟩ := SB.out _ _ _ pd
          have S1' := And.intro z1 (And.intro z3 y6)
          clear z1 z3 z0 y1 y2 y3 y4 y5 y6 y7 y8 y9
          clear p2 pd
          go_quiet (fail)
          go_wp2_with (go_at_call 30; (first | (with_reducible refine (HS.out _ PD.out).mono ?_) | (with_reducible refine (HS.out _ (P2.out.later ((Kept.refl u2).drewN _))).mono ?_)); rintro e u5 ⟨rfl, k5⟩; have P5 := Lib.hid k5; clear k5)
          go_roundw
          case rel => exact ⟨k + 1, s, by omega, by go_num, DR.out _ _ P5.out, HT.out⟩
          case measure => simp [intOf]; omega
    · obtain rfl : k = len := by omega
      have P := Lib.hid hp
      clear hp hl
      go_wp2_with (go_at_call 18; (with_reducible refine (hkn _).mono ?_); rintro e u10 ⟨rfl, k10⟩)
      go_ret
      exact ⟨rfl, P.out.kept.trans k10⟩
theorem walk (w : World) (n : Nat) (hn : n ≤ 255) (ao : Option Addr) (len cap : Nat) (X : Nat → Step) (hX : 0 < len → ∃ b off, ao = some ⟨b, off, none⟩ ∧ b < w.heap.size ∧ ∀ i, i < len → (X i).at b (off + i * 10) w)
    (hok : ∀ i, i < len → (X i).ok) (_hm : len ≤ maxLen) :
    Calls Try.prog 5 #[.int .u8 (n : Int), .slice ao len cap] w fun e w' => e = .returned (.bool true) ∧ Kept w w' := by
  by_cases h60 : 60 < len
  · exact long w n hn ao len cap h60
  · refine core w n hn ao len cap X (by omega) (fun i hi => ?_) hok
    obtain ⟨b, off, e, hb, hx⟩ := hX (by omega)
    exact ⟨b, off, e, hb, hx i hi⟩

set_option maxRecDepth 100000 in
theorem lifted (os : Os) (started : os.Started) (H : Type) (enc : TypeId × Value → H) :
    ReturnsInHanded {} Try.checked os 5 .any (Rows.slotsDoesSpec.pre6 enc Try.prog Try.f5 Rows.slotsDoesRow.domain false) (Rows.slotsDoesSpec.post enc Try.prog Try.f5 false true false false) := by
  refine returnsInHanded_of_change (C := Try.checked) own started (by kernel_rfl) Try.func5
    (ChangeSpec.witness6 (enc := enc) (C := Try.checked) false ⟨#[], #[.int .u8 0, .slice none 0 0], []⟩ 8 (by kernel_rfl) (by kernel_rfl) (by kernel_rfl) (by kernel_rfl)) ?_
  intro W base args ds gs before hval0 hW hcnd _
  have hval : ∀ (j : Nat) t v, Try.f5.params[j]? = some t → args[j]? = some v → Value.okWide Try.prog W .any base t v := hval0
  have hW' := hW
  obtain ⟨p, q, hA0, hV, rfl, hfz, hnd⟩ := hW
  have hA : DataW.TrodAll enc Try.prog W 0 (fun _ => true) true Try.f5.params.toList args.toList ds p := hA0
  rw [Try.params5] at hA hval
  obtain ⟨v0, vs0, d0, ds0, p0, q0, hargs0, rfl, rfl, h0, r0⟩ := trodAll_cons hA
  obtain ⟨v1, vs1, d1, ds1, p1, q1, hargs1, rfl, rfl, h1, r1⟩ := trodAll_cons r0
  obtain ⟨rfl, rfl, rfl⟩ := trodAll_nil r1
  obtain rfl : args = #[v0, v1] := by cases args; simp_all
  obtain ⟨rfl, rfl⟩ := trodVars_none hV
  obtain ⟨n0, b0, e0⟩ := open_u8 (hval 0 5 v0 rfl rfl) h0
  obtain ⟨ao1, len1, cap1, X1, e1, c1, o1, m1⟩ := open_steps (hval 1 56 v1 rfl rfl) h1
  clear hA0 hval0
  simp only [List.append_nil] at hW'
  have hlt0 : ∀ x ∈ p0, x.block < W.heap.size := fun x hx => hW'.lt x (by simp [hx])
  have hlt1 : ∀ x ∈ p1, x.block < W.heap.size := fun x hx => hW'.lt x (by simp [hx])
  have hwalk := walk W n0 b0 ao1 len1 cap1 X1 c1 o1 m1
  rw [← e0, ← e1] at hwalk
  refine hwalk.mono fun e W' ⟨he, hg⟩ => ?_
  subst he
  exact ⟨_, rfl, _, _, _, [], _, [], hW', (trodAll_cons_mk (shut_bool Try.underlying4 _) trodAll_mk0), (trodAll_cons_mk (Below.trod laidOut (by kernel_rfl) (of_decide_eq_true (by kernel_rfl)) h0 hg hlt0) (trodAll_cons_mk (Below.trod laidOut (by kernel_rfl) (of_decide_eq_true (by kernel_rfl)) h1 hg hlt1) trodAll_mk0)), rfl, Below.frame hg _, fun h => by cases h⟩

theorem over : Rows.slotsDoesRow.holds Try.pinned (OpenSpec.ofChange Rows.slotsDoesSpec) :=
  OpenClaim.holds_of_wide 5 Try.f5 rfl rfl rfl rfl rfl rfl rfl ⟨rfl, rfl, rfl, rfl, rfl⟩ rfl rfl rfl rfl rfl (by kernel_rfl) Try.func5 (by kernel_rfl)
    (of_decide_eq_true (by kernel_rfl)) (by unfold Func.isWrapper; first | (rw [if_pos (by decide +kernel)]; kernel_rfl) | (rw [if_neg (by decide +kernel)]; exact ⟨rfl, rfl⟩))
    (fun os started H enc _ => lifted os started H enc)

/-- ████ THE STATEMENT ████ -/
theorem proved : Rows.SlotsDoesSaid :=
  over
#print axioms proved
end Go.Proofs.Ytmmlgnoicecgfaa.slotsDoes
