/-
  PROVED: the statement 'SlotsExamplesSaid': for every input the law SlotsExamples returns true, and each argument reads afterwards as it read before. No condition.
-/
import Derived.Test.YtmmlgnoicecgfaaKx
import Derived.Test.YtmmlgnoicecgfaaRows
import Derived.WalkKit
import Derived.Deep.RegionHeld3
import Derived.BigQuiet
import Derived.ProofKit
import Derived.OpenShut
import Derived.ShutString
namespace Go.Proofs.Ytmmlgnoicecgfaa.slotsExamples
open Go.ChangeShapes Go.WideShapes Go.ChangeAt Go.RowKit
open Go.Proofs.Ytmmlgnoicecgfaa.Mem Go.Proofs.Ytmmlgnoicecgfaa.Hk Go.Proofs.Ytmmlgnoicecgfaa.Pk Go.Proofs.Ytmmlgnoicecgfaa.Dz Go.Proofs.Ytmmlgnoicecgfaa.Fz
set_option linter.unusedVariables false

theorem own : ownKnob Try.prog.godebug = none := by kernel_rfl
theorem laidOut : laidOutB Try.prog = true := by kernel_rfl

theorem neqH (q b a f n q' b' a' f' n' : Int) (w : World) :
    (binOp .neq 50 (.agg #[.int .i64 q, .int .i64 b, .int .i64 a, .int .i64 f, .int .i64 n]) (.agg #[.int .i64 q', .int .i64 b', .int .i64 a', .int .i64 f', .int .i64 n'])).run Try.prog w = .ok (.bool (!sameH q b a f n q' b' a' f' n')) w := by
  unfold sameH
  simp [go_sem, Try.underlying50]
  (repeat' split) <;> simp_all
theorem xcells {w0 u : World} {X F D G R : Nat} {L : List As} (h : Mem.Own w0 (boxA X #[.pointer (some ⟨F, 0, none⟩), .pointer (some ⟨D, 0, none⟩), .pointer (some ⟨G, 0, none⟩), .pointer (some ⟨R, 0, none⟩)] 38 :: L) u) : u.cell? ⟨X, 0, none⟩ = some (.pointer (some ⟨F, 0, none⟩)) ∧ u.cell? ⟨X, 1, none⟩ = some (.pointer (some ⟨D, 0, none⟩)) := ⟨(pair_cells h u (Kept.refl u)).1, (pair_cells h u (Kept.refl u)).2.1⟩
theorem bcells {w0 u : World} {A B C : As} {B5 : Nat} {q b a f n : Int} {T : TypeId} (h : Mem.Own w0 [A, B, C, boxA B5 #[.int .i64 q, .int .i64 b, .int .i64 a, .int .i64 f, .int .i64 n] T] u) : u.cell? ⟨B5, 0, none⟩ = some (.int .i64 q) ∧ u.cell? ⟨B5, 1, none⟩ = some (.int .i64 b) ∧ u.cell? ⟨B5, 2, none⟩ = some (.int .i64 a) ∧ u.cell? ⟨B5, 3, none⟩ = some (.int .i64 f) ∧ u.cell? ⟨B5, 4, none⟩ = some (.int .i64 n) := (hblock (h.boxed 3 rfl)).1
set_option maxHeartbeats 8000000 in
set_option maxRecDepth 100000 in
theorem walk (w : World) : Calls Try.prog 6 #[] w fun e w' => e = .returned (.bool true) ∧ Kept w w' := by
  have hl00 : ∀ (A B : As) (M : List As) (F D : Nat) (W : World), Mem.Own w (A :: B :: dk F D (xf 2) :: M) W → Calls Try.prog 25 #[.pointer (some ⟨D, 0, none⟩)] W fun e w' => e = .returned (.tuple #[.agg #[.int .i64 0, .int .i64 0, .int .i64 0, .int .i64 0, .int .i64 0], .int .i64 6]) ∧ Mem.Own w (A :: B :: dk F D (xf 2) :: M) w' := fun _ _ _ _ _ _ h => by
    have := o_load h 2 rfl
    rw [lx0] at this
    exact this
  have HL0 := Lib.hid hl00
  clear hl00
  have hl10 : ∀ (A B : As) (M : List As) (F D : Nat) (W : World), Mem.Own w (A :: B :: dk F D xs1 :: M) W → Calls Try.prog 25 #[.pointer (some ⟨D, 0, none⟩)] W fun e w' => e = .returned (.tuple #[.agg #[.int .i64 1, .int .i64 1, .int .i64 0, .int .i64 1, .int .i64 0], .int .i64 0]) ∧ Mem.Own w (A :: B :: dk F D xs1 :: M) w' := fun _ _ _ _ _ _ h => by
    have := o_load h 2 rfl
    rw [lx1] at this
    exact this
  have HL1 := Lib.hid hl10
  clear hl10
  have hl30 : ∀ (A B : As) (M : List As) (F D : Nat) (W : World), Mem.Own w (A :: B :: dk F D xs3 :: M) W → Calls Try.prog 25 #[.pointer (some ⟨D, 0, none⟩)] W fun e w' => e = .returned (.tuple #[.agg #[.int .i64 0, .int .i64 0, .int .i64 0, .int .i64 0, .int .i64 0], .int .i64 10]) ∧ Mem.Own w (A :: B :: dk F D xs3 :: M) w' := fun _ _ _ _ _ _ h => by
    have := o_load h 2 rfl
    rw [lx3] at this
    exact this
  have HL3 := Lib.hid hl30
  clear hl30
  have hl40 : ∀ (A B : As) (M : List As) (F D : Nat) (W : World), Mem.Own w (A :: B :: dk F D xs4 :: M) W → Calls Try.prog 25 #[.pointer (some ⟨D, 0, none⟩)] W fun e w' => e = .returned (.tuple #[.agg #[.int .i64 1, .int .i64 1, .int .i64 0, .int .i64 1, .int .i64 0], .int .i64 0]) ∧ Mem.Own w (A :: B :: dk F D xs4 :: M) w' := fun _ _ _ _ _ _ h => by
    have := o_load h 2 rfl
    rw [lx4] at this
    exact this
  have HL4 := Lib.hid hl40
  clear hl40
  have hlz0 : ∀ (A B : As) (M : List As) (F D : Nat) (W : World), Mem.Own w (A :: B :: dk F D (xf 1) :: M) W → Calls Try.prog 25 #[.pointer (some ⟨D, 0, none⟩)] W fun e w' => e = .returned (.tuple #[.agg #[.int .i64 0, .int .i64 0, .int .i64 0, .int .i64 0, .int .i64 0], .int .i64 3]) ∧ Mem.Own w (A :: B :: dk F D (xf 1) :: M) w' := fun _ _ _ _ _ _ h => by
    have := o_load h 2 rfl
    rw [lzs] at this
    exact this
  have HLZ := Lib.hid hlz0
  clear hlz0
  have hs10 : ∀ (A B : As) (M : List As) (F D : Nat) (W : World), Mem.Own w (A :: B :: dk F D (xf 2) :: M) W → Calls Try.prog 23 #[.pointer (some ⟨D, 0, none⟩), .agg #[.int .i64 1, .int .i64 1, .int .i64 0, .int .i64 1, .int .i64 0]] W fun e w' => e = .returned (.int .i64 0) ∧ Mem.Own w (A :: B :: dk F D xs1 :: M) w' := fun _ _ _ _ _ _ h => by
    have := o_save h 2 rfl (by decide) h11
    rw [show saves (xf 2) h11 = (0, xs1) from first_saves] at this
    exact this
  have HS1 := Lib.hid hs10
  clear hs10
  have hs20 : ∀ (A B : As) (M : List As) (F D : Nat) (W : World), Mem.Own w (A :: B :: dk F D xs2 :: M) W → Calls Try.prog 23 #[.pointer (some ⟨D, 0, none⟩), .agg #[.int .i64 2, .int .i64 2, .int .i64 0, .int .i64 1, .int .i64 0]] W fun e w' => e = .returned (.int .i64 10) ∧ Mem.Own w (A :: B :: dk F D xs3 :: M) w' := fun _ _ _ _ _ _ h => by
    have := o_save h 2 rfl (by show xs1.pend.length < _; rw [calm1.pend]; decide) h22
    rw [sx3] at this
    exact this
  have HS2 := Lib.hid hs20
  clear hs20
  have hsy0 : ∀ (A B : As) (M : List As) (F D : Nat) (W : World), Mem.Own w (A :: B :: dk F D (xf 1) :: M) W → Calls Try.prog 23 #[.pointer (some ⟨D, 0, none⟩), .agg #[.int .i64 1, .int .i64 1, .int .i64 0, .int .i64 1, .int .i64 0]] W fun e w' => e = .returned (.int .i64 3) ∧ Mem.Own w (A :: B :: dk F D (xf 1) :: M) w' := fun _ _ _ _ _ _ h => by
    have := o_save h 2 rfl (by decide) h11
    rw [szs1] at this
    exact this
  have HSY := Lib.hid hsy0
  clear hsy0
  have hsz0 : ∀ (A B : As) (M : List As) (F D : Nat) (W : World), Mem.Own w (A :: B :: dk F D (xf 1) :: M) W → Calls Try.prog 23 #[.pointer (some ⟨D, 0, none⟩), .agg #[.int .i64 0, .int .i64 1, .int .i64 0, .int .i64 1, .int .i64 0]] W fun e w' => e = .returned (.int .i64 2) ∧ Mem.Own w (A :: B :: dk F D (xf 1) :: M) w' := fun _ _ _ _ _ _ h => by
    have := o_save h 2 rfl (by decide) h01
    rw [szs0] at this
    exact this
  have HSZ := Lib.hid hsz0
  clear hsz0
  obtain ⟨E11, hE11⟩ : ∃ E11, E11 = h11.enc := ⟨_, rfl⟩
  have hw50 : ∀ (A B C A2 B2 : As) (F D : Nat) (W : World), Mem.Own w [A, B, C, A2, B2, dk F D (xf 2)] W → Calls Try.prog 14 #[.pointer (some ⟨D, 0, none⟩), .int .i64 0, .string E11] W fun e w' => e = .returned (.int .i64 0) ∧ Mem.Own w [A, B, C, A2, B2, dk F D ys] w' := fun _ _ _ _ _ _ _ _ h => by
    have := o_write h 5 rfl (by decide) 0 h11.enc
    rw [wys] at this
    rw [hE11]
    exact this
  have HW5 := Lib.hid hw50
  clear hw50
  have hl50 : ∀ (A B C A2 B2 : As) (F D : Nat) (W : World), Mem.Own w [A, B, C, A2, B2, dk F D ys] W → Calls Try.prog 25 #[.pointer (some ⟨D, 0, none⟩)] W fun e w' => e = .returned (.tuple #[.agg #[.int .i64 0, .int .i64 0, .int .i64 0, .int .i64 0, .int .i64 0], .int .i64 6]) ∧ Mem.Own w [A, B, C, A2, B2, dk F D ys] w' := fun _ _ _ _ _ _ _ _ h => by
    have := o_load h 5 rfl
    rw [lys] at this
    exact this
  have HL5 := Lib.hid hl50
  clear hl50
  have har0 : ∀ (A B : As) (M : List As) (F D : Nat) (W : World), Mem.Own w (A :: B :: dk F D xs1 :: M) W → Calls Try.prog 16 #[.pointer (some ⟨F, 0, none⟩), .int .i64 1] W fun e w' => e = .returned (.int .i64 0) ∧ Mem.Own w (A :: B :: dk F D xs2 :: M) w' := fun A B M F D W h => by
    obtain ⟨a1, a2⟩ := calm1.arm 1
    have hok : (xs1.fu.arm (1 : Int)).ok := by rw [show ((1 : Nat) : Int) = 1 from rfl] at a2; rw [a2]; show 1 < 9223372036854775808; decide
    have := o_fuse h 2 rfl hok (R := fun e => e = .returned (.int .i64 (xs1.fu.armSays (1 : Int)))) fun hf ho => arm_c F xs1.fu (1 : Int) W hf
    rw [show ((1 : Nat) : Int) = 1 from rfl] at a1 a2
    rw [a1, a2] at this
    exact this
  have HAR := Lib.hid har0
  clear har0
  have hpd0 : ∀ (A B : As) (M : List As) (F D : Nat) (W : World), Mem.Own w (A :: B :: dk F D xs1 :: M) W → Calls Try.prog 32 #[.pointer (some ⟨D, 0, none⟩)] W fun e w' => (∃ ao cap, e = .returned (.slice ao 0 cap)) ∧ Mem.Own w (A :: B :: dk F D xs1 :: M) w' := fun _ _ _ _ _ _ h => by
    have := o_pending h 2 rfl (by rw [calm1.pend]; decide)
    refine this.mono fun e w' ⟨⟨ao, cap, he, _⟩, hp⟩ => ⟨⟨ao, cap, ?_⟩, hp⟩
    rw [he, calm1.pend]; rfl
  have HPD := Lib.hid hpd0
  clear hpd0
  have hcr0 : ∀ (X F D G R : Nat) (r s : Ds) (M : List As) (W : World), Mem.Own w (boxA X #[.pointer (some ⟨F, 0, none⟩), .pointer (some ⟨D, 0, none⟩), .pointer (some ⟨G, 0, none⟩), .pointer (some ⟨R, 0, none⟩)] 38 :: rk G R r :: dk F D s :: M) W → Calls Try.prog 28 #[.pointer (some ⟨X, 0, none⟩), .agg #[.int .u64 0, .int .i64 0, .int .i64 60]] W fun e w' => e = .returned (.tuple #[]) ∧ Mem.Own w (boxA X #[.pointer (some ⟨F, 0, none⟩), .pointer (some ⟨D, 0, none⟩), .pointer (some ⟨G, 0, none⟩), .pointer (some ⟨R, 0, none⟩)] 38 :: rk G R { r.settled x60.left with fu := .idle } :: dk F D { s.settled x60.left with fu := .idle } :: M) w' := fun _ _ _ _ _ _ _ _ _ h => bcrash2_c h x60_ok
  have HCR := Lib.hid hcr0
  clear hcr0
  have hn0 : ∀ (M : List As) (W : World) (n : Nat), 1 ≤ n → n ≤ 65536 → Mem.Own w M W → Calls Try.prog 11 #[.int .i64 (n : Int)] W fun e w' => ∃ X F D G R, e = .returned (.pointer (some ⟨X, 0, none⟩)) ∧ Mem.Own w (boxA X #[.pointer (some ⟨F, 0, none⟩), .pointer (some ⟨D, 0, none⟩), .pointer (some ⟨G, 0, none⟩), .pointer (some ⟨R, 0, none⟩)] 38 :: rk G R (xf n) :: dk F D (xf n) :: M) w' := fun _ _ n h1 h2 h => bnew_c h n h1 h2
  have hnn1 : ∀ (M : List As) (W : World), Mem.Own w M W → Calls Try.prog 11 #[.int .i64 1] W fun e w' => ∃ X F D G R, e = .returned (.pointer (some ⟨X, 0, none⟩)) ∧ Mem.Own w (boxA X #[.pointer (some ⟨F, 0, none⟩), .pointer (some ⟨D, 0, none⟩), .pointer (some ⟨G, 0, none⟩), .pointer (some ⟨R, 0, none⟩)] 38 :: rk G R (xf 1) :: dk F D (xf 1) :: M) w' := fun _ _ h => hn0 _ _ 1 (by decide) (by decide) h
  have HN1 := Lib.hid hnn1
  clear hnn1
  have hnn2 : ∀ (M : List As) (W : World), Mem.Own w M W → Calls Try.prog 11 #[.int .i64 2] W fun e w' => ∃ X F D G R, e = .returned (.pointer (some ⟨X, 0, none⟩)) ∧ Mem.Own w (boxA X #[.pointer (some ⟨F, 0, none⟩), .pointer (some ⟨D, 0, none⟩), .pointer (some ⟨G, 0, none⟩), .pointer (some ⟨R, 0, none⟩)] 38 :: rk G R (xf 2) :: dk F D (xf 2) :: M) w' := fun _ _ h => hn0 _ _ 2 (by decide) (by decide) h
  have HN2 := Lib.hid hnn2
  clear hnn2
  clear hn0
  obtain ⟨t_he0, he00⟩ : ∃ t : ByteArray, ∀ W : World, Calls Try.prog 19 #[.agg #[.int .i64 0, .int .i64 1, .int .i64 0, .int .i64 1, .int .i64 0]] W fun e w' => e = .returned (.tuple #[.string t, .int .i64 2]) ∧ Kept W w' := ⟨h01.enc, fun W => by have := encode_c h01 W; rw [e01] at this; exact this⟩
  have HE0 := Lib.hid he00
  clear he00
  obtain ⟨t_hea, hea0⟩ : ∃ t : ByteArray, ∀ W : World, Calls Try.prog 19 #[.agg #[.int .i64 1, .int .i64 1, .int .i64 2, .int .i64 1, .int .i64 0]] W fun e w' => e = .returned (.tuple #[.string t, .int .i64 2]) ∧ Kept W w' := ⟨hA2.enc, fun W => by have := encode_c hA2 W; rw [eA2] at this; exact this⟩
  have HEA := Lib.hid hea0
  clear hea0
  obtain ⟨t_hes, hes0⟩ : ∃ t : ByteArray, ∀ W : World, Calls Try.prog 19 #[.agg #[.int .i64 1, .int .i64 1, .int .i64 0, .int .i64 1, .int .i64 65536]] W fun e w' => e = .returned (.tuple #[.string t, .int .i64 2]) ∧ Kept W w' := ⟨hS6.enc, fun W => by have := encode_c hS6 W; rw [eS6] at this; exact this⟩
  have HES := Lib.hid hes0
  clear hes0
  have he10 : ∀ W : World, Calls Try.prog 19 #[.agg #[.int .i64 1, .int .i64 1, .int .i64 0, .int .i64 1, .int .i64 0]] W fun e w' => e = .returned (.tuple #[.string E11, .int .i64 0]) ∧ Kept W w' := fun W => by have := encode_c h11 W; rw [(Hd.err_zero h11).mpr h11_good, ← hE11] at this; exact this
  have HE1 := Lib.hid he10
  clear he10 hE11
  obtain ⟨Z80, hZ80⟩ : ∃ Z80, Z80 = Pk.str (List.replicate 80 0) := ⟨_, rfl⟩
  have hde0 : ∀ W : World, Calls Try.prog 21 #[.string Z80] W fun e w' => e = .returned (.tuple #[.agg #[.int .i64 0, .int .i64 0, .int .i64 0, .int .i64 0, .int .i64 0], .int .i64 12]) ∧ Kept W w' := fun W => by have := decode_c (Pk.str (List.replicate 80 0)) W; rw [dz80.1, dz80.2, ← hZ80] at this; exact this
  have HDE := Lib.hid hde0
  clear hde0
  have mk80 : ∀ w : World, (Instr.makeSlice 72 (.int .i64 80) (.int .i64 80)).run Try.prog w = .ok (.slice (some ⟨w.heap.size, 0, none⟩) 80 80) (w.alloc (.cells (Array.replicate 80 (.int .u8 0)) 5)) := make_bytes 80 (by decide)
  have cv80 : ∀ w : World, (convert 72 9 (.slice (some ⟨w.heap.size, 0, none⟩) 80 80)).run Try.prog (w.alloc (.cells (Array.replicate 80 (.int .u8 0)) 5)) = .ok (.string Z80) (w.alloc (.cells (Array.replicate 80 (.int .u8 0)) 5)) := fun w => by rw [hZ80]; exact bytes_str 80 w
  clear hZ80
  have H1 := Lib.hid (head_c 1 1)
  have H2 := Lib.hid (head_c 2 2)
  have H0 := Lib.hid (head_c 0 1)
  have SN := Lib.hid (save_nil 0 1 0 1 0)
  have LN := Lib.hid load_nil
  have hneq := neqH 1 1 0 1 0 1 1 0 1 0
  rw [show (!sameH 1 1 0 1 0 1 1 0 1 0) = false from by decide] at hneq
  have hnil := Mem.Own.nil w
  go_enter Try.func6, Try.ntmps6
  go_wp2_with (first
    | (go_at_call 11; (with_reducible refine (HN2.out _ _ hnil).mono ?_); rintro e u1 ⟨X, F, D, G, R, rfl, p1⟩; obtain ⟨_, x1⟩ := xcells p1)
    | (go_at_call 25; (with_reducible refine (HL0.out _ _ _ _ _ _ p1).mono ?_); rintro e u2 ⟨rfl, p2⟩))
  have p3 := p2.later ((Kept.refl u2).alloc (.cells #[.int .i64 0, .int .i64 0, .int .i64 0, .int .i64 0, .int .i64 0] 50))
  obtain ⟨V1, hV1⟩ : ∃ V1, V1 = u2.alloc (.cells #[.int .i64 0, .int .i64 0, .int .i64 0, .int .i64 0, .int .i64 0] 50) := ⟨_, rfl⟩
  rw [← hV1] at p3 ⊢
  clear hV1 p1 p2 x1
  have p4 := p3.drew
  have S1 := (xcells p3).2
  have S1' := (xcells p4).2
  clear p3
  have P4 := Lib.hid p4
  clear p4
  go_region_held3 (fun W => W.cell? ⟨X, 1, none⟩ = some (.pointer (some ⟨D, 0, none⟩)))
    (first | assumption)
    (first
      | (go_at_call 31; (with_reducible refine (H1.out _).mono ?_); rintro e u3 ⟨rfl, k3⟩; have P5 := Lib.hid (P4.out.later k3); have S2 := (xcells P5.out).2)
      | (go_at_call 23; (with_reducible refine (HS1.out _ _ _ _ _ _ P5.out).mono ?_); rintro e u4 ⟨rfl, p6⟩; have S3 := (xcells p6).2; have P6 := Lib.hid p6; clear p6))
  clear S1 S1' S2
  go_wp2_with (first
    | (go_at_call 25; (with_reducible refine (HL1.out _ _ _ _ _ _ P6.out).mono ?_); rintro e u5 ⟨rfl, p7⟩))
  have p8 := p7.push (b := boxA u5.heap.size #[.int .i64 1, .int .i64 1, .int .i64 0, .int .i64 1, .int .i64 0] 50) ((Kept.refl u5).alloc (.cells #[.int .i64 1, .int .i64 1, .int .i64 0, .int .i64 1, .int .i64 0] 50)) ⟨heap_alloc_new _ _, .inr ⟨Nat.le_refl _, by simp⟩⟩
  obtain ⟨V2, hV2⟩ : ∃ V2, V2 = u5.alloc (.cells #[.int .i64 1, .int .i64 1, .int .i64 0, .int .i64 1, .int .i64 0] 50) := ⟨_, rfl⟩
  obtain ⟨B5, hB5⟩ : ∃ B5, B5 = u5.heap.size := ⟨_, rfl⟩
  rw [← hV2, ← hB5] at p8 ⊢
  have p8 : Mem.Own w [boxA X #[.pointer (some ⟨F, 0, none⟩), .pointer (some ⟨D, 0, none⟩), .pointer (some ⟨G, 0, none⟩), .pointer (some ⟨R, 0, none⟩)] 38, rk G R (xf 2), dk F D xs1, boxA B5 #[.int .i64 1, .int .i64 1, .int .i64 0, .int .i64 1, .int .i64 0] 50] V2 := p8
  clear hV2 hB5 p7 S3
  have p9 := p8.drew
  have S4 := And.intro (xcells p8).2 (bcells p8)
  have S4' := And.intro (xcells p9).2 (bcells p9)
  have P9 := Lib.hid p9
  clear p8 p9
  go_region_held3 (fun W => W.cell? ⟨X, 1, none⟩ = some (.pointer (some ⟨D, 0, none⟩)) ∧ W.cell? ⟨B5, 0, none⟩ = some (.int .i64 1) ∧ W.cell? ⟨B5, 1, none⟩ = some (.int .i64 1) ∧ W.cell? ⟨B5, 2, none⟩ = some (.int .i64 0) ∧ W.cell? ⟨B5, 3, none⟩ = some (.int .i64 1) ∧ W.cell? ⟨B5, 4, none⟩ = some (.int .i64 0))
    (first | assumption)
    (first
      | (go_at_call 31; (with_reducible refine (H1.out _).mono ?_); rintro e u6 ⟨rfl, k6⟩; have P10 := Lib.hid (P9.out.later k6); have S5 := And.intro (xcells P10.out).2 (bcells P10.out))
      | (go_at_call 32; (with_reducible refine (HPD.out _ _ _ _ _ _ P10.out).mono ?_); rintro e u7 ⟨⟨ao, cap, rfl⟩, p11⟩; have S6 := And.intro (xcells p11).2 (bcells p11); have P11 := Lib.hid p11; clear p11))
  clear S4 S4' S5 S6
  go_wp2
  have p12 := P11.out.drew
  have S7 := xcells P11.out
  have S7' := xcells p12
  have P12 := Lib.hid p12
  clear p12
  go_region_held3 (fun W => W.cell? ⟨X, 0, none⟩ = some (.pointer (some ⟨F, 0, none⟩)) ∧ W.cell? ⟨X, 1, none⟩ = some (.pointer (some ⟨D, 0, none⟩)))
    (first | assumption)
    (first
      | (go_at_call 16; (with_reducible refine (HAR.out _ _ _ _ _ _ P12.out).mono ?_); rintro e u8 ⟨rfl, p13⟩; have S8 := xcells p13; have P13 := Lib.hid p13; clear p13)
      | (go_at_call 31; (with_reducible refine (H2.out _).mono ?_); rintro e u9 ⟨rfl, k9⟩; have P14 := Lib.hid (P13.out.later k9); have S9 := xcells P14.out)
      | (go_at_call 23; (with_reducible refine (HS2.out _ _ _ _ _ _ P14.out).mono ?_); rintro e u10 ⟨rfl, p15⟩; have S10 := xcells p15; have P15 := Lib.hid p15; clear p15))
  clear S7 S7' S8 S9 S10
  obtain ⟨_, _⟩ := xcells P15.out
  go_wp2_with (first
    | (go_at_call 25; (with_reducible refine (HL3.out _ _ _ _ _ _ P15.out).mono ?_); rintro e u11 ⟨rfl, p16⟩)
    | (go_at_call 28; (with_reducible refine (HCR.out _ _ _ _ _ _ _ _ _ p16).mono ?_); rintro e u12 ⟨rfl, p17⟩; obtain ⟨_, _⟩ := xcells p17)
    | (go_at_call 25; (with_reducible refine (HL4.out _ _ _ _ _ _ p17).mono ?_); rintro e u13 ⟨rfl, p18⟩; obtain ⟨⟨_, _, _, _, _⟩, fz⟩ := hblock (p18.boxed 3 rfl); have fz0 := fz 0; have fz1 := fz 1; have fz2 := fz 2; have fz3 := fz 3; have fz4 := fz 4; clear fz; have P18 := Lib.hid p18; clear p18))
  have p19 := ((((P18.out.boxset 3 rfl 0 (.int .i64 1)).boxset 3 rfl 1 (.int .i64 1)).boxset 3 rfl 2 (.int .i64 0)).boxset 3 rfl 3 (.int .i64 1)).boxset 3 rfl 4 (.int .i64 0)
  obtain ⟨V3, hV3⟩ : ∃ V3, V3 = ((((u13.setCell ⟨B5, 0, none⟩ (.int .i64 1)).setCell ⟨B5, 1, none⟩ (.int .i64 1)).setCell ⟨B5, 2, none⟩ (.int .i64 0)).setCell ⟨B5, 3, none⟩ (.int .i64 1)).setCell ⟨B5, 4, none⟩ (.int .i64 0) := ⟨_, rfl⟩
  rw [← hV3] at p19 ⊢
  have p19 : Mem.Own w [boxA X #[.pointer (some ⟨F, 0, none⟩), .pointer (some ⟨D, 0, none⟩), .pointer (some ⟨G, 0, none⟩), .pointer (some ⟨R, 0, none⟩)] 38, rk G R { (xf 2).settled x60.left with fu := .idle }, dk F D xs4, boxA B5 #[.int .i64 1, .int .i64 1, .int .i64 0, .int .i64 1, .int .i64 0] 50] V3 := p19
  clear hV3 fz0 fz1 fz2 fz3 fz4
  have p20 := p19.drew
  have S11 := bcells p19
  have S11' := bcells p20
  have K20 := Lib.hid p20.kept
  have P20 := Lib.hid p20
  clear p19 p20
  go_region_held3 (fun W => W.cell? ⟨B5, 0, none⟩ = some (.int .i64 1) ∧ W.cell? ⟨B5, 1, none⟩ = some (.int .i64 1) ∧ W.cell? ⟨B5, 2, none⟩ = some (.int .i64 0) ∧ W.cell? ⟨B5, 3, none⟩ = some (.int .i64 1) ∧ W.cell? ⟨B5, 4, none⟩ = some (.int .i64 0))
    (first | assumption)
    (first | (go_at_call 31; (with_reducible refine (H1.out _).mono ?_); rintro e u14 ⟨rfl, k14⟩; have S12 := bcells (P20.out.later k14); have K14 := Lib.hid (K20.out.trans k14); clear k14))
  clear S11 S11' S12
  go_wp2_with (first
    | (go_at_call 31; first | ((with_reducible refine (H0.out _).mono ?_); rintro e u15 ⟨rfl, k15⟩; have K15 := Lib.hid (K14.out.trans k15); clear k15) | ((with_reducible refine (H1.out _).mono ?_); rintro e u22 ⟨rfl, k22⟩; have P22 := Lib.hid (P21.out.later k22); clear k22))
    | (go_at_call 19; first | ((with_reducible refine (HE0.out _).mono ?_); rintro e u16 ⟨rfl, k16⟩; have K16 := Lib.hid (K15.out.trans k16); clear k16) | ((with_reducible refine (HEA.out _).mono ?_); rintro e u17 ⟨rfl, k17⟩; have K17 := Lib.hid (K16.out.trans k17); clear k17) | ((with_reducible refine (HES.out _).mono ?_); rintro e u19 ⟨rfl, k19⟩; have K19 := Lib.hid (K18.out.trans k19); clear k19) | ((with_reducible refine (HE1.out _).mono ?_); rintro e u23 ⟨rfl, k23⟩; have P23 := Lib.hid (P22.out.later k23); clear k23; obtain ⟨_, _⟩ := xcells P23.out.tail.tail.tail))
    | (go_at_call 21; (with_reducible refine (HDE.out _).mono ?_); rintro e u18 ⟨rfl, k18⟩; have K18 := Lib.hid ((K17.out.alloc (.cells (Array.replicate 80 (.int .u8 0)) 5)).trans k18); clear k18)
    | (go_at_call 11; first | ((with_reducible refine (HN2.out _ _ (hnil.later K19.out)).mono ?_); rintro e u20 ⟨XY, FY, DY, GY, RY, rfl, p20⟩; have P20 := Lib.hid p20; clear p20) | ((with_reducible refine (HN1.out _ _ P20.out).mono ?_); rintro e u21 ⟨XZ, FZ, DZ, GZ, RZ, rfl, p21⟩; have P21 := Lib.hid p21; clear p21))
    | (go_at_call 14; (with_reducible refine (HW5.out _ _ _ _ _ _ _ _ P23.out).mono ?_); rintro e u24 ⟨rfl, p24⟩; obtain ⟨_, _⟩ := xcells p24.tail.tail.tail; have P24 := Lib.hid p24; clear p24)
    | (go_at_call 25; first | ((with_reducible refine (HL5.out _ _ _ _ _ _ _ _ P24.out).mono ?_); rintro e u25 ⟨rfl, p25⟩; obtain ⟨_, _⟩ := xcells p25; have P25 := Lib.hid p25; clear p25) | ((with_reducible refine (HLZ.out _ _ _ _ _ _ P25.out).mono ?_); rintro e u26 ⟨rfl, p26⟩; have P26 := Lib.hid p26; clear p26) | ((with_reducible refine (LN.out _).mono ?_); rintro e u27 ⟨rfl, k27⟩; have P27 := Lib.hid (P26.out.later k27); clear k27)))
  have p28 := P27.out.drew
  have S20 := (xcells P27.out).2
  have S20' := (xcells p28).2
  have P28 := Lib.hid p28
  clear p28
  go_region_held3 (fun W => W.cell? ⟨XZ, 1, none⟩ = some (.pointer (some ⟨DZ, 0, none⟩)))
    (first | assumption)
    (first
      | (go_at_call 31; first | ((with_reducible refine (H1.out _).mono ?_); rintro e u29 ⟨rfl, k29⟩; have P29 := Lib.hid (P28.out.later k29); have S21 := (xcells P29.out).2) | ((with_reducible refine (H0.out _).mono ?_); rintro e u31 ⟨rfl, k31⟩; first | (have P33 := Lib.hid (P32.out.later k31); have S25 := (xcells P33.out).2) | (have P31 := Lib.hid (P30.out.later k31); have S23 := (xcells P31.out).2)))
      | (go_at_call 23; first | ((with_reducible refine (HSY.out _ _ _ _ _ _ P29.out).mono ?_); rintro e u30 ⟨rfl, p30⟩; have S22 := (xcells p30).2; have P30 := Lib.hid p30; clear p30) | ((with_reducible refine (HSZ.out _ _ _ _ _ _ P31.out).mono ?_); rintro e u32 ⟨rfl, p32⟩; have S24 := (xcells p32).2; have P32 := Lib.hid p32; clear p32) | ((with_reducible refine (SN.out _).mono ?_); rintro e u34 ⟨rfl, k34⟩; have P34 := Lib.hid (P33.out.later k34); have S26 := (xcells P34.out).2)))
  go_wp2
  go_ret
  exact ⟨rfl, P34.out.kept⟩

set_option maxRecDepth 100000 in
theorem lifted (os : Os) (started : os.Started) (H : Type) (enc : TypeId × Value → H) :
    ReturnsInHanded {} Try.checked os 6 .any (Rows.slotsExamplesSpec.pre6 enc Try.prog Try.f6 Rows.slotsExamplesRow.domain false) (Rows.slotsExamplesSpec.post enc Try.prog Try.f6 false true false false) := by
  refine returnsInHanded_of_change (C := Try.checked) own started (by kernel_rfl) Try.func6
    (ChangeSpec.witness6 (enc := enc) (C := Try.checked) false ⟨#[], #[], []⟩ 8 (by kernel_rfl) (by kernel_rfl) (by kernel_rfl) (by kernel_rfl)) ?_
  intro W base args ds gs before hval0 hW hcnd _
  have hval : ∀ (j : Nat) t v, Try.f6.params[j]? = some t → args[j]? = some v → Value.okWide Try.prog W .any base t v := hval0
  have hW' := hW
  obtain ⟨p, q, hA0, hV, rfl, hfz, hnd⟩ := hW
  have hA : DataW.TrodAll enc Try.prog W 0 (fun _ => true) true Try.f6.params.toList args.toList ds p := hA0
  rw [Try.params6] at hA hval
  obtain ⟨hnil, rfl, rfl⟩ := trodAll_nil hA
  obtain rfl : args = #[] := by cases args; simp_all
  obtain ⟨rfl, rfl⟩ := trodVars_none hV
  clear hA0 hval0
  simp only [List.append_nil] at hW'
  have hwalk := walk W 
  rw [] at hwalk
  refine hwalk.mono fun e W' ⟨he, hg⟩ => ?_
  subst he
  exact ⟨_, rfl, _, _, _, [], _, [], hW', (trodAll_cons_mk (shut_bool Try.underlying4 _) trodAll_mk0), trodAll_mk0, rfl, Below.frame hg _, fun h => by cases h⟩

theorem over : Rows.slotsExamplesRow.holds Try.pinned (OpenSpec.ofChange Rows.slotsExamplesSpec) :=
  OpenClaim.holds_of_wide 6 Try.f6 rfl rfl rfl rfl rfl rfl rfl ⟨rfl, rfl, rfl, rfl, rfl⟩ rfl rfl rfl rfl rfl (by kernel_rfl) Try.func6 (by kernel_rfl)
    (of_decide_eq_true (by kernel_rfl)) (by unfold Func.isWrapper; first | (rw [if_pos (by decide +kernel)]; kernel_rfl) | (rw [if_neg (by decide +kernel)]; exact ⟨rfl, rfl⟩))
    (fun os started H enc _ => lifted os started H enc)

/-- ████ THE STATEMENT ████ -/
theorem proved : Rows.SlotsExamplesSaid :=
  over
#print axioms proved
end Go.Proofs.Ytmmlgnoicecgfaa.slotsExamples
