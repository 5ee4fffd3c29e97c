/-
  PROVED: the statement 'DiskExamplesSaid': for every input the law DiskExamples returns true, and each argument reads afterwards as it read before. No condition.
-/
import Derived.Test.YtoclgneokfbobaaRn
import Derived.Test.YtoclgneokfbobaaDm
import Derived.Test.YtoclgneokfbobaaRows
import Derived.WalkKit
import Derived.Deep.RegionHeld3
import Derived.BigQuiet
import Derived.ProofKit
import Derived.OpenShut
import Derived.ShutString
namespace Go.Proofs.Ytoclgneokfbobaa.diskExamples
open Go.ChangeShapes Go.WideShapes Go.ChangeAt Go.RowKit
open Go.Proofs.Ytoclgneokfbobaa.Mem Go.Proofs.Ytoclgneokfbobaa.Fz Go.Proofs.Ytoclgneokfbobaa.Dz
set_option linter.unusedVariables false

theorem own : ownKnob Try.prog.godebug = none := by kernel_rfl
theorem laidOut : laidOutB Try.prog = true := by kernel_rfl


def ca : ByteArray := many 97
def cb : ByteArray := many 98
def e3 : Ds := (((fresh 2 .idle).wrote 0 ca).wrote 1 cb).wrote 0 cb
def c1 : Ch := ⟨1, -1, 0⟩
def c2 : Ch := ⟨1, 2, 3⟩
def c3 : Ch := ⟨0, 1, -1⟩
def c0 : Ch := ⟨0, 0, 0⟩
theorem ca_size : ca.size = 80 := many_size 97
theorem cb_size : cb.size = 80 := many_size 98
theorem ok1 : c1.ok := ⟨by decide, by decide, by decide, by decide, by decide⟩
theorem ok2 : c2.ok := ⟨by decide, by decide, by decide, by decide, by decide⟩
theorem ok3 : c3.ok := ⟨by decide, by decide, by decide, by decide, by decide⟩
theorem ok0 : c0.ok := ⟨by decide, by decide, by decide, by decide, by decide⟩
def xp : Ds := e3.settled c1.left
def xq : Ds := e3.settled c2.left
def xr : Ds := e3.settled c3.left
def e4 : Ds := e3.settled fun _ => 80
def e5 : Ds := { e4 with fu := .armed 0 }
def e6 : Ds := { e4 with fu := .blown }
def e7 : Ds := { e6 with full := true }
theorem xp0 : xp.dur 0 = ca := by
  have h : xp.dur 0 = mix (c1.left 2) cb (mix (c1.left 0) ca Z) := rfl
  rw [h, show c1.left 2 = 0 by decide, mix_none, show c1.left 0 = 80 by decide, mix_all ca_size Z_size]
theorem xp1 : xp.dur 1 = Z := by
  have h : xp.dur 1 = mix (c1.left 1) cb Z := rfl
  rw [h, show c1.left 1 = 0 by decide, mix_none]
theorem xq0 : xq.dur 0 = mix 3 cb ca := by
  have h : xq.dur 0 = mix (c2.left 2) cb (mix (c2.left 0) ca Z) := rfl
  rw [h, show c2.left 2 = 3 by decide, show c2.left 0 = 80 by decide, mix_all ca_size Z_size]
theorem xr1 : xr.dur 1 = mix 79 cb Z := by
  have h : xr.dur 1 = mix (c3.left 1) cb Z := rfl
  rw [h, show c3.left 1 = 79 by decide]
theorem e40 : e4.dur 0 = cb := by
  have h : e4.dur 0 = mix 80 cb (mix 80 ca Z) := rfl
  rw [h, mix_all ca_size Z_size, mix_all cb_size ca_size]
theorem e4c : e4.settled c0.left = e4 := settled_settled e3 (fun _ => 80) c0.left
theorem bbb : (⟨#[98, 98, 98]⟩ : ByteArray) ++ ca.extract 3 ca.size = mix 3 cb ca := by
  have h : cb.extract 0 3 = ⟨#[98, 98, 98]⟩ := by decide
  unfold mix
  rw [h]
theorem bz : cb.extract 0 79 ++ (⟨#[0]⟩ : ByteArray) = mix 79 cb Z := by
  have h : Z.extract 79 Z.size = ⟨#[0]⟩ := by decide
  unfold mix
  rw [h]
set_option maxHeartbeats 8000000 in
set_option maxRecDepth 100000 in
theorem walk (w : World) : Calls Try.prog 4 #[] w fun e w' => e = .returned (.bool true) ∧ Kept w w' := by
  have h0 := Own.nil w
  have hw1 : ∀ {A B : As} {F D : Nat} {W : World}, Own w [A, B, dk F D (fresh 2 .idle)] W → Calls Try.prog 15 #[.pointer (some ⟨D, 0, none⟩), .int .i64 0, .string ca] W fun e w' => e = .returned (.int .i64 0) ∧ Own w [A, B, dk F D ((fresh 2 .idle).wrote 0 ca)] w' := fun h => o_w2 h rfl (by decide) (k := 0) (by decide) (many_size 97)
  have hw2 : ∀ {A B : As} {F D : Nat} {W : World}, Own w [A, B, dk F D ((fresh 2 .idle).wrote 0 ca)] W → Calls Try.prog 15 #[.pointer (some ⟨D, 0, none⟩), .int .i64 1, .string cb] W fun e w' => e = .returned (.int .i64 0) ∧ Own w [A, B, dk F D (((fresh 2 .idle).wrote 0 ca).wrote 1 cb)] w' := fun h => o_w2 h rfl (by decide) (k := 1) (by decide) (many_size 98)
  have hw3 : ∀ {A B : As} {F D : Nat} {W : World}, Own w [A, B, dk F D (((fresh 2 .idle).wrote 0 ca).wrote 1 cb)] W → Calls Try.prog 15 #[.pointer (some ⟨D, 0, none⟩), .int .i64 0, .string cb] W fun e w' => e = .returned (.int .i64 0) ∧ Own w [A, B, dk F D e3] w' := fun h => o_w2 h rfl (by decide) (k := 0) (by decide) (many_size 98)
  have hd0 : ∀ {A B : As} {F D : Nat} {W : World}, Own w [A, B, dk F D e3] W → Calls Try.prog 18 #[.pointer (some ⟨D, 0, none⟩), .int .i64 0] W fun e w' => e = .returned (.string Z) ∧ Own w [A, B, dk F D e3] w' := fun h => o_d2 h (k := 0) (by decide)
  have hr0 : ∀ {A B : As} {F D : Nat} {W : World}, Own w [A, B, dk F D e3] W → Calls Try.prog 19 #[.pointer (some ⟨D, 0, none⟩), .int .i64 0] W fun e w' => e = .returned (.tuple #[.string cb, .int .i64 0]) ∧ Own w [A, B, dk F D e3] w' := fun h => o_r2 h rfl (k := 0) (by decide)
  have hcp : ∀ {A0 A1 A2 A3 A4 : As} {F D : Nat} {W : World}, Own w [A0, A1, dk F D e3, A2, A3, A4] W → Calls Try.prog 22 #[.pointer (some ⟨D, 0, none⟩), .agg #[.int .u64 1, .int .i64 (-1), .int .i64 0]] W fun e w' => e = .returned (.tuple #[]) ∧ Own w [A0, A1, dk F D xp, A2, A3, A4] w' := fun h => o_c2 h ok1
  have hcq : ∀ {A0 A1 A2 A3 A4 : As} {F D : Nat} {W : World}, Own w [A0, dk F D e3, A1, A2, A3, A4] W → Calls Try.prog 22 #[.pointer (some ⟨D, 0, none⟩), .agg #[.int .u64 1, .int .i64 2, .int .i64 3]] W fun e w' => e = .returned (.tuple #[]) ∧ Own w [A0, dk F D xq, A1, A2, A3, A4] w' := fun h => o_c1 h ok2
  have hcr : ∀ {A0 A1 A2 A3 A4 : As} {F D : Nat} {W : World}, Own w [dk F D e3, A0, A1, A2, A3, A4] W → Calls Try.prog 22 #[.pointer (some ⟨D, 0, none⟩), .agg #[.int .u64 0, .int .i64 1, .int .i64 (-1)]] W fun e w' => e = .returned (.tuple #[]) ∧ Own w [dk F D xr, A0, A1, A2, A3, A4] w' := fun h => o_c0 h ok3
  have hdp0 : ∀ {A0 A1 A2 A3 A4 : As} {F D : Nat} {W : World}, Own w [A0, A1, dk F D xp, A2, A3, A4] W → Calls Try.prog 18 #[.pointer (some ⟨D, 0, none⟩), .int .i64 0] W fun e w' => e = .returned (.string ca) ∧ Own w [A0, A1, dk F D xp, A2, A3, A4] w' := fun h => by
    have q := o_d2 h (k := 0) (by decide)
    rw [xp0] at q
    exact q
  have hdp1 : ∀ {A0 A1 A2 A3 A4 : As} {F D : Nat} {W : World}, Own w [A0, A1, dk F D xp, A2, A3, A4] W → Calls Try.prog 18 #[.pointer (some ⟨D, 0, none⟩), .int .i64 1] W fun e w' => e = .returned (.string Z) ∧ Own w [A0, A1, dk F D xp, A2, A3, A4] w' := fun h => by
    have q := o_d2 h (k := 1) (by decide)
    rw [xp1] at q
    exact q
  have hdq0 : ∀ {A0 A1 A2 A3 A4 : As} {F D : Nat} {W : World}, Own w [A0, dk F D xq, A1, A2, A3, A4] W → Calls Try.prog 18 #[.pointer (some ⟨D, 0, none⟩), .int .i64 0] W fun e w' => e = .returned (.string (mix 3 cb ca)) ∧ Own w [A0, dk F D xq, A1, A2, A3, A4] w' := fun h => by
    have q := o_d1 h (k := 0) (by decide)
    rw [xq0] at q
    exact q
  have hdr1 : ∀ {A0 A1 A2 A3 A4 : As} {F D : Nat} {W : World}, Own w [dk F D xr, A0, A1, A2, A3, A4] W → Calls Try.prog 18 #[.pointer (some ⟨D, 0, none⟩), .int .i64 1] W fun e w' => e = .returned (.string (mix 79 cb Z)) ∧ Own w [dk F D xr, A0, A1, A2, A3, A4] w' := fun h => by
    have q := o_d0 h (k := 1) (by decide)
    rw [xr1] at q
    exact q
  have hpq : ∀ {A0 A1 A2 A3 A4 : As} {F D : Nat} {W : World}, Own w [A0, dk F D xq, A1, A2, A3, A4] W → Calls Try.prog 17 #[.pointer (some ⟨D, 0, none⟩)] W fun e w' => ∃ ao cap, e = .returned (.slice ao 0 cap) ∧ Own w [A0, dk F D xq, A1, A2, A3, A4] w' := fun h => (o_pending h 1 rfl (by decide)).mono fun e w' ⟨⟨ao, cap, he, _⟩, hk⟩ => ⟨ao, cap, he, hk⟩
  have hpd : ∀ {A0 A1 A2 A3 A4 : As} {F D : Nat} {W : World}, Own w [A0, A1, A2, A3, A4, dk F D e4] W → Calls Try.prog 17 #[.pointer (some ⟨D, 0, none⟩)] W fun e w' => ∃ ao cap, e = .returned (.slice ao 0 cap) ∧ Own w [A0, A1, A2, A3, A4, dk F D e4] w' := fun h => (o_pending h 5 rfl (by decide)).mono fun e w' ⟨⟨ao, cap, he, _⟩, hk⟩ => ⟨ao, cap, he, hk⟩
  have hpe : ∀ {A B : As} {F D : Nat} {W : World}, Own w [A, B, dk F D e3] W → Calls Try.prog 17 #[.pointer (some ⟨D, 0, none⟩)] W fun e w' => ∃ ao cap, e = .returned (.slice ao 3 cap) ∧ Ints W.heap.size ao [0, 1, 0] w' ∧ Own w [A, B, dk F D e3] w' := fun h => (o_pending h 2 rfl (by decide)).mono fun e w' ⟨⟨ao, cap, he, hi⟩, hk⟩ => ⟨ao, cap, he, hi, hk⟩
  have heq : ∀ (ao : Option Addr) (cap : Nat) (U u : World), Ints U.heap.size ao [0, 1, 0] u → Calls Try.prog 16 #[.slice ao 3 cap, .slice (some ⟨u.heap.size, 0, none⟩) 3 3] (u.alloc (.cells #[.int .i64 0, .int .i64 1, .int .i64 0] 3)) fun e w' => e = .returned (.bool true) ∧ Kept (u.alloc (.cells #[.int .i64 0, .int .i64 1, .int .i64 0] 3)) w' := fun ao cap U u hi =>
    equalints_c ao _ [0, 1, 0] 3 cap 3 rfl (by decide) _ (fun k hk => by
      obtain ⟨g, h1, _, _, h4⟩ := (hi.kept ((Kept.refl u).alloc _)).cell k hk
      exact ⟨g, h1, h4⟩) (fun k hk => ⟨u.heap.size, rfl, by
        have hb := heap_alloc_new u (.cells #[.int .i64 0, .int .i64 1, .int .i64 0] 3 (0, 0))
        rw [cell_of_row _ _ _ _ _ _ hb]
        match k, hk with
        | 0, _ => rfl
        | 1, _ => rfl
        | 2, _ => rfl⟩)
  have hfn : ∀ {L : List As} {W : World}, Own w L W → Calls Try.prog 21 #[] W fun e w' => ∃ F, e = .returned (.pointer (some ⟨F, 0, none⟩)) ∧ Own w (fzA F .idle :: L) w' := fun h => (o_fnew h).mono fun e w' ⟨F, he, hk⟩ => ⟨F, he, hk.front⟩
  have hfx : ∀ W, Calls Try.prog 21 #[] W fun e w' => ∃ F, e = .returned (.pointer (some ⟨F, 0, none⟩)) ∧ Kept W w' := fun W => (Fz.new_c W).mono fun e w' ⟨he, hk, _⟩ => ⟨_, he, hk⟩
  have hcA : ∀ {A B : As} {F D F2 : Nat} {W : World}, Own w [fzA F2 .idle, A, B, dk F D e3] W → Calls Try.prog 20 #[.pointer (some ⟨D, 0, none⟩), .pointer (some ⟨F2, 0, none⟩)] W fun e w' => ∃ E, e = .returned (.pointer (some ⟨E, 0, none⟩)) ∧ Own w [dk F2 E e3, A, B, dk F D e3] w' := fun h => o_copy h 3 0 rfl rfl (by decide)
  have hcB : ∀ {A B C : As} {F D F2 : Nat} {W : World}, Own w [fzA F2 .idle, A, B, C, dk F D e3] W → Calls Try.prog 20 #[.pointer (some ⟨D, 0, none⟩), .pointer (some ⟨F2, 0, none⟩)] W fun e w' => ∃ E, e = .returned (.pointer (some ⟨E, 0, none⟩)) ∧ Own w [dk F2 E e3, A, B, C, dk F D e3] w' := fun h => o_copy h 4 0 rfl rfl (by decide)
  have hcC : ∀ {A B C E0 : As} {F D F2 : Nat} {W : World}, Own w [fzA F2 .idle, A, B, C, E0, dk F D e3] W → Calls Try.prog 20 #[.pointer (some ⟨D, 0, none⟩), .pointer (some ⟨F2, 0, none⟩)] W fun e w' => ∃ E, e = .returned (.pointer (some ⟨E, 0, none⟩)) ∧ Own w [dk F2 E e3, A, B, C, E0, dk F D e3] w' := fun h => o_copy h 5 0 rfl rfl (by decide)
  have hma : ∀ W, Calls Try.prog 13 #[.int .u8 97, .int .i64 80] W fun e w' => e = .returned (.string ca) ∧ Kept W w' := many_c 97 (by decide)
  have hmb : ∀ W, Calls Try.prog 13 #[.int .u8 98, .int .i64 80] W fun e w' => e = .returned (.string cb) ∧ Kept W w' := many_c 98 (by decide)
  have hze : ∀ W, Calls Try.prog 14 #[] W fun e w' => e = .returned (.string Z) ∧ Kept W w' := rzeros_c
  have hbn : ∀ {L : List As} {W : World}, Own w L W → Calls Try.prog 10 #[.int .i64 2] W fun e w' => ∃ X F D G R, e = .returned (.pointer (some ⟨X, 0, none⟩)) ∧ Own w (boxA X #[.pointer (some ⟨F, 0, none⟩), .pointer (some ⟨D, 0, none⟩), .pointer (some ⟨G, 0, none⟩), .pointer (some ⟨R, 0, none⟩)] 40 :: rk G R (fresh 2 .idle) :: dk F D (fresh 2 .idle) :: L) w' := fun h => bnew_c h 2 (by decide) (by decide)
  have hn0 : ∀ p W, Calls Try.prog 24 #[.int .i64 0, .pointer p] W fun e w' => e = .returned (.tuple #[.pointer none, .int .i64 3]) ∧ Kept W w' := fun p W => (new_range 0 p (by decide) W).mono fun e w' ⟨he, hw⟩ => ⟨he, hw ▸ Kept.refl _⟩
  have hn1 : ∀ W, Calls Try.prog 24 #[.int .i64 1, .pointer none] W fun e w' => e = .returned (.tuple #[.pointer none, .int .i64 1]) ∧ Kept W w' := fun W => (new_nil 1 (by decide) (by decide) W).mono fun e w' ⟨he, hw⟩ => ⟨he, hw ▸ Kept.refl _⟩
  have hn2 : ∀ W, Calls Try.prog 24 #[.int .i64 65537, .pointer none] W fun e w' => e = .returned (.tuple #[.pointer none, .int .i64 3]) ∧ Kept W w' := fun W => (new_range 65537 none (by decide) W).mono fun e w' ⟨he, hw⟩ => ⟨he, hw ▸ Kept.refl _⟩
  have hcz : ∀ W, Calls Try.prog 22 #[.pointer none, .agg #[.int .u64 0, .int .i64 0, .int .i64 0]] W fun e w' => e = .returned (.tuple #[]) ∧ Kept W w' := crash_nil c0
  have hsy : ∀ {A0 A1 A2 A3 A4 : As} {F D : Nat} {W : World}, Own w [A0, A1, A2, A3, A4, dk F D e3] W → Calls Try.prog 23 #[.pointer (some ⟨D, 0, none⟩)] W fun e w' => e = .returned (.int .i64 0) ∧ Own w [A0, A1, A2, A3, A4, dk F D e4] w' := fun h => o_s5 h rfl
  have hc0 : ∀ {A0 A1 A2 A3 A4 : As} {F D : Nat} {W : World}, Own w [A0, A1, A2, A3, A4, dk F D e4] W → Calls Try.prog 22 #[.pointer (some ⟨D, 0, none⟩), .agg #[.int .u64 0, .int .i64 0, .int .i64 0]] W fun e w' => e = .returned (.tuple #[]) ∧ Own w [A0, A1, A2, A3, A4, dk F D e4] w' := fun h => by
    have q := o_c5 h ok0
    rw [e4c] at q
    exact q
  have hrm : ∀ {A0 A1 A2 A3 A4 : As} {F D : Nat} {W : World}, Own w [A0, A1, A2, A3, A4, dk F D e4] W → Calls Try.prog 19 #[.pointer (some ⟨D, 0, none⟩), .int .i64 (-1)] W fun e w' => e = .returned (.tuple #[.string ⟨#[]⟩, .int .i64 3]) ∧ Own w [A0, A1, A2, A3, A4, dk F D e4] w' := fun h => o_read h 5 rfl (-1)
  have hd5 : ∀ {A0 A1 A2 A3 A4 : As} {F D : Nat} {W : World}, Own w [A0, A1, A2, A3, A4, dk F D e4] W → Calls Try.prog 18 #[.pointer (some ⟨D, 0, none⟩), .int .i64 0] W fun e w' => e = .returned (.string cb) ∧ Own w [A0, A1, A2, A3, A4, dk F D e4] w' := fun h => by
    have q := o_d5 h (k := 0) (by decide)
    rw [e40] at q
    exact q
  have hwo : ∀ {A0 A1 A2 A3 A4 : As} {F D : Nat} {W : World}, Own w [A0, A1, A2, A3, A4, dk F D e4] W → Calls Try.prog 15 #[.pointer (some ⟨D, 0, none⟩), .int .i64 2, .string ca] W fun e w' => e = .returned (.int .i64 3) ∧ Own w [A0, A1, A2, A3, A4, dk F D e4] w' := fun h => o_write h 5 rfl (by decide) 2 ca
  have hwx : ∀ {A0 A1 A2 A3 A4 : As} {F D : Nat} {W : World}, Own w [A0, A1, A2, A3, A4, dk F D e4] W → Calls Try.prog 15 #[.pointer (some ⟨D, 0, none⟩), .int .i64 0, .string ⟨#[120]⟩] W fun e w' => e = .returned (.int .i64 2) ∧ Own w [A0, A1, A2, A3, A4, dk F D e4] w' := fun h => o_write h 5 rfl (by decide) 0 ⟨#[120]⟩
  have har : ∀ {A0 A1 A2 A3 A4 : As} {F D : Nat} {W : World}, Own w [A0, A1, A2, A3, A4, dk F D e4] W → Calls Try.prog 25 #[.pointer (some ⟨F, 0, none⟩), .int .i64 0] W fun e w' => e = .returned (.int .i64 0) ∧ Own w [A0, A1, A2, A3, A4, dk F D e5] w' := fun h => o_fuse h 5 rfl (f := .armed 0) (by show (0 : Nat) < 9223372036854775808; decide) fun hf _ => arm_c _ .idle 0 _ hf
  have hwd : ∀ {A0 A1 A2 A3 A4 : As} {F D : Nat} {W : World}, Own w [A0, A1, A2, A3, A4, dk F D e5] W → Calls Try.prog 15 #[.pointer (some ⟨D, 0, none⟩), .int .i64 0, .string ca] W fun e w' => e = .returned (.int .i64 10) ∧ Own w [A0, A1, A2, A3, A4, dk F D e6] w' := fun h => by
    have q := o_write h 5 rfl (by decide) 0 ca
    have e : e5.writes 0 ca = (10, e6) := by
      have h1 : e5.out 0 = false := by decide
      have h2 : e5.fu.says = 10 := rfl
      have h3 : e5.burnt = e6 := rfl
      simp [Ds.writes, h1, h2, h3, ca, many_size]
    rw [e] at q
    exact q
  have hsd : ∀ {A0 A1 A2 A3 A4 : As} {F D : Nat} {W : World}, Own w [A0, A1, A2, A3, A4, dk F D e6] W → Calls Try.prog 23 #[.pointer (some ⟨D, 0, none⟩)] W fun e w' => e = .returned (.int .i64 10) ∧ Own w [A0, A1, A2, A3, A4, dk F D e6] w' := fun h => by
    have q := o_sync h 5 rfl
    have e : e6.syncs = (10, e6) := rfl
    rw [e] at q
    exact q
  have hw9 : ∀ {A0 A1 A2 A3 A4 : As} {F D : Nat} {W : World}, Own w [A0, A1, A2, A3, A4, dk F D e6] W → Calls Try.prog 15 #[.pointer (some ⟨D, 0, none⟩), .int .i64 9, .string ca] W fun e w' => e = .returned (.int .i64 3) ∧ Own w [A0, A1, A2, A3, A4, dk F D e6] w' := fun h => o_write h 5 rfl (by decide) 9 ca
  have hrd : ∀ {A0 A1 A2 A3 A4 : As} {F D : Nat} {W : World}, Own w [A0, A1, A2, A3, A4, dk F D e6] W → Calls Try.prog 19 #[.pointer (some ⟨D, 0, none⟩), .int .i64 0] W fun e w' => e = .returned (.tuple #[.string ⟨#[]⟩, .int .i64 10]) ∧ Own w [A0, A1, A2, A3, A4, dk F D e6] w' := fun h => o_read h 5 rfl 0
  have hsf : ∀ {A0 A1 A2 A3 A4 : As} {F D : Nat} {W : World}, Own w [A0, A1, A2, A3, A4, dk F D e6] W → Calls Try.prog 26 #[.pointer (some ⟨D, 0, none⟩), .bool true] W fun e w' => e = .returned (.tuple #[]) ∧ Own w [A0, A1, A2, A3, A4, dk F D e7] w' := fun h => o_setfull h 5 rfl true
  have hfu : ∀ {A0 A1 A2 A3 A4 : As} {F D : Nat} {W : World}, Own w [A0, A1, A2, A3, A4, dk F D e7] W → Calls Try.prog 27 #[.pointer (some ⟨D, 0, none⟩)] W fun e w' => e = .returned (.bool true) ∧ Own w [A0, A1, A2, A3, A4, dk F D e7] w' := fun h => o_full h 5 rfl
  have hd7 : ∀ {A0 A1 A2 A3 A4 : As} {F D : Nat} {W : World}, Own w [A0, A1, A2, A3, A4, dk F D e7] W → Calls Try.prog 18 #[.pointer (some ⟨D, 0, none⟩), .int .i64 0] W fun e w' => e = .returned (.string cb) ∧ Own w [A0, A1, A2, A3, A4, dk F D e7] w' := fun h => by
    have q := o_d5 h (k := 0) (by decide)
    have e : e7.dur 0 = cb := e40
    rw [e] at q
    exact q
  have hse : ∀ {A0 A1 A2 A3 A4 : As} {F D : Nat} {W : World}, Own w [A0, A1, A2, A3, A4, dk F D e7] W → Calls Try.prog 28 #[.pointer (some ⟨D, 0, none⟩)] W fun e w' => e = .returned (.int .i64 2) ∧ Own w [A0, A1, A2, A3, A4, dk F D e7] w' := fun h => o_sectors h 5 rfl
  have hsl : ∀ W, (Instr.slice 9 (.string ca) (some (.int .i64 3)) none none).run Try.prog W = .ok (.string (ca.extract 3 ca.size)) W := slice_l ca 3 (by decide)
  have hsh : ∀ W, (Instr.slice 9 (.string cb) none (some (.int .i64 79)) none).run Try.prog W = .ok (.string (cb.extract 0 79)) W := slice_h cb 79 (by decide)
  have had1 : ∀ W, (Op.stringOp .add ⟨#[98, 98, 98]⟩ (ca.extract 3 ca.size)).run Try.prog W = .ok (.string (mix 3 cb ca)) W := fun W => by rw [← bbb]; exact run_string_add_sum W _ _ (by decide)
  have had2 : ∀ W, (Op.stringOp .add (cb.extract 0 79) ⟨#[0]⟩).run Try.prog W = .ok (.string (mix 79 cb Z)) W := fun W => by rw [← bz]; exact run_string_add_sum W _ _ (by decide)
  obtain ⟨p3, hp3⟩ : ∃ p, p = ca.extract 3 ca.size := ⟨_, rfl⟩
  obtain ⟨p79, hp79⟩ : ∃ p, p = cb.extract 0 79 := ⟨_, rfl⟩
  obtain ⟨mq, hmq⟩ : ∃ p, p = mix 3 cb ca := ⟨_, rfl⟩
  obtain ⟨mr, hmr⟩ : ∃ p, p = mix 79 cb Z := ⟨_, rfl⟩
  rw [← hp3] at hsl had1
  rw [← hp79] at hsh had2
  rw [← hmq] at had1 hdq0
  rw [← hmr] at had2 hdr1
  clear hp3 hp79 hmq hmr
  go_enter Try.func4, Try.ntmps4
  go_wp2_with (first
    | (go_at_call 10; (with_reducible refine (hbn h0).mono ?_); rintro e u1 ⟨X, F, D, G, R, rfl, k1⟩)
    | (go_at_call 13; (with_reducible refine (hma _).mono ?_); rintro e u2 ⟨rfl, q⟩; have k2 := Own.later k1 q; clear q)
    | (go_at_call 13; (with_reducible refine (hmb _).mono ?_); rintro e u3 ⟨rfl, q⟩; have k3 := Own.later k2 q; clear q)
    | (go_at_call 14; (with_reducible refine (hze _).mono ?_); rintro e u4 ⟨rfl, q⟩; have k4 := Own.later k3 q; clear q; obtain ⟨b0, b1, b2, b3, bf⟩ := box4 (Own.boxed k4 0 rfl))
    | (go_at_call 15; (with_reducible refine (hw1 k4).mono ?_); rintro e u5 ⟨rfl, k5⟩)
    | (go_at_call 15; (with_reducible refine (hw2 k5).mono ?_); rintro e u6 ⟨rfl, k6⟩)
    | (go_at_call 15; (with_reducible refine (hw3 k6).mono ?_); rintro e u7 ⟨rfl, k7⟩)
    | (go_at_call 17; (with_reducible refine (hpe k7).mono ?_); rintro e u8 ⟨a8, c8, rfl, i8, k8⟩)
    | (go_at_call 16; (with_reducible refine (heq _ _ _ _ i8).mono ?_); rintro e u9 ⟨rfl, q⟩; have k9 := (Own.later k8 ((Kept.refl _).alloc _)).later q; clear q)
    | (go_at_call 18; (with_reducible refine (hd0 k9).mono ?_); rintro e u10 ⟨rfl, k10⟩)
    | (go_at_call 19; (with_reducible refine (hr0 k10).mono ?_); rintro e u11 ⟨rfl, k11⟩)
    | (go_at_call 21; (with_reducible refine (hfn k11).mono ?_); rintro e u12 ⟨F1, rfl, k12⟩)
    | (go_at_call 20; (with_reducible refine (hcA k12).mono ?_); rintro e u13 ⟨P1, rfl, k13⟩)
    | (go_at_call 21; (with_reducible refine (hfn k13).mono ?_); rintro e u14 ⟨F2, rfl, k14⟩)
    | (go_at_call 20; (with_reducible refine (hcB k14).mono ?_); rintro e u15 ⟨P2, rfl, k15⟩)
    | (go_at_call 21; (with_reducible refine (hfn k15).mono ?_); rintro e u16 ⟨F3, rfl, k16⟩)
    | (go_at_call 20; (with_reducible refine (hcC k16).mono ?_); rintro e u17 ⟨P3, rfl, k17⟩)
    | (go_at_call 22; (with_reducible refine (hcp k17).mono ?_); rintro e u18 ⟨rfl, k18⟩)
    | (go_at_call 22; (with_reducible refine (hcq k18).mono ?_); rintro e u19 ⟨rfl, k19⟩)
    | (go_at_call 22; (with_reducible refine (hcr k19).mono ?_); rintro e u20 ⟨rfl, k20⟩))
  have k20d := k20.drew
  go_region_held3 (fun _ => True) (first | trivial)
    (first
      | (go_at_call 18; (with_reducible refine (hdp0 k20d).mono ?_); rintro e u21 ⟨rfl, k21⟩)
      | (go_at_call 18; (with_reducible refine (hdp1 k21).mono ?_); rintro e u22 ⟨rfl, k22⟩)
      | (go_at_call 18; (with_reducible refine (hdq0 k22).mono ?_); rintro e u23 ⟨rfl, k23⟩)
      | (go_at_call 18; (with_reducible refine (hdr1 k23).mono ?_); rintro e u24 ⟨rfl, k24⟩)
      | (go_at_call 17; (with_reducible refine (hpq k24).mono ?_); rintro e u25 ⟨a25, c25, rfl, k25⟩))
  go_wp2_with (first
    | (go_at_call 23; (with_reducible refine (hsy k25).mono ?_); rintro e u26 ⟨rfl, k26⟩)
    | (go_at_call 17; (with_reducible refine (hpd k26).mono ?_); rintro e u27 ⟨a27, c27, rfl, k27⟩)
    | (go_at_call 22; (with_reducible refine (hc0 k27).mono ?_); rintro e u28 ⟨rfl, k28⟩)
    | (go_at_call 19; (with_reducible refine (hrm k28).mono ?_); rintro e u29 ⟨rfl, k29⟩)
    | (go_at_call 21; (with_reducible refine (hfx u29).mono ?_); rintro e u30 ⟨FX, rfl, q⟩; have k30 := Own.later k29 q; clear q)
    | (go_at_call 24; (with_reducible refine (hn0 _ u30).mono ?_); rintro e u31 ⟨rfl, q⟩; have k31 := Own.later k30 q; clear q)
    | (go_at_call 24; (with_reducible refine (hn1 u31).mono ?_); rintro e u32 ⟨rfl, q⟩; have k32 := Own.later k31 q; clear q)
    | (go_at_call 24; (with_reducible refine (hn2 u32).mono ?_); rintro e u33 ⟨rfl, q⟩; have k33 := Own.later k32 q; clear q)
    | (go_at_call 18; (with_reducible refine (hd5 k33).mono ?_); rintro e u34 ⟨rfl, k34⟩)
    | (go_at_call 15; (with_reducible refine (hwo k34).mono ?_); rintro e u35 ⟨rfl, k35⟩)
    | (go_at_call 15; (with_reducible refine (hwx k35).mono ?_); rintro e u36 ⟨rfl, k36⟩; obtain ⟨x0, x1, x2, x3, xf⟩ := box4 (Own.boxed k36 3 rfl))
    | (go_at_call 25; (with_reducible refine (har k36).mono ?_); rintro e u37 ⟨rfl, k37⟩)
    | (go_at_call 15; (with_reducible refine (hwd k37).mono ?_); rintro e u38 ⟨rfl, k38⟩)
    | (go_at_call 23; (with_reducible refine (hsd k38).mono ?_); rintro e u39 ⟨rfl, k39⟩)
    | (go_at_call 15; (with_reducible refine (hw9 k39).mono ?_); rintro e u40 ⟨rfl, k40⟩)
    | (go_at_call 19; (with_reducible refine (hrd k40).mono ?_); rintro e u41 ⟨rfl, k41⟩)
    | (go_at_call 26; (with_reducible refine (hsf k41).mono ?_); rintro e u42 ⟨rfl, k42⟩)
    | (go_at_call 22; (with_reducible refine (hcz u42).mono ?_); rintro e u43 ⟨rfl, q⟩; have k43 := Own.later k42 q; clear q)
    | (go_at_call 26; (with_reducible refine (setfull_nil true u43).mono ?_); rintro e u44 ⟨rfl, q⟩; have k44 := Own.later k43 q; clear q)
    | (go_at_call 19; (with_reducible refine (read_nil 0 u44).mono ?_); rintro e u45 ⟨rfl, q⟩; have k45 := Own.later k44 q; clear q)
    | (go_at_call 27; (with_reducible refine (hfu k45).mono ?_); rintro e u46 ⟨rfl, k46⟩)
    | (go_at_call 18; (with_reducible refine (hd7 k46).mono ?_); rintro e u47 ⟨rfl, k47⟩)
    | (go_at_call 15; (with_reducible refine (write_nil 0 ca u47).mono ?_); rintro e u48 ⟨rfl, q⟩; have k48 := Own.later k47 q; clear q)
    | (go_at_call 23; (with_reducible refine (sync_nil u48).mono ?_); rintro e u49 ⟨rfl, q⟩; have k49 := Own.later k48 q; clear q)
    | (go_at_call 18; (with_reducible refine (durable_nil 0 u49).mono ?_); rintro e u50 ⟨rfl, q⟩; have k50 := Own.later k49 q; clear q)
    | (go_at_call 28; (with_reducible refine (sectors_nil u50).mono ?_); rintro e u51 ⟨rfl, q⟩; have k51 := Own.later k50 q; clear q)
    | (go_at_call 17; (with_reducible refine (pending_nil u51).mono ?_); rintro e u52 ⟨rfl, q⟩; have k52 := Own.later k51 q; clear q)
    | (go_at_call 27; (with_reducible refine (full_nil u52).mono ?_); rintro e u53 ⟨rfl, q⟩; have k53 := Own.later k52 q; clear q)
    | (go_at_call 21; (with_reducible refine (hfx u53).mono ?_); rintro e u54 ⟨FY, rfl, q⟩; have k54 := Own.later k53 q; clear q)
    | (go_at_call 20; (with_reducible refine (copy_nil _ u54).mono ?_); rintro e u55 ⟨rfl, q⟩; have k55 := Own.later k54 q; clear q)
    | (go_at_call 20; (with_reducible refine (copy_none _ u55).mono ?_); rintro e u56 ⟨rfl, q⟩; have k56 := Own.later k55 q; clear q)
    | (go_at_call 28; (with_reducible refine (hse k56).mono ?_); rintro e u57 ⟨rfl, k57⟩))
  go_ret
  exact ⟨rfl, k57.kept⟩

set_option maxRecDepth 100000 in
theorem lifted (os : Os) (started : os.Started) (H : Type) (enc : TypeId × Value → H) :
    ReturnsInHanded {} Try.checked os 4 .any (Rows.diskExamplesSpec.pre6 enc Try.prog Try.f4 Rows.diskExamplesRow.domain false) (Rows.diskExamplesSpec.post enc Try.prog Try.f4 false true false false) := by
  refine returnsInHanded_of_change (C := Try.checked) own started (by kernel_rfl) Try.func4
    (ChangeSpec.witness6 (enc := enc) (C := Try.checked) false ⟨#[], #[], []⟩ 8 (by kernel_rfl) (by kernel_rfl) (by kernel_rfl) (by kernel_rfl)) ?_
  intro W base args ds gs before hval0 hW hcnd _
  have hval : ∀ (j : Nat) t v, Try.f4.params[j]? = some t → args[j]? = some v → Value.okWide Try.prog W .any base t v := hval0
  have hW' := hW
  obtain ⟨p, q, hA0, hV, rfl, hfz, hnd⟩ := hW
  have hA : DataW.TrodAll enc Try.prog W 0 (fun _ => true) true Try.f4.params.toList args.toList ds p := hA0
  rw [Try.params4] at hA hval
  obtain ⟨hnil, rfl, rfl⟩ := trodAll_nil hA
  obtain rfl : args = #[] := by cases args; simp_all
  obtain ⟨rfl, rfl⟩ := trodVars_none hV
  clear hA0 hval0
  simp only [List.append_nil] at hW'
  have hwalk := walk W 
  rw [] at hwalk
  refine hwalk.mono fun e W' ⟨he, hg⟩ => ?_
  subst he
  exact ⟨_, rfl, _, _, _, [], _, [], hW', (trodAll_cons_mk (shut_bool Try.underlying4 _) trodAll_mk0), trodAll_mk0, rfl, Below.frame hg _, fun h => by cases h⟩

theorem over : Rows.diskExamplesRow.holds Try.pinned (OpenSpec.ofChange Rows.diskExamplesSpec) :=
  OpenClaim.holds_of_wide 4 Try.f4 rfl rfl rfl rfl rfl rfl rfl ⟨rfl, rfl, rfl, rfl, rfl⟩ rfl rfl rfl rfl rfl (by kernel_rfl) Try.func4 (by kernel_rfl)
    (of_decide_eq_true (by kernel_rfl)) (by unfold Func.isWrapper; first | (rw [if_pos (by decide +kernel)]; kernel_rfl) | (rw [if_neg (by decide +kernel)]; exact ⟨rfl, rfl⟩))
    (fun os started H enc _ => lifted os started H enc)

/-- ████ THE STATEMENT ████ -/
theorem proved : Rows.DiskExamplesSaid :=
  over
#print axioms proved
end Go.Proofs.Ytoclgneokfbobaa.diskExamples
