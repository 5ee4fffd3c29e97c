/-
  The calls of package fuse on a fuse of the caller's own ('Own'), and the fixed fuse of layer 3's statements.
-/
import Derived.Test.YtbjheldocmgnkaaFz
namespace Go.Proofs.Ytbjheldocmgnkaa.Fz
open Go.RowKit Go.Proofs.Ytbjheldocmgnkaa.Mem

/-- Since w0 nothing that was there has changed, and block B, which is new, is a fuse in state s. -/
structure Own (w0 : World) (B : Nat) (s : St) (w : World) : Prop where
  kept : Kept w0 w
  le : w0.heap.size ≤ B
  fz : Fz B s w
  ok : s.ok
theorem Own.later {w0 w w' : World} {B : Nat} {s : St} (h : Own w0 B s w) (k : Kept w w') : Own w0 B s w' := ⟨h.kept.trans k, h.le, h.fz.kept k, h.ok⟩
theorem Own.but {w0 w w' : World} {B C : Nat} {s : St} (h : Own w0 B s w) (k : But C w w') (hn : B ≠ C) (hC : w0.heap.size ≤ C) : Own w0 B s w' :=
  ⟨k.kept h.kept hC, h.le, h.fz.but k hn, h.ok⟩
theorem Own.to {w0 w w' : World} {B : Nat} {s s' : St} (h : Own w0 B s w) (k : But B w w') (hf : Fz B s' w') (ho : s'.ok) : Own w0 B s' w' :=
  ⟨k.kept h.kept h.le, h.le, hf, ho⟩
theorem Own.drew {w0 w : World} {B : Nat} {s : St} (h : Own w0 B s w) : Own w0 B s w.drew := ⟨h.kept.drew, h.le, h.fz, h.ok⟩
theorem ok_burnt {s : St} (h : s.ok) : s.burnt.ok := by
  match s with
  | .idle => trivial
  | .armed 0 => trivial
  | .armed (n + 1) => exact Nat.lt_of_succ_lt h
  | .blown => trivial
theorem ok_arm {s : St} (h : s.ok) {k : Int} (hk : k < 9223372036854775808) : (s.arm k).ok := by
  cases s with
  | blown => trivial
  | idle => unfold St.arm; by_cases e : k < 0 <;> simp [e, St.ok]; omega
  | armed n => unfold St.arm; by_cases e : k < 0 <;> simp [e, St.ok]; exact h; omega
theorem new_o (w : World) : Calls Try.prog 8 #[] w fun e w' => e = .returned (.pointer (some ⟨w.heap.size, 0, none⟩)) ∧ Own w w.heap.size .idle w' :=
  (new_c w).mono fun _ _ ⟨he, hk, hf⟩ => ⟨he, hk, Nat.le_refl _, hf, trivial⟩
theorem burn_o {w0 : World} {B : Nat} {s : St} {w : World} (h : Own w0 B s w) :
    Calls Try.prog 9 #[.pointer (some ⟨B, 0, none⟩)] w fun e w' => e = .returned (.int .i64 s.says) ∧ Own w0 B s.burnt w' :=
  (burn_c B s h.ok w h.fz).mono fun _ _ ⟨he, hb, hf⟩ => ⟨he, h.to hb hf (ok_burnt h.ok)⟩
theorem arm_o {w0 : World} {B : Nat} {s : St} {w : World} {k : Int} (h : Own w0 B s w) (hk : k < 9223372036854775808) :
    Calls Try.prog 11 #[.pointer (some ⟨B, 0, none⟩), .int .i64 k] w fun e w' => e = .returned (.int .i64 (s.armSays k)) ∧ Own w0 B (s.arm k) w' :=
  (arm_c B s k w h.fz).mono fun _ _ ⟨he, hb, hf⟩ => ⟨he, h.to hb hf (ok_arm h.ok hk)⟩
theorem reset_o {w0 : World} {B : Nat} {s : St} {w : World} (h : Own w0 B s w) :
    Calls Try.prog 13 #[.pointer (some ⟨B, 0, none⟩)] w fun e w' => e = .returned (.tuple #[]) ∧ Own w0 B .idle w' :=
  (reset_c B s w h.fz).mono fun _ _ ⟨he, hb, hf⟩ => ⟨he, h.to hb hf trivial⟩
theorem blown_o {w0 : World} {B : Nat} {s : St} {w : World} (h : Own w0 B s w) :
    Calls Try.prog 16 #[.pointer (some ⟨B, 0, none⟩)] w fun e w' => e = .returned (.bool s.dead) ∧ w = w' := blown_c B s w h.fz
theorem copy_o {w0 : World} {B : Nat} {s : St} {w : World} (h : Own w0 B s w) :
    Calls Try.prog 15 #[.pointer (some ⟨B, 0, none⟩)] w fun e w' => e = .returned (.pointer (some ⟨w.heap.size, 0, none⟩)) ∧ B ≠ w.heap.size ∧ Own w0 w.heap.size s w' ∧ Own w0 B s w' :=
  (copy_c B s w h.fz).mono fun _ _ ⟨he, hk, hf⟩ => ⟨he, Nat.ne_of_lt h.fz.lt, ⟨h.kept.trans hk, h.kept.size, hf, h.ok⟩, h.later hk⟩

@[go_sem] theorem says_idle : St.idle.says = 0 := rfl
@[go_sem] theorem says_zero : (St.armed 0).says = 10 := rfl
@[go_sem] theorem says_succ (n : Nat) : (St.armed (n + 1)).says = 0 := rfl
@[go_sem] theorem says_one : (St.armed 1).says = 0 := rfl
@[go_sem] theorem says_five : (St.armed 5).says = 0 := rfl
@[go_sem] theorem says_blown : St.blown.says = 10 := rfl
@[go_sem] theorem dead_idle : St.idle.dead = false := rfl
@[go_sem] theorem dead_armed (n : Nat) : (St.armed n).dead = false := rfl
@[go_sem] theorem dead_blown : St.blown.dead = true := rfl
@[go_sem] theorem burnt_idle : St.idle.burnt = .idle := rfl
@[go_sem] theorem burnt_zero : (St.armed 0).burnt = .blown := rfl
@[go_sem] theorem burnt_succ (n : Nat) : (St.armed (n + 1)).burnt = .armed n := rfl
@[go_sem] theorem burnt_one : (St.armed 1).burnt = .armed 0 := rfl
@[go_sem] theorem burnt_blown : St.blown.burnt = .blown := rfl
@[go_sem] theorem arm_neg (s : St) : s.arm (-1) = s := by cases s <;> rfl
@[go_sem] theorem arm_idle (k : Nat) : St.idle.arm k = .armed k := by simp [St.arm]
@[go_sem] theorem arm_armed (n k : Nat) : (St.armed n).arm k = .armed k := by simp [St.arm]; omega
@[go_sem] theorem arm_blown (k : Int) : St.blown.arm k = .blown := rfl
@[go_sem] theorem armSays_idle (k : Nat) : St.idle.armSays k = 0 := by simp [St.armSays]
@[go_sem] theorem armSays_armed (n k : Nat) : (St.armed n).armSays k = 0 := by simp [St.armSays]
@[go_sem] theorem armSays_blown (k : Nat) : St.blown.armSays k = 7 := by simp [St.armSays]
@[go_sem] theorem armSays_0 : St.idle.armSays 0 = 0 := rfl
@[go_sem] theorem armSays_1 : St.idle.armSays 1 = 0 := rfl
@[go_sem] theorem armSays_5 : St.idle.armSays 5 = 0 := rfl
@[go_sem] theorem armSays_a0 (n : Nat) : (St.armed n).armSays 0 = 0 := rfl
@[go_sem] theorem armSays_b0 : St.blown.armSays 0 = 7 := rfl
@[go_sem] theorem armSays_neg_idle : St.idle.armSays (-1) = 3 := rfl
@[go_sem] theorem armSays_neg_blown : St.blown.armSays (-1) = 3 := rfl
@[go_sem] theorem arm_0 : St.idle.arm 0 = .armed 0 := rfl
@[go_sem] theorem arm_1 : St.idle.arm 1 = .armed 1 := rfl
@[go_sem] theorem arm_5 : St.idle.arm 5 = .armed 5 := rfl
@[go_sem] theorem arm_a0 (n : Nat) : (St.armed n).arm 0 = .armed 0 := rfl

set_option maxHeartbeats 1000000 in
set_option maxRecDepth 100000 in
theorem known_any (w : World) : Calls Try.prog 7 #[] w fun e w' => e = .returned (.bool true) ∧ Kept w w' := by
  go_enter Try.func7, Try.ntmps7
  go_wp2_with (first
    | (go_at_call 8; refine (new_o _).mono ?_; rintro e w1 ⟨rfl, h1⟩)
    | (go_at_call 11; refine (arm_o ‹_› (by decide)).mono ?_; rintro e w2 ⟨rfl, h2⟩)
    | (go_at_call 9; refine (burn_o ‹_›).mono ?_; rintro e w3 ⟨rfl, h3⟩)
    | (go_at_call 16; refine (blown_o ‹_›).mono ?_; rintro e w4 ⟨rfl, rfl⟩))
  go_ret
  exact ⟨rfl, h3.kept⟩
end Go.Proofs.Ytbjheldocmgnkaa.Fz
