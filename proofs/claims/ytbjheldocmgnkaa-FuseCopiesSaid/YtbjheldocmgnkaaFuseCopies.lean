/-
  PROVED: the statement 'FuseCopiesSaid': for every input the law FuseCopies returns true, and each argument reads afterwards as it read before. No condition.
-/
import Derived.Test.YtbjheldocmgnkaaFo
import Derived.Test.YtbjheldocmgnkaaRows
import Derived.WalkKit
import Derived.ProofKit
import Derived.OpenShut
namespace Go.Proofs.Ytbjheldocmgnkaa.fuseCopies
open Go.ChangeShapes Go.WideShapes Go.ChangeAt Go.RowKit
open Go.Proofs.Ytbjheldocmgnkaa.Mem Go.Proofs.Ytbjheldocmgnkaa.Fz
set_option linter.unusedVariables false      -- a walk need not use every 'w<i>' (that an integer argument fits its kind)

theorem own : ownKnob Try.prog.godebug = none := by kernel_rfl

/-- The state after j burns of a fuse that was armed with n, or not armed. -/
def seq (ar : Bool) (n j : Nat) : St := if ar = true then (if j ≤ n then .armed (n - j) else .blown) else .idle
theorem seq_burnt (ar : Bool) (n j : Nat) : (seq ar n j).burnt = seq ar n (j + 1) := by
  unfold seq
  cases ar with
  | false => rfl
  | true =>
    by_cases h : j < n
    · obtain ⟨m, e⟩ : ∃ m, n - j = m + 1 := ⟨n - j - 1, by omega⟩
      simp only [if_true, if_pos (show j ≤ n by omega), if_pos (show j + 1 ≤ n by omega), e]
      show St.armed m = _
      rw [show n - (j + 1) = m by omega]
    · by_cases e : j = n
      · subst e; simp [St.burnt]
      · simp [show ¬ j ≤ n by omega, show ¬ j + 1 ≤ n by omega, St.burnt]
theorem seq_off (n j : Nat) : seq false n j = .idle := rfl
theorem seq_says (n j : Nat) : (seq true n j).says = if n ≤ j then 10 else 0 := by
  unfold seq
  by_cases h : j < n
  · obtain ⟨m, e⟩ : ∃ m, n - j = m + 1 := ⟨n - j - 1, by omega⟩
    simp [show j ≤ n by omega, show ¬ n ≤ j by omega, e, St.says]
  · by_cases e : j = n
    · subst e; simp [St.says]
    · simp [show ¬ j ≤ n by omega, show n ≤ j by omega, St.says]
theorem seq_dead (n j : Nat) : (seq true n j).dead = decide (n < j) := by
  unfold seq
  by_cases h : j ≤ n
  · simp [h, St.dead]
  · simp [h, St.dead]; omega
/-- Three fuses of the call's own. -/
structure Tri (w0 : World) (F C D : Nat) (sF sC sD : St) (w : World) : Prop where
  f : Own w0 F sF w
  c : Own w0 C sC w
  d : Own w0 D sD w
  fc : F ≠ C
  fd : F ≠ D
  cd : C ≠ D
theorem t_copy {w0 w : World} {F C : Nat} {s : St} (hc : Own w0 C s w) (h : Own w0 F s w) (hne : F ≠ C) :
    Calls Try.prog 15 #[.pointer (some ⟨F, 0, none⟩)] w fun e w' => e = .returned (.pointer (some ⟨w.heap.size, 0, none⟩)) ∧ Tri w0 F C w.heap.size s s s w' :=
  (copy_c F s w h.fz).mono fun _ _ ⟨he, hk, hf⟩ => ⟨he, h.later hk, hc.later hk, ⟨h.kept.trans hk, h.kept.size, hf, h.ok⟩, hne, Nat.ne_of_lt h.fz.lt, Nat.ne_of_lt hc.fz.lt⟩
theorem t_reset {w0 w : World} {F C D : Nat} {sF sC sD : St} (h : Tri w0 F C D sF sC sD w) :
    Calls Try.prog 13 #[.pointer (some ⟨D, 0, none⟩)] w fun e w' => e = .returned (.tuple #[]) ∧ Tri w0 F C D sF sC .idle w' :=
  (reset_c D sD w h.d.fz).mono fun _ _ ⟨he, hb, hf⟩ => ⟨he, h.f.but hb h.fd h.d.le, h.c.but hb h.cd h.d.le, h.d.to hb hf trivial, h.fc, h.fd, h.cd⟩
theorem t_arm {w0 w : World} {F C D : Nat} {sF sC : St} (h : Tri w0 F C D sF sC .idle w) :
    Calls Try.prog 11 #[.pointer (some ⟨D, 0, none⟩), .int .i64 0] w fun e w' => e = .returned (.int .i64 0) ∧ Tri w0 F C D sF sC (.armed 0) w' :=
  (arm_c D .idle 0 w h.d.fz).mono fun _ _ ⟨he, hb, hf⟩ => ⟨he, h.f.but hb h.fd h.d.le, h.c.but hb h.cd h.d.le, h.d.to hb hf (Nat.zero_lt_succ _), h.fc, h.fd, h.cd⟩
theorem t_burn_d {w0 w : World} {F C D : Nat} {sF sC : St} (h : Tri w0 F C D sF sC (.armed 0) w) :
    Calls Try.prog 9 #[.pointer (some ⟨D, 0, none⟩)] w fun e w' => e = .returned (.int .i64 10) ∧ Tri w0 F C D sF sC .blown w' :=
  (burn_c D (.armed 0) h.d.ok w h.d.fz).mono fun _ _ ⟨he, hb, hf⟩ => ⟨he, h.f.but hb h.fd h.d.le, h.c.but hb h.cd h.d.le, h.d.to hb hf trivial, h.fc, h.fd, h.cd⟩
theorem t_burn_c {w0 w : World} {F C D : Nat} {sF sC sD : St} (h : Tri w0 F C D sF sC sD w) :
    Calls Try.prog 9 #[.pointer (some ⟨C, 0, none⟩)] w fun e w' => e = .returned (.int .i64 sC.says) ∧ Tri w0 F C D sF sC.burnt sD w' :=
  (burn_c C sC h.c.ok w h.c.fz).mono fun _ _ ⟨he, hb, hf⟩ => ⟨he, h.f.but hb h.fc h.c.le, h.c.to hb hf (ok_burnt h.c.ok), h.d.but hb h.cd.symm h.c.le, h.fc, h.fd, h.cd⟩
theorem t_burn_f {w0 w : World} {F C D : Nat} {sF sC sD : St} (h : Tri w0 F C D sF sC sD w) :
    Calls Try.prog 9 #[.pointer (some ⟨F, 0, none⟩)] w fun e w' => e = .returned (.int .i64 sF.says) ∧ Tri w0 F C D sF.burnt sC sD w' :=
  (burn_c F sF h.f.ok w h.f.fz).mono fun _ _ ⟨he, hb, hf⟩ => ⟨he, h.f.to hb hf (ok_burnt h.f.ok), h.c.but hb h.fc.symm h.f.le, h.d.but hb h.fd.symm h.f.le, h.fc, h.fd, h.cd⟩
theorem t_blown_c {w0 w : World} {F C D : Nat} {sF sC sD : St} (h : Tri w0 F C D sF sC sD w) :
    Calls Try.prog 16 #[.pointer (some ⟨C, 0, none⟩)] w fun e w' => e = .returned (.bool sC.dead) ∧ w = w' := blown_c C sC w h.c.fz
theorem t_blown_f {w0 w : World} {F C D : Nat} {sF sC sD : St} (h : Tri w0 F C D sF sC sD w) :
    Calls Try.prog 16 #[.pointer (some ⟨F, 0, none⟩)] w fun e w' => e = .returned (.bool sF.dead) ∧ w = w' := blown_c F sF w h.f.fz
theorem arm_start {w0 w : World} {B : Nat} {s : St} {n : Nat} (h : Own w0 B s w) (hs : s = .idle) (hn : n < 60) :
    Calls Try.prog 11 #[.pointer (some ⟨B, 0, none⟩), .int .i64 n] w fun e w' => e = .returned (.int .i64 0) ∧ Own w0 B (seq true n 0) w' := by
  subst hs
  refine (arm_o h (by omega)).mono fun e w' ⟨he, ho⟩ => ⟨by rw [he, armSays_idle], ?_⟩
  rw [arm_idle] at ho
  exact ho
theorem seq_hit {n j : Nat} (h : n ≤ j) : (seq true n j).says = 10 ∧ (seq true n j).burnt.dead = true := by
  rw [seq_says, seq_burnt, seq_dead]; simp [h]; omega
theorem seq_miss {n j : Nat} (h : ¬ n ≤ j) : (seq true n j).says = 0 ∧ (seq true n j).burnt.dead = false := by
  rw [seq_says, seq_burnt, seq_dead]; simp [h]; omega
theorem off_says (n j : Nat) : (seq false n j).says = 0 ∧ (seq false n j).burnt.dead = false := ⟨rfl, rfl⟩
-- copy_says
set_option maxHeartbeats 1000000 in
set_option maxRecDepth 100000 in
theorem walk (a0 : Int) (a1 : Int) (a2 : Int) (a3 : Bool) (w0 : (Lit.int .u8 a0).wf = true) (w1 : (Lit.int .u8 a1).wf = true) (w2 : (Lit.int .u8 a2).wf = true) (w : World) :
    Calls Try.prog 6 #[.int .u8 a0, .int .u8 a1, .int .u8 a2, .bool a3] w fun e w' => e = .returned (.bool true) ∧ Kept w w' := by
  have b0 := bounds_u8 w0
  have b1 := bounds_u8 w1
  have b2 := bounds_u8 w2
  obtain ⟨k, rfl⟩ := Int.eq_ofNat_of_zero_le b0.1
  obtain ⟨b, rfl⟩ := Int.eq_ofNat_of_zero_le b1.1
  obtain ⟨a, rfl⟩ := Int.eq_ofNat_of_zero_le b2.1
  clear w0 w1 w2
  obtain ⟨N, hN, lN⟩ : ∃ N : Nat, (k : Int) % 60 = N ∧ N < 60 := ⟨k % 60, by omega, by omega⟩
  obtain ⟨P, hP, lP⟩ : ∃ P : Nat, (b : Int) % 60 = P ∧ P < 60 := ⟨b % 60, by omega, by omega⟩
  obtain ⟨A, hA, lA⟩ : ∃ A : Nat, (a : Int) % 60 = A ∧ A < 60 := ⟨a % 60, by omega, by omega⟩
  cases a3
  · go_enter Try.func6, Try.ntmps6
    go_wp2_with (go_at_call 8; refine (new_o _).mono ?_; rintro e w1 ⟨rfl, h1⟩)
    have h3 : Own w w.heap.size (seq false N 0) w1 := h1
    clear h1
    go_loopw [13] (fun i wr => ∃ j : Nat, j ≤ P ∧ i = .int .i64 j ∧ Own w w.heap.size (seq false N j) wr) (fun i _ => P - (intOf i).toNat)
    case atStart => exact ⟨0, by omega, rfl, h3⟩
    case round =>
      clear h3
      obtain ⟨j, hj, rfl, h2⟩ := hrel
      by_cases hlt : j < P
      · go_wp2_with (go_at_call 9; refine (burn_o ‹_›).mono ?_; rintro e w3 ⟨rfl, h3⟩)
        go_roundw
        case rel => exact ⟨j + 1, by omega, by go_num, by rw [seq_burnt] at h3; exact h3⟩
        case measure => simp [intOf]; omega
      · obtain rfl : j = P := by omega
        clear hlt hj
        obtain ⟨wo, rfl⟩ : ∃ wo : World, wo = wr := ⟨_, rfl⟩
        go_wp2_with (first
          | (go_at_call 15; with_reducible refine (t_copy h5 h6 h4).mono ?_; rintro e w7 ⟨rfl, h7⟩)
          | (go_at_call 15; with_reducible refine (copy_o h2).mono ?_; rintro e w4 ⟨rfl, h4, h5, h6⟩)
          | (go_at_call 13; refine (t_reset ‹_›).mono ?_; rintro e w8 ⟨rfl, h8⟩)
          | (go_at_call 11; refine (t_arm ‹_›).mono ?_; rintro e w9 ⟨rfl, h9⟩)
          | (go_at_call 9; refine (t_burn_d ‹_›).mono ?_; rintro e w10 ⟨rfl, h10⟩)
          | (go_at_call 16; refine (t_blown_c ‹_›).mono ?_; rintro e w4 ⟨rfl, rfl⟩)
          | (go_at_call 16; refine (t_blown_f ‹_›).mono ?_; rintro e w4 ⟨rfl, rfl⟩))
        clear h2 h4 h5 h6 h7 h8 h9
        go_loopw [16] (fun i wr => ∃ m : Nat, m ≤ A ∧ i = .int .i64 m ∧ Tri w w.heap.size wo.heap.size w4.heap.size (seq false N j) (seq false N (j + m)) .blown wr) (fun i _ => A - (intOf i).toNat)
        case atStart => exact ⟨0, by omega, rfl, h10⟩
        case round =>
          clear h10
          obtain ⟨i, hi, rfl, h2⟩ := hrel
          by_cases hlt : i < A
          · obtain ⟨hs, hd⟩ := off_says N (j + i)
            go_wp2_with (first
              | (go_at_call 9; refine (t_burn_c ‹_›).mono ?_; rintro e w10 ⟨rfl, h10⟩)
              | (go_at_call 16; refine (t_blown_c ‹_›).mono ?_; rintro e w4 ⟨rfl, rfl⟩))
            go_roundw
            case rel => exact ⟨i + 1, by omega, by go_num, by rw [seq_burnt] at h10; exact h10⟩
            case measure => simp [intOf]; omega
          · clear hi
            obtain ⟨wp, rfl⟩ : ∃ wp : World, wp = wr := ⟨_, rfl⟩
            go_wp2
            clear hlt
            go_loopw [18] (fun i' wr => ∃ m : Nat, m ≤ A ∧ i' = .int .i64 m ∧ Tri w w.heap.size wo.heap.size w4.heap.size (seq false N (j + m)) (seq false N (j + i)) .blown wr) (fun i _ => A - (intOf i).toNat)
            case atStart => exact ⟨0, by omega, rfl, h2⟩
            case round =>
              clear h2
              obtain ⟨l, hl⟩ : ∃ l, l = i := ⟨i, rfl⟩
              rw [← hl] at hrel
              obtain ⟨i, hi, rfl, h2⟩ := hrel
              by_cases hlt : i < A
              · obtain ⟨hs, hd⟩ := off_says N (j + i)
                go_wp2_with (go_at_call 9; refine (t_burn_f ‹_›).mono ?_; rintro e w10 ⟨rfl, h10⟩)
                go_roundw
                case rel => exact ⟨i + 1, by omega, by go_num, by rw [seq_burnt, hl] at h10; exact h10⟩
                case measure => simp [intOf]; omega
              · go_wp2_with (go_at_call 7; refine (known_any _).mono ?_; rintro e w6 ⟨rfl, h6⟩)
                go_ret
                exact ⟨rfl, h2.f.kept.trans h6⟩
  · go_enter Try.func6, Try.ntmps6
    go_wp2_with (first
      | (go_at_call 8; refine (new_o _).mono ?_; rintro e w1 ⟨rfl, h1⟩)
      | (go_at_call 11; refine (arm_start h1 rfl lN).mono ?_; rintro e w3 ⟨rfl, h3⟩))
    clear h1
    go_loopw [13] (fun i wr => ∃ j : Nat, j ≤ P ∧ i = .int .i64 j ∧ Own w w.heap.size (seq true N j) wr) (fun i _ => P - (intOf i).toNat)
    case atStart => exact ⟨0, by omega, rfl, h3⟩
    case round =>
      clear h3
      obtain ⟨j, hj, rfl, h2⟩ := hrel
      by_cases hlt : j < P
      · go_wp2_with (go_at_call 9; refine (burn_o ‹_›).mono ?_; rintro e w3 ⟨rfl, h3⟩)
        go_roundw
        case rel => exact ⟨j + 1, by omega, by go_num, by rw [seq_burnt] at h3; exact h3⟩
        case measure => simp [intOf]; omega
      · obtain rfl : j = P := by omega
        clear hlt hj
        obtain ⟨wo, rfl⟩ : ∃ wo : World, wo = wr := ⟨_, rfl⟩
        go_wp2_with (first
          | (go_at_call 15; with_reducible refine (t_copy h5 h6 h4).mono ?_; rintro e w7 ⟨rfl, h7⟩)
          | (go_at_call 15; with_reducible refine (copy_o h2).mono ?_; rintro e w4 ⟨rfl, h4, h5, h6⟩)
          | (go_at_call 13; refine (t_reset ‹_›).mono ?_; rintro e w8 ⟨rfl, h8⟩)
          | (go_at_call 11; refine (t_arm ‹_›).mono ?_; rintro e w9 ⟨rfl, h9⟩)
          | (go_at_call 9; refine (t_burn_d ‹_›).mono ?_; rintro e w10 ⟨rfl, h10⟩)
          | (go_at_call 16; refine (t_blown_c ‹_›).mono ?_; rintro e w4 ⟨rfl, rfl⟩)
          | (go_at_call 16; refine (t_blown_f ‹_›).mono ?_; rintro e w4 ⟨rfl, rfl⟩))
        clear h2 h4 h5 h6 h7 h8 h9
        go_loopw [16] (fun i wr => ∃ m : Nat, m ≤ A ∧ i = .int .i64 m ∧ Tri w w.heap.size wo.heap.size w4.heap.size (seq true N j) (seq true N (j + m)) .blown wr) (fun i _ => A - (intOf i).toNat)
        case atStart => exact ⟨0, by omega, rfl, h10⟩
        case round =>
          clear h10
          obtain ⟨i, hi, rfl, h2⟩ := hrel
          by_cases hlt : i < A
          · by_cases hit : N ≤ j + i
            · obtain ⟨hs, hd⟩ := seq_hit hit
              go_wp2_with (first
                | (go_at_call 9; refine (t_burn_c ‹_›).mono ?_; rintro e w10 ⟨rfl, h10⟩)
                | (go_at_call 16; refine (t_blown_c ‹_›).mono ?_; rintro e w4 ⟨rfl, rfl⟩))
              go_roundw
              case rel => exact ⟨i + 1, by omega, by go_num, by rw [seq_burnt] at h10; exact h10⟩
              case measure => simp [intOf]; omega
            · obtain ⟨hs, hd⟩ := seq_miss hit
              go_wp2_with (first
                | (go_at_call 9; refine (t_burn_c ‹_›).mono ?_; rintro e w10 ⟨rfl, h10⟩)
                | (go_at_call 16; refine (t_blown_c ‹_›).mono ?_; rintro e w4 ⟨rfl, rfl⟩))
              go_roundw
              case rel => exact ⟨i + 1, by omega, by go_num, by rw [seq_burnt] at h10; exact h10⟩
              case measure => simp [intOf]; omega
          · clear hi
            obtain ⟨wp, rfl⟩ : ∃ wp : World, wp = wr := ⟨_, rfl⟩
            go_wp2
            clear hlt
            go_loopw [18] (fun i' wr => ∃ m : Nat, m ≤ A ∧ i' = .int .i64 m ∧ Tri w w.heap.size wo.heap.size w4.heap.size (seq true N (j + m)) (seq true N (j + i)) .blown wr) (fun i _ => A - (intOf i).toNat)
            case atStart => exact ⟨0, by omega, rfl, h2⟩
            case round =>
              clear h2
              obtain ⟨l, hl⟩ : ∃ l, l = i := ⟨i, rfl⟩
              rw [← hl] at hrel
              obtain ⟨i, hi, rfl, h2⟩ := hrel
              by_cases hlt : i < A
              · by_cases hit : N ≤ j + i
                · obtain ⟨hs, hd⟩ := seq_hit hit
                  go_wp2_with (go_at_call 9; refine (t_burn_f ‹_›).mono ?_; rintro e w10 ⟨rfl, h10⟩)
                  go_roundw
                  case rel => exact ⟨i + 1, by omega, by go_num, by rw [seq_burnt, hl] at h10; exact h10⟩
                  case measure => simp [intOf]; omega
                · obtain ⟨hs, hd⟩ := seq_miss hit
                  go_wp2_with (go_at_call 9; refine (t_burn_f ‹_›).mono ?_; rintro e w10 ⟨rfl, h10⟩)
                  go_roundw
                  case rel => exact ⟨i + 1, by omega, by go_num, by rw [seq_burnt, hl] at h10; exact h10⟩
                  case measure => simp [intOf]; omega
              · go_wp2_with (go_at_call 7; refine (known_any _).mono ?_; rintro e w6 ⟨rfl, h6⟩)
                go_ret
                exact ⟨rfl, h2.f.kept.trans h6⟩

/-! ### THE ROW's STEP: WRITTEN OUT: LEAVE IT -/
set_option maxRecDepth 100000 in
theorem lifted (os : Os) (started : os.Started) (H : Type) (enc : TypeId × Value → H) :
    ReturnsInHanded {} Try.checked os 6 .any (Rows.fuseCopiesSpec.pre6 enc Try.prog Try.f6 Rows.fuseCopiesRow.domain false) (Rows.fuseCopiesSpec.post enc Try.prog Try.f6 false true false false) := by
  refine returnsInHanded_of_change (C := Try.checked) own started (by kernel_rfl) Try.func6
    (ChangeSpec.witness6 (enc := enc) (C := Try.checked) false ⟨#[], #[.int .u8 0, .int .u8 0, .int .u8 0, .bool false], []⟩ 8 (by kernel_rfl) (by kernel_rfl) (by kernel_rfl) (by kernel_rfl)) ?_
  intro W base args ds gs before hval0 hW hcnd _
  have hval : ∀ (j : Nat) t v, Try.f6.params[j]? = some t → args[j]? = some v → Value.okWide Try.prog W .any base t v := hval0
  have hW' := hW
  obtain ⟨p, q, hA0, hV, rfl, hfz, hnd⟩ := hW
  have hA : DataW.TrodAll enc Try.prog W 0 (fun _ => true) true Try.f6.params.toList args.toList ds p := hA0
  rw [Try.params6] at hA hval
  obtain ⟨v0, vs0, d0, ds0, p0, q0, hargs, rfl, rfl, h0, r0⟩ := trodAll_cons hA
  obtain ⟨v1, vs1, d1, ds1, p1, q1, rfl, rfl, rfl, h1, r1⟩ := trodAll_cons r0
  obtain ⟨v2, vs2, d2, ds2, p2, q2, rfl, rfl, rfl, h2, r2⟩ := trodAll_cons r1
  obtain ⟨v3, vs3, d3, ds3, p3, q3, rfl, rfl, rfl, h3, r3⟩ := trodAll_cons r2
  obtain ⟨rfl, rfl, rfl⟩ := trodAll_nil r3
  obtain rfl : args = #[v0, v1, v2, v3] := by cases args; simp_all
  obtain ⟨rfl, rfl⟩ := trodVars_none hV
  obtain ⟨a0, rfl, rfl, rfl, w0⟩ := open_int Try.underlying5 (hval 0 5 v0 rfl rfl) h0
  obtain ⟨a1, rfl, rfl, rfl, w1⟩ := open_int Try.underlying5 (hval 1 5 v1 rfl rfl) h1
  obtain ⟨a2, rfl, rfl, rfl, w2⟩ := open_int Try.underlying5 (hval 2 5 v2 rfl rfl) h2
  obtain ⟨a3, rfl, rfl, rfl⟩ := open_bool Try.underlying4 (hval 3 4 v3 rfl rfl) h3
  clear hA0 hval0
  simp only [List.append_nil] at hW'
  refine (walk a0 a1 a2 a3 w0 w1 w2 W).mono fun e W' ⟨he, hg⟩ => ?_
  subst he
  exact ⟨_, rfl, _, _, _, [], [], [], hW', (trodAll_cons_mk (shut_bool Try.underlying4 _) trodAll_mk0), (trodAll_cons_mk (shut_int Try.underlying5 w0) (trodAll_cons_mk (shut_int Try.underlying5 w1) (trodAll_cons_mk (shut_int Try.underlying5 w2) (trodAll_cons_mk (shut_bool Try.underlying4 _) trodAll_mk0)))), rfl, Below.frame hg _, fun h => by cases h⟩

theorem over : Rows.fuseCopiesRow.holds Try.pinned (OpenSpec.ofChange Rows.fuseCopiesSpec) :=
  OpenClaim.holds_of_wide 6 Try.f6 rfl rfl rfl rfl rfl rfl rfl ⟨rfl, rfl, rfl, rfl, rfl⟩ rfl rfl rfl rfl rfl (by kernel_rfl) Try.func6 (by kernel_rfl)
    (of_decide_eq_true (by kernel_rfl)) (by unfold Func.isWrapper; first | (rw [if_pos (by decide +kernel)]; kernel_rfl) | (rw [if_neg (by decide +kernel)]; exact ⟨rfl, rfl⟩))
    (fun os started H enc _ => lifted os started H enc)

/-- ████ THE STATEMENT ████ -/
theorem proved : Rows.FuseCopiesSaid :=
  over
#print axioms proved
end Go.Proofs.Ytbjheldocmgnkaa.fuseCopies
