/-
  PROVED: the statement 'PackBackSaid': for every input the law PackBack returns true, and each argument reads afterwards as it read before. No condition.
-/
import Derived.Test.YtghnaimpcjbhdaaPl
import Derived.Test.YtghnaimpcjbhdaaPo
import Derived.Test.YtghnaimpcjbhdaaRows
import Derived.WalkKit
import Derived.ProofKit
import Derived.OpenShut
import Derived.ShutString
namespace Go.Proofs.Ytghnaimpcjbhdaa.packBack
open Go.ChangeShapes Go.WideShapes Go.ChangeAt Go.RowKit
open Go.Proofs.Ytghnaimpcjbhdaa.Mem Go.Proofs.Ytghnaimpcjbhdaa.Pk
open Go.ChangeMaps (open_string shut_string)
set_option linter.unusedVariables false      -- a walk need not use every 'w<i>' (that an integer argument fits its kind)

theorem own : ownKnob Try.prog.godebug = none := by kernel_rfl

theorem cat_any (a b : ByteArray) (h : a.size + b.size ≤ 9223372036854775807) (w : World) : (Op.stringOp .add a b).run Try.prog w = .ok (.string (a ++ b)) w := run_string_add_sum w a b h
/-- What the calls return. -/
structure Given (n : Nat) (k i : Int) (s t : ByteArray) (x V Vt I It T Tt V2 I2 T2 ur us utr : ByteArray) (eF ue ute : Int) (un : Nat) (ui : Int) (q qv qt : Bool) : Prop where
  cF : ∀ w, Calls Try.prog 10 #[.int .u64 n, .int .i64 k] w fun e w' => e = .returned (.tuple #[.string x, .int .i64 eF]) ∧ Kept w w'
  hF : (eF == 0) = q
  cU : q = true → ∀ w, Calls Try.prog 18 #[.string x] w fun e w' => e = .returned (.tuple #[.int .u64 n, .int .i64 0]) ∧ Kept w w'
  hx : q = true → ((x.size : Int) != k) = false
  cV : ∀ w, Calls Try.prog 12 #[.int .u64 n] w fun e w' => e = .returned (.string V) ∧ Kept w w'
  catV : ∀ w, (Op.stringOp .add V t).run Try.prog w = .ok (.string Vt) w
  cVt : ∀ w, Calls Try.prog 20 #[.string Vt] w fun e w' => e = .returned (.tuple #[.int .u64 n, .string t, .int .i64 0]) ∧ Kept w w'
  cI : ∀ w, Calls Try.prog 14 #[.int .i64 i] w fun e w' => e = .returned (.string I) ∧ Kept w w'
  catI : ∀ w, (Op.stringOp .add I t).run Try.prog w = .ok (.string It) w
  cIt : ∀ w, Calls Try.prog 22 #[.string It] w fun e w' => e = .returned (.tuple #[.int .i64 i, .string t, .int .i64 0]) ∧ Kept w w'
  cT : ∀ w, Calls Try.prog 16 #[.string s] w fun e w' => e = .returned (.string T) ∧ Kept w w'
  catT : ∀ w, (Op.stringOp .add T t).run Try.prog w = .ok (.string Tt) w
  cTt : ∀ w, Calls Try.prog 24 #[.string Tt] w fun e w' => e = .returned (.tuple #[.string s, .string t, .int .i64 0]) ∧ Kept w w'
  cUv : ∀ w, Calls Try.prog 20 #[.string t] w fun e w' => e = .returned (.tuple #[.int .u64 un, .string ur, .int .i64 ue]) ∧ Kept w w'
  cUi : ∀ w, Calls Try.prog 22 #[.string t] w fun e w' => e = .returned (.tuple #[.int .i64 ui, .string ur, .int .i64 ue]) ∧ Kept w w'
  hv : (ue == 0) = qv
  cV2 : qv = true → ∀ w, Calls Try.prog 12 #[.int .u64 un] w fun e w' => e = .returned (.string V2) ∧ Kept w w'
  catV2 : qv = true → ∀ w, (Op.stringOp .add V2 ur).run Try.prog w = .ok (.string t) w
  cI2 : qv = true → ∀ w, Calls Try.prog 14 #[.int .i64 ui] w fun e w' => e = .returned (.string I2) ∧ Kept w w'
  catI2 : qv = true → ∀ w, (Op.stringOp .add I2 ur).run Try.prog w = .ok (.string t) w
  cUt : ∀ w, Calls Try.prog 24 #[.string t] w fun e w' => e = .returned (.tuple #[.string us, .string utr, .int .i64 ute]) ∧ Kept w w'
  ht : (ute == 0) = qt
  cT2 : qt = true → ∀ w, Calls Try.prog 16 #[.string us] w fun e w' => e = .returned (.string T2) ∧ Kept w w'
  catT2 : qt = true → ∀ w, (Op.stringOp .add T2 utr).run Try.prog w = .ok (.string t) w
theorem small {s : ByteArray} (h : s.size ≤ 600) : Short s := by unfold Short; omega
theorem num_size (n : Nat) : (str (num n)).size ≤ 9 := by rw [size_str]; exact (num_len n).2
theorem uvE_cases (t : ByteArray) : (uv t = none ∧ uvE t = 4) ∨ ∃ n r, uv t = some (n, r) ∧ uvN t = n ∧ uvR t = r ∧ uvE t = 0 := by
  cases h : uv t with
  | none => exact .inl ⟨rfl, uvE_none h⟩
  | some p => exact .inr ⟨p.1, p.2, rfl, uvN_some h, uvR_some h, uvE_some h⟩
theorem uiN_some {s r : ByteArray} {n : Nat} (h : uv s = some (n, r)) : uiN s = zag n := by unfold uiN; rw [h]
theorem zag_i64 {n : Nat} (h : U64 n) : I64 (zag n) := by unfold U64 at h; unfold I64 zag; split <;> constructor <;> omega
theorem given (n : Nat) (k i : Int) (s t : ByteArray) (hn : U64 n) (hi : I64 i) (hs : s.size ≤ 600) (ht : t.size ≤ 600) :
    ∃ x V Vt I It T Tt V2 I2 T2 ur us utr eF ue ute un ui q qv qt, Given n k i s t x V Vt I It T Tt V2 I2 T2 ur us utr eF ue ute un ui q qv qt := by
  have nV := num_size n
  have nI := num_size (zig i)
  have nS := num_size s.size
  have sT : (str (num s.size) ++ s).size ≤ 609 := by rw [ByteArray.size_append]; omega
  have sTt : (str (num s.size) ++ s ++ t).size ≤ 1209 := by rw [ByteArray.size_append]; omega
  refine ⟨fixS n k, str (num n), str (num n) ++ t, str (num (zig i)), str (num (zig i)) ++ t, str (num s.size) ++ s, str (num s.size) ++ s ++ t, str (num (uvN t)), str (num (zig (uiN t))), str (num (utS t).size) ++ utS t,
    uvR t, utS t, utR t, fixE n k, uvE t, utE t, uvN t, uiN t, fixE n k == 0, uvE t == 0, utE t == 0,
    fixed_any n k hn, rfl, ?_, ?_, var_any n hn, cat_any _ _ (by omega), unvar_some (uv_num n hn t), int_any i hi, cat_any _ _ (by omega), ?_, text_any s (small hs), cat_any _ _ (by omega), ?_,
    unvar_any t, unint_any t, rfl, ?_, ?_, ?_, ?_, untext_any t (i63_size (small ht)), rfl, ?_, ?_⟩
  · intro h w
    have a1 : fixE n k = 0 := by simpa using h
    unfold fixE at a1
    unfold fixS
    by_cases hk : k < 1 ∨ 8 < k
    · rw [if_pos hk] at a1; cases a1
    · rw [if_neg hk] at a1 ⊢
      by_cases b1 : k.toNat < wd n
      · rw [if_pos b1] at a1; cases a1
      · rw [if_neg b1]
        have := unfixed_ok (str (be n k.toNat)) (by rw [size_str, be_length]; omega) (by rw [size_str, be_length]; omega) w
        rw [list_str, val_be_lt (wd_fits hn (by omega))] at this
        exact this
  · intro h
    have a1 : fixE n k = 0 := by simpa using h
    unfold fixE at a1
    unfold fixS
    by_cases hk : k < 1 ∨ 8 < k
    · rw [if_pos hk] at a1; cases a1
    · rw [if_neg hk] at a1 ⊢
      by_cases b1 : k.toNat < wd n
      · rw [if_pos b1] at a1; cases a1
      · rw [if_neg b1, size_str, be_length]; simp; omega
  · intro w
    have := unint_some (uv_num _ (zig_u64 hi) t) w
    rw [zag_zig] at this
    exact this
  · intro w
    have := untext_any (str (num s.size) ++ s ++ t) (by unfold I63; omega) w
    have e := ut_text s t (u64_size (small hs))
    unfold utS utR utE at this
    rw [e] at this
    exact this
  · intro h w
    rcases uvE_cases t with ⟨_, h4⟩ | ⟨m, r, e, e1, e2, _⟩
    · rw [h4] at h; cases h
    · rw [e1]; exact var_any m (uv_some e).1 w
  · intro h w
    rcases uvE_cases t with ⟨_, h4⟩ | ⟨m, r, e, e1, e2, _⟩
    · rw [h4] at h; cases h
    · have hr := (uv_some e).2.2
      rw [e1, e2, cat_any _ _ (by have := num_size m; omega), ← (uv_some e).2.1]
  · intro h w
    rcases uvE_cases t with ⟨_, h4⟩ | ⟨m, r, e, e1, e2, _⟩
    · rw [h4] at h; cases h
    · rw [uiN_some e]; exact int_any _ (zag_i64 (uv_some e).1) w
  · intro h w
    rcases uvE_cases t with ⟨_, h4⟩ | ⟨m, r, e, e1, e2, _⟩
    · rw [h4] at h; cases h
    · have hr := (uv_some e).2.2
      rw [uiN_some e, e2, zig_zag, cat_any _ _ (by have := num_size m; omega), ← (uv_some e).2.1]
  · intro h w
    cases hu : ut t with
    | none => unfold utE at h; rw [hu] at h; cases h
    | some p =>
      obtain ⟨y, r⟩ := p
      have e1 : utS t = y := by unfold utS; rw [hu]
      rw [e1]; exact text_any y (small (Nat.le_trans (ut_some hu).2 ht)) w
  · intro h w
    cases hu : ut t with
    | none => unfold utE at h; rw [hu] at h; cases h
    | some p =>
      obtain ⟨y, r⟩ := p
      have e1 : utS t = y := by unfold utS; rw [hu]
      have e2 : utR t = r := by unfold utR; rw [hu]
      have e3 := (ut_some hu).1
      have hz : (str (num y.size) ++ y ++ r).size ≤ 600 := by rw [← e3]; exact ht
      rw [ByteArray.size_append] at hz
      rw [e1, e2, cat_any _ _ (by omega), ← e3]
set_option maxHeartbeats 4000000 in
set_option maxRecDepth 100000 in
theorem main (n : Nat) (k i : Int) (s t : ByteArray) (x V Vt I It T Tt V2 I2 T2 ur us utr : ByteArray) (eF ue ute : Int) (un : Nat) (ui : Int) (q qv qt : Bool) (hs : (s.size : Int) ≤ 600) (ht : (t.size : Int) ≤ 600)
    (G : Given n k i s t x V Vt I It T Tt V2 I2 T2 ur us utr eF ue ute un ui q qv qt) (w : World) :
    Calls Try.prog 6 #[.int .u64 n, .int .i64 k, .int .i64 i, .string s, .string t] w fun e w' => e = .returned (.bool true) ∧ Kept w w' := by
  have hF := G.hF
  have hx := G.hx
  have catV := G.catV
  have catI := G.catI
  have catT := G.catT
  have hv := G.hv
  have hq := G.ht
  have catV2 := G.catV2
  have catI2 := G.catI2
  have catT2 := G.catT2
  cases q <;> cases qv <;> cases qt
  all_goals
    simp only [forall_const, Bool.false_eq_true, false_implies] at hx catV2 catI2 catT2
    go_enter Try.func6, Try.ntmps6
    go_wp2_with (first
      | (go_at_call 10; (with_reducible refine (G.cF _).mono ?_); rintro e w1 ⟨rfl, hk1⟩)
      | (go_at_call 18; (with_reducible refine (G.cU rfl _).mono ?_); rintro e w2 ⟨rfl, hk2⟩)
      | (go_at_call 12; (with_reducible refine (G.cV _).mono ?_); rintro e w3 ⟨rfl, hk3⟩)
      | (go_at_call 20; (with_reducible refine (G.cVt _).mono ?_); rintro e w4 ⟨rfl, hk4⟩)
      | (go_at_call 14; (with_reducible refine (G.cI _).mono ?_); rintro e w5 ⟨rfl, hk5⟩)
      | (go_at_call 22; (with_reducible refine (G.cIt _).mono ?_); rintro e w6 ⟨rfl, hk6⟩)
      | (go_at_call 16; (with_reducible refine (G.cT _).mono ?_); rintro e w7 ⟨rfl, hk7⟩)
      | (go_at_call 24; (with_reducible refine (G.cTt _).mono ?_); rintro e w8 ⟨rfl, hk8⟩)
      | (go_at_call 20; (with_reducible refine (G.cUv _).mono ?_); rintro e w9 ⟨rfl, hk9⟩)
      | (go_at_call 22; (with_reducible refine (G.cUi _).mono ?_); rintro e w10 ⟨rfl, hk10⟩)
      | (go_at_call 24; (with_reducible refine (G.cUt _).mono ?_); rintro e w11 ⟨rfl, hk11⟩)
      | (go_at_call 12; (with_reducible refine (G.cV2 rfl _).mono ?_); rintro e w12 ⟨rfl, hk12⟩)
      | (go_at_call 14; (with_reducible refine (G.cI2 rfl _).mono ?_); rintro e w13 ⟨rfl, hk13⟩)
      | (go_at_call 16; (with_reducible refine (G.cT2 rfl _).mono ?_); rintro e w14 ⟨rfl, hk14⟩)
      | (go_at_call 9; (with_reducible refine (known_any _).mono ?_); rintro e w15 ⟨rfl, hk15⟩))
    go_ret
    refine ⟨rfl, ?_⟩
    repeat (first | assumption | refine Kept.trans ?_ ‹_›)
set_option maxHeartbeats 1000000 in
set_option maxRecDepth 100000 in
theorem walk (a0 : Int) (a1 : Int) (a2 : Int) (a3 : ByteArray) (a4 : ByteArray) (w0 : (Lit.int .u64 a0).wf = true) (w1 : (Lit.int .i64 a1).wf = true) (w2 : (Lit.int .i64 a2).wf = true) (w3 : a3.size ≤ maxLen) (w4 : a4.size ≤ maxLen) (w : World) :
    Calls Try.prog 6 #[.int .u64 a0, .int .i64 a1, .int .i64 a2, .string a3, .string a4] w fun e w' => e = .returned (.bool true) ∧ Kept w w' := by
  have b0 := bounds_u64 w0
  have b1 := bounds_i64 w2
  obtain ⟨n, rfl⟩ := Int.eq_ofNat_of_zero_le b0.1
  by_cases hs : a3.size ≤ 600
  · by_cases ht : a4.size ≤ 600
    · obtain ⟨x, V, Vt, I, It, T, Tt, V2, I2, T2, ur, us, utr, eF, ue, ute, un, ui, q, qv, qt, G⟩ := given n a1 a2 a3 a4 (by unfold U64; omega) ⟨by omega, by omega⟩ hs ht
      exact main n a1 a2 a3 a4 x V Vt I It T Tt V2 I2 T2 ur us utr eF ue ute un ui q qv qt (by omega) (by omega) G w
    · have h1 : decide (600 < (a3.size : Int)) = false := by simp; omega
      have h2 : decide (600 < (a4.size : Int)) = true := by simp; omega
      clear hs ht b0 b1 w0 w1 w2 w3 w4
      go_enter Try.func6, Try.ntmps6
      go_wp2_with (go_at_call 9; (with_reducible refine (known_any _).mono ?_); rintro e u ⟨rfl, hk⟩)
      go_ret
      exact ⟨rfl, hk⟩
  · have h1 : decide (600 < (a3.size : Int)) = true := by simp; omega
    clear hs b0 b1 w0 w1 w2 w3 w4
    go_enter Try.func6, Try.ntmps6
    go_wp2_with (go_at_call 9; (with_reducible refine (known_any _).mono ?_); rintro e u ⟨rfl, hk⟩)
    go_ret
    exact ⟨rfl, hk⟩

/-! ### THE ROW's STEP: WRITTEN OUT: LEAVE IT -/
set_option maxRecDepth 100000 in
theorem lifted (os : Os) (started : os.Started) (H : Type) (enc : TypeId × Value → H) :
    ReturnsInHanded {} Try.checked os 6 .any (Rows.packBackSpec.pre6 enc Try.prog Try.f6 Rows.packBackRow.domain false) (Rows.packBackSpec.post enc Try.prog Try.f6 false true false false) := by
  refine returnsInHanded_of_change (C := Try.checked) own started (by kernel_rfl) Try.func6
    (ChangeSpec.witness6 (enc := enc) (C := Try.checked) false ⟨#[], #[.int .u64 0, .int .i64 0, .int .i64 0, .string ByteArray.empty, .string ByteArray.empty], []⟩ 8 (by kernel_rfl) (by kernel_rfl) (by kernel_rfl) (by kernel_rfl)) ?_
  intro W base args ds gs before hval0 hW hcnd _
  have hval : ∀ (j : Nat) t v, Try.f6.params[j]? = some t → args[j]? = some v → Value.okWide Try.prog W .any base t v := hval0
  have hW' := hW
  obtain ⟨p, q, hA0, hV, rfl, hfz, hnd⟩ := hW
  have hA : DataW.TrodAll enc Try.prog W 0 (fun _ => true) true Try.f6.params.toList args.toList ds p := hA0
  rw [Try.params6] at hA hval
  obtain ⟨v0, vs0, d0, ds0, p0, q0, hargs, rfl, rfl, h0, r0⟩ := trodAll_cons hA
  obtain ⟨v1, vs1, d1, ds1, p1, q1, rfl, rfl, rfl, h1, r1⟩ := trodAll_cons r0
  obtain ⟨v2, vs2, d2, ds2, p2, q2, rfl, rfl, rfl, h2, r2⟩ := trodAll_cons r1
  obtain ⟨v3, vs3, d3, ds3, p3, q3, rfl, rfl, rfl, h3, r3⟩ := trodAll_cons r2
  obtain ⟨v4, vs4, d4, ds4, p4, q4, rfl, rfl, rfl, h4, r4⟩ := trodAll_cons r3
  obtain ⟨rfl, rfl, rfl⟩ := trodAll_nil r4
  obtain rfl : args = #[v0, v1, v2, v3, v4] := by cases args; simp_all
  obtain ⟨rfl, rfl⟩ := trodVars_none hV
  obtain ⟨a0, rfl, rfl, rfl, w0⟩ := open_int Try.underlying22 (hval 0 22 v0 rfl rfl) h0
  obtain ⟨a1, rfl, rfl, rfl, w1⟩ := open_int Try.underlying3 (hval 1 3 v1 rfl rfl) h1
  obtain ⟨a2, rfl, rfl, rfl, w2⟩ := open_int Try.underlying3 (hval 2 3 v2 rfl rfl) h2
  obtain ⟨a3, rfl, rfl, rfl, w3⟩ := open_string Try.underlying9 (hval 3 9 v3 rfl rfl) h3
  obtain ⟨a4, rfl, rfl, rfl, w4⟩ := open_string Try.underlying9 (hval 4 9 v4 rfl rfl) h4
  clear hA0 hval0
  simp only [List.append_nil] at hW'
  refine (walk a0 a1 a2 a3 a4 w0 w1 w2 w3 w4 W).mono fun e W' ⟨he, hg⟩ => ?_
  subst he
  exact ⟨_, rfl, _, _, _, [], [], [], hW', (trodAll_cons_mk (shut_bool Try.underlying4 _) trodAll_mk0), (trodAll_cons_mk (shut_int Try.underlying22 w0) (trodAll_cons_mk (shut_int Try.underlying3 w1) (trodAll_cons_mk (shut_int Try.underlying3 w2) (trodAll_cons_mk (shut_string Try.underlying9 w3) (trodAll_cons_mk (shut_string Try.underlying9 w4) trodAll_mk0))))), rfl, Below.frame hg _, fun h => by cases h⟩

theorem over : Rows.packBackRow.holds Try.pinned (OpenSpec.ofChange Rows.packBackSpec) :=
  OpenClaim.holds_of_wide 6 Try.f6 rfl rfl rfl rfl rfl rfl rfl ⟨rfl, rfl, rfl, rfl, rfl⟩ rfl rfl rfl rfl rfl (by kernel_rfl) Try.func6 (by kernel_rfl)
    (of_decide_eq_true (by kernel_rfl)) (by unfold Func.isWrapper; first | (rw [if_pos (by decide +kernel)]; kernel_rfl) | (rw [if_neg (by decide +kernel)]; exact ⟨rfl, rfl⟩))
    (fun os started H enc _ => lifted os started H enc)

/-- ████ THE STATEMENT ████ -/
theorem proved : Rows.PackBackSaid :=
  over
#print axioms proved
end Go.Proofs.Ytghnaimpcjbhdaa.packBack
