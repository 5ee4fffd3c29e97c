/-
  What Int, Unint, Text and Untext of package pack do.
-/
import Derived.Test.YtghnaimpcjbhdaaPr
namespace Go.Proofs.Ytghnaimpcjbhdaa.Pk
open Go.RowKit Go.Proofs.Ytghnaimpcjbhdaa.Mem

/-- It is an int. -/
def I64 (i : Int) : Prop := -9223372036854775808 ≤ i ∧ i < 9223372036854775808
theorem number_at (m : Int) (n : Nat) (h : U64 n) (hm : m = (n : Int)) (w : World) : Calls Try.prog 31 #[.int .u64 m] w fun e w' => e = .returned (.string (str (num n))) ∧ Kept w w' := by
  subst hm; exact number_u n h w
theorem zig_pos (n : Nat) : zig n = 2 * n := by unfold zig; split <;> omega
theorem pos_wrap {n : Nat} (h : I63 n) : IntKind.u64.wrap (2 * IntKind.u64.wrap (n : Int)) = ((zig n : Nat) : Int) := by
  unfold I63 at h
  rw [zig_pos, IntKind.wrap_u64, IntKind.wrap_u64]; omega
theorem neg_wrap {i : Int} (h : I64 i) (hn : i < 0) : IntKind.u64.wrap (IntKind.u64.wrap (2 * IntKind.u64.wrap (wrap64 (-wrap64 (i + 1)))) + 1) = ((zig i : Nat) : Int) := by
  obtain ⟨h1, h2⟩ := h
  rw [IntWalk.wrap64_in (i + 1) ⟨by omega, by omega⟩, IntWalk.wrap64_in (-(i + 1)) ⟨by omega, by omega⟩, IntKind.wrap_u64, IntKind.wrap_u64, IntKind.wrap_u64]
  unfold zig
  rw [if_pos hn]; omega
theorem zig_u64 {i : Int} (h : I64 i) : U64 (zig i) := by
  obtain ⟨h1, h2⟩ := h
  unfold zig U64; split <;> omega
set_option maxHeartbeats 400000 in
set_option maxRecDepth 100000 in
theorem int_pos (n : Nat) (h : I63 n) (hz : U64 (zig n)) (w : World) : Calls Try.prog 14 #[.int .i64 n] w fun e w' => e = .returned (.string (str (num (zig n)))) ∧ Kept w w' := by
  have hc := fun u => number_at _ _ hz (pos_wrap h) u
  have H := Lib.hid h
  clear h
  go_enter Try.func14, Try.ntmps14
  go_wp2_with (go_at_call 31; (with_reducible refine (hc _).mono ?_); rintro e w1 ⟨rfl, hk⟩)
  go_ret
  exact ⟨rfl, hk⟩
set_option maxHeartbeats 400000 in
set_option maxRecDepth 100000 in
theorem int_neg (i : Int) (h : I64 i) (hn : i < 0) (w : World) : Calls Try.prog 14 #[.int .i64 i] w fun e w' => e = .returned (.string (str (num (zig i)))) ∧ Kept w w' := by
  have hc := fun u => number_at _ _ (zig_u64 h) (neg_wrap h hn) u
  have H := Lib.hid h
  clear h
  go_enter Try.func14, Try.ntmps14
  go_wp2_with (go_at_call 31; (with_reducible refine (hc _).mono ?_); rintro e w1 ⟨rfl, hk⟩)
  go_ret
  exact ⟨rfl, hk⟩
theorem int_any (i : Int) (h : I64 i) (w : World) : Calls Try.prog 14 #[.int .i64 i] w fun e w' => e = .returned (.string (str (num (zig i)))) ∧ Kept w w' := by
  by_cases hn : i < 0
  · exact int_neg i h hn w
  · obtain ⟨n, rfl⟩ := Int.eq_ofNat_of_zero_le (show 0 ≤ i by omega)
    exact int_pos n (by have := h.2; unfold I63; omega) (zig_u64 h) w
set_option maxHeartbeats 400000 in
set_option maxRecDepth 100000 in
theorem unint_none {s : ByteArray} (h : uv s = none) (w : World) : Calls Try.prog 22 #[.string s] w fun e w' => e = .returned (.tuple #[.int .i64 0, .string ⟨#[]⟩, .int .i64 4]) ∧ Kept w w' := by
  have H := Lib.hid h
  clear h
  go_enter Try.func22, Try.ntmps22
  go_wp2_with (go_at_call 20; (with_reducible refine (unvar_none H.out _).mono ?_); rintro e w1 ⟨rfl, hk⟩)
  go_ret3
  exact ⟨rfl, hk⟩
theorem tup3 {k : IntKind} {a b : Int} {r : Value} {v : Value} (h : a = b) : Ending.returned (.tuple #[.int k a, r, v]) = .returned (.tuple #[.int k b, r, v]) := by rw [h]
theorem zag_one {n : Nat} (hU : Hid (U64 n)) (h : ((n : Int) % 2 != 0) = true) : wrap64 (wrap64 (-wrap64 (IntKind.u64.wrap ((n : Int) / 2))) - 1) = zag n := by
  have h' : n % 2 = 1 := by simp at h; omega
  have h2 : n < 18446744073709551616 := hU.out
  unfold zag
  have e : IntKind.u64.wrap ((n : Int) / 2) = (n : Int) / 2 := by rw [IntKind.wrap_u64]; omega
  rw [if_pos h', e, IntWalk.wrap64_in ((n : Int) / 2) ⟨by omega, by omega⟩, IntWalk.wrap64_in (-((n : Int) / 2)) ⟨by omega, by omega⟩, IntWalk.wrap64_in _ ⟨by omega, by omega⟩]; omega
theorem zag_zero {n : Nat} (hU : Hid (U64 n)) (h : ((n : Int) % 2 != 0) = false) : wrap64 (IntKind.u64.wrap ((n : Int) / 2)) = zag n := by
  have h' : ¬ n % 2 = 1 := by simp at h; omega
  have h2 : n < 18446744073709551616 := hU.out
  unfold zag
  rw [if_neg h', IntKind.wrap_u64, IntWalk.wrap64_in _ ⟨by omega, by omega⟩]; omega
set_option maxHeartbeats 400000 in
set_option maxRecDepth 100000 in
theorem unint_some {s r : ByteArray} {n : Nat} (h : uv s = some (n, r)) (w : World) : Calls Try.prog 22 #[.string s] w fun e w' => e = .returned (.tuple #[.int .i64 (zag n), .string r, .int .i64 0]) ∧ Kept w w' := by
  have H := Lib.hid h
  have hU := Lib.hid (uv_some h).1
  clear h
  go_enter Try.func22, Try.ntmps22
  go_wp2_with (go_at_call 20; (with_reducible refine (unvar_some H.out _).mono ?_); rintro e w1 ⟨rfl, hk⟩)
  all_goals
    go_ret3
    first | exact ⟨tup3 (zag_one hU (by assumption)), hk⟩ | exact ⟨tup3 (zag_zero hU (by assumption)), hk⟩
/-- What Unint returns. -/
def uiN (s : ByteArray) : Int := match uv s with | some (n, _) => zag n | none => 0
theorem unint_any (s : ByteArray) (w : World) : Calls Try.prog 22 #[.string s] w fun e w' => e = .returned (.tuple #[.int .i64 (uiN s), .string (uvR s), .int .i64 (uvE s)]) ∧ Kept w w' := by
  cases h : uv s with
  | none =>
    have e : uiN s = 0 := by unfold uiN; rw [h]
    rw [e, uvR_none h, uvE_none h]; exact unint_none h w
  | some p =>
    obtain ⟨n, r⟩ := p
    have e : uiN s = zag n := by unfold uiN; rw [h]
    rw [e, uvR_some h, uvE_some h]; exact unint_some h w

/-! Text and Untext. -/
/-- It lies in memory that there is. -/
def Short (s : ByteArray) : Prop := s.size ≤ 140737488351232
theorem i63_size {s : ByteArray} (hs : Short s) : I63 s.size := by unfold Short at hs; unfold I63; omega
theorem u64_size {s : ByteArray} (hs : Short s) : U64 s.size := by unfold Short at hs; unfold U64; omega
theorem str_mk (s : ByteArray) : s = ⟨s.data.toList.toArray⟩ := (str_list s).symm
theorem text_cat (s : ByteArray) (hs : Short s) (w : World) : (Op.stringOp .add ⟨(num s.size).toArray⟩ s).run Try.prog w = .ok (.string (str (num s.size) ++ s)) w := by
  rw [run_string_add_sum w _ _ (by have := (num_len s.size).2; have e := size_str (num s.size); unfold str at e; rw [e]; unfold Short at hs; omega)]
  rfl
set_option maxRecDepth 100000 in
theorem text_any (s : ByteArray) (hs : Short s) (w : World) : Calls Try.prog 16 #[.string s] w fun e w' => e = .returned (.string (str (num s.size) ++ s)) ∧ Kept w w' := by
  have hc := fun u => number_i s.size (i63_size hs) u
  have hcat := text_cat s hs
  obtain ⟨x, hx⟩ : ∃ x : ByteArray, x = ⟨(num s.size).toArray⟩ := ⟨_, rfl⟩
  obtain ⟨y, hy⟩ : ∃ y : ByteArray, y = str (num s.size) ++ s := ⟨_, rfl⟩
  rw [← hy] at hcat
  rw [← hx] at hc hcat
  rw [← hy]
  clear hx hy hs
  go_enter Try.func16, Try.ntmps16
  go_wp2_with (go_at_call 32; (with_reducible refine (hc _).mono ?_); rintro e w1 ⟨rfl, hk⟩)
  go_ret
  exact ⟨rfl, hk⟩
set_option maxHeartbeats 400000 in
set_option maxRecDepth 100000 in
theorem untext_none {s : ByteArray} (h : uv s = none) (w : World) : Calls Try.prog 24 #[.string s] w fun e w' => e = .returned (.tuple #[.string ⟨#[]⟩, .string ⟨#[]⟩, .int .i64 4]) ∧ Kept w w' := by
  have H := Lib.hid h
  clear h
  go_enter Try.func24, Try.ntmps24
  go_wp2_with (go_at_call 20; (with_reducible refine (unvar_none H.out _).mono ?_); rintro e w1 ⟨rfl, hk⟩)
  go_ret3
  exact ⟨rfl, hk⟩
theorem size_wrap {r : ByteArray} (h : I63 r.size) : IntKind.u64.wrap (r.size : Int) = (r.size : Int) := wrap_u64 (u64_i63 h)
set_option maxHeartbeats 400000 in
set_option maxRecDepth 100000 in
theorem untext_short {s r : ByteArray} {n : Nat} (h : uv s = some (n, r)) (hr : I63 r.size) (hn : r.size < n) (w : World) : Calls Try.prog 24 #[.string s] w fun e w' => e = .returned (.tuple #[.string ⟨#[]⟩, .string ⟨#[]⟩, .int .i64 4]) ∧ Kept w w' := by
  have H := Lib.hid h
  have hw := size_wrap hr
  have hd : decide (r.size < n) = true := by simpa using hn
  clear h hn hr
  go_enter Try.func24, Try.ntmps24
  go_wp2_with (go_at_call 20; (with_reducible refine (unvar_some H.out _).mono ?_); rintro e w1 ⟨rfl, hk⟩)
  go_ret3
  exact ⟨rfl, hk⟩
set_option maxHeartbeats 400000 in
set_option maxRecDepth 100000 in
theorem untext_ok {s r : ByteArray} {n : Nat} (h : uv s = some (n, r)) (hr : I63 r.size) (hn : n ≤ r.size) (w : World) : Calls Try.prog 24 #[.string s] w fun e w' => e = .returned (.tuple #[.string (r.extract 0 n), .string (r.extract n r.size), .int .i64 0]) ∧ Kept w w' := by
  have H := Lib.hid h
  have hw := size_wrap hr
  have hd : decide (r.size < n) = false := by simpa using hn
  have i1 : (n : Int) ≤ (r.size : Int) := by omega
  have i2 : (0 : Int) ≤ (n : Int) := by omega
  clear h hn hr
  go_enter Try.func24, Try.ntmps24
  go_wp2_with (go_at_call 20; (with_reducible refine (unvar_some H.out _).mono ?_); rintro e w1 ⟨rfl, hk⟩)
  go_quiet (fail)
  go_wp2_with fail
  go_ret3
  exact ⟨rfl, hk.drewN _⟩
/-- What Untext returns. -/
def utS (s : ByteArray) : ByteArray := match ut s with | some (x, _) => x | none => ⟨#[]⟩
def utR (s : ByteArray) : ByteArray := match ut s with | some (_, r) => r | none => ⟨#[]⟩
def utE (s : ByteArray) : Int := match ut s with | some _ => 0 | none => 4
theorem untext_any (s : ByteArray) (hs : I63 s.size) (w : World) : Calls Try.prog 24 #[.string s] w fun e w' => e = .returned (.tuple #[.string (utS s), .string (utR s), .int .i64 (utE s)]) ∧ Kept w w' := by
  cases h : uv s with
  | none =>
    have hu : ut s = none := by unfold ut; rw [h]
    unfold utS utR utE; rw [hu]; exact untext_none h w
  | some p =>
    obtain ⟨n, r⟩ := p
    have hr : I63 r.size := Nat.lt_trans (uv_some h).2.2 hs
    by_cases hn : n ≤ r.size
    · have hu : ut s = some (r.extract 0 n, r.extract n r.size) := by unfold ut; rw [h]; simp only [if_pos hn]
      unfold utS utR utE; rw [hu]; exact untext_ok h hr hn w
    · have hu : ut s = none := by unfold ut; rw [h]; simp only [if_neg hn]
      unfold utS utR utE; rw [hu]; exact untext_short h hr (by omega) w
end Go.Proofs.Ytghnaimpcjbhdaa.Pk
