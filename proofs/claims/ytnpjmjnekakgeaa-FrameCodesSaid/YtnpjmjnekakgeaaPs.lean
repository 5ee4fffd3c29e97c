/-
  What Int, Unint, Text and Untext of package pack do.
-/
import Derived.Test.YtnpjmjnekakgeaaPr
namespace Go.Proofs.Ytnpjmjnekakgeaa.Pk
open Go.RowKit Go.Proofs.Ytnpjmjnekakgeaa.Mem

/-- It is an int. -/
def I64 (i : Int) : Prop := -9223372036854775808 ≤ i ∧ i < 9223372036854775808
theorem zig_pos (n : Nat) : zig n = 2 * n := by unfold zig; split <;> omega
theorem pos_wrap {n : Nat} (h : I63 n) : IntKind.u64.wrap (2 * IntKind.u64.wrap (n : Int)) = ((zig n : Nat) : Int) := by
  unfold I63 at h
  rw [zig_pos, IntKind.wrap_u64, IntKind.wrap_u64]; omega
theorem neg_wrap {i : Int} (h : I64 i) (hn : i < 0) : IntKind.u64.wrap (IntKind.u64.wrap (2 * IntKind.u64.wrap (wrap64 (-wrap64 (i + 1)))) + 1) = ((zig i : Nat) : Int) := by
  obtain ⟨h1, h2⟩ := h
  rw [IntWalk.wrap64_in (i + 1) ⟨by omega, by omega⟩, IntWalk.wrap64_in (-(i + 1)) ⟨by omega, by omega⟩, IntKind.wrap_u64, IntKind.wrap_u64, IntKind.wrap_u64]
  unfold zig
  rw [if_pos hn]; omega
theorem zig_u64 {i : Int} (h : I64 i) : U64 (zig i) := by
  obtain ⟨h1, h2⟩ := h
  unfold zig U64; split <;> omega
theorem tup3 {k : IntKind} {a b : Int} {r : Value} {v : Value} (h : a = b) : Ending.returned (.tuple #[.int k a, r, v]) = .returned (.tuple #[.int k b, r, v]) := by rw [h]
theorem zag_one {n : Nat} (hU : Hid (U64 n)) (h : ((n : Int) % 2 != 0) = true) : wrap64 (wrap64 (-wrap64 (IntKind.u64.wrap ((n : Int) / 2))) - 1) = zag n := by
  have h' : n % 2 = 1 := by simp at h; omega
  have h2 : n < 18446744073709551616 := hU.out
  unfold zag
  have e : IntKind.u64.wrap ((n : Int) / 2) = (n : Int) / 2 := by rw [IntKind.wrap_u64]; omega
  rw [if_pos h', e, IntWalk.wrap64_in ((n : Int) / 2) ⟨by omega, by omega⟩, IntWalk.wrap64_in (-((n : Int) / 2)) ⟨by omega, by omega⟩, IntWalk.wrap64_in _ ⟨by omega, by omega⟩]; omega
theorem zag_zero {n : Nat} (hU : Hid (U64 n)) (h : ((n : Int) % 2 != 0) = false) : wrap64 (IntKind.u64.wrap ((n : Int) / 2)) = zag n := by
  have h' : ¬ n % 2 = 1 := by simp at h; omega
  have h2 : n < 18446744073709551616 := hU.out
  unfold zag
  rw [if_neg h', IntKind.wrap_u64, IntWalk.wrap64_in _ ⟨by omega, by omega⟩]; omega
/-- What Unint returns. -/
def uiN (s : ByteArray) : Int := match uv s with | some (n, _) => zag n | none => 0
/-! Text and Untext. -/
/-- It lies in memory that there is. -/
def Short (s : ByteArray) : Prop := s.size ≤ 140737488351232
theorem i63_size {s : ByteArray} (hs : Short s) : I63 s.size := by unfold Short at hs; unfold I63; omega
theorem u64_size {s : ByteArray} (hs : Short s) : U64 s.size := by unfold Short at hs; unfold U64; omega
theorem str_mk (s : ByteArray) : s = ⟨s.data.toList.toArray⟩ := (str_list s).symm
theorem text_cat (s : ByteArray) (hs : Short s) (w : World) : (Op.stringOp .add ⟨(num s.size).toArray⟩ s).run Try.prog w = .ok (.string (str (num s.size) ++ s)) w := by
  rw [run_string_add_sum w _ _ (by have := (num_len s.size).2; have e := size_str (num s.size); unfold str at e; rw [e]; unfold Short at hs; omega)]
  rfl
theorem size_wrap {r : ByteArray} (h : I63 r.size) : IntKind.u64.wrap (r.size : Int) = (r.size : Int) := wrap_u64 (u64_i63 h)
/-- What Untext returns. -/
def utS (s : ByteArray) : ByteArray := match ut s with | some (x, _) => x | none => ⟨#[]⟩
def utR (s : ByteArray) : ByteArray := match ut s with | some (_, r) => r | none => ⟨#[]⟩
def utE (s : ByteArray) : Int := match ut s with | some _ => 0 | none => 4
end Go.Proofs.Ytnpjmjnekakgeaa.Pk
