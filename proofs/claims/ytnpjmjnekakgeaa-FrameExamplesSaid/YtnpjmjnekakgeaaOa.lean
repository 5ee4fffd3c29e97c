/-
  Arguments opened: numbers, strings, bools.
-/
import Derived.Test.YtnpjmjnekakgeaaOpen
import Derived.ShutString
namespace Go.Proofs.Ytnpjmjnekakgeaa.Mem
open Go.RowKit Go.ChangeShapes Go.WideShapes Go.ChangeAt

section
variable {H : Type} {enc : TypeId × Value → H} {W : World} {v : Value} {d : DataW H} {p : List MemPlace} {r : Reach} {b0 : Nat}
theorem open_u8 (hv : Value.okWide Try.prog W r b0 5 v) (h : DataW.Trod enc Try.prog W 0 (fun _ => true) true 5 v d p) : ∃ n : Nat, n ≤ 255 ∧ v = .int .u8 (n : Int) := by
  obtain ⟨n, rfl, _, _, hw⟩ := open_int Try.underlying5 hv h
  have b := bounds_u8 hw
  obtain ⟨m, rfl⟩ := Int.eq_ofNat_of_zero_le b.1
  exact ⟨m, by omega, rfl⟩
theorem open_i64 (hv : Value.okWide Try.prog W r b0 3 v) (h : DataW.Trod enc Try.prog W 0 (fun _ => true) true 3 v d p) : ∃ n : Int, (-9223372036854775808 ≤ n ∧ n ≤ 9223372036854775807) ∧ v = .int .i64 n := by
  obtain ⟨n, rfl, _, _, hw⟩ := open_int Try.underlying3 hv h
  exact ⟨n, bounds_i64 hw, rfl⟩
theorem open_str (hv : Value.okWide Try.prog W r b0 9 v) (h : DataW.Trod enc Try.prog W 0 (fun _ => true) true 9 v d p) : ∃ s : ByteArray, s.size ≤ maxLen ∧ v = .string s := by
  obtain ⟨s, rfl⟩ := okWide_string Try.underlying9 hv
  obtain ⟨fuel, hf⟩ := h
  obtain ⟨s', e, _, hs⟩ := DataW.trod_string Try.underlying9 hf
  obtain rfl : s = s' := by simpa [Value.cells] using e
  exact ⟨s, hs, rfl⟩
theorem open_u16 (hv : Value.okWide Try.prog W r b0 41 v) (h : DataW.Trod enc Try.prog W 0 (fun _ => true) true 41 v d p) : ∃ n : Nat, n ≤ 65535 ∧ v = .int .u16 (n : Int) := by
  obtain ⟨n, rfl, _, _, hw⟩ := open_int Try.underlying41 hv h
  have b := bounds_u16 hw
  obtain ⟨m, rfl⟩ := Int.eq_ofNat_of_zero_le b.1
  exact ⟨m, by omega, rfl⟩
theorem open_u32 (hv : Value.okWide Try.prog W r b0 34 v) (h : DataW.Trod enc Try.prog W 0 (fun _ => true) true 34 v d p) : ∃ n : Nat, n ≤ 4294967295 ∧ v = .int .u32 (n : Int) := by
  obtain ⟨n, rfl, _, _, hw⟩ := open_int Try.underlying34 hv h
  have b := bounds_u32 hw
  obtain ⟨m, rfl⟩ := Int.eq_ofNat_of_zero_le b.1
  exact ⟨m, by omega, rfl⟩
theorem open_b (hv : Value.okWide Try.prog W r b0 4 v) (_h : DataW.Trod enc Try.prog W 0 (fun _ => true) true 4 v d p) : ∃ q : Bool, True ∧ v = .bool q := by
  obtain ⟨q, rfl⟩ := okWide_bool Try.underlying4 hv
  exact ⟨q, trivial, rfl⟩
end
end Go.Proofs.Ytnpjmjnekakgeaa.Mem
