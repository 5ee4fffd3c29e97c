/-
  PROVED: the statement 'PackExamplesSaid': for every input the law PackExamples returns true, and each argument reads afterwards as it read before. No condition.
-/
import Derived.Test.YtghnaimpcjbhdaaPl
import Derived.Test.YtghnaimpcjbhdaaRows
import Derived.WalkKit
import Derived.ProofKit
import Derived.OpenShut
namespace Go.Proofs.Ytghnaimpcjbhdaa.packExamples
open Go.ChangeShapes Go.WideShapes Go.ChangeAt Go.RowKit
open Go.Proofs.Ytghnaimpcjbhdaa.Mem Go.Proofs.Ytghnaimpcjbhdaa.Pk
set_option linter.unusedVariables false      -- a walk need not use every 'w<i>' (that an integer argument fits its kind)

theorem own : ownKnob Try.prog.godebug = none := by kernel_rfl

theorem of_1_2 (v : World) : Calls Try.prog 26 #[.slice (some ⟨v.heap.size, 0, none⟩) 2 2] (v.alloc (.cells #[.int .u8 1, .int .u8 2] 5)) fun e w' => e = .returned (.string ⟨#[1, 2]⟩) ∧ Kept v w' :=
  of_lit [1, 2] 2 _ _ rfl rfl rfl v
theorem of_0_0_1_2 (v : World) : Calls Try.prog 26 #[.slice (some ⟨v.heap.size, 0, none⟩) 4 4] (v.alloc (.cells #[.int .u8 0, .int .u8 0, .int .u8 1, .int .u8 2] 5)) fun e w' => e = .returned (.string ⟨#[0, 0, 1, 2]⟩) ∧ Kept v w' :=
  of_lit [0, 0, 1, 2] 4 _ _ rfl rfl rfl v
theorem of_0_0_0_0_0_0_0_0_0 (v : World) : Calls Try.prog 26 #[.slice (some ⟨v.heap.size, 0, none⟩) 9 9] (v.alloc (.cells #[.int .u8 0, .int .u8 0, .int .u8 0, .int .u8 0, .int .u8 0, .int .u8 0, .int .u8 0, .int .u8 0, .int .u8 0] 5)) fun e w' => e = .returned (.string ⟨#[0, 0, 0, 0, 0, 0, 0, 0, 0]⟩) ∧ Kept v w' :=
  of_lit [0, 0, 0, 0, 0, 0, 0, 0, 0] 9 _ _ rfl rfl rfl v
theorem of_255_255_255_255_255_255_255_255_255 (v : World) : Calls Try.prog 26 #[.slice (some ⟨v.heap.size, 0, none⟩) 9 9] (v.alloc (.cells #[.int .u8 255, .int .u8 255, .int .u8 255, .int .u8 255, .int .u8 255, .int .u8 255, .int .u8 255, .int .u8 255, .int .u8 255] 5)) fun e w' => e = .returned (.string ⟨#[255, 255, 255, 255, 255, 255, 255, 255, 255]⟩) ∧ Kept v w' :=
  of_lit [255, 255, 255, 255, 255, 255, 255, 255, 255] 9 _ _ rfl rfl rfl v
theorem of_247 (v : World) : Calls Try.prog 26 #[.slice (some ⟨v.heap.size, 0, none⟩) 1 1] (v.alloc (.cells #[.int .u8 247] 5)) fun e w' => e = .returned (.string ⟨#[247]⟩) ∧ Kept v w' :=
  of_lit [247] 1 _ _ rfl rfl rfl v
theorem of_248_248 (v : World) : Calls Try.prog 26 #[.slice (some ⟨v.heap.size, 0, none⟩) 2 2] (v.alloc (.cells #[.int .u8 248, .int .u8 248] 5)) fun e w' => e = .returned (.string ⟨#[248, 248]⟩) ∧ Kept v w' :=
  of_lit [248, 248] 2 _ _ rfl rfl rfl v
theorem of_249_1_0 (v : World) : Calls Try.prog 26 #[.slice (some ⟨v.heap.size, 0, none⟩) 3 3] (v.alloc (.cells #[.int .u8 249, .int .u8 1, .int .u8 0] 5)) fun e w' => e = .returned (.string ⟨#[249, 1, 0]⟩) ∧ Kept v w' :=
  of_lit [249, 1, 0] 3 _ _ rfl rfl rfl v
theorem of_0 (v : World) : Calls Try.prog 26 #[.slice (some ⟨v.heap.size, 0, none⟩) 1 1] (v.alloc (.cells #[.int .u8 0] 5)) fun e w' => e = .returned (.string ⟨#[0]⟩) ∧ Kept v w' :=
  of_lit [0] 1 _ _ rfl rfl rfl v
theorem of_1 (v : World) : Calls Try.prog 26 #[.slice (some ⟨v.heap.size, 0, none⟩) 1 1] (v.alloc (.cells #[.int .u8 1] 5)) fun e w' => e = .returned (.string ⟨#[1]⟩) ∧ Kept v w' :=
  of_lit [1] 1 _ _ rfl rfl rfl v
theorem of_2 (v : World) : Calls Try.prog 26 #[.slice (some ⟨v.heap.size, 0, none⟩) 1 1] (v.alloc (.cells #[.int .u8 2] 5)) fun e w' => e = .returned (.string ⟨#[2]⟩) ∧ Kept v w' :=
  of_lit [2] 1 _ _ rfl rfl rfl v
theorem of_249_1_0_7 (v : World) : Calls Try.prog 26 #[.slice (some ⟨v.heap.size, 0, none⟩) 4 4] (v.alloc (.cells #[.int .u8 249, .int .u8 1, .int .u8 0, .int .u8 7] 5)) fun e w' => e = .returned (.string ⟨#[249, 1, 0, 7]⟩) ∧ Kept v w' :=
  of_lit [249, 1, 0, 7] 4 _ _ rfl rfl rfl v
theorem of_7 (v : World) : Calls Try.prog 26 #[.slice (some ⟨v.heap.size, 0, none⟩) 1 1] (v.alloc (.cells #[.int .u8 7] 5)) fun e w' => e = .returned (.string ⟨#[7]⟩) ∧ Kept v w' :=
  of_lit [7] 1 _ _ rfl rfl rfl v
theorem of_249_0_9 (v : World) : Calls Try.prog 26 #[.slice (some ⟨v.heap.size, 0, none⟩) 3 3] (v.alloc (.cells #[.int .u8 249, .int .u8 0, .int .u8 9] 5)) fun e w' => e = .returned (.string ⟨#[249, 0, 9]⟩) ∧ Kept v w' :=
  of_lit [249, 0, 9] 3 _ _ rfl rfl rfl v
theorem of_248_247 (v : World) : Calls Try.prog 26 #[.slice (some ⟨v.heap.size, 0, none⟩) 2 2] (v.alloc (.cells #[.int .u8 248, .int .u8 247] 5)) fun e w' => e = .returned (.string ⟨#[248, 247]⟩) ∧ Kept v w' :=
  of_lit [248, 247] 2 _ _ rfl rfl rfl v
theorem of_250_1_2 (v : World) : Calls Try.prog 26 #[.slice (some ⟨v.heap.size, 0, none⟩) 3 3] (v.alloc (.cells #[.int .u8 250, .int .u8 1, .int .u8 2] 5)) fun e w' => e = .returned (.string ⟨#[250, 1, 2]⟩) ∧ Kept v w' :=
  of_lit [250, 1, 2] 3 _ _ rfl rfl rfl v
theorem of_2_97_98_99 (v : World) : Calls Try.prog 26 #[.slice (some ⟨v.heap.size, 0, none⟩) 4 4] (v.alloc (.cells #[.int .u8 2, .int .u8 97, .int .u8 98, .int .u8 99] 5)) fun e w' => e = .returned (.string ⟨#[2, 97, 98, 99]⟩) ∧ Kept v w' :=
  of_lit [2, 97, 98, 99] 4 _ _ rfl rfl rfl v
theorem of_2_97 (v : World) : Calls Try.prog 26 #[.slice (some ⟨v.heap.size, 0, none⟩) 2 2] (v.alloc (.cells #[.int .u8 2, .int .u8 97] 5)) fun e w' => e = .returned (.string ⟨#[2, 97]⟩) ∧ Kept v w' :=
  of_lit [2, 97] 2 _ _ rfl rfl rfl v
theorem of_2_97_98 (v : World) : Calls Try.prog 26 #[.slice (some ⟨v.heap.size, 0, none⟩) 3 3] (v.alloc (.cells #[.int .u8 2, .int .u8 97, .int .u8 98] 5)) fun e w' => e = .returned (.string ⟨#[2, 97, 98]⟩) ∧ Kept v w' :=
  of_lit [2, 97, 98] 3 _ _ rfl rfl rfl v
theorem fx_258_2 (w : World) : Calls Try.prog 10 #[.int .u64 258, .int .i64 2] w fun e w' => e = .returned (.tuple #[.string ⟨#[1, 2]⟩, .int .i64 0]) ∧ Kept w w' := by
  have h := fixed_any 258 2 (by unfold U64; decide) w
  have e1 : fixS 258 2 = ⟨#[1, 2]⟩ := by decide +kernel
  have e2 : fixE 258 2 = 0 := by decide +kernel
  rw [e1, e2] at h; exact h
theorem fx_258_4 (w : World) : Calls Try.prog 10 #[.int .u64 258, .int .i64 4] w fun e w' => e = .returned (.tuple #[.string ⟨#[0, 0, 1, 2]⟩, .int .i64 0]) ∧ Kept w w' := by
  have h := fixed_any 258 4 (by unfold U64; decide) w
  have e1 : fixS 258 4 = ⟨#[0, 0, 1, 2]⟩ := by decide +kernel
  have e2 : fixE 258 4 = 0 := by decide +kernel
  rw [e1, e2] at h; exact h
theorem fx_258_1 (w : World) : Calls Try.prog 10 #[.int .u64 258, .int .i64 1] w fun e w' => e = .returned (.tuple #[.string ⟨#[]⟩, .int .i64 3]) ∧ Kept w w' := by
  have h := fixed_any 258 1 (by unfold U64; decide) w
  have e1 : fixS 258 1 = ⟨#[]⟩ := by decide +kernel
  have e2 : fixE 258 1 = 3 := by decide +kernel
  rw [e1, e2] at h; exact h
theorem fx_0_9 (w : World) : Calls Try.prog 10 #[.int .u64 0, .int .i64 9] w fun e w' => e = .returned (.tuple #[.string ⟨#[]⟩, .int .i64 2]) ∧ Kept w w' := by
  have h := fixed_any 0 9 (by unfold U64; decide) w
  have e1 : fixS 0 9 = ⟨#[]⟩ := by decide +kernel
  have e2 : fixE 0 9 = 2 := by decide +kernel
  rw [e1, e2] at h; exact h
theorem fx_0_0 (w : World) : Calls Try.prog 10 #[.int .u64 0, .int .i64 0] w fun e w' => e = .returned (.tuple #[.string ⟨#[]⟩, .int .i64 2]) ∧ Kept w w' := by
  have h := fixed_any 0 0 (by unfold U64; decide) w
  have e1 : fixS 0 0 = ⟨#[]⟩ := by decide +kernel
  have e2 : fixE 0 0 = 2 := by decide +kernel
  rw [e1, e2] at h; exact h
theorem un_1_2 (w : World) : Calls Try.prog 18 #[.string ⟨#[1, 2]⟩] w fun e w' => e = .returned (.tuple #[.int .u64 258, .int .i64 0]) ∧ Kept w w' := by
  have h := unfixed_any ⟨#[1, 2]⟩ w
  have e1 : ufN ⟨#[1, 2]⟩ = 258 := by decide +kernel
  have e2 : ufE ⟨#[1, 2]⟩ = 0 := by decide +kernel
  rw [e1, e2] at h; exact h
theorem un_none (w : World) : Calls Try.prog 18 #[.string ⟨#[]⟩] w fun e w' => e = .returned (.tuple #[.int .u64 0, .int .i64 2]) ∧ Kept w w' := by
  have h := unfixed_any ⟨#[]⟩ w
  have e1 : ufN ⟨#[]⟩ = 0 := by decide +kernel
  have e2 : ufE ⟨#[]⟩ = 2 := by decide +kernel
  rw [e1, e2] at h; exact h
theorem un_0_0_0_0_0_0_0_0_0 (w : World) : Calls Try.prog 18 #[.string ⟨#[0, 0, 0, 0, 0, 0, 0, 0, 0]⟩] w fun e w' => e = .returned (.tuple #[.int .u64 0, .int .i64 2]) ∧ Kept w w' := by
  have h := unfixed_any ⟨#[0, 0, 0, 0, 0, 0, 0, 0, 0]⟩ w
  have e1 : ufN ⟨#[0, 0, 0, 0, 0, 0, 0, 0, 0]⟩ = 0 := by decide +kernel
  have e2 : ufE ⟨#[0, 0, 0, 0, 0, 0, 0, 0, 0]⟩ = 2 := by decide +kernel
  rw [e1, e2] at h; exact h
theorem va_247 (w : World) : Calls Try.prog 12 #[.int .u64 247] w fun e w' => e = .returned (.string ⟨#[247]⟩) ∧ Kept w w' := by
  have h := var_any 247 (by unfold U64; decide) w
  have e1 : str (num 247) = ⟨#[247]⟩ := by decide +kernel
  rw [e1] at h; exact h
theorem va_248 (w : World) : Calls Try.prog 12 #[.int .u64 248] w fun e w' => e = .returned (.string ⟨#[248, 248]⟩) ∧ Kept w w' := by
  have h := var_any 248 (by unfold U64; decide) w
  have e1 : str (num 248) = ⟨#[248, 248]⟩ := by decide +kernel
  rw [e1] at h; exact h
theorem va_256 (w : World) : Calls Try.prog 12 #[.int .u64 256] w fun e w' => e = .returned (.string ⟨#[249, 1, 0]⟩) ∧ Kept w w' := by
  have h := var_any 256 (by unfold U64; decide) w
  have e1 : str (num 256) = ⟨#[249, 1, 0]⟩ := by decide +kernel
  rw [e1] at h; exact h
theorem va_18446744073709551615 (w : World) : Calls Try.prog 12 #[.int .u64 18446744073709551615] w fun e w' => e = .returned (.string ⟨#[255, 255, 255, 255, 255, 255, 255, 255, 255]⟩) ∧ Kept w w' := by
  have h := var_any 18446744073709551615 (by unfold U64; decide) w
  have e1 : str (num 18446744073709551615) = ⟨#[255, 255, 255, 255, 255, 255, 255, 255, 255]⟩ := by decide +kernel
  rw [e1] at h; exact h
theorem in_0 (w : World) : Calls Try.prog 14 #[.int .i64 0] w fun e w' => e = .returned (.string ⟨#[0]⟩) ∧ Kept w w' := by
  have h := int_any 0 ⟨by decide, by decide⟩ w
  have e1 : str (num (zig 0)) = ⟨#[0]⟩ := by decide +kernel
  rw [e1] at h; exact h
theorem in_m1 (w : World) : Calls Try.prog 14 #[.int .i64 (-1)] w fun e w' => e = .returned (.string ⟨#[1]⟩) ∧ Kept w w' := by
  have h := int_any (-1) ⟨by decide, by decide⟩ w
  have e1 : str (num (zig (-1))) = ⟨#[1]⟩ := by decide +kernel
  rw [e1] at h; exact h
theorem in_1 (w : World) : Calls Try.prog 14 #[.int .i64 1] w fun e w' => e = .returned (.string ⟨#[2]⟩) ∧ Kept w w' := by
  have h := int_any 1 ⟨by decide, by decide⟩ w
  have e1 : str (num (zig 1)) = ⟨#[2]⟩ := by decide +kernel
  rw [e1] at h; exact h
theorem in_m9223372036854775808 (w : World) : Calls Try.prog 14 #[.int .i64 (-9223372036854775808)] w fun e w' => e = .returned (.string ⟨#[255, 255, 255, 255, 255, 255, 255, 255, 255]⟩) ∧ Kept w w' := by
  have h := int_any (-9223372036854775808) ⟨by decide, by decide⟩ w
  have e1 : str (num (zig (-9223372036854775808))) = ⟨#[255, 255, 255, 255, 255, 255, 255, 255, 255]⟩ := by decide +kernel
  rw [e1] at h; exact h
theorem in_124 (w : World) : Calls Try.prog 14 #[.int .i64 124] w fun e w' => e = .returned (.string ⟨#[248, 248]⟩) ∧ Kept w w' := by
  have h := int_any 124 ⟨by decide, by decide⟩ w
  have e1 : str (num (zig 124)) = ⟨#[248, 248]⟩ := by decide +kernel
  rw [e1] at h; exact h
theorem uv_249_1_0_7 (w : World) : Calls Try.prog 20 #[.string ⟨#[249, 1, 0, 7]⟩] w fun e w' => e = .returned (.tuple #[.int .u64 256, .string ⟨#[7]⟩, .int .i64 0]) ∧ Kept w w' := by
  have h := unvar_any ⟨#[249, 1, 0, 7]⟩ w
  have e1 : uvN ⟨#[249, 1, 0, 7]⟩ = 256 := by decide +kernel
  have e2 : uvR ⟨#[249, 1, 0, 7]⟩ = ⟨#[7]⟩ := by decide +kernel
  have e3 : uvE ⟨#[249, 1, 0, 7]⟩ = 0 := by decide +kernel
  rw [e1, e2, e3] at h; exact h
theorem uv_249_0_9 (w : World) : Calls Try.prog 20 #[.string ⟨#[249, 0, 9]⟩] w fun e w' => e = .returned (.tuple #[.int .u64 0, .string ⟨#[]⟩, .int .i64 4]) ∧ Kept w w' := by
  have h := unvar_any ⟨#[249, 0, 9]⟩ w
  have e1 : uvN ⟨#[249, 0, 9]⟩ = 0 := by decide +kernel
  have e2 : uvR ⟨#[249, 0, 9]⟩ = ⟨#[]⟩ := by decide +kernel
  have e3 : uvE ⟨#[249, 0, 9]⟩ = 4 := by decide +kernel
  rw [e1, e2, e3] at h; exact h
theorem uv_248_247 (w : World) : Calls Try.prog 20 #[.string ⟨#[248, 247]⟩] w fun e w' => e = .returned (.tuple #[.int .u64 0, .string ⟨#[]⟩, .int .i64 4]) ∧ Kept w w' := by
  have h := unvar_any ⟨#[248, 247]⟩ w
  have e1 : uvN ⟨#[248, 247]⟩ = 0 := by decide +kernel
  have e2 : uvR ⟨#[248, 247]⟩ = ⟨#[]⟩ := by decide +kernel
  have e3 : uvE ⟨#[248, 247]⟩ = 4 := by decide +kernel
  rw [e1, e2, e3] at h; exact h
theorem uv_250_1_2 (w : World) : Calls Try.prog 20 #[.string ⟨#[250, 1, 2]⟩] w fun e w' => e = .returned (.tuple #[.int .u64 0, .string ⟨#[]⟩, .int .i64 4]) ∧ Kept w w' := by
  have h := unvar_any ⟨#[250, 1, 2]⟩ w
  have e1 : uvN ⟨#[250, 1, 2]⟩ = 0 := by decide +kernel
  have e2 : uvR ⟨#[250, 1, 2]⟩ = ⟨#[]⟩ := by decide +kernel
  have e3 : uvE ⟨#[250, 1, 2]⟩ = 4 := by decide +kernel
  rw [e1, e2, e3] at h; exact h
theorem uv_none (w : World) : Calls Try.prog 20 #[.string ⟨#[]⟩] w fun e w' => e = .returned (.tuple #[.int .u64 0, .string ⟨#[]⟩, .int .i64 4]) ∧ Kept w w' := by
  have h := unvar_any ⟨#[]⟩ w
  have e1 : uvN ⟨#[]⟩ = 0 := by decide +kernel
  have e2 : uvR ⟨#[]⟩ = ⟨#[]⟩ := by decide +kernel
  have e3 : uvE ⟨#[]⟩ = 4 := by decide +kernel
  rw [e1, e2, e3] at h; exact h
theorem ut_2_97_98_99 (w : World) : Calls Try.prog 24 #[.string ⟨#[2, 97, 98, 99]⟩] w fun e w' => e = .returned (.tuple #[.string ⟨#[97, 98]⟩, .string ⟨#[99]⟩, .int .i64 0]) ∧ Kept w w' := by
  have h := untext_any ⟨#[2, 97, 98, 99]⟩ (by unfold I63; decide) w
  have e1 : utS ⟨#[2, 97, 98, 99]⟩ = ⟨#[97, 98]⟩ := by decide +kernel
  have e2 : utR ⟨#[2, 97, 98, 99]⟩ = ⟨#[99]⟩ := by decide +kernel
  have e3 : utE ⟨#[2, 97, 98, 99]⟩ = 0 := by decide +kernel
  rw [e1, e2, e3] at h; exact h
theorem ut_2_97 (w : World) : Calls Try.prog 24 #[.string ⟨#[2, 97]⟩] w fun e w' => e = .returned (.tuple #[.string ⟨#[]⟩, .string ⟨#[]⟩, .int .i64 4]) ∧ Kept w w' := by
  have h := untext_any ⟨#[2, 97]⟩ (by unfold I63; decide) w
  have e1 : utS ⟨#[2, 97]⟩ = ⟨#[]⟩ := by decide +kernel
  have e2 : utR ⟨#[2, 97]⟩ = ⟨#[]⟩ := by decide +kernel
  have e3 : utE ⟨#[2, 97]⟩ = 4 := by decide +kernel
  rw [e1, e2, e3] at h; exact h
theorem tx_ab (w : World) : Calls Try.prog 16 #[.string ⟨#[97, 98]⟩] w fun e w' => e = .returned (.string ⟨#[2, 97, 98]⟩) ∧ Kept w w' := by
  have h := text_any ⟨#[97, 98]⟩ (by unfold Short; decide) w
  have e1 : str (num (ByteArray.size ⟨#[97, 98]⟩)) ++ ⟨#[97, 98]⟩ = ⟨#[2, 97, 98]⟩ := by decide +kernel
  rw [e1] at h; exact h
theorem cell_kept {u wr : World} {cs : Array Value} {T : TypeId} (h : Kept (u.alloc (.cells cs T)) wr) (j : Nat) (v : Value) (hv : cs[j]? = some v) : wr.cell? ⟨u.heap.size, j, none⟩ = some v := by
  rw [Kept.cell h (show u.heap.size < (u.alloc (.cells cs T)).heap.size by simp)]
  have e := (MapKept.heap_alloc u (.cells cs T)).1
  show (match (u.alloc _).heap[u.heap.size]? with | some (.cells c _ _) => c[j]? | _ => none) = _
  rw [e]; exact hv
set_option maxHeartbeats 8000000 in
set_option maxRecDepth 100000 in
theorem walk  (w : World) :
    Calls Try.prog 5 #[] w fun e w' => e = .returned (.bool true) ∧ Kept w w' := by
  have hk := Kept.refl w
  go_enter Try.func5, Try.ntmps5
  go_wp2_with (first
    | (go_at_call 26; (with_reducible refine (of_1_2 _).mono ?_); rintro e u ⟨rfl, hg⟩; have hk := hk.trans hg; clear hg)
    | (go_at_call 26; (with_reducible refine (of_0_0_1_2 _).mono ?_); rintro e u ⟨rfl, hg⟩; have hk := hk.trans hg; clear hg)
    | (go_at_call 26; (with_reducible refine (of_0_0_0_0_0_0_0_0_0 _).mono ?_); rintro e u ⟨rfl, hg⟩; have hk := hk.trans hg; clear hg)
    | (go_at_call 26; (with_reducible refine (of_255_255_255_255_255_255_255_255_255 _).mono ?_); rintro e u ⟨rfl, hg⟩; have hk := hk.trans hg; clear hg)
    | (go_at_call 26; (with_reducible refine (of_247 _).mono ?_); rintro e u ⟨rfl, hg⟩; have hk := hk.trans hg; clear hg)
    | (go_at_call 26; (with_reducible refine (of_248_248 _).mono ?_); rintro e u ⟨rfl, hg⟩; have hk := hk.trans hg; clear hg)
    | (go_at_call 26; (with_reducible refine (of_249_1_0 _).mono ?_); rintro e u ⟨rfl, hg⟩; have hk := hk.trans hg; clear hg)
    | (go_at_call 26; (with_reducible refine (of_0 _).mono ?_); rintro e u ⟨rfl, hg⟩; have hk := hk.trans hg; clear hg)
    | (go_at_call 26; (with_reducible refine (of_1 _).mono ?_); rintro e u ⟨rfl, hg⟩; have hk := hk.trans hg; clear hg)
    | (go_at_call 26; (with_reducible refine (of_2 _).mono ?_); rintro e u ⟨rfl, hg⟩; have hk := hk.trans hg; clear hg)
    | (go_at_call 26; (with_reducible refine (of_249_1_0_7 _).mono ?_); rintro e u ⟨rfl, hg⟩; have hk := hk.trans hg; clear hg)
    | (go_at_call 26; (with_reducible refine (of_7 _).mono ?_); rintro e u ⟨rfl, hg⟩; have hk := hk.trans hg; clear hg)
    | (go_at_call 26; (with_reducible refine (of_249_0_9 _).mono ?_); rintro e u ⟨rfl, hg⟩; have hk := hk.trans hg; clear hg)
    | (go_at_call 26; (with_reducible refine (of_248_247 _).mono ?_); rintro e u ⟨rfl, hg⟩; have hk := hk.trans hg; clear hg)
    | (go_at_call 26; (with_reducible refine (of_250_1_2 _).mono ?_); rintro e u ⟨rfl, hg⟩; have hk := hk.trans hg; clear hg)
    | (go_at_call 26; (with_reducible refine (of_2_97_98_99 _).mono ?_); rintro e u ⟨rfl, hg⟩; have hk := hk.trans hg; clear hg)
    | (go_at_call 26; (with_reducible refine (of_2_97 _).mono ?_); rintro e u ⟨rfl, hg⟩; have hk := hk.trans hg; clear hg)
    | (go_at_call 26; (with_reducible refine (of_2_97_98 _).mono ?_); rintro e u ⟨rfl, hg⟩; have hk := hk.trans hg; clear hg)
    | (go_at_call 10; (with_reducible refine (fx_258_2 _).mono ?_); rintro e u ⟨rfl, hg⟩; have hk := hk.trans hg; clear hg)
    | (go_at_call 10; (with_reducible refine (fx_258_4 _).mono ?_); rintro e u ⟨rfl, hg⟩; have hk := hk.trans hg; clear hg)
    | (go_at_call 10; (with_reducible refine (fx_258_1 _).mono ?_); rintro e u ⟨rfl, hg⟩; have hk := hk.trans hg; clear hg)
    | (go_at_call 10; (with_reducible refine (fx_0_9 _).mono ?_); rintro e u ⟨rfl, hg⟩; have hk := hk.trans hg; clear hg)
    | (go_at_call 10; (with_reducible refine (fx_0_0 _).mono ?_); rintro e u ⟨rfl, hg⟩; have hk := hk.trans hg; clear hg)
    | (go_at_call 18; (with_reducible refine (un_1_2 _).mono ?_); rintro e u ⟨rfl, hg⟩; have hk := hk.trans hg; clear hg)
    | (go_at_call 18; (with_reducible refine (un_none _).mono ?_); rintro e u ⟨rfl, hg⟩; have hk := hk.trans hg; clear hg)
    | (go_at_call 18; (with_reducible refine (un_0_0_0_0_0_0_0_0_0 _).mono ?_); rintro e u ⟨rfl, hg⟩; have hk := hk.trans hg; clear hg)
    | (go_at_call 12; (with_reducible refine (va_247 _).mono ?_); rintro e u ⟨rfl, hg⟩; have hk := hk.trans hg; clear hg)
    | (go_at_call 12; (with_reducible refine (va_248 _).mono ?_); rintro e u ⟨rfl, hg⟩; have hk := hk.trans hg; clear hg)
    | (go_at_call 12; (with_reducible refine (va_256 _).mono ?_); rintro e u ⟨rfl, hg⟩; have hk := hk.trans hg; clear hg)
    | (go_at_call 12; (with_reducible refine (va_18446744073709551615 _).mono ?_); rintro e u ⟨rfl, hg⟩; have hk := hk.trans hg; clear hg)
    | (go_at_call 14; (with_reducible refine (in_0 _).mono ?_); rintro e u ⟨rfl, hg⟩; have hk := hk.trans hg; clear hg)
    | (go_at_call 14; (with_reducible refine (in_m1 _).mono ?_); rintro e u ⟨rfl, hg⟩; have hk := hk.trans hg; clear hg)
    | (go_at_call 14; (with_reducible refine (in_1 _).mono ?_); rintro e u ⟨rfl, hg⟩; have hk := hk.trans hg; clear hg)
    | (go_at_call 14; (with_reducible refine (in_m9223372036854775808 _).mono ?_); rintro e u ⟨rfl, hg⟩; have hk := hk.trans hg; clear hg)
    | (go_at_call 14; (with_reducible refine (in_124 _).mono ?_); rintro e u ⟨rfl, hg⟩; have hk := hk.trans hg; clear hg)
    | (go_at_call 20; (with_reducible refine (uv_249_1_0_7 _).mono ?_); rintro e u ⟨rfl, hg⟩; have hk := hk.trans hg; clear hg)
    | (go_at_call 20; (with_reducible refine (uv_249_0_9 _).mono ?_); rintro e u ⟨rfl, hg⟩; have hk := hk.trans hg; clear hg)
    | (go_at_call 20; (with_reducible refine (uv_248_247 _).mono ?_); rintro e u ⟨rfl, hg⟩; have hk := hk.trans hg; clear hg)
    | (go_at_call 20; (with_reducible refine (uv_250_1_2 _).mono ?_); rintro e u ⟨rfl, hg⟩; have hk := hk.trans hg; clear hg)
    | (go_at_call 20; (with_reducible refine (uv_none _).mono ?_); rintro e u ⟨rfl, hg⟩; have hk := hk.trans hg; clear hg)
    | (go_at_call 24; (with_reducible refine (ut_2_97_98_99 _).mono ?_); rintro e u ⟨rfl, hg⟩; have hk := hk.trans hg; clear hg)
    | (go_at_call 24; (with_reducible refine (ut_2_97 _).mono ?_); rintro e u ⟨rfl, hg⟩; have hk := hk.trans hg; clear hg)
    | (go_at_call 16; (with_reducible refine (tx_ab _).mono ?_); rintro e u ⟨rfl, hg⟩; have hk := hk.trans hg; clear hg))
  go_loopw [179] (fun i wr => ∃ k : Nat, k ≤ 4 ∧ i = .int .i64 k ∧ Kept (u.alloc (.cells #[.string ⟨#[249, 0, 9]⟩, .string ⟨#[248, 247]⟩, .string ⟨#[250, 1, 2]⟩, .string ⟨#[]⟩] 9)) wr) (fun i _ => 4 - (intOf i).toNat)
  case atStart => exact ⟨0, by omega, rfl, Kept.refl _⟩
  case round =>
    obtain ⟨k, hk4, rfl, hr⟩ := hrel
    have h5 : k = 0 ∨ k = 1 ∨ k = 2 ∨ k = 3 ∨ k = 4 := by omega
    clear hk4
    rcases h5 with rfl | rfl | rfl | rfl | rfl
    · have hc := cell_kept hr 0 _ rfl
      go_wp2_with (first
        | (go_at_call 20; (with_reducible refine (uv_249_0_9 _).mono ?_); rintro e v ⟨rfl, hg⟩)
        | (go_at_call 20; (with_reducible refine (uv_248_247 _).mono ?_); rintro e v ⟨rfl, hg⟩)
        | (go_at_call 20; (with_reducible refine (uv_250_1_2 _).mono ?_); rintro e v ⟨rfl, hg⟩)
        | (go_at_call 20; (with_reducible refine (uv_none _).mono ?_); rintro e v ⟨rfl, hg⟩))
      go_roundw
      case rel => exact ⟨1, by omega, rfl, hr.trans hg⟩
      case measure => simp [intOf]
    · have hc := cell_kept hr 1 _ rfl
      go_wp2_with (first
        | (go_at_call 20; (with_reducible refine (uv_249_0_9 _).mono ?_); rintro e v ⟨rfl, hg⟩)
        | (go_at_call 20; (with_reducible refine (uv_248_247 _).mono ?_); rintro e v ⟨rfl, hg⟩)
        | (go_at_call 20; (with_reducible refine (uv_250_1_2 _).mono ?_); rintro e v ⟨rfl, hg⟩)
        | (go_at_call 20; (with_reducible refine (uv_none _).mono ?_); rintro e v ⟨rfl, hg⟩))
      go_roundw
      case rel => exact ⟨2, by omega, rfl, hr.trans hg⟩
      case measure => simp [intOf]
    · have hc := cell_kept hr 2 _ rfl
      go_wp2_with (first
        | (go_at_call 20; (with_reducible refine (uv_249_0_9 _).mono ?_); rintro e v ⟨rfl, hg⟩)
        | (go_at_call 20; (with_reducible refine (uv_248_247 _).mono ?_); rintro e v ⟨rfl, hg⟩)
        | (go_at_call 20; (with_reducible refine (uv_250_1_2 _).mono ?_); rintro e v ⟨rfl, hg⟩)
        | (go_at_call 20; (with_reducible refine (uv_none _).mono ?_); rintro e v ⟨rfl, hg⟩))
      go_roundw
      case rel => exact ⟨3, by omega, rfl, hr.trans hg⟩
      case measure => simp [intOf]
    · have hc := cell_kept hr 3 _ rfl
      go_wp2_with (first
        | (go_at_call 20; (with_reducible refine (uv_249_0_9 _).mono ?_); rintro e v ⟨rfl, hg⟩)
        | (go_at_call 20; (with_reducible refine (uv_248_247 _).mono ?_); rintro e v ⟨rfl, hg⟩)
        | (go_at_call 20; (with_reducible refine (uv_250_1_2 _).mono ?_); rintro e v ⟨rfl, hg⟩)
        | (go_at_call 20; (with_reducible refine (uv_none _).mono ?_); rintro e v ⟨rfl, hg⟩))
      go_roundw
      case rel => exact ⟨4, by omega, rfl, hr.trans hg⟩
      case measure => simp [intOf]
    · have hk := (hk.alloc (.cells #[.string ⟨#[249, 0, 9]⟩, .string ⟨#[248, 247]⟩, .string ⟨#[250, 1, 2]⟩, .string ⟨#[]⟩] 9)).trans hr
      go_wp2_with (first
      | (go_at_call 26; (with_reducible refine (of_1_2 _).mono ?_); rintro e v ⟨rfl, hg⟩; have hk := hk.trans hg; clear hg)
      | (go_at_call 26; (with_reducible refine (of_0_0_1_2 _).mono ?_); rintro e v ⟨rfl, hg⟩; have hk := hk.trans hg; clear hg)
      | (go_at_call 26; (with_reducible refine (of_0_0_0_0_0_0_0_0_0 _).mono ?_); rintro e v ⟨rfl, hg⟩; have hk := hk.trans hg; clear hg)
      | (go_at_call 26; (with_reducible refine (of_255_255_255_255_255_255_255_255_255 _).mono ?_); rintro e v ⟨rfl, hg⟩; have hk := hk.trans hg; clear hg)
      | (go_at_call 26; (with_reducible refine (of_247 _).mono ?_); rintro e v ⟨rfl, hg⟩; have hk := hk.trans hg; clear hg)
      | (go_at_call 26; (with_reducible refine (of_248_248 _).mono ?_); rintro e v ⟨rfl, hg⟩; have hk := hk.trans hg; clear hg)
      | (go_at_call 26; (with_reducible refine (of_249_1_0 _).mono ?_); rintro e v ⟨rfl, hg⟩; have hk := hk.trans hg; clear hg)
      | (go_at_call 26; (with_reducible refine (of_0 _).mono ?_); rintro e v ⟨rfl, hg⟩; have hk := hk.trans hg; clear hg)
      | (go_at_call 26; (with_reducible refine (of_1 _).mono ?_); rintro e v ⟨rfl, hg⟩; have hk := hk.trans hg; clear hg)
      | (go_at_call 26; (with_reducible refine (of_2 _).mono ?_); rintro e v ⟨rfl, hg⟩; have hk := hk.trans hg; clear hg)
      | (go_at_call 26; (with_reducible refine (of_249_1_0_7 _).mono ?_); rintro e v ⟨rfl, hg⟩; have hk := hk.trans hg; clear hg)
      | (go_at_call 26; (with_reducible refine (of_7 _).mono ?_); rintro e v ⟨rfl, hg⟩; have hk := hk.trans hg; clear hg)
      | (go_at_call 26; (with_reducible refine (of_249_0_9 _).mono ?_); rintro e v ⟨rfl, hg⟩; have hk := hk.trans hg; clear hg)
      | (go_at_call 26; (with_reducible refine (of_248_247 _).mono ?_); rintro e v ⟨rfl, hg⟩; have hk := hk.trans hg; clear hg)
      | (go_at_call 26; (with_reducible refine (of_250_1_2 _).mono ?_); rintro e v ⟨rfl, hg⟩; have hk := hk.trans hg; clear hg)
      | (go_at_call 26; (with_reducible refine (of_2_97_98_99 _).mono ?_); rintro e v ⟨rfl, hg⟩; have hk := hk.trans hg; clear hg)
      | (go_at_call 26; (with_reducible refine (of_2_97 _).mono ?_); rintro e v ⟨rfl, hg⟩; have hk := hk.trans hg; clear hg)
      | (go_at_call 26; (with_reducible refine (of_2_97_98 _).mono ?_); rintro e v ⟨rfl, hg⟩; have hk := hk.trans hg; clear hg)
      | (go_at_call 10; (with_reducible refine (fx_258_2 _).mono ?_); rintro e v ⟨rfl, hg⟩; have hk := hk.trans hg; clear hg)
      | (go_at_call 10; (with_reducible refine (fx_258_4 _).mono ?_); rintro e v ⟨rfl, hg⟩; have hk := hk.trans hg; clear hg)
      | (go_at_call 10; (with_reducible refine (fx_258_1 _).mono ?_); rintro e v ⟨rfl, hg⟩; have hk := hk.trans hg; clear hg)
      | (go_at_call 10; (with_reducible refine (fx_0_9 _).mono ?_); rintro e v ⟨rfl, hg⟩; have hk := hk.trans hg; clear hg)
      | (go_at_call 10; (with_reducible refine (fx_0_0 _).mono ?_); rintro e v ⟨rfl, hg⟩; have hk := hk.trans hg; clear hg)
      | (go_at_call 18; (with_reducible refine (un_1_2 _).mono ?_); rintro e v ⟨rfl, hg⟩; have hk := hk.trans hg; clear hg)
      | (go_at_call 18; (with_reducible refine (un_none _).mono ?_); rintro e v ⟨rfl, hg⟩; have hk := hk.trans hg; clear hg)
      | (go_at_call 18; (with_reducible refine (un_0_0_0_0_0_0_0_0_0 _).mono ?_); rintro e v ⟨rfl, hg⟩; have hk := hk.trans hg; clear hg)
      | (go_at_call 12; (with_reducible refine (va_247 _).mono ?_); rintro e v ⟨rfl, hg⟩; have hk := hk.trans hg; clear hg)
      | (go_at_call 12; (with_reducible refine (va_248 _).mono ?_); rintro e v ⟨rfl, hg⟩; have hk := hk.trans hg; clear hg)
      | (go_at_call 12; (with_reducible refine (va_256 _).mono ?_); rintro e v ⟨rfl, hg⟩; have hk := hk.trans hg; clear hg)
      | (go_at_call 12; (with_reducible refine (va_18446744073709551615 _).mono ?_); rintro e v ⟨rfl, hg⟩; have hk := hk.trans hg; clear hg)
      | (go_at_call 14; (with_reducible refine (in_0 _).mono ?_); rintro e v ⟨rfl, hg⟩; have hk := hk.trans hg; clear hg)
      | (go_at_call 14; (with_reducible refine (in_m1 _).mono ?_); rintro e v ⟨rfl, hg⟩; have hk := hk.trans hg; clear hg)
      | (go_at_call 14; (with_reducible refine (in_1 _).mono ?_); rintro e v ⟨rfl, hg⟩; have hk := hk.trans hg; clear hg)
      | (go_at_call 14; (with_reducible refine (in_m9223372036854775808 _).mono ?_); rintro e v ⟨rfl, hg⟩; have hk := hk.trans hg; clear hg)
      | (go_at_call 14; (with_reducible refine (in_124 _).mono ?_); rintro e v ⟨rfl, hg⟩; have hk := hk.trans hg; clear hg)
      | (go_at_call 20; (with_reducible refine (uv_249_1_0_7 _).mono ?_); rintro e v ⟨rfl, hg⟩; have hk := hk.trans hg; clear hg)
      | (go_at_call 20; (with_reducible refine (uv_249_0_9 _).mono ?_); rintro e v ⟨rfl, hg⟩; have hk := hk.trans hg; clear hg)
      | (go_at_call 20; (with_reducible refine (uv_248_247 _).mono ?_); rintro e v ⟨rfl, hg⟩; have hk := hk.trans hg; clear hg)
      | (go_at_call 20; (with_reducible refine (uv_250_1_2 _).mono ?_); rintro e v ⟨rfl, hg⟩; have hk := hk.trans hg; clear hg)
      | (go_at_call 20; (with_reducible refine (uv_none _).mono ?_); rintro e v ⟨rfl, hg⟩; have hk := hk.trans hg; clear hg)
      | (go_at_call 24; (with_reducible refine (ut_2_97_98_99 _).mono ?_); rintro e v ⟨rfl, hg⟩; have hk := hk.trans hg; clear hg)
      | (go_at_call 24; (with_reducible refine (ut_2_97 _).mono ?_); rintro e v ⟨rfl, hg⟩; have hk := hk.trans hg; clear hg)
      | (go_at_call 16; (with_reducible refine (tx_ab _).mono ?_); rintro e v ⟨rfl, hg⟩; have hk := hk.trans hg; clear hg))
      go_ret
      exact ⟨rfl, hk⟩

/-! ### THE ROW's STEP: WRITTEN OUT: LEAVE IT -/
set_option maxRecDepth 100000 in
theorem lifted (os : Os) (started : os.Started) (H : Type) (enc : TypeId × Value → H) :
    ReturnsInHanded {} Try.checked os 5 .any (Rows.packExamplesSpec.pre6 enc Try.prog Try.f5 Rows.packExamplesRow.domain false) (Rows.packExamplesSpec.post enc Try.prog Try.f5 false true false false) := by
  refine returnsInHanded_of_change (C := Try.checked) own started (by kernel_rfl) Try.func5
    (ChangeSpec.witness6 (enc := enc) (C := Try.checked) false ⟨#[], #[], []⟩ 8 (by kernel_rfl) (by kernel_rfl) (by kernel_rfl) (by kernel_rfl)) ?_
  intro W base args ds gs before hval0 hW hcnd _
  have hval : ∀ (j : Nat) t v, Try.f5.params[j]? = some t → args[j]? = some v → Value.okWide Try.prog W .any base t v := hval0
  have hW' := hW
  obtain ⟨p, q, hA0, hV, rfl, hfz, hnd⟩ := hW
  have hA : DataW.TrodAll enc Try.prog W 0 (fun _ => true) true Try.f5.params.toList args.toList ds p := hA0
  rw [Try.params5] at hA hval
  obtain ⟨rfl, rfl, rfl⟩ := trodAll_none hA
  obtain ⟨rfl, rfl⟩ := trodVars_none hV
  clear hA0 hval0
  simp only [List.append_nil] at hW'
  refine (walk  W).mono fun e W' ⟨he, hg⟩ => ?_
  subst he
  exact ⟨_, rfl, _, _, _, [], [], [], hW', (trodAll_cons_mk (shut_bool Try.underlying4 _) trodAll_mk0), rfl, rfl, Below.frame hg _, fun h => by cases h⟩

theorem over : Rows.packExamplesRow.holds Try.pinned (OpenSpec.ofChange Rows.packExamplesSpec) :=
  OpenClaim.holds_of_wide 5 Try.f5 rfl rfl rfl rfl rfl rfl rfl ⟨rfl, rfl, rfl, rfl, rfl⟩ rfl rfl rfl rfl rfl (by kernel_rfl) Try.func5 (by kernel_rfl)
    (of_decide_eq_true (by kernel_rfl)) (by unfold Func.isWrapper; first | (rw [if_pos (by decide +kernel)]; kernel_rfl) | (rw [if_neg (by decide +kernel)]; exact ⟨rfl, rfl⟩))
    (fun os started H enc _ => lifted os started H enc)

/-- ████ THE STATEMENT ████ -/
theorem proved : Rows.PackExamplesSaid :=
  over
#print axioms proved
end Go.Proofs.Ytghnaimpcjbhdaa.packExamples
