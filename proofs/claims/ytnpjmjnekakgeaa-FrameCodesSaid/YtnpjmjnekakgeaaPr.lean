/-
  What Unvar, Unint and Untext of package pack do.
-/
import Derived.Test.YtnpjmjnekakgeaaPq
import Derived.WalkSpells
namespace Go.Proofs.Ytnpjmjnekakgeaa.Pk
open Go.RowKit Go.Proofs.Ytnpjmjnekakgeaa.Mem

theorem not_empty {s : ByteArray} (hs : 0 < s.size) : s.toList.isEmpty = false := by
  rw [Lib.toList_data]
  obtain ⟨t, ht, _⟩ := first_byte s hs
  rw [ht]; rfl
/-- What Unvar returns. -/
def uvN (s : ByteArray) : Nat := match uv s with | some (n, _) => n | none => 0
def uvR (s : ByteArray) : ByteArray := match uv s with | some (_, r) => r | none => ⟨#[]⟩
def uvE (s : ByteArray) : Int := match uv s with | some _ => 0 | none => 4
theorem uvN_some {s r : ByteArray} {n : Nat} (h : uv s = some (n, r)) : uvN s = n := by unfold uvN; rw [h]
theorem uvR_some {s r : ByteArray} {n : Nat} (h : uv s = some (n, r)) : uvR s = r := by unfold uvR; rw [h]
theorem uvE_some {s r : ByteArray} {n : Nat} (h : uv s = some (n, r)) : uvE s = 0 := by unfold uvE; rw [h]
theorem uvN_none {s : ByteArray} (h : uv s = none) : uvN s = 0 := by unfold uvN; rw [h]
theorem uvR_none {s : ByteArray} (h : uv s = none) : uvR s = ⟨#[]⟩ := by unfold uvR; rw [h]
theorem uvE_none {s : ByteArray} (h : uv s = none) : uvE s = 4 := by unfold uvE; rw [h]
end Go.Proofs.Ytnpjmjnekakgeaa.Pk
