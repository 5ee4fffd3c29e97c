/-
  Layer 4: what becomes of writes when they are settled (plain mathematics).
-/
import Derived.Test.YtoclgneokfbobaaDf
namespace Go.Proofs.Ytoclgneokfbobaa.Dz
open Go.RowKit Go.Proofs.Ytoclgneokfbobaa.Mem Go.Proofs.Ytoclgneokfbobaa.Fz
set_option linter.unusedVariables false

/-- All kept. -/
theorem settle_all {f : Nat → Nat} (hf : ∀ k, f k = 80) {l : Pend} {d : Nat → ByteArray} {n : Nat} (hl : ∀ p ∈ l, p.1 < n ∧ p.2.size = 80) (hd : ∀ i, i < n → (d i).size = 80) :
    ∀ k, k ≤ l.length → ∀ i, i < n → settle f l d k i = (last (l.take k) i).getD (d i)
  | 0, _, i, _ => by simp [settle, last]
  | k + 1, hk, i, hi => by
    have hlt : k < l.length := hk
    have ih := settle_all hf hl hd k (by omega)
    have hp := hl l[k] (List.getElem_mem hlt)
    have e : l.take (k + 1) = l.take k ++ [(l[k].1, l[k].2)] := List.take_succ_eq_append_getElem hlt
    rw [settle_succ hlt, e, last_snoc]
    unfold put upd
    by_cases h : i = l[k].1
    · rw [if_pos h, if_pos h, hf, mix_all hp.2 (size_settle (fun k => by rw [hf]; exact Nat.le_refl _) hl hd k _ hp.1)]; rfl
    · rw [if_neg h, if_neg h]; exact ih i hi
theorem settled_look {f : Nat → Nat} (hf : ∀ k, f k = 80) {s : Ds} (h : s.ok) {i : Nat} (hi : i < s.n) : (s.settled f).dur i = s.look i := by
  show settle f s.pend s.dur s.pend.length i = _
  rw [settle_all hf h.pend h.dur _ (Nat.le_refl _) i hi, List.take_length]; rfl
theorem settled_settled (s : Ds) (f g : Nat → Nat) : (s.settled f).settled g = s.settled f := rfl
theorem look_settled (s : Ds) (f : Nat → Nat) (i : Nat) : (s.settled f).look i = (s.settled f).dur i := rfl
theorem left_all (k : Nat) : (⟨18446744073709551615, -1, 0⟩ : Ch).left k = 80 := by
  have h1 : ¬ (k : Int) = -1 := by omega
  have h2 : Nat.testBit 18446744073709551615 (k % 64) = true := by
    have e : (18446744073709551615 : Nat) = 2 ^ 64 - 1 := by decide
    rw [e, Nat.testBit_two_pow_sub_one]
    simp; omega
  simp only [Ch.left, h1, if_false, h2, if_true]
theorem ok_all : (⟨18446744073709551615, -1, 0⟩ : Ch).ok := ⟨by decide, by decide, by decide, by decide, by decide⟩
end Go.Proofs.Ytoclgneokfbobaa.Dz
