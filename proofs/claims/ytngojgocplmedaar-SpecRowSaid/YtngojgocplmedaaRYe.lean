/-
  Rows of numbers as bytes (layers 13, 17, 18, 21, 39), plain mathematics: what was written one after another is read one after another, and what is read is what was written.
-/
import Derived.Test.YtngojgocplmedaaRPb
namespace Go.Proofs.YtngojgocplmedaaR.Nr
open Go.Proofs.YtngojgocplmedaaR.Pk
set_option linter.unusedVariables false

def top : Nat := 4611686018427387904
/-- Numbers, one after another. -/
def encs : List Nat → ByteArray
  | [] => ByteArray.empty
  | n :: l => str (num n) ++ encs l
theorem encs_append (l m : List Nat) : encs (l ++ m) = encs l ++ encs m := by
  induction l with
  | nil => simp [encs]
  | cons n l ih => rw [List.cons_append, encs, encs, ih, ByteArray.append_assoc]
/-- The first k numbers of some bytes, none of them above 2^62, and the rest. -/
def reads : Nat → ByteArray → Option (List Nat × ByteArray)
  | 0, s => some ([], s)
  | k + 1, s => match uv s with
    | some (n, r) => if n ≤ top then (reads k r).map fun p => (n :: p.1, p.2) else none
    | none => none
theorem u64_of {n : Nat} (h : n ≤ top) : U64 n := by unfold U64; unfold top at h; omega
theorem reads_succ {k n : Nat} {s r : ByteArray} (h : uv s = some (n, r)) : reads (k + 1) s = if n ≤ top then (reads k r).map fun p => (n :: p.1, p.2) else none := by
  rw [reads, h]
theorem reads_none {k : Nat} {s : ByteArray} (h : uv s = none) : reads (k + 1) s = none := by
  rw [reads, h]
theorem reads_encs (l : List Nat) (h : ∀ n ∈ l, n ≤ top) (t : ByteArray) : reads l.length (encs l ++ t) = some (l, t) := by
  induction l with
  | nil => simp [encs, reads]
  | cons n l ih =>
    have hn := h n (by simp)
    have e : uv (encs (n :: l) ++ t) = some (n, encs l ++ t) := by
      rw [encs, ByteArray.append_assoc]
      exact uv_num n (u64_of hn) _
    rw [List.length_cons, reads_succ e, if_pos hn, ih (fun m hm => h m (by simp [hm]))]
    rfl
theorem reads_back : ∀ {k : Nat} {s t : ByteArray} {l : List Nat}, reads k s = some (l, t) → l.length = k ∧ (∀ n ∈ l, n ≤ top) ∧ s = encs l ++ t
  | 0, s, t, l, h => by
    have h1 : some (([] : List Nat), s) = some (l, t) := h
    obtain ⟨rfl, rfl⟩ := Prod.mk.inj (Option.some.inj h1)
    exact ⟨rfl, by simp, by simp [encs]⟩
  | k + 1, s, t, l, h => by
    cases e : uv s with
    | none => rw [reads_none e] at h; cases h
    | some p =>
      obtain ⟨n, r⟩ := p
      rw [reads_succ e] at h
      by_cases hn : n ≤ top
      · rw [if_pos hn] at h
        cases e2 : reads k r with
        | none => rw [e2] at h; cases h
        | some p =>
          obtain ⟨m, u⟩ := p
          rw [e2] at h
          have h2 : some (n :: m, u) = some (l, t) := h
          obtain ⟨rfl, rfl⟩ := Prod.mk.inj (Option.some.inj h2)
          obtain ⟨h3, h4, h5⟩ := reads_back e2
          obtain ⟨_, h6, _⟩ := uv_some e
          refine ⟨by rw [List.length_cons, h3], fun x hx => ?_, by rw [h6, h5, encs, ByteArray.append_assoc]⟩
          rcases List.mem_cons.1 hx with rfl | hx
          · exact hn
          · exact h4 x hx
      · rw [if_neg hn] at h; cases h
/-- Two rows of the same length: none begins the other one. -/
theorem encs_inj {l m : List Nat} {t u : ByteArray} (hl : ∀ n ∈ l, n ≤ top) (hm : ∀ n ∈ m, n ≤ top) (hk : l.length = m.length) (h : encs l ++ t = encs m ++ u) : l = m ∧ t = u := by
  have h1 := reads_encs l hl t
  rw [h, hk, reads_encs m hm u] at h1
  obtain ⟨e1, e2⟩ := Prod.mk.inj (Option.some.inj h1)
  exact ⟨e1.symm, e2.symm⟩
/-- A number more. -/
theorem reads_add {k m : Nat} {s t u : ByteArray} {a b : List Nat} (h1 : reads k s = some (a, t)) (h2 : reads m t = some (b, u)) : reads (k + m) s = some (a ++ b, u) := by
  obtain ⟨e1, g1, rfl⟩ := reads_back h1
  obtain ⟨e2, g2, rfl⟩ := reads_back h2
  rw [← ByteArray.append_assoc, ← encs_append]
  have := reads_encs (a ++ b) (fun n hn => (List.mem_append.1 hn).elim (g1 n) (g2 n)) u
  rw [List.length_append, e1, e2] at this
  exact this
theorem size_encs (l : List Nat) : (encs l).size = (l.map fun n => (num n).length).sum := by
  induction l with
  | nil => rfl
  | cons n l ih => rw [encs, ByteArray.size_append, ih, List.map_cons, List.sum_cons]; simp [str, ByteArray.size]
end Go.Proofs.YtngojgocplmedaaR.Nr
