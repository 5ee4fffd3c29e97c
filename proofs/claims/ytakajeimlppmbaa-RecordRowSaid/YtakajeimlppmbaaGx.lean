/-
  Records that are written one after another (RecordRow), as plain mathematics.
-/
import Derived.Test.YtakajeimlppmbaaGw
namespace Go.Proofs.Ytakajeimlppmbaa.Rc
open Go Go.RowKit Go.Proofs.Ytakajeimlppmbaa.Mem Go.Proofs.Ytakajeimlppmbaa.Pk Go.Proofs.Ytakajeimlppmbaa.Fk Go.Proofs.Ytakajeimlppmbaa.Dz Go.Proofs.Ytakajeimlppmbaa.Fz

/-- Where record k begins; its boot. -/
def rowA (x : Nat → ByteArray) : Nat → Nat
  | 0 => 0
  | k + 1 => rowA x k + parts (x k).size
def rowB (g : Nat) : Nat → Nat
  | 0 => 1
  | k + 1 => rowB g k + (g / 2 ^ k) % 2
def rowR (x : Nat → ByteArray) (g : Nat) (q : Int) : Nat → Ds
  | 0 => fresh 80 .idle
  | k + 1 => laid (rowR x g q k) (rowA x k) (sec (rowB g k) (q + k) 2 (x k)) (parts (x k).size)
theorem rowA_le {x : Nat → ByteArray} : ∀ {k : Nat}, (∀ i, i < k → (x i).size ≤ 200) → rowA x k ≤ 5 * k
  | 0, _ => Nat.le_refl _
  | k + 1, h => by
    have := rowA_le (x := x) (k := k) fun i hi => h i (by omega)
    have h2 := h k (by omega)
    show rowA x k + parts (x k).size ≤ _
    unfold parts
    omega
theorem rowA_mono {x : Nat → ByteArray} : ∀ {j k : Nat}, j ≤ k → rowA x j ≤ rowA x k
  | j, 0, h => by obtain rfl : j = 0 := by omega
                  exact Nat.le_refl _
  | j, k + 1, h => by
    by_cases e : j = k + 1
    · rw [e]; exact Nat.le_refl _
    · exact Nat.le_trans (rowA_mono (show j ≤ k by omega)) (Nat.le_add_right _ _)
theorem rowB_le (g : Nat) : ∀ k, 1 ≤ rowB g k ∧ rowB g k ≤ k + 1
  | 0 => ⟨Nat.le_refl _, Nat.le_refl _⟩
  | k + 1 => by
    have := rowB_le g k
    show 1 ≤ rowB g k + _ ∧ rowB g k + (g / 2 ^ k) % 2 ≤ _
    omega
theorem row_num {g : Nat} {q : Int} (hq : 1 ≤ q ∧ q ≤ 1000) {k : Nat} (hk : k ≤ 12) : num (rowB g k) (q + k) := by
  have := rowB_le g k
  exact ⟨by omega, by omega, by omega, by omega⟩
structure RowOk (x : Nat → ByteArray) (g : Nat) (q : Int) (k : Nat) : Prop where
  ok : (rowR x g q k).ok
  n : (rowR x g q k).n = 80
  fu : (rowR x g q k).fu = .idle
  len : (rowR x g q k).pend.length = rowA x k
  look : ∀ i, i < k → ∀ j, j < parts (x i).size → (rowR x g q k).look (rowA x i + j) = sec (rowB g i) (q + i) 2 (x i) j
  rest : ∀ i, rowA x k ≤ i → (rowR x g q k).look i = Z
theorem row_ok {x : Nat → ByteArray} {g : Nat} {q : Int} (hq : 1 ≤ q ∧ q ≤ 1000) : ∀ {k : Nat}, k ≤ 12 → (∀ i, i < k → (x i).size ≤ 200) → RowOk x g q k
  | 0, _, _ => ⟨ok_fresh (n := 80) (f := .idle) (by decide) (by decide) trivial, rfl, rfl, rfl, fun i h => absurd h (by omega), fun i _ => rfl⟩
  | k + 1, hk, h => by
    have ih := row_ok hq (x := x) (g := g) (k := k) (by omega) fun i hi => h i (by omega)
    have hA := rowA_le (x := x) (k := k) fun i hi => h i (by omega)
    have hs := h k (by omega)
    have hp : parts (x k).size ≤ 5 := by unfold parts; omega
    refine ⟨laid_ok ih.ok (by rw [ih.n]; omega) fun i hi => sec_size (row_num hq (by omega)) (by omega) hi, (laid_n _ _ _ _).trans ih.n, (laid_fu _ _ _ _).trans ih.fu, by
      show (laid _ _ _ _).pend.length = rowA x k + _
      rw [laid_len, ih.len], fun i hi j hj => ?_, fun i hi => ?_⟩
    · show (laid _ _ _ _).look _ = _
      rw [laid_look]
      by_cases e : i = k
      · subst e
        rw [if_pos (by omega)]; congr 1; omega
      · have hm := rowA_mono (x := x) (show i + 1 ≤ k by omega)
        have : rowA x (i + 1) = rowA x i + parts (x i).size := rfl
        rw [if_neg (by omega)]
        exact ih.look i (by omega) j hj
    · have : rowA x (k + 1) = rowA x k + parts (x k).size := rfl
      show (laid _ _ _ _).look _ = _
      rw [laid_look, if_neg (by omega)]
      exact ih.rest i (by omega)
/-- The boot that is asked for at record k. -/
def rowC (g : Nat) : Nat → Nat
  | 0 => 1
  | k + 1 => rowB g k
theorem rowC_le (g : Nat) : ∀ k, rowC g k ≤ rowB g k
  | 0 => Nat.le_refl _
  | _ + 1 => Nat.le_add_right _ _
theorem row_found {x : Nat → ByteArray} {g : Nat} {q : Int} (hq : 1 ≤ q ∧ q ≤ 1000) {n k : Nat} (hn : n ≤ 12) (h : ∀ i, i < n → (x i).size ≤ 200) (hk : k < n) :
    rdOk (rowR x g q n).look (rowA x k) (rowA x n) (q + k) (rowC g k) ⟨rowB g k, q + k, 0, parts (x k).size, 2, x k⟩ := by
  have R := row_ok hq (x := x) (g := g) hn h
  have hm := rowA_mono (x := x) (show k + 1 ≤ n by omega)
  have e : rowA x (k + 1) = rowA x k + parts (x k).size := rfl
  exact rd_written (row_num hq (by omega)) (by decide) (by have := h k hk; omega) (fun i hi => R.look k hk i hi) (by have := rowC_le g k; omega) (by omega)
theorem row_end {x : Nat → ByteArray} {g : Nat} {q : Int} (hq : 1 ≤ q ∧ q ≤ 1000) {n : Nat} (hn : n ≤ 12) (h : ∀ i, i < n → (x i).size ≤ 200) (u : Nat) (lsn boot : Int) (r : Fr) : ¬ rdOk (rowR x g q n).look (rowA x n) u lsn boot r := by
  have R := row_ok hq (x := x) (g := g) hn h
  refine rd_head (.inr (.inl ?_)) r
  rw [R.rest _ (Nat.le_refl _), Z_str]
  rcases decE_or (str (List.replicate 80 0)) with ⟨_, h⟩ | ⟨h, _⟩
  · rw [zeros_none] at h; cases h
  · rw [h]; decide
end Go.Proofs.Ytakajeimlppmbaa.Rc
