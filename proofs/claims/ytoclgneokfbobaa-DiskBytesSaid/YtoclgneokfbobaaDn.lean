/-
  Layer 4: bytes of sectors when writes are settled (plain mathematics).
-/
import Derived.Test.YtoclgneokfbobaaDm
namespace Go.Proofs.Ytoclgneokfbobaa.Dz
open Go.RowKit Go.ChangeShapes Go.WideShapes Go.ChangeAt Go.Proofs.Ytoclgneokfbobaa.Mem Go.Proofs.Ytoclgneokfbobaa.Fz
set_option linter.unusedVariables false

/-- The byte at b. -/
def gb (s : ByteArray) (b : Nat) : Nat := (s.data.toList.getD b 0).toNat
theorem gb_mix {n : Nat} {a o : ByteArray} (hn : n ≤ 80) (ha : a.size = 80) (ho : o.size = 80) {b : Nat} (hb : b < 80) : gb (mix n a o) b = gb a b ∨ gb (mix n a o) b = gb o b := by
  have ha' : a.data.toList.length = 80 := by simpa using ha
  have ho' : o.data.toList.length = 80 := by simpa using ho
  have e : (mix n a o).data.toList = a.data.toList.take n ++ o.data.toList.drop n := by
    unfold mix
    simp only [ByteArray.data_append, ByteArray.data_extract, Array.toList_append, Array.toList_extract, List.extract_eq_take_drop]
    rw [List.drop_zero, Nat.sub_zero, List.take_of_length_le (l := o.data.toList.drop n) (by rw [List.length_drop, ho', ho]; exact Nat.le_refl _)]
  unfold gb
  rw [e]
  by_cases h : b < n
  · left
    rw [List.getD_eq_getElem?_getD, List.getD_eq_getElem?_getD, List.getElem?_append_left (by rw [List.length_take]; omega), List.getElem?_take_of_lt h]
  · right
    have hl : (a.data.toList.take n).length = n := by rw [List.length_take]; omega
    rw [List.getD_eq_getElem?_getD, List.getD_eq_getElem?_getD, List.getElem?_append_right (by omega), hl, List.getElem?_drop]
    congr 3; omega
theorem gb_settle {f : Nat → Nat} (hf : ∀ k, f k ≤ 80) {l : Pend} {d : Nat → ByteArray} {n : Nat} (hl : ∀ p ∈ l, p.1 < n ∧ p.2.size = 80) (hd : ∀ i, i < n → (d i).size = 80) {i b : Nat} (hi : i < n) (hb : b < 80) :
    ∀ k, k ≤ l.length → gb (settle f l d k i) b = gb (d i) b ∨ ∃ j, ∃ h : j < l.length, j < k ∧ l[j].1 = i ∧ gb (settle f l d k i) b = gb l[j].2 b
  | 0, _ => .inl rfl
  | k + 1, hk => by
    have hlt : k < l.length := hk
    have ih := gb_settle hf hl hd hi hb k (by omega)
    have hp := hl l[k] (List.getElem_mem hlt)
    have later : (gb (settle f l d k i) b = gb (d i) b ∨ ∃ j, ∃ h : j < l.length, j < k ∧ l[j].1 = i ∧ gb (settle f l d k i) b = gb l[j].2 b) → ∀ v, v = gb (settle f l d k i) b → (v = gb (d i) b ∨ ∃ j, ∃ h : j < l.length, j < k + 1 ∧ l[j].1 = i ∧ v = gb l[j].2 b) := fun h v hv => by
      subst hv
      rcases h with h | ⟨j, h1, h2, h3, h4⟩
      · exact .inl h
      · exact .inr ⟨j, h1, by omega, h3, h4⟩
    rw [settle_succ hlt]
    unfold put
    by_cases e : i = l[k].1
    · rw [if_pos e]
      rcases gb_mix (hf k) hp.2 (size_settle hf hl hd k _ hp.1) hb with h | h
      · exact .inr ⟨k, hlt, by omega, e.symm, h⟩
      · exact later ih _ (by rw [h, ← e])
    · rw [if_neg e]; exact later ih _ rfl
/-- The pending writes of a disk that is filled. -/
theorem fill_some (n : Nat) (X : Nat → Put) (K : Nat) : ∀ m, (fillTo n X K (K + m)).pend = (List.range m).map (fun j => ((X (K + j)).i % n, sec (X (K + j)).b))
  | 0 => by
    cases K with
    | zero => rfl
    | succ k => simp [fillTo, Ds.settled]
  | m + 1 => by
    have ih := fill_some n X K m
    have e : fillTo n X K (K + (m + 1)) = (fillTo n X K (K + m)).wrote ((X (K + m)).i % n) (sec (X (K + m)).b) := by
      show fillTo n X K ((K + m) + 1) = _
      simp only [fillTo]
      rw [if_neg (by omega)]
    rw [e]
    simp [Ds.wrote, ih, List.range_succ]
/-- Does write K + j account for the byte v at b of sector i? -/
def hit (n : Nat) (X : Nat → Put) (i b v j : Nat) : Bool := decide ((X j).i % n = i) && decide (v = gb (sec (X j).b) b)
def may (e : Bool) (n : Nat) (X : Nat → Put) (i b v K : Nat) : Nat → Bool
  | 0 => e
  | m + 1 => may e n X i b v K m || hit n X i b v (K + m)
theorem may_of {e : Bool} {n : Nat} {X : Nat → Put} {i b v K : Nat} : ∀ m, (e = true ∨ ∃ j, j < m ∧ hit n X i b v (K + j) = true) → may e n X i b v K m = true
  | 0, h => by rcases h with h | ⟨j, h, _⟩; exact h; omega
  | m + 1, h => by
    unfold may
    rcases h with h | ⟨j, hj, h⟩
    · rw [may_of m (.inl h)]; rfl
    · by_cases e : j = m
      · subst e; rw [h]; simp
      · rw [may_of m (.inr ⟨j, by omega, h⟩)]; rfl
theorem may_all {n : Nat} {X : Nat → Put} {K m : Nat} (h1 : 1 ≤ n) (h2 : n ≤ 65536) {f : Nat → Nat} (hf : ∀ k, f k ≤ 80) {i b : Nat} (hi : i < n) (hb : b < 80) :
    may (decide (gb (((fillTo n X K (K + m)).settled f).dur i) b = gb ((fillTo n X K (K + m)).dur i) b)) n X i b (gb (((fillTo n X K (K + m)).settled f).dur i) b) K m = true := by
  have hfull := full_to (X := X) (some := K) h1 h2 (K + m)
  have hp := fill_some n X K m
  apply may_of
  have q : gb (((fillTo n X K (K + m)).settled f).dur i) b = gb ((fillTo n X K (K + m)).dur i) b ∨ ∃ j, ∃ h : j < (fillTo n X K (K + m)).pend.length, j < (fillTo n X K (K + m)).pend.length ∧ (fillTo n X K (K + m)).pend[j].1 = i ∧ gb (((fillTo n X K (K + m)).settled f).dur i) b = gb (fillTo n X K (K + m)).pend[j].2 b :=
    gb_settle hf hfull.ok.pend (fun j hj => hfull.ok.dur j hj) (b := b) (i := i) (by rw [hfull.n]; exact hi) hb _ (Nat.le_refl _)
  rcases q with q | ⟨j, hj, _, h3, h4⟩
  · left; exact decide_eq_true q
  · right
    have hj' : j < m := by rw [hp] at hj; simpa using hj
    refine ⟨j, hj', ?_⟩
    have e := List.getElem_of_eq hp hj
    rw [e] at h3 h4
    simp only [List.getElem_map, List.getElem_range] at h3 h4
    unfold hit
    rw [decide_eq_true h3, Bool.true_and]
    exact decide_eq_true h4
theorem index_c (s : ByteArray) (b : Nat) (hb : b < s.size) (w : World) : (Instr.index 9 (.string s) (.int .i64 (b : Int))).run Try.prog w = .ok (.int .u8 (gb s b : Int)) w := by
  have h := run_index_string (P := Try.prog) (w := w) (t := 9) (s := s) (k := .i64) (i := (b : Int)) Try.underlying9
  rw [dif_pos ⟨by omega, by omega⟩] at h
  rw [h]
  have e : (s[(b : Int).toNat]'(by simpa using hb)).toNat = gb s b := by
    unfold gb
    have hl : b < s.data.toList.length := by simpa using hb
    simp only [Int.toNat_natCast]
    rw [List.getD_eq_getElem?_getD, List.getElem?_eq_getElem hl]
    rfl
  rw [e]
/-- A row of strings. -/
def fks (f : Nat → ByteArray) (k : Nat) : List Value := (List.range k).map fun i => .string (f i)
theorem fks_succ (f : Nat → ByteArray) (k : Nat) : fks f (k + 1) = fks f k ++ [.string (f k)] := by simp [fks, List.range_succ]
theorem fks_cells {w0 w : World} {L : List As} {i : Nat} {v : Value} {n : Nat} {s : Nat → ByteArray} (h : Own w0 L w) (hi : L[i]? = some (rowA 9 1 v n (fks s n))) (hn : 1 ≤ n) : ∃ g cap, v = .slice (some ⟨g, 0, none⟩) n cap ∧ ∀ (W : World) (M : List As) (j : Nat), Own w0 M W → M[j]? = some (rowA 9 1 v n (fks s n)) → ∀ k, k < n → W.cell? ⟨g, k, none⟩ = some (.string (s k)) := by
  obtain ⟨g, cap, rfl⟩ := row_pos (Own.row h i hi) hn
  refine ⟨g, cap, rfl, fun W M j hW hj k hk => ?_⟩
  have q := (Own.row hW _ hj).cells (g := g) rfl k (.string (s k)) (by simp [fks, hk])
  simpa only [add_plain, Nat.zero_add] using q
end Go.Proofs.Ytoclgneokfbobaa.Dz
