/-
  Slices of amounts cut and appended to (ResSums, ResParts, ResExamples): plain mathematics and run equations.
-/
import Derived.Test.YtdendciedodffaaVh
import Derived.Laws.AppendOwnNone
import Derived.Maps.AppendAt
import Derived.Deep.AppendLies
namespace Go.Proofs.Ytdendciedodffaa.Re
open Go.RowKit Go.Proofs.Ytdendciedodffaa.Mem Go.Proofs.Ytdendciedodffaa.Bx Go.ChangeShapes Go.WideShapes Go.ChangeAt

/-- Where a part of a slice begins. -/
def subA (ao : Option Addr) (c l : Nat) : Option Addr := if c = l then ao else ao.map (·.add (l * 3))
theorem sub_size : ∀ W, (sizeOf (Try.prog.elem 30)).run Try.prog W = .ok 3 W := fun _ => by kernel_rfl
set_option maxRecDepth 100000 in
theorem sub_h (ao : Option Addr) (n c m : Nat) (h : m ≤ c) (W : World) : (Instr.slice 30 (.slice ao n c) none (some (.int .i64 (m : Int))) none).run Try.prog W = .ok (.slice (subA ao c 0) m c) W := by
  rw [run_slice_h W 30 ao n c Try.underlying30 .i64 (m : Int) (by omega) (by omega), sub_size]
  show Result.ok (sliced ao 0 (m : Int).toNat c 3) W = _
  unfold sliced subA
  rw [Int.toNat_natCast]; rfl
set_option maxRecDepth 100000 in
theorem sub_l (ao : Option Addr) (n c m : Nat) (h : m ≤ n) (W : World) : (Instr.slice 30 (.slice ao n c) (some (.int .i64 (m : Int))) none none).run Try.prog W = .ok (.slice (subA ao c m) (n - m) (c - m)) W := by
  rw [run_slice_l W 30 ao n c Try.underlying30 .i64 (m : Int) (by omega) (by omega), sub_size]
  show Result.ok (sliced ao (m : Int).toNat n c 3) W = _
  unfold sliced subA
  rw [Int.toNat_natCast]
theorem amx_sub {w : World} {ao : Option Addr} {n : Nat} {X : Nat → Am} (h : Amx w ao n X) (c l k : Nat) (hc : n ≤ c) (hk : l + k ≤ n) : Amx w (subA ao c l) k (fun i => X (l + i)) := fun j hj => by
  obtain ⟨g, o, e, hg, h0, h1, h2⟩ := h (l + j) (by omega)
  subst e
  refine ⟨g, o + l * 3, ?_, hg, ?_, ?_, ?_⟩
  · unfold subA
    rw [if_neg (by omega)]
    simp [add_plain]
  · rw [show o + l * 3 + j * 3 = o + (l + j) * 3 by omega]; exact h0
  · rw [show o + l * 3 + j * 3 = o + (l + j) * 3 by omega]; exact h1
  · rw [show o + l * 3 + j * 3 = o + (l + j) * 3 by omega]; exact h2
theorem amx_cut {w : World} {ao : Option Addr} {n : Nat} {X : Nat → Am} (h : Amx w ao n X) {m : Nat} (hm : m ≤ n) : Amx w ao m X := fun j hj => h j (by omega)
theorem amx_congr {w : World} {ao : Option Addr} {n : Nat} {X Y : Nat → Am} (h : Amx w ao n X) (e : ∀ i, i < n → X i = Y i) : Amx w ao n Y := fun j hj => by
  have := h j hj
  rw [e j hj] at this
  exact this
theorem sumN_congr {X Y : Nat → Am} {n : Nat} (e : ∀ i, i < n → X i = Y i) : sumN X n = sumN Y n := by
  induction n with
  | zero => rfl
  | succ n ih =>
    show (if (sumN X n).2 = true then adds (sumN X n).1 (X n) else (none3, false)) = (if (sumN Y n).2 = true then adds (sumN Y n).1 (Y n) else (none3, false))
    rw [ih (fun i hi => e i (by omega)), e n (by omega)]
/-! ### The cells of amounts -/
def cellsR (X : Nat → Am) : Nat → List Value
  | 0 => []
  | n + 1 => cellsR X n ++ [.int .i64 (X n).c, .int .i64 (X n).m, .int .i64 (X n).d]
theorem cellsR_length (X : Nat → Am) (n : Nat) : (cellsR X n).length = n * 3 := by
  induction n with
  | zero => rfl
  | succ n ih => simp [cellsR, ih]; omega
theorem cellsR_at (X : Nat → Am) : ∀ (n j : Nat), j < n → (cellsR X n)[j * 3]? = some (.int .i64 (X j).c) ∧ (cellsR X n)[j * 3 + 1]? = some (.int .i64 (X j).m) ∧ (cellsR X n)[j * 3 + 2]? = some (.int .i64 (X j).d) := by
  intro n
  induction n with
  | zero => intro j h; omega
  | succ n ih =>
    intro j h
    by_cases e : j = n
    · subst e
      have hl := cellsR_length X j
      refine ⟨?_, ?_, ?_⟩
      · rw [cellsR, List.getElem?_append_right (by omega), hl, Nat.sub_self]; rfl
      · rw [cellsR, List.getElem?_append_right (by omega), hl, show j * 3 + 1 - j * 3 = 1 by omega]; rfl
      · rw [cellsR, List.getElem?_append_right (by omega), hl, show j * 3 + 2 - j * 3 = 2 by omega]; rfl
    · have hl := cellsR_length X n
      obtain ⟨h0, h1, h2⟩ := ih j (by omega)
      refine ⟨?_, ?_, ?_⟩
      · rw [cellsR, List.getElem?_append_left (by omega)]; exact h0
      · rw [cellsR, List.getElem?_append_left (by omega)]; exact h1
      · rw [cellsR, List.getElem?_append_left (by omega)]; exact h2
theorem cellsR_one (X : Nat → Am) (n : Nat) : ∀ u ∈ cellsR X n, u.oneCell' = true := by
  induction n with
  | zero => intro u hu; simp [cellsR] at hu
  | succ n ih =>
    intro u hu
    rw [cellsR, List.mem_append] at hu
    rcases hu with hu | hu
    · exact ih u hu
    · simp at hu; rcases hu with rfl | rfl | rfl <;> rfl
theorem news_amx {w : World} {g o : Nat} {n : Nat} {X : Nat → Am} (h : Amx w (some ⟨g, o, none⟩) n X) : ∀ j u, (cellsR X n)[j]? = some u → w.cell? ((⟨g, o, none⟩ : Addr).add j) = some u := by
  intro j u hu
  have hj : j < n * 3 := by rw [← cellsR_length X n]; exact (List.getElem?_eq_some_iff.1 hu).1
  obtain ⟨g', o', e, hg, h0, h1, h2⟩ := h (j / 3) (by omega)
  cases e
  obtain ⟨c0, c1, c2⟩ := cellsR_at X n (j / 3) (by omega)
  rw [add_plain]
  rcases (show j % 3 = 0 ∨ j % 3 = 1 ∨ j % 3 = 2 by omega) with e | e | e
  · rw [show j = j / 3 * 3 by omega, c0] at hu
    cases hu
    rw [show o + j = o + j / 3 * 3 by omega]; exact h0
  · rw [show j = j / 3 * 3 + 1 by omega, c1] at hu
    cases hu
    rw [show o + j = o + j / 3 * 3 + 1 by omega]; exact h1
  · rw [show j = j / 3 * 3 + 2 by omega, c2] at hu
    cases hu
    rw [show o + j = o + j / 3 * 3 + 2 by omega]; exact h2
/-- A row of the call's own that holds amounts. -/
theorem amx_row {w : World} {e : TypeId} {v : Value} {n : Nat} {X : Nat → Am} (h : w.ownsRow 0 e 3 v n (cellsR X n)) : ∃ ao cap, v = .slice ao n cap ∧ n ≤ cap ∧ Amx w ao n X := by
  rcases h.2 with ⟨rfl, rfl⟩ | ⟨g, cap, cur, rfl, _, hb, hc, _, hs, ht⟩
  · exact ⟨none, 0, rfl, Nat.le_refl _, fun j hj => absurd hj (by omega)⟩
  · refine ⟨some ⟨g, 0, none⟩, cap, rfl, hc, fun j hj => ⟨g, 0, rfl, lt_of_block hb, ?_⟩⟩
    have hcell : ∀ k u, (cellsR X n)[k]? = some u → w.cell? ⟨g, 0 + k, none⟩ = some u := fun k u hu => by
      rw [Nat.zero_add, cell_of_row w g k cur _ _ hb]
      have hk : k < n * 3 := by rw [← cellsR_length X n]; exact (List.getElem?_eq_some_iff.1 hu).1
      rw [← ht, List.getElem?_take_of_lt hk] at hu
      simpa using hu
    obtain ⟨c0, c1, c2⟩ := cellsR_at X n j hj
    exact ⟨hcell _ _ c0, hcell _ _ c1, hcell _ _ c2⟩
theorem grown_off {S : Nat → Prop} {a w w' : World} {row : Option Nat} (h : Off S a w) (k : w.grownBy w' row) (hr : ∀ g, row = some g → S g ∨ a.heap.size ≤ g) : Off S a w' :=
  ⟨k.os.trans h.os, k.tape.trans h.tape, k.output.trans h.output, Nat.le_trans h.size k.size, fun i hi hs =>
    (k.block i (Nat.lt_of_lt_of_le hi h.size) fun e => (hr i e.symm).elim hs fun h2 => absurd hi (Nat.not_lt.2 h2)).trans (h.block i hi hs)⟩
theorem _root_.Go.Proofs.Ytdendciedodffaa.Mem.Own.appended {w0 w wa w1 : World} {L : List As} (h : Own w0 L w) (i : Nat) {e : TypeId} {size n n' : Nat} {v v' : Value} {xs xs' : List Value} (hi : L[i]? = some (rowA e size v n xs)) (ka : Kept w wa)
    (hrow : w1.ownsRow 0 e size v' n' xs') (hg : wa.grownBy w1 v.ownBlock) (hl : v'.ownBlock = v.ownBlock ∨ v'.ownBlock = some wa.heap.size) : Own w0 (L.set i (rowA e size v' n' xs')) w1 := by
  obtain ⟨S, hp, hs, back⟩ := h.open i hi
  refine back _ _ (grown_off (ka.off S) hg fun g hg' => .inl (hp.2 g hg')) ⟨hrow, fun g hg' => ?_⟩
  rcases hl with e | e
  · exact .inl (hp.2 g (by rw [← e]; exact hg'))
  · have := (hrow.lt g hg').2
    rw [e] at hg'
    obtain rfl : wa.heap.size = g := Option.some.inj hg'
    exact .inr ⟨ka.size, this⟩
/-- An empty slice that was just built. -/
theorem _root_.Go.Proofs.Ytdendciedodffaa.Mem.Own.emptyRow {w0 w : World} {L : List As} (h : Own w0 L w) (e : TypeId) (size : Nat) : Own w0 (rowA e size (.slice (some ⟨w.heap.size, 0, none⟩) 0 0) 0 [] :: L) (w.alloc (.cells #[] e)) :=
  (h.push (b := rowA e size (.slice (some ⟨w.heap.size, 0, none⟩) 0 0) 0 []) ((Kept.refl w).alloc _)
    ⟨⟨by simp, .inr ⟨w.heap.size, 0, #[], rfl, Nat.zero_le _, heap_alloc_new _ _, Nat.le_refl _, by unfold maxLen; omega, by simp, by simp⟩⟩,
     fun g hg => by simp [Value.ownBlock] at hg; subst hg; exact .inr ⟨Nat.le_refl _, by simp⟩⟩).front
theorem res_info : (Try.prog.info? 23).map (fun i => (i.zero, i.size, i.bytes)) = some (some (.agg #[.int .i64 0, .int .i64 0, .int .i64 0]), 3, 24) := by kernel_rfl
end Go.Proofs.Ytdendciedodffaa.Re
