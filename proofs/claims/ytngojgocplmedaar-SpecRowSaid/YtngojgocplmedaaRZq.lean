/-
  Lists of plain elements in memory (namespace Ls): elements of k cells each. (For layers 13 and on.)
-/
import Derived.Test.YtngojgocplmedaaRWa
import Derived.Deep.Slices
namespace Go.Proofs.YtngojgocplmedaaR.Ls
open Go.RowKit Go.Proofs.YtngojgocplmedaaR.Mem Go.Proofs.YtngojgocplmedaaR.In Go.ChangeShapes Go.WideShapes Go.ChangeAt
set_option linter.unusedVariables false

/-- How an element lies in memory. -/
structure El (α : Type) where
  T : TypeId
  S : TypeId
  k : Nat
  bytes : Nat
  zero : Value
  cs : α → List Value
structure El.fine {α : Type} (E : El α) : Prop where
  under : Try.prog.underlying E.S = some (.slice E.T)
  el : Try.prog.elem E.S = E.T
  info : (Try.prog.info? E.T).map (fun i => (i.zero, i.size, i.bytes)) = some (some E.zero, E.k, E.bytes)
  size : ∀ W, (sizeOf (Try.prog.elem E.S)).run Try.prog W = .ok E.k W
  zc : E.zero.cells.size = E.k
  pos : 0 < E.k
  few : E.bytes ≤ 1000
  len : ∀ x, (E.cs x).length = E.k
  one : ∀ x u, u ∈ E.cs x → u.oneCell' = true
section
variable {α : Type} {E : El α}
/-- The slice (ao, n, cap) has the elements l. -/
structure AtE (E : El α) (w : World) (ao : Option Addr) (n cap : Nat) (l : List α) : Prop where
  len : l.length = n
  le : n ≤ cap
  max : cap ≤ maxLen
  nil : ao = none → cap = 0
  cell : ∀ j x, l[j]? = some x → ∃ g o, ao = some ⟨g, o, none⟩ ∧ g < w.heap.size ∧ ∀ i u, (E.cs x)[i]? = some u → w.cell? ⟨g, o + j * E.k + i, none⟩ = some u
theorem AtE.kept {w w' : World} {ao : Option Addr} {n cap : Nat} {l : List α} (h : AtE E w ao n cap l) (k : Kept w w') : AtE E w' ao n cap l :=
  ⟨h.len, h.le, h.max, h.nil, fun j x hx => by
    obtain ⟨g, o, e, hg, hc⟩ := h.cell j x hx
    exact ⟨g, o, e, Nat.lt_of_lt_of_le hg k.size, fun i u hu => (Kept.cell k (p := ⟨g, _, none⟩) hg).trans (hc i u hu)⟩⟩
theorem AtE.n62 {w : World} {ao : Option Addr} {n cap : Nat} {l : List α} (h : AtE E w ao n cap l) : n ≤ maxLen := Nat.le_trans h.le h.max
theorem AtE.get {w : World} {ao : Option Addr} {n cap : Nat} {l : List α} (h : AtE E w ao n cap l) {j : Nat} (hj : j < n) : ∃ x g o, l[j]? = some x ∧ ao = some ⟨g, o, none⟩ ∧ g < w.heap.size ∧ ∀ i u, (E.cs x)[i]? = some u → w.cell? ⟨g, o + j * E.k + i, none⟩ = some u := by
  have hj' : j < l.length := by rw [h.len]; exact hj
  obtain ⟨g, o, e, hg, hc⟩ := h.cell j _ (List.getElem?_eq_getElem hj')
  exact ⟨_, g, o, List.getElem?_eq_getElem hj', e, hg, hc⟩
theorem AtE.empty (E : El α) (w : World) : AtE E w none 0 0 [] := ⟨rfl, Nat.le_refl _, Nat.zero_le _, fun _ => rfl, fun j x hx => by simp at hx⟩
/-- A slice of the call's own. -/
def NewE (E : El α) (B : Nat) (w : World) (ao : Option Addr) (n cap : Nat) (l : List α) : Prop := l.length = n ∧ w.ownsRow B E.T E.k (.slice ao n cap) n (l.flatMap E.cs)
theorem flat_len (hE : E.fine) (l : List α) : (l.flatMap E.cs).length = l.length * E.k := by
  induction l with
  | nil => simp
  | cons x l ih => rw [List.flatMap_cons, List.length_append, ih, hE.len, List.length_cons, Nat.add_mul]; omega
theorem flat_at (hE : E.fine) : ∀ (l : List α) (j : Nat) (x : α), l[j]? = some x → ∀ i u, (E.cs x)[i]? = some u → (l.flatMap E.cs)[j * E.k + i]? = some u
  | [], j, x, h, i, u, hu => by simp at h
  | y :: l, 0, x, h, i, u, hu => by
    obtain rfl : y = x := by simpa using h
    have hi := (List.getElem?_eq_some_iff.1 hu).1
    rw [List.flatMap_cons, Nat.zero_mul, Nat.zero_add, List.getElem?_append_left hi]; exact hu
  | y :: l, j + 1, x, h, i, u, hu => by
    rw [List.flatMap_cons, List.getElem?_append_right (by rw [hE.len, Nat.add_mul]; omega), hE.len, show (j + 1) * E.k + i - E.k = j * E.k + i by rw [Nat.add_mul]; omega]
    exact flat_at hE l j x (by simpa using h) i u hu
theorem NewE.at (hE : E.fine) {B : Nat} {w : World} {ao : Option Addr} {n cap : Nat} {l : List α} (h : NewE E B w ao n cap l) : AtE E w ao n cap l := by
  obtain ⟨hl, hrow⟩ := h
  rcases hrow.2 with ⟨e, rfl⟩ | ⟨g, c, cur, e, hb, hh, hc, hm, hs, ht⟩
  · cases e
    obtain rfl : l = [] := List.eq_nil_of_length_eq_zero hl
    exact AtE.empty E w
  · cases e
    refine ⟨hl, hc, hm, nofun, fun j x hx => ⟨g, 0, rfl, lt_of_block hh, fun i u hu => ?_⟩⟩
    rw [Nat.zero_add, cell_of_row w g _ cur _ _ hh]
    have h1 := flat_at hE l j x hx i u hu
    have hlt := (List.getElem?_eq_some_iff.1 h1).1
    rw [flat_len hE, hl] at hlt
    rw [← ht, List.getElem?_take_of_lt hlt] at h1
    simpa using h1
theorem NewE.kept {B : Nat} {w w' : World} {ao : Option Addr} {n cap : Nat} {l : List α} (h : NewE E B w ao n cap l) (k : Kept w w') : NewE E B w' ao n cap l := by
  refine ⟨h.1, h.2.1, ?_⟩
  rcases h.2.2 with h2 | ⟨g, c, cur, e, hb, hh, r⟩
  · exact .inl h2
  · exact .inr ⟨g, c, cur, e, hb, k.block hh, r⟩
theorem NewE.base {B B' : Nat} {w : World} {ao : Option Addr} {n cap : Nat} {l : List α} (h : NewE E B w ao n cap l) (hB : B' ≤ B) : NewE E B' w ao n cap l := by
  refine ⟨h.1, h.2.1, ?_⟩
  rcases h.2.2 with h2 | ⟨g, c, cur, e, hb, r⟩
  · exact .inl h2
  · exact .inr ⟨g, c, cur, e, Nat.le_trans hB hb, r⟩
theorem NewE.empty (E : El α) (B : Nat) (w : World) : NewE E B w none 0 0 [] := ⟨rfl, World.ownsRow_nil _ _ _ _⟩
theorem flat_one (hE : E.fine) (l : List α) : ∀ u ∈ l.flatMap E.cs, u.oneCell' = true := fun u hu => by
  obtain ⟨x, _, hx⟩ := List.mem_flatMap.1 hu
  exact hE.one x u hx
theorem flat_back (hE : E.fine) : ∀ (l : List α) (i : Nat) (u : Value), (l.flatMap E.cs)[i]? = some u → ∃ j x q, i = j * E.k + q ∧ l[j]? = some x ∧ (E.cs x)[q]? = some u
  | [], i, u, h => by simp at h
  | y :: l, i, u, h => by
    rw [List.flatMap_cons] at h
    by_cases hi : i < E.k
    · rw [List.getElem?_append_left (by rw [hE.len]; exact hi)] at h
      exact ⟨0, y, i, by omega, rfl, h⟩
    · rw [List.getElem?_append_right (by rw [hE.len]; omega), hE.len] at h
      obtain ⟨j, x, q, e, h1, h2⟩ := flat_back hE l _ u h
      exact ⟨j + 1, x, q, by rw [Nat.add_mul]; omega, by simpa using h1, h2⟩
theorem AtE.news (hE : E.fine) {w : World} {g o : Nat} {n cap : Nat} {l : List α} (h : AtE E w (some ⟨g, o, none⟩) n cap l) : ∀ j u, (l.flatMap E.cs)[j]? = some u → w.cell? ((⟨g, o, none⟩ : Addr).add j) = some u := fun j u hu => by
  obtain ⟨i, x, q, rfl, hx, hq⟩ := flat_back hE l j u hu
  obtain ⟨g', o', e, _, hc⟩ := h.cell i x hx
  cases e
  rw [add_plain, ← Nat.add_assoc]; exact hc q u hq
/-- A list is appended to a slice of the call's own. -/
theorem run_appE (hE : E.fine) {B : Nat} {w : World} {ao bo : Option Addr} {n cap m c : Nat} {l k : List α} (h : NewE E B w ao n cap l) (s : AtE E w bo m c k) (hB : B ≤ w.heap.size) (hb : n + m ≤ 1000000) (ty : TypeId) :
    ∃ ao' cap' w', (Builtin.append_ #[E.S, E.S] ty #[.slice ao n cap, .slice bo m c]).run Try.prog w = .ok (.slice ao' (n + m) cap') w' ∧ NewE E B w' ao' (n + m) cap' (l ++ k) ∧ w.grownBy w' (Value.ownBlock (.slice ao n cap)) ∧ (Value.ownBlock (.slice ao' (n + m) cap') = Value.ownBlock (.slice ao n cap) ∨ Value.ownBlock (.slice ao' (n + m) cap') = some w.heap.size) := by
  obtain ⟨i0, hif, hz0, hz1, hz3⟩ := info_parts hE.info
  have hfew := hE.few
  have hbyt : (n + m) * E.bytes ≤ 140737488355328 := Nat.le_trans (Nat.mul_le_mul hb hfew) (by decide)
  have fin : ∀ (v' : Value) (w' : World), w'.ownsRow B E.T E.k v' (n + m) ((l.flatMap E.cs) ++ (k.flatMap E.cs)) → ∃ ao' cap', v' = Value.slice ao' (n + m) cap' := by
    intro v' w' hown
    rcases hown.2 with ⟨e, e0⟩ | ⟨g, c', cur, e, _⟩
    · exact ⟨none, 0, by rw [e0]; exact e⟩
    · exact ⟨_, _, e⟩
  rcases bo with _ | ad
  · have h0 := s.nil rfl
    subst h0
    obtain rfl : m = 0 := Nat.le_zero.1 s.le
    obtain rfl : k = [] := List.eq_nil_of_length_eq_zero s.len
    exact ⟨ao, cap, w, run_append_owned_none (P := Try.prog) (w := w) B E.S ty E.T i0 E.k hE.under hif _ n _ h.2, by simpa using h, ⟨rfl, rfl, rfl, Nat.le_refl _, fun _ _ _ => rfl⟩, .inl rfl⟩
  · by_cases hk : m = 0
    · subst hk
      obtain rfl : k = [] := List.eq_nil_of_length_eq_zero s.len
      obtain ⟨v', w', hrun, hown, hg, hn, hloc⟩ := run_append_own_at (P := Try.prog) w B E.S ty E.T i0 E.zero E.k E.bytes hE.under hif hz0 hz1 hz3 hE.zc hE.pos _ n _ h.2 ad 0 c [] (by simp) (fun j u hu => by simp at hu) (fun u hu => by simp at hu) (by unfold maxLen; omega) hbyt hB
      obtain ⟨ao', cap', rfl⟩ := fin v' w' (by simpa using hown)
      exact ⟨ao', cap', w', hrun, ⟨by simpa using h.1, by simpa using hown⟩, hg, hloc⟩
    · obtain ⟨x, g, o, _, e, _, _⟩ := s.get (j := 0) (by omega)
      cases e
      obtain ⟨v', w', hrun, hown, hg, hn, hloc⟩ := run_append_own_at (P := Try.prog) w B E.S ty E.T i0 E.zero E.k E.bytes hE.under hif hz0 hz1 hz3 hE.zc hE.pos _ n _ h.2 ⟨g, o, none⟩ m c (k.flatMap E.cs) (by rw [flat_len hE, s.len]) (s.news hE) (flat_one hE k) (by unfold maxLen; omega) hbyt hB
      obtain ⟨ao', cap', rfl⟩ := fin v' w' hown
      exact ⟨ao', cap', w', hrun, ⟨by rw [List.length_append, h.1, s.len], by rw [List.flatMap_append]; exact hown⟩, hg, hloc⟩
theorem wpList_appE (hE : E.fine) {B N : Nat} {w : World} {ao bo : Option Addr} {n cap m c : Nat} {l k : List α} {ops : Array Oper} {rest : List Oper} {o : Oper} {a : Act} {Q : Exit → Act → World → Prop} (h : NewE E B w ao n cap l) (s : AtE E w bo m c k) (hB : B ≤ w.heap.size) (hN : n + m = N) (hb : N ≤ 1000000)
    (hgd : o.guard = none) (p q : Operand) (ho : o.op = .call { callee := .builtin .append, args := #[p, q], argTypes := #[E.S, E.S] }) (hp : a.eval p = .slice ao n cap) (hq : a.eval q = .slice bo m c)
    (K : ∀ ao' cap' w', NewE E B w' ao' N cap' (l ++ k) → w.grownBy w' (Value.ownBlock (.slice ao n cap)) → (∀ u : World, u.heap.size ≤ B → Kept u w → Kept u w') → wpList Try.prog ops Q rest (a.put o.dst (.slice ao' N cap')) w') : wpList Try.prog ops Q (o :: rest) a w := by
  refine wpList_plain hgd fun K' hK' => ?_
  subst hN
  obtain ⟨ao', cap', w', hrun, hnew, hg, _⟩ := run_appE hE h s hB hb o.type
  unfold Oper.wp
  simp [execOp, ho, resolve, invoke, builtin, hp, hq, hrun, Result.andThen]
  exact hK' _ _ (K _ _ _ hnew hg fun u hu hk => hk.grown hg fun g hg' => Nat.le_trans hu (h.2.lt g hg').1)
theorem subE_h (hE : E.fine) (ao : Option Addr) (n c m : Nat) (h : m ≤ c) (W : World) : (Instr.slice E.S (.slice ao n c) none (some (.int .i64 (m : Int))) none).run Try.prog W = .ok (.slice (if c = 0 then ao else ao.map (·.add (0 * E.k))) m c) W := by
  rw [run_slice_h W E.S ao n c (by rw [hE.el]; exact hE.under) .i64 (m : Int) (by omega) (by omega), hE.size]
  show Result.ok (sliced ao 0 (m : Int).toNat c E.k) W = _
  unfold sliced
  rw [Int.toNat_natCast]; rfl
theorem AtE.head {w : World} {ao : Option Addr} {n cap : Nat} {l : List α} (h : AtE E w ao n cap l) {m : Nat} (hm : m ≤ n) : AtE E w (if cap = 0 then ao else ao.map (·.add (0 * E.k))) m cap (l.take m) := by
  refine ⟨by rw [List.length_take, h.len]; omega, Nat.le_trans hm h.le, h.max, fun e => ?_, fun j x hx => ?_⟩
  · split at e
    · assumption
    · exact h.nil (by simpa using e)
  · have hj : j < m := by have := (List.getElem?_eq_some_iff.1 hx).1; rw [List.length_take] at this; omega
    rw [List.getElem?_take_of_lt hj] at hx
    obtain ⟨g, o, e, hg, hc⟩ := h.cell j x hx
    have hc0 : ¬ cap = 0 := by have := h.le; omega
    exact ⟨g, o, by rw [if_neg hc0, e]; simp [add_plain], hg, hc⟩
end
theorem NewE.lit {α : Type} {E : El α} (hE : E.fine) {B : Nat} (w : World) (hB : B ≤ w.heap.size) (l : List α) (hl : l.length ≤ maxLen) : NewE E B (w.alloc (.cells (l.flatMap E.cs).toArray E.T)) (some ⟨w.heap.size, 0, none⟩) l.length l.length l :=
  ⟨rfl, by have := World.ownsRow_lit (base := B) (size := E.k) (e := E.T) w (l.flatMap E.cs).toArray l.length hB hl (by simpa using flat_len hE l); simpa using this⟩
end Go.Proofs.YtngojgocplmedaaR.Ls
