/-
  Lists of numbers in memory (namespace In): what lies behind a slice of ints, and what a call hands back.
-/
import Derived.Test.YtngojgocplmedaaRVb
import Derived.Test.YtngojgocplmedaaRYa
import Derived.Lib.SlKeysI
import Derived.Laws.AppendOwnNone
import Derived.Laws.OwnMore
import Derived.Maps.AppendAt
import Derived.WalkKit
import Derived.RegionTactic
import Derived.Deep.RegionLaw
namespace Go.Proofs.YtngojgocplmedaaR.In
open Go.RowKit Go.Proofs.YtngojgocplmedaaR.Mem Go.Proofs.YtngojgocplmedaaR.Po Go.ChangeShapes Go.WideShapes Go.ChangeAt
set_option linter.unusedVariables false

def isI (x : Int) : Prop := -9223372036854775808 ≤ x ∧ x ≤ 9223372036854775807
instance (x : Int) : Decidable (isI x) := inferInstanceAs (Decidable (_ ∧ _))
def Fit (l : List Int) : Prop := ∀ x ∈ l, isI x
/-- The slice (ao, n, cap) has the numbers l. -/
structure At (w : World) (ao : Option Addr) (n cap : Nat) (l : List Int) : Prop where
  len : l.length = n
  le : n ≤ cap
  max : cap ≤ maxLen
  nil : ao = none → cap = 0
  fit : Fit l
  cell : ∀ j x, l[j]? = some x → ∃ g o, ao = some ⟨g, o, none⟩ ∧ g < w.heap.size ∧ w.cell? ⟨g, o + j, none⟩ = some (.int .i64 x)
theorem At.kept {w w' : World} {ao : Option Addr} {n cap : Nat} {l : List Int} (h : At w ao n cap l) (k : Kept w w') : At w' ao n cap l :=
  ⟨h.len, h.le, h.max, h.nil, h.fit, fun j x hx => by
    obtain ⟨g, o, e, hg, hc⟩ := h.cell j x hx
    exact ⟨g, o, e, Nat.lt_of_lt_of_le hg k.size, (Kept.cell k (p := ⟨g, _, none⟩) hg).trans hc⟩⟩
theorem At.drew {w : World} {ao : Option Addr} {n cap : Nat} {l : List Int} (h : At w ao n cap l) : At w.drew ao n cap l := h.kept (Kept.refl w).drew
theorem At.n62 {w : World} {ao : Option Addr} {n cap : Nat} {l : List Int} (h : At w ao n cap l) : n ≤ maxLen := Nat.le_trans h.le h.max
theorem At.get {w : World} {ao : Option Addr} {n cap : Nat} {l : List Int} (h : At w ao n cap l) {j : Nat} (hj : j < n) : ∃ x g o, l[j]? = some x ∧ isI x ∧ ao = some ⟨g, o, none⟩ ∧ g < w.heap.size ∧ w.cell? ⟨g, o + j, none⟩ = some (.int .i64 x) := by
  have hj' : j < l.length := by rw [h.len]; exact hj
  obtain ⟨g, o, e, hg, hc⟩ := h.cell j _ (List.getElem?_eq_getElem hj')
  exact ⟨_, g, o, List.getElem?_eq_getElem hj', h.fit _ (List.getElem_mem hj'), e, hg, hc⟩
theorem At.empty (w : World) : At w none 0 0 [] := ⟨rfl, Nat.le_refl _, Nat.zero_le _, fun _ => rfl, fun x hx => by simp at hx, fun j x hx => by simp at hx⟩

/-- A slice of the call's own (nil, or in a block from B on) with the numbers l. -/
structure New (B : Nat) (w : World) (ao : Option Addr) (n cap : Nat) (l : List Int) : Prop where
  row : w.ownsRow B 3 1 (.slice ao n cap) n (l.map encZ)
  fit : Fit l
theorem New.len {B : Nat} {w : World} {ao : Option Addr} {n cap : Nat} {l : List Int} (h : New B w ao n cap l) : l.length = n := by
  have := h.row.1
  simpa using this
theorem New.at {B : Nat} {w : World} {ao : Option Addr} {n cap : Nat} {l : List Int} (h : New B w ao n cap l) : At w ao n cap l := by
  have hl := h.len
  rcases h.row.2 with ⟨e, rfl⟩ | ⟨g, c, cur, e, hb, hh, hc, hm, hs, ht⟩
  · cases e
    obtain rfl : l = [] := List.eq_nil_of_length_eq_zero hl
    exact At.empty w
  · cases e
    refine ⟨hl, hc, hm, nofun, h.fit, fun j x hx => ⟨g, 0, rfl, lt_of_block hh, ?_⟩⟩
    have hj : j < n := by rw [← hl]; exact (List.getElem?_eq_some_iff.1 hx).1
    rw [Nat.zero_add, cell_of_row w g j cur _ _ hh]
    have h1 : (cur.toList.take (n * 1))[j]? = (l.map encZ)[j]? := by rw [ht]
    rw [List.getElem?_take_of_lt (by omega), List.getElem?_map, hx] at h1
    simpa using h1
theorem New.kept {B : Nat} {w w' : World} {ao : Option Addr} {n cap : Nat} {l : List Int} (h : New B w ao n cap l) (k : Kept w w') : New B w' ao n cap l := by
  refine ⟨⟨h.row.1, ?_⟩, h.fit⟩
  rcases h.row.2 with h2 | ⟨g, c, cur, e, hb, hh, r⟩
  · exact .inl h2
  · exact .inr ⟨g, c, cur, e, hb, k.block hh, r⟩
theorem New.base {B B' : Nat} {w : World} {ao : Option Addr} {n cap : Nat} {l : List Int} (h : New B w ao n cap l) (hB : B' ≤ B) : New B' w ao n cap l := by
  refine ⟨⟨h.row.1, ?_⟩, h.fit⟩
  rcases h.row.2 with h2 | ⟨g, c, cur, e, hb, r⟩
  · exact .inl h2
  · exact .inr ⟨g, c, cur, e, Nat.le_trans hB hb, r⟩
theorem map_oneCell (l : List Int) : ∀ u ∈ l.map encZ, u.oneCell' = true := fun u hu => by
  obtain ⟨x, _, rfl⟩ := List.mem_map.1 hu
  rfl
theorem At.news {w : World} {g o : Nat} {n cap : Nat} {l : List Int} (h : At w (some ⟨g, o, none⟩) n cap l) : ∀ j u, (l.map encZ)[j]? = some u → w.cell? ((⟨g, o, none⟩ : Addr).add j) = some u := fun j u hu => by
  rw [List.getElem?_map] at hu
  obtain ⟨x, hx, rfl⟩ := Option.map_eq_some_iff.1 hu
  obtain ⟨g', o', e, _, hc⟩ := h.cell j x hx
  cases e
  rw [add_plain]; exact hc
theorem int_info : (Try.prog.info? 3).map (fun i => (i.zero, i.size, i.bytes)) = some (some (.int .i64 0), 1, 8) := by kernel_rfl
/-- A list is appended to a slice of the call's own. -/
theorem run_app {B : Nat} {w : World} {ao bo : Option Addr} {n cap m c : Nat} {l k : List Int} (h : New B w ao n cap l) (s : At w bo m c k) (hB : B ≤ w.heap.size) (hb : n + m ≤ 1000000) (ty : TypeId) :
    ∃ ao' cap' w', (Builtin.append_ #[24, 24] ty #[.slice ao n cap, .slice bo m c]).run Try.prog w = .ok (.slice ao' (n + m) cap') w' ∧ New B w' ao' (n + m) cap' (l ++ k) ∧ Below B w w' ∧ w.grownBy w' (Value.ownBlock (.slice ao n cap)) ∧ (Value.ownBlock (.slice ao' (n + m) cap') = Value.ownBlock (.slice ao n cap) ∨ Value.ownBlock (.slice ao' (n + m) cap') = some w.heap.size) := by
  obtain ⟨i0, hif, hz0, hz1, hz3⟩ := info_parts int_info
  rcases bo with _ | ad
  · have h0 := s.nil rfl
    subst h0
    obtain rfl : m = 0 := Nat.le_zero.1 s.le
    obtain rfl : k = [] := List.eq_nil_of_length_eq_zero s.len
    exact ⟨ao, cap, w, run_append_owned_none (P := Try.prog) (w := w) B 24 ty 3 i0 1 Try.underlying24 hif _ n _ h.row, by simpa using h, Below.refl _ _, ⟨rfl, rfl, rfl, Nat.le_refl _, fun _ _ _ => rfl⟩, .inl rfl⟩
  · by_cases hk : m = 0
    · subst hk
      obtain rfl : k = [] := List.eq_nil_of_length_eq_zero s.len
      obtain ⟨v', w', hrun, hown, hg, hn, hloc⟩ := run_append_own_at (P := Try.prog) w B 24 ty 3 i0 (.int .i64 0) 1 8 Try.underlying24 hif hz0 hz1 hz3 rfl (by decide) _ n _ h.row ad 0 c [] rfl (fun j u hu => by simp at hu) (fun u hu => by simp at hu) (by unfold maxLen; omega) (by omega) hB
      have hv : ∃ ao' cap', v' = .slice ao' (n + 0) cap' := by
        rcases hown.2 with ⟨e, e0⟩ | ⟨g, c', cur, e, _⟩
        · exact ⟨none, 0, by rw [e0]; exact e⟩
        · exact ⟨_, _, e⟩
      obtain ⟨ao', cap', rfl⟩ := hv
      refine ⟨ao', cap', w', hrun, ⟨by simpa using hown, by simpa using h.fit⟩, (Below.refl B w).grown hg hB fun j hj => (h.row.lt j hj).1, hg, hloc⟩
    · obtain ⟨x, g, o, _, _, e, _, _⟩ := s.get (j := 0) (by omega)
      cases e
      obtain ⟨v', w', hrun, hown, hg, hn, hloc⟩ := run_append_own_at (P := Try.prog) w B 24 ty 3 i0 (.int .i64 0) 1 8 Try.underlying24 hif hz0 hz1 hz3 rfl (by decide) _ n _ h.row ⟨g, o, none⟩ m c (k.map encZ) (by simp [s.len]) s.news (map_oneCell k) (by unfold maxLen; omega) (by omega) hB
      have hv : ∃ ao' cap', v' = .slice ao' (n + m) cap' := by
        rcases hown.2 with ⟨e, e0⟩ | ⟨g, c', cur, e, _⟩
        · exact ⟨none, 0, by rw [e0]; exact e⟩
        · exact ⟨_, _, e⟩
      obtain ⟨ao', cap', rfl⟩ := hv
      refine ⟨ao', cap', w', hrun, ⟨by rw [List.map_append]; exact hown, fun x hx => ?_⟩, (Below.refl B w).grown hg hB fun j hj => (h.row.lt j hj).1, hg, hloc⟩
      rcases List.mem_append.1 hx with hx | hx
      · exact h.fit x hx
      · exact s.fit x hx
theorem New.empty (B : Nat) (w : World) : New B w none 0 0 [] := ⟨World.ownsRow_nil _ _ _ _, fun x hx => by simp at hx⟩
theorem _root_.Go.Proofs.YtngojgocplmedaaR.Mem.Kept.grown {u w w' : World} {row : Option Nat} (h : Kept u w) (k : w.grownBy w' row) (hr : ∀ g, row = some g → u.heap.size ≤ g) : Kept u w' := Below.grown h k h.size hr
/-- The same, at the operation. -/
theorem wpList_app {B N : Nat} {w : World} {ao bo : Option Addr} {n cap m c : Nat} {l k : List Int} {ops : Array Oper} {rest : List Oper} {o : Oper} {a : Act} {Q : Exit → Act → World → Prop} (h : New B w ao n cap l) (s : At w bo m c k) (hB : B ≤ w.heap.size) (hN : n + m = N) (hb : N ≤ 1000000)
    (hgd : o.guard = none) (p q : Operand) (ho : o.op = .call { callee := .builtin .append, args := #[p, q], argTypes := #[24, 24] }) (hp : a.eval p = .slice ao n cap) (hq : a.eval q = .slice bo m c)
    (K : ∀ ao' cap' w', New B w' ao' N cap' (l ++ k) → w.grownBy w' (Value.ownBlock (.slice ao n cap)) → (∀ u : World, u.heap.size ≤ B → Kept u w → Kept u w') → wpList Try.prog ops Q rest (a.put o.dst (.slice ao' N cap')) w') : wpList Try.prog ops Q (o :: rest) a w := by
  refine wpList_plain hgd fun K' hK' => ?_
  subst hN
  obtain ⟨ao', cap', w', hrun, hnew, hbel, hg, _⟩ := run_app h s hB hb o.type
  unfold Oper.wp
  simp [execOp, ho, resolve, invoke, builtin, hp, hq, hrun, Result.andThen]
  exact hK' _ _ (K _ _ _ hnew hg fun u hu hk => hk.grown hg fun g hg' => Nat.le_trans hu (h.row.lt g hg').1)
theorem wp_app {B N : Nat} {w : World} {ao bo : Option Addr} {n cap m c : Nat} {l k : List Int} {o : Oper} {a : Act} {K : Act → World → Prop} {Q : Exit → Act → World → Prop} (h : New B w ao n cap l) (s : At w bo m c k) (hB : B ≤ w.heap.size) (hN : n + m = N) (hb : N ≤ 1000000)
    (p q : Operand) (ho : o.op = .call { callee := .builtin .append, args := #[p, q], argTypes := #[24, 24] }) (hp : a.eval p = .slice ao n cap) (hq : a.eval q = .slice bo m c)
    (hK : ∀ ao' cap' w', New B w' ao' N cap' (l ++ k) → w.grownBy w' (Value.ownBlock (.slice ao n cap)) → (∀ u : World, u.heap.size ≤ B → Kept u w → Kept u w') → K (a.put o.dst (.slice ao' N cap')) w') : o.wp Try.prog a w K Q := by
  subst hN
  obtain ⟨ao', cap', w', hrun, hnew, _, hg, hl⟩ := run_app h s hB hb o.type
  unfold Oper.wp execOp
  simp only [ho, resolve, invoke, builtin, Sem.run_bind, Sem.run_pure, Result.andThen_ok, List.map_toArray, List.map_cons, List.map_nil, hp, hq, hrun]
  exact hK ao' cap' w' hnew hg fun u hu hk => hk.grown hg fun g hg' => Nat.le_trans hu (h.row.lt g hg').1
/-- At a step of a region that draws its order. -/
theorem step_app {B N : Nat} {w : World} {ao bo : Option Addr} {n cap m c : Nat} {l k : List Int} {ops : Array Oper} {o : Oper} {a : Act} {K : Act → World → Prop} {Q : Exit → Act → World → Prop} {E : Prop} (h : New B w ao n cap l) (s : At w bo m c k) (hB : B ≤ w.heap.size) (hN : n + m = N) (hb : N ≤ 1000000)
    (hgd : o.guard = none) (p q : Operand) (ho : o.op = .call { callee := .builtin .append, args := #[p, q], argTypes := #[24, 24] }) (hp : a.eval p = .slice ao n cap) (hq : a.eval q = .slice bo m c)
    (hK : ∀ ao' cap' w', New B w' ao' N cap' (l ++ k) → w.grownBy w' (Value.ownBlock (.slice ao n cap)) → (∀ u : World, u.heap.size ≤ B → Kept u w → Kept u w') → K (a.put o.dst (.slice ao' N cap')) w') :
    if Region.wanted o (yielded ops a.tmps) = true then Oper.wp Try.prog o a w K Q else E := by
  have hw : Region.wanted o (yielded ops a.tmps) = true := by simp [Region.wanted, hgd]
  rw [if_pos hw]
  exact wp_app h s hB hN hb p q ho hp hq hK
theorem At.grown {w w' : World} {ao : Option Addr} {n cap : Nat} {l : List Int} {row : Option Nat} (h : At w ao n cap l) (k : w.grownBy w' row) (hr : ∀ g o, ao = some ⟨g, o, none⟩ → some g ≠ row) : At w' ao n cap l :=
  ⟨h.len, h.le, h.max, h.nil, h.fit, fun j x hx => by
    obtain ⟨g, o, e, hg, hc⟩ := h.cell j x hx
    exact ⟨g, o, e, Nat.lt_of_lt_of_le hg k.size, (World.grownBy.cell k hc (hr g o e))⟩⟩
/-- A list that was just written out. -/
theorem New.lit {B : Nat} (w : World) (hB : B ≤ w.heap.size) (l : List Int) (hf : Fit l) (hl : l.length ≤ maxLen) : New B (w.alloc (.cells (l.map encZ).toArray 3)) (some ⟨w.heap.size, 0, none⟩) l.length l.length l :=
  ⟨by have := World.ownsRow_lit (base := B) (size := 1) (e := 3) w (l.map encZ).toArray l.length hB hl (by simp); simpa using this, hf⟩
/-- A part of a list: the first m. -/
def headA (ao : Option Addr) (cap : Nat) : Option Addr := if cap = 0 then ao else ao.map (·.add (0 * 1))
theorem sub_size : ∀ W, (sizeOf (Try.prog.elem 24)).run Try.prog W = .ok 1 W := fun _ => by kernel_rfl
def subA (ao : Option Addr) (c l : Nat) : Option Addr := if c = l then ao else ao.map (·.add (l * 1))
set_option maxRecDepth 100000 in
theorem sub_h (ao : Option Addr) (n c m : Nat) (h : m ≤ c) (W : World) : (Instr.slice 24 (.slice ao n c) none (some (.int .i64 (m : Int))) none).run Try.prog W = .ok (.slice (subA ao c 0) m c) W := by
  rw [run_slice_h W 24 ao n c Try.underlying24 .i64 (m : Int) (by omega) (by omega), sub_size]
  show Result.ok (sliced ao 0 (m : Int).toNat c 1) W = _
  unfold sliced subA
  rw [Int.toNat_natCast]; rfl
set_option maxRecDepth 100000 in
theorem sub_l (ao : Option Addr) (n c m : Nat) (h : m ≤ n) (W : World) : (Instr.slice 24 (.slice ao n c) (some (.int .i64 (m : Int))) none none).run Try.prog W = .ok (.slice (subA ao c m) (n - m) (c - m)) W := by
  rw [run_slice_l W 24 ao n c Try.underlying24 .i64 (m : Int) (by omega) (by omega), sub_size]
  show Result.ok (sliced ao (m : Int).toNat n c 1) W = _
  unfold sliced subA
  rw [Int.toNat_natCast]
theorem At.head {w : World} {ao : Option Addr} {n cap : Nat} {l : List Int} (h : At w ao n cap l) {m : Nat} (hm : m ≤ n) : At w (subA ao cap 0) m cap (l.take m) := by
  refine ⟨by rw [List.length_take, h.len]; omega, Nat.le_trans hm h.le, h.max, fun e => ?_, fun x hx => h.fit x (List.mem_of_mem_take hx), fun j x hx => ?_⟩
  · unfold subA at e
    split at e
    · assumption
    · exact h.nil (by simpa using e)
  · have hj : j < m := by have := (List.getElem?_eq_some_iff.1 hx).1; rw [List.length_take] at this; omega
    rw [List.getElem?_take_of_lt hj] at hx
    obtain ⟨g, o, e, hg, hc⟩ := h.cell j x hx
    have hc0 : ¬ cap = 0 := by have := h.le; omega
    exact ⟨g, o, by unfold subA; rw [if_neg hc0, e]; simp [add_plain], hg, hc⟩
theorem At.tail {w : World} {ao : Option Addr} {n cap : Nat} {l : List Int} (h : At w ao n cap l) {m : Nat} (hm : m ≤ n) : At w (subA ao cap m) (n - m) (cap - m) (l.drop m) := by
  have hle := h.le
  refine ⟨by rw [List.length_drop, h.len], by omega, Nat.le_trans (Nat.sub_le _ _) h.max, fun e => ?_, fun x hx => h.fit x (List.mem_of_mem_drop hx), fun j x hx => ?_⟩
  · unfold subA at e
    split at e
    · omega
    · have := h.nil (by simpa using e); omega
  · have hj : m + j < n := by have := (List.getElem?_eq_some_iff.1 hx).1; rw [List.length_drop, h.len] at this; omega
    rw [List.getElem?_drop] at hx
    obtain ⟨g, o, e, hg, hc⟩ := h.cell (m + j) x hx
    exact ⟨g, o + m, by unfold subA; rw [if_neg (by omega), e]; simp [add_plain], hg, by rw [Nat.add_assoc]; exact hc⟩
/-! ### Slices of slices -/
/-- The slice (ao, n, cap) has the lists ls. -/
structure Ats (w : World) (ao : Option Addr) (n cap : Nat) (ls : List (List Int)) : Prop where
  len : ls.length = n
  le : n ≤ cap
  max : cap ≤ maxLen
  nil : ao = none → cap = 0
  cell : ∀ j l, ls[j]? = some l → ∃ g o bo m c, ao = some ⟨g, o, none⟩ ∧ g < w.heap.size ∧ w.cell? ⟨g, o + j, none⟩ = some (.slice bo m c) ∧ At w bo m c l
theorem Ats.kept {w w' : World} {ao : Option Addr} {n cap : Nat} {l : List (List Int)} (h : Ats w ao n cap l) (k : Kept w w') : Ats w' ao n cap l :=
  ⟨h.len, h.le, h.max, h.nil, fun j x hx => by
    obtain ⟨g, o, bo, m, c, e, hg, hc, ha⟩ := h.cell j x hx
    exact ⟨g, o, bo, m, c, e, Nat.lt_of_lt_of_le hg k.size, (Kept.cell k (p := ⟨g, _, none⟩) hg).trans hc, ha.kept k⟩⟩
theorem Ats.get {w : World} {ao : Option Addr} {n cap : Nat} {l : List (List Int)} (h : Ats w ao n cap l) {j : Nat} (hj : j < n) : ∃ x g o bo m c, l[j]? = some x ∧ ao = some ⟨g, o, none⟩ ∧ g < w.heap.size ∧ w.cell? ⟨g, o + j, none⟩ = some (.slice bo m c) ∧ At w bo m c x := by
  have hj' : j < l.length := by rw [h.len]; exact hj
  obtain ⟨g, o, bo, m, c, e, hg, hc, ha⟩ := h.cell j _ (List.getElem?_eq_getElem hj')
  exact ⟨_, g, o, bo, m, c, List.getElem?_eq_getElem hj', e, hg, hc, ha⟩
theorem Ats.empty (w : World) : Ats w none 0 0 [] := ⟨rfl, Nat.le_refl _, Nat.zero_le _, fun _ => rfl, fun j x hx => by simp at hx⟩
structure Sl where
  o : Option Addr
  n : Nat
  c : Nat
def Sl.v (s : Sl) : Value := .slice s.o s.n s.c
/-- Slices that were just written out. -/
theorem Ats.lit (w : World) (ss : List Sl) (ls : List (List Int)) (hl : ss.length = ls.length) (hm : ls.length ≤ maxLen) (h : ∀ (j : Nat) (s : Sl) (l : List Int), ss[j]? = some s → ls[j]? = some l → At w s.o s.n s.c l) :
    Ats (w.alloc (.cells (ss.map Sl.v).toArray 24)) (some ⟨w.heap.size, 0, none⟩) ls.length ls.length ls :=
  ⟨rfl, Nat.le_refl _, hm, nofun, fun j l hx => by
    have hj : j < ss.length := by rw [hl]; exact (List.getElem?_eq_some_iff.1 hx).1
    refine ⟨w.heap.size, 0, ss[j].o, ss[j].n, ss[j].c, rfl, by simp, ?_, (h j _ l (List.getElem?_eq_getElem hj) hx).kept ((Kept.refl w).alloc _)⟩
    rw [Nat.zero_add, cell_of_row _ _ j _ _ _ (heap_alloc_new w _)]
    simp [hj, Sl.v]⟩
theorem Ats.one {w : World} {a : Option Addr} {n c : Nat} {k : List Int} (h : At w a n c k) : Ats (w.alloc (.cells #[.slice a n c] 24)) (some ⟨w.heap.size, 0, none⟩) 1 1 [k] :=
  Ats.lit w [⟨a, n, c⟩] [k] rfl (by simp [maxLen]) (fun j s l hs hl => match j with
    | 0 => by cases hs; cases hl; exact h
    | j + 1 => by simp at hs)
theorem Ats.two {w : World} {a b : Option Addr} {n c m d : Nat} {k l : List Int} (h : At w a n c k) (h1 : At w b m d l) : Ats (w.alloc (.cells #[.slice a n c, .slice b m d] 24)) (some ⟨w.heap.size, 0, none⟩) 2 2 [k, l] :=
  Ats.lit w [⟨a, n, c⟩, ⟨b, m, d⟩] [k, l] rfl (by simp [maxLen]) (fun j s l hs hl => match j with
    | 0 => by cases hs; cases hl; exact h
    | 1 => by cases hs; cases hl; exact h1
    | j + 2 => by simp at hs)
theorem Ats.three {w : World} {a b e : Option Addr} {n c m d p q : Nat} {k l r : List Int} (h : At w a n c k) (h1 : At w b m d l) (h2 : At w e p q r) : Ats (w.alloc (.cells #[.slice a n c, .slice b m d, .slice e p q] 24)) (some ⟨w.heap.size, 0, none⟩) 3 3 [k, l, r] :=
  Ats.lit w [⟨a, n, c⟩, ⟨b, m, d⟩, ⟨e, p, q⟩] [k, l, r] rfl (by simp [maxLen]) (fun j s l hs hl => match j with
    | 0 => by cases hs; cases hl; exact h
    | 1 => by cases hs; cases hl; exact h1
    | 2 => by cases hs; cases hl; exact h2
    | j + 3 => by simp at hs)
end Go.Proofs.YtngojgocplmedaaR.In
