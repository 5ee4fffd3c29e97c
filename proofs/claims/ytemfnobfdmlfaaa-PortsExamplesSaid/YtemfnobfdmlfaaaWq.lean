/-
  A drawn region as a machine of states: what holds after some of its operations, whatever their order was ('wpAny_states'); its steps. Lists of slices as things of the call's own ('rowT', 'listA').
-/
import Derived.Test.YtemfnobfdmlfaaaWm
import Derived.RegionTactic
namespace Go.Proofs.Ytemfnobfdmlfaaa.In
open Go.RowKit Go.Proofs.Ytemfnobfdmlfaaa.Mem Go.Proofs.Ytemfnobfdmlfaaa.Bx Go.Proofs.Ytemfnobfdmlfaaa.Po Go.ChangeShapes Go.WideShapes Go.ChangeAt
set_option linter.unusedVariables false

section
variable {P : Program} {md : Region.Mode} {ops : Array Oper} {Q : Exit → Act → World → Prop}
theorem wpAny_states (I : Nat → Array Bool → Act → World → Prop)
    (h : ∀ k, (∀ k', k' < k → ∀ listed a w, I k' listed a w → wpAny P md ops Q k' listed a w) → ∀ listed a w, I k listed a w → wpAny P md ops Q k listed a w) : ∀ k listed a w, I k listed a w → wpAny P md ops Q k listed a w := by
  intro k
  induction k using Nat.strongRecOn with
  | ind k ih => exact h k ih
variable {fuel : Nat} {listed : Array Bool} {a : Act} {w w' : World} {i : Nat} {o : Oper} {rs : List Nat}
theorem ready_run {v : Value} (ho : ops[i]? = some o) (hw : Region.wanted o (yielded ops a.tmps) = true) (hr : (execOp a.eval o).run P w = .ok (.value v) w') (h : wpAny P md ops Q fuel (listed.setIfInBounds i true) (a.put o.dst v) w') (hs : AllReady P md ops Q fuel listed a w rs) : AllReady P md ops Q fuel listed a w (i :: rs) :=
  AllReady.cons ho (fun K hK => by
    rw [if_pos hw]
    unfold Oper.wp
    rw [hr]
    exact hK _ _ h) hs
theorem ready_call {f : FuncId} {args : Array Value} (ho : ops[i]? = some o) (hw : Region.wanted o (yielded ops a.tmps) = true) (hr : (execOp a.eval o).run P w = .ok (.enter f args) w') (h : Calls P f args w' fun e w'' => ∃ v, e = .returned v ∧ wpAny P md ops Q fuel (listed.setIfInBounds i true) (a.put o.dst v) w'') (hs : AllReady P md ops Q fuel listed a w rs) : AllReady P md ops Q fuel listed a w (i :: rs) :=
  AllReady.cons ho (fun K hK => by
    rw [if_pos hw]
    unfold Oper.wp
    rw [hr, Oper.upon_enter]
    refine h.mono ?_
    rintro e w'' ⟨v, rfl, h'⟩
    exact hK _ _ h') hs
/-- An operation of which it is known how it goes on, whatever follows. -/
theorem ready_wp (ho : ops[i]? = some o) (hw : Region.wanted o (yielded ops a.tmps) = true) (h : ∀ K : Act → World → Prop, (∀ a' w'', wpAny P md ops Q fuel (listed.setIfInBounds i true) a' w'' → K a' w'') → Oper.wp P o a w K Q) (hs : AllReady P md ops Q fuel listed a w rs) : AllReady P md ops Q fuel listed a w (i :: rs) :=
  AllReady.cons ho (fun K hK => by
    rw [if_pos hw]
    exact h K hK) hs
end
theorem run_ldv {ρ : Operand → Value} {o : Oper} {w : World} {T : TypeId} {x : Operand} {ad : Addr} {b : Option Addr} {n c : Nat} (hop : o.op = .load T x) (hT : T = 22) (hx : ρ x = .pointer (some ad)) (hc : w.cell? ad = some (.slice b n c)) : (execOp ρ o).run Try.prog w = .ok (.value (.slice b n c)) w := by
  unfold execOp
  rw [hop, hT]
  simp [go_sem, hx, hc]
def puts (l : List (Nat × Value)) (a : Act) : Act := l.foldl (fun a p => a.put (some p.1) p.2) a
def sets (l : List Nat) (b : Array Bool) : Array Bool := l.foldl (fun b i => b.setIfInBounds i true) b

/-- Some of the first things, in another order; those behind them stay. -/
theorem own_pickt {w0 w : World} {L M Z : List As} (h : Mem.Own w0 (L ++ Z) w) (g : List Nat) (hn : g.Nodup) (e : g.map (fun k => L[k]?) = M.map some) : Mem.Own w0 (M ++ Z) w := by
  have hl : g.length = M.length := by have := congrArg List.length e; simpa using this
  have hb : ∀ (i : Nat) (hi : i < g.length), g[i] < L.length := fun i hi => by
    have h2 : (g.map (fun k => L[k]?))[i]? = (M.map some)[i]? := by rw [e]
    rw [List.getElem?_map, List.getElem?_map, List.getElem?_eq_getElem hi, List.getElem?_eq_getElem (show i < M.length by omega)] at h2
    have h3 : L[g[i]]? = some (M[i]'(by omega)) := Option.some.inj h2
    exact (List.getElem?_eq_some_iff.1 h3).1
  have hg : ∀ (i : Nat) (hi : i < M.length), g.getD i 0 = g[i]'(by omega) := fun i hi => by rw [List.getD_eq_getElem?_getD, List.getElem?_eq_getElem (by omega)]; rfl
  refine h.pick (fun i => if i < M.length then g.getD i 0 else i - M.length + L.length) (fun i j hi hj he => ?_) (fun i a hi => ?_)
  · have he : (if i < M.length then g.getD i 0 else i - M.length + L.length) = (if j < M.length then g.getD j 0 else j - M.length + L.length) := he
    by_cases h1 : i < M.length <;> by_cases h2 : j < M.length
    · rw [if_pos h1, if_pos h2, hg i h1, hg j h2] at he
      have hp := List.pairwise_iff_getElem.1 hn
      rcases Nat.lt_trichotomy i j with hlt | e | hlt
      · exact absurd he (hp i j (by omega) (by omega) hlt)
      · exact e
      · exact absurd he.symm (hp j i (by omega) (by omega) hlt)
    · rw [if_pos h1, if_neg h2, hg i h1] at he
      have := hb i (by omega)
      omega
    · rw [if_neg h1, if_pos h2, hg j h2] at he
      have := hb j (by omega)
      omega
    · rw [if_neg h1, if_neg h2] at he
      omega
  · show (L ++ Z)[if i < M.length then g.getD i 0 else i - M.length + L.length]? = some a
    by_cases h1 : i < M.length
    · rw [if_pos h1, hg i h1]
      rw [List.getElem?_append_left h1] at hi
      have h2 : (g.map (fun k => L[k]?))[i]? = some (some a) := by rw [e, List.getElem?_map, hi]; rfl
      rw [List.getElem?_map, List.getElem?_eq_getElem (by omega)] at h2
      rw [List.getElem?_append_left (hb i (by omega))]
      simpa using h2
    · rw [if_neg h1]
      rw [List.getElem?_append_right (by omega)] at hi
      rw [List.getElem?_append_right (by omega), show i - M.length + L.length - L.length = i - M.length by omega]
      exact hi
/-! ### Lists as things of the call's own -/
theorem New.at_heap {B : Nat} {w w' : World} {ao : Option Addr} {n cap : Nat} {l : List Int} (h : New B w ao n cap l) (hg : ∀ g o, ao = some ⟨g, o, none⟩ → w'.heap[g]? = w.heap[g]?) : New B w' ao n cap l :=
  ⟨⟨h.row.1, by
    rcases h.row.2 with h2 | ⟨g, c, cur, e, hb, hh, r⟩
    · exact .inl h2
    · cases e
      exact .inr ⟨_, _, cur, rfl, hb, (hg _ 0 rfl).trans hh, r⟩⟩, h.fit⟩
/-- The slice s, of the call's own, with the numbers l. -/
def listA (s : Sl) (l : List Int) : As where
  p S w := New 0 w s.o s.n s.c l ∧ ∀ g o, s.o = some ⟨g, o, none⟩ → S g
  mono := fun S T w ⟨h, h1⟩ hs => ⟨h, fun g o hg => hs _ (h1 g o hg)⟩
  loc := fun S w w' ⟨h, h1⟩ hs => ⟨h.at_heap fun g o hg => hs g (h1 g o hg) (by
    rcases h.row.2 with ⟨e, _⟩ | ⟨g', c, cur, e, hb, hh, r⟩
    · rw [hg] at e; cases e
    · rw [hg] at e; cases e; exact lt_of_block hh), h1⟩
theorem _root_.Go.Proofs.Ytemfnobfdmlfaaa.Mem.Own.list {w0 w w' : World} {L : List As} (h : Mem.Own w0 L w) {s : Sl} {l : List Int} (k : Kept w w') (hn : New w.heap.size w' s.o s.n s.c l) : Mem.Own w0 (listA s l :: L) w' :=
  (h.push (b := listA s l) k ⟨hn.base (Nat.zero_le _), fun g o hg => by
    rcases hn.row.2 with ⟨e, _⟩ | ⟨g', c, cur, e, hb, hh, r⟩
    · rw [hg] at e; cases e
    · rw [hg] at e; cases e; exact .inr ⟨hb, lt_of_block hh⟩⟩).front
theorem _root_.Go.Proofs.Ytemfnobfdmlfaaa.Mem.Own.listAt {w0 w : World} {L : List As} (h : Mem.Own w0 L w) (i : Nat) {s : Sl} {l : List Int} (hi : L[i]? = some (listA s l)) : At w s.o s.n s.c l := by
  obtain ⟨S, hp, _⟩ := h.see i hi
  exact hp.1.at
/-- A slice of the call's own, whose elements are the slices ps. -/
def rowT (ps : List (Sl × List Int)) (ao : Option Addr) (n cap : Nat) : As := rowA 22 1 (.slice ao n cap) n (ps.map fun p => p.1.v)
def listsT (ps : List (Sl × List Int)) : List As := ps.map fun p => listA p.1 p.2
theorem rowT_nil {w0 w : World} {L : List As} (h : Mem.Own w0 L w) : Mem.Own w0 (rowT [] none 0 0 :: L) w := (h.newRow 22 1).front
theorem slice_info : (Try.prog.info? 22).map (fun i => (i.zero, i.size, i.bytes)) = some (some (.slice none 0 0), 1, 24) := by kernel_rfl
theorem sl_oneCell (ps : List (Sl × List Int)) : ∀ u ∈ ps.map (fun p => p.1.v), u.oneCell' = true := fun u hu => by
  obtain ⟨x, _, rfl⟩ := List.mem_map.1 hu
  rfl
/-- One slice more: the one in the block b. -/
theorem wp_pushT {w0 w : World} {L : List As} {i j : Nat} {ps : List (Sl × List Int)} {ao : Option Addr} {n cap b : Nat} {p : Sl × List Int} {o : Oper} {a : Act} {K : Act → World → Prop} {Q : Exit → Act → World → Prop} (h : Mem.Own w0 L w) (hi : L[i]? = some (rowT ps ao n cap)) (hj : L[j]? = some (boxA b #[p.1.v] 22)) (hn : n ≤ 1000)
    (x y : Operand) (ho : o.op = .call { callee := .builtin .append, args := #[x, y], argTypes := #[32, 32] }) (hp : a.eval x = .slice ao n cap) (hq : a.eval y = .slice (some ⟨b, 0, none⟩) 1 1)
    (hK : ∀ ao' cap' w', Mem.Own w0 (L.set i (rowT (ps ++ [p]) ao' (n + 1) cap')) w' → K (a.put o.dst (.slice ao' (n + 1) cap')) w') : o.wp Try.prog a w K Q := by
  obtain ⟨i0, hif, hz0, hz1, hz3⟩ := info_parts slice_info
  have hrow := h.row i hi
  have hbox := h.boxed j hj
  obtain ⟨v', w', hrun, hown, hg, hnil, hloc⟩ := run_append_own_at (P := Try.prog) w 0 32 o.type 22 i0 (.slice none 0 0) 1 24 Try.underlying32 hif hz0 hz1 hz3 rfl (by decide) _ n _ hrow ⟨b, 0, none⟩ 1 1 [p.1.v] rfl
    (fun j u hu => by
      match j with
      | 0 => cases hu; rw [add_zero]; exact cell_of_row _ _ _ _ _ _ hbox
      | j + 1 => simp at hu) (fun u hu => by simp at hu; subst hu; rfl) (by unfold maxLen; omega) (by omega) (Nat.zero_le _)
  have hv : ∃ ao' cap', v' = .slice ao' (n + 1) cap' := by
    rcases hown.2 with ⟨e, e0⟩ | ⟨g, c', cur, e, _⟩
    · omega
    · exact ⟨_, _, e⟩
  obtain ⟨ao', cap', rfl⟩ := hv
  obtain ⟨S, hpS, hs, back⟩ := h.open i hi
  have hoff : Off S w w' := ⟨hg.os, hg.tape, hg.output, hg.size, fun k hk hns => hg.block k hk fun e => hns (hpS.2 k e.symm)⟩
  have hfin := back w' (rowT (ps ++ [p]) ao' (n + 1) cap') hoff ⟨by rw [List.map_append]; exact hown, fun g hg' => by
    rcases hloc with e | e
    · exact .inl (hpS.2 g (by rw [← e]; exact hg'))
    · rw [hg'] at e
      obtain rfl : g = w.heap.size := Option.some.inj e
      have := (hown.lt _ hg').2
      exact .inr ⟨Nat.le_refl _, this⟩⟩
  unfold Oper.wp execOp
  simp only [ho, resolve, invoke, builtin, Sem.run_bind, Sem.run_pure, Result.andThen_ok, List.map_toArray, List.map_cons, List.map_nil, hp, hq, hrun]
  exact hK ao' cap' w' hfin
/-- The lists behind such a slice. -/
theorem ats_of {w0 w : World} {L : List As} (h : Mem.Own w0 L w) (i : Nat) {ps : List (Sl × List Int)} {ao : Option Addr} {n cap : Nat} (hi : L[i]? = some (rowT ps ao n cap)) (hp : ∀ p ∈ ps, ∃ j : Nat, L[j]? = some (listA p.1 p.2)) : Ats w ao n cap (ps.map fun p => p.2) := by
  have hrow := h.row i hi
  have hlen : ps.length = n := by have := hrow.1; simpa using this
  rcases hrow.2 with ⟨e, rfl⟩ | ⟨g, c, cur, e, _, hh, hc, hm, _, ht⟩
  · cases e
    obtain rfl : ps = [] := List.eq_nil_of_length_eq_zero hlen
    exact Ats.empty w
  · cases e
    refine ⟨by simpa using hlen, hc, hm, nofun, fun j l hl => ?_⟩
    rw [List.getElem?_map] at hl
    obtain ⟨p, hpj, rfl⟩ := Option.map_eq_some_iff.1 hl
    obtain ⟨k, hk⟩ := hp p (List.mem_of_getElem? hpj)
    refine ⟨g, 0, p.1.o, p.1.n, p.1.c, rfl, lt_of_block hh, ?_, h.listAt k hk⟩
    have hj : j < n := by rw [← hlen]; exact (List.getElem?_eq_some_iff.1 hpj).1
    rw [Nat.zero_add, cell_of_row w g j cur _ _ hh]
    have h1 : (cur.toList.take (n * 1))[j]? = (ps.map fun p => p.1.v)[j]? := by rw [ht]
    rw [List.getElem?_take_of_lt (by omega), List.getElem?_map, hpj] at h1
    simpa [Sl.v] using h1
end Go.Proofs.Ytemfnobfdmlfaaa.In
