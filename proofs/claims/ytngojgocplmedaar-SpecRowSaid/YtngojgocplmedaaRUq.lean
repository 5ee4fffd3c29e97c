/-
  A drawn region as a machine of states, over a condition S on the world that every operation keeps ('machine'): what reads memory is taken first; calls, allocations and stores of whole structs are its steps.
-/
import Derived.Test.YtngojgocplmedaaRVb
import Derived.RegionTactic
import Derived.Deep.RegionHeld
import Derived.Laws.Tables
namespace Go.Proofs.YtngojgocplmedaaR.Mch
open Go Go.RowKit Go.Proofs.YtngojgocplmedaaR.Mem Go.Proofs.YtngojgocplmedaaR.Bx Go.ChangeShapes Go.WideShapes Go.ChangeAt
set_option linter.unusedVariables false

section
variable {P : Program} {md : Region.Mode} {ops : Array Oper} {Q : Exit → Act → World → Prop} {S : World → Prop}
theorem machine {fuel : Nat} {L0 : Array Bool} {a0 : Act} {w : World} (I : Array Bool → Act → Nat → Array Bool → Act → World → Prop)
    (h : ∀ k, (∀ k', k' < k → ∀ listed a w, I L0 a0 k' listed a w → wpAnyH P md ops Q S k' listed a w) → ∀ listed a w, I L0 a0 k listed a w → wpAnyH P md ops Q S k listed a w) (init : I L0 a0 fuel L0 a0 w) : wpAnyH P md ops Q S fuel L0 a0 w := by
  have key : ∀ k listed a w, I L0 a0 k listed a w → wpAnyH P md ops Q S k listed a w := by
    intro k
    induction k using Nat.strongRecOn with
    | ind k ih => exact h k ih
  exact key _ _ _ _ init
variable {fuel : Nat} {listed : Array Bool} {a : Act} {w w' : World} {i : Nat} {o : Oper} {rs : List Nat}
/-- An operation of which it is known how it goes on, whatever follows. -/
theorem ready_wp (ho : ops[i]? = some o) (hw : Region.wanted o (yielded ops a.tmps) = true) (h : ∀ K : Act → World → Prop, (∀ a' w'', S w'' → wpAnyH P md ops Q S fuel (listed.setIfInBounds i true) a' w'' → K a' w'') → Oper.wp P o a w K Q) (hs : AllReadyH P md ops Q S fuel listed a w rs) : AllReadyH P md ops Q S fuel listed a w (i :: rs) :=
  AllReadyH.cons ho (fun K hK => by
    rw [if_pos hw]
    exact h K fun a' w'' h1 h2 => hK.out _ _ h1 fun _ => h2) hs
theorem ready_run {v : Value} (ho : ops[i]? = some o) (hw : Region.wanted o (yielded ops a.tmps) = true) (hr : (execOp a.eval o).run P w = .ok (.value v) w') (hS : S w') (h : wpAnyH P md ops Q S fuel (listed.setIfInBounds i true) (a.put o.dst v) w') (hs : AllReadyH P md ops Q S fuel listed a w rs) : AllReadyH P md ops Q S fuel listed a w (i :: rs) :=
  ready_wp ho hw (fun K hK => by
    unfold Oper.wp
    rw [hr]
    exact hK _ _ hS h) hs
theorem ready_call {f : FuncId} {args : Array Value} (ho : ops[i]? = some o) (hw : Region.wanted o (yielded ops a.tmps) = true) (hr : (execOp a.eval o).run P w = .ok (.enter f args) w') (h : Calls P f args w' fun e w'' => ∃ v, e = .returned v ∧ S w'' ∧ wpAnyH P md ops Q S fuel (listed.setIfInBounds i true) (a.put o.dst v) w'') (hs : AllReadyH P md ops Q S fuel listed a w rs) : AllReadyH P md ops Q S fuel listed a w (i :: rs) :=
  ready_wp ho hw (fun K hK => by
    unfold Oper.wp
    rw [hr, Oper.upon_enter]
    refine h.mono ?_
    rintro e w'' ⟨v, rfl, h1, h'⟩
    exact hK _ _ h1 h') hs
theorem _root_.Go.Proofs.YtngojgocplmedaaR.Mem.Own.rowset {w0 w : World} {L : List As} (h : Mem.Own w0 L w) (i : Nat) {B : Nat} {cs cs' : Array Value} {T : TypeId} (hi : L[i]? = some (boxA B cs T)) : Mem.Own w0 (L.set i (boxA B cs' T)) (w.setRow B cs') := by
  obtain ⟨X, hp, hs, back⟩ := h.open i hi
  exact back _ _ ⟨rfl, rfl, rfl, by simp, fun k hk hn => setRow_other _ _ _ _ (fun e => hn (e ▸ hp.2))⟩ ⟨setRow_heap w B _ cs' _ _ hp.1, .inl hp.2⟩
/-- A whole struct is stored into a variable of the call's own. -/
theorem ready_store {w0 : World} {L : List As} {B j : Nat} {cs cs' : Array Value} {T : TypeId} {x y : Operand} (hO : Mem.Own w0 L w) (hj : L[j]? = some (boxA B cs T)) (ho : ops[i]? = some o) (hw : Region.wanted o (yielded ops a.tmps) = true) (hop : o.op = .store T x y) (hx : a.eval x = .pointer (some ⟨B, 0, none⟩)) (hy : a.eval y = .agg cs')
    (hi : (P.info? T).map (·.size) = some cs'.size) (hz : cs.size = cs'.size) (h1 : cs'.all (·.oneCell') = true)
    (h : ∀ w', Mem.Own w0 (L.set j (boxA B cs' T)) w' → S w' ∧ wpAnyH P md ops Q S fuel (listed.setIfInBounds i true) (a.put o.dst undef) w') (hs : AllReadyH P md ops Q S fuel listed a w rs) : AllReadyH P md ops Q S fuel listed a w (i :: rs) :=
  ready_wp ho hw (fun K hK => wp_store_row T x y hop B cs' hx hy T cs (hO.boxed j hj) hi hz h1 (by
    obtain ⟨h2, h3⟩ := h _ (hO.rowset j hj)
    exact hK _ _ h2 h3)) hs
end
def puts (l : List (Nat × Value)) (a : Act) : Act := l.foldl (fun a p => a.put (some p.1) p.2) a
def sets (l : List Nat) (b : Array Bool) : Array Bool := l.foldl (fun b i => b.setIfInBounds i true) b
/-- Some of the first things, in another order; those behind them stay. -/
theorem own_pickt {w0 w : World} {L M Z : List As} (h : Mem.Own w0 (L ++ Z) w) (g : List Nat) (hn : g.Nodup) (e : g.map (fun k => L[k]?) = M.map some) : Mem.Own w0 (M ++ Z) w := by
  have hl : g.length = M.length := by have := congrArg List.length e; simpa using this
  have hb : ∀ (i : Nat) (hi : i < g.length), g[i] < L.length := fun i hi => by
    have h2 : (g.map (fun k => L[k]?))[i]? = (M.map some)[i]? := by rw [e]
    rw [List.getElem?_map, List.getElem?_map, List.getElem?_eq_getElem hi, List.getElem?_eq_getElem (show i < M.length by omega)] at h2
    have h3 : L[g[i]]? = some (M[i]'(by omega)) := Option.some.inj h2
    exact (List.getElem?_eq_some_iff.1 h3).1
  have hg : ∀ (i : Nat) (hi : i < M.length), g.getD i 0 = g[i]'(by omega) := fun i hi => by rw [List.getD_eq_getElem?_getD, List.getElem?_eq_getElem (by omega)]; rfl
  refine h.pick (fun i => if i < M.length then g.getD i 0 else i - M.length + L.length) (fun i j hi hj he => ?_) (fun i a hi => ?_)
  · have he : (if i < M.length then g.getD i 0 else i - M.length + L.length) = (if j < M.length then g.getD j 0 else j - M.length + L.length) := he
    by_cases h1 : i < M.length <;> by_cases h2 : j < M.length
    · rw [if_pos h1, if_pos h2, hg i h1, hg j h2] at he
      have hp := List.pairwise_iff_getElem.1 hn
      rcases Nat.lt_trichotomy i j with hlt | e | hlt
      · exact absurd he (hp i j (by omega) (by omega) hlt)
      · exact e
      · exact absurd he.symm (hp j i (by omega) (by omega) hlt)
    · rw [if_pos h1, if_neg h2, hg i h1] at he
      have := hb i (by omega)
      omega
    · rw [if_neg h1, if_pos h2, hg j h2] at he
      have := hb j (by omega)
      omega
    · rw [if_neg h1, if_neg h2] at he
      omega
  · show (L ++ Z)[if i < M.length then g.getD i 0 else i - M.length + L.length]? = some a
    by_cases h1 : i < M.length
    · rw [if_pos h1, hg i h1]
      rw [List.getElem?_append_left h1] at hi
      have h2 : (g.map (fun k => L[k]?))[i]? = some (some a) := by rw [e, List.getElem?_map, hi]; rfl
      rw [List.getElem?_map, List.getElem?_eq_getElem (by omega)] at h2
      rw [List.getElem?_append_left (hb i (by omega))]
      simpa using h2
    · rw [if_neg h1]
      rw [List.getElem?_append_right (by omega)] at hi
      rw [List.getElem?_append_right (by omega), show i - M.length + L.length - L.length = i - M.length by omega]
      exact hi
theorem ld_int {ρ : Operand → Value} {o : Oper} {x : Operand} {ad : Addr} {n : Int} {w : World} (hop : o.op = .load 3 x) (hx : ρ x = .pointer (some ad)) (hc : w.cell? ad = some (.int .i64 n)) : (execOp ρ o).run Try.prog w = .ok (.value (.int .i64 n)) w := by
  unfold execOp
  rw [hop]
  simp [go_sem, hx, hc]
/-- A whole struct is loaded. -/
theorem ld_row {P : Program} {ρ : Operand → Value} {o : Oper} {x : Operand} {ty t : TypeId} {g : Nat} {cs : Array Value} {d : TypeDesc} {w : World} (hop : o.op = .load ty x) (hx : ρ x = .pointer (some ⟨g, 0, none⟩)) (hg : w.heap[g]? = some (.cells cs t (0, 0)))
    (hu : P.underlying ty = some d) (hd : (match d with | .struct _ | .array _ _ => true | _ => false) = true) (hi : (P.info? ty).map (·.size) = some cs.size) : (execOp ρ o).run P w = .ok (.value (.agg cs)) w := by
  unfold execOp
  simp only [hop, hx, Instr.loadAt, Instr.sureAddr, Sem.run_bind, Sem.run_pure, Result.andThen_ok, run_loadVar_row w g t ty cs (0, 0) d hg hu hd hi]
end Go.Proofs.YtngojgocplmedaaR.Mch
