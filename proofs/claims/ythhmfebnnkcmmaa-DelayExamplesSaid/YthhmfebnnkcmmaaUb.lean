/-
  A range over a function whose loop variable lies in a cell that was there ahead of the loop ('for x = range seq'): the assignment is a store, so between it and the body another invariant holds (Im). The iterator comes by its contract (SeqStopsK).
-/
import Derived.Test.YthhmfebnnkcmmaaBa
import Derived.RangeFuncNested
import Derived.RangeFuncBound
import Derived.RangeFuncCalls
import Derived.RangeFuncLeaves
import Derived.Shelf.Abstract
namespace Go.Proofs.Ythhmfebnnkcmmaa.Rf
open Go Go.RowKit Go.Shelf Go.Proofs.Ythhmfebnnkcmmaa.Mem
set_option linter.unusedVariables false
variable {F : Fence} {n : Nat} {P : Program}

theorem ranged {α : Type} {g : Operand} {ps : Array Tmp} {assign body : Code} {Q : Exit → Act → World → Prop} {a : Act} {w : World} (hro : F.round = none) (h1 : 1 ≤ n)
    {gf : Nat} {lb : Array Value} (hg : a.eval g = .func (.func gf) #[] lb) (hF : F.fn gf) (eg : Enters P gf)
    {encs : α → Array Value} {Kp : World → World → Prop} {S Sp : List α → Prop} {N : Nat} {w0 : World} (hseq : SeqStopsK F (n - 1) P gf lb encs Kp S Sp N w0) (hps : ∀ x, (encs x).size = ps.size)
    (kt : ∀ {A B C : World}, Kp A B → Kp B C → Kp A C) (kp : ∀ (W : World) (l : Nat) (o : Obj), w.heap.size ≤ l → Kp W (W.putObj l o)) (hb : Below w0.heap.size w0 w)
    (I : List α → World → Prop) (Im : List α → α → World → Prop) (Ix : Code → List α → World → Prop)
    (oI : OwnFrom w.heap.size I) (oIm : ∀ x, OwnFrom w.heap.size (fun s => Im s x)) (oIx : ∀ c, OwnFrom w.heap.size (Ix c)) (start : I [] w) (a₁ : α → Act)
    (hassign : ∀ (l : Nat) (s : List α) (x : α) (W : World) (K : Act → World → Prop), I s W → (∀ W', KeepsOthers W W' → Kp W W' → Im s x W' → K (a₁ x) W') →
      assign.wpIn (F.inRound l) (n - 1 - 1) P (Exit.then K (fun _ _ _ => False)) { tmps := (ps.zip (encs x)).foldl (fun t (p, v) => t.setIfInBounds p v) a.tmps, defers := [] } W)
    (hbody : ∀ (l : Nat) (s : List α) (x : α) (W : World), Im s x W → s.length < N → body.wpIn (F.inRound l) (n - 1 - 1) P (ownPostK Kp I Ix (s ++ [x]) W) (a₁ x) W)
    (hdone : ∀ (D : Nat) (xs : List α) (W : World), w.heap.size ≤ D → S xs → I xs W → W.heap[D]? = some (.deferred (some [])) → Q .normal { a with defers := { target := .collected D, args := #[] } :: a.defers } W)
    (hstop : ∀ (D : Nat) (c : Code) (s : List α) (W : World), w.heap.size ≤ D → Sp s → Ix c s W → W.heap[D]? = some (.deferred (some [])) → c.wpIn F n P Q { a with defers := { target := .collected D, args := #[] } :: a.defers } W) :
    (Code.rangeFunc g ps assign body).wpIn F n P Q a w := by
  refine wpIn_rangeFunc fun fn hfn => ?_
  rw [hro]
  obtain ⟨D, hD⟩ : ∃ D, D = w.heap.size := ⟨_, rfl⟩
  obtain ⟨rc, hrc⟩ : ∃ rc : LoopState → Option Code → Loop, rc = fun st j => { state := st, pending := j, fn, tmps := a.tmps, params := ps, assign, body, defers := D } := ⟨_, rfl⟩
  obtain ⟨W1, hW1⟩ : ∃ W1, W1 = (w.alloc (.deferred (some []))).alloc (.loop (rc .ready none)) := ⟨_, rfl⟩
  have s1 : W1.heap.size = D + 2 := by rw [hW1, hD]; simp
  have b1 : Below w0.heap.size w0 W1 := by
    rw [hW1]; exact (hb.alloc hb.size _).alloc (Nat.le_trans hb.size (by simp)) _
  have l1 : W1.heap[D + 1]? = some (.loop (rc .ready none)) := by
    rw [hW1, hD]
    have := World.alloc_heap_new (w.alloc (.deferred (some []))) (.loop (rc .ready none))
    rwa [World.size_alloc] at this
  have d1 : W1.heap[D]? = some (.deferred (some [])) := by
    rw [hW1, hD, Below.heap_alloc _ _ _ (by simp)]
    exact World.alloc_heap_new w _
  have i1 : I [] W1 := by rw [hW1]; exact oI.alloc _ (oI.alloc _ start)
  refine ⟨D + 1, [{ target := .collected D, args := #[] }], W1, { target := .fn (.func gf) lb, args := #[.func (.yield (D + 1)) #[] #[]] }, W1, gf, #[.func (.yield (D + 1)) #[] #[]] ++ lb, W1, ?_, ?_, ?_, ?_, fun _ => h1, ?_⟩
  · rw [hW1, hrc, hD]; exact run_enterLoop_outer _ _ _ _ _
  · simp only [resolve, hg]
    simp [go_sem]
  · intro f' hf'
    simp [Target.leads] at hf'
    rw [← hf']; exact hF
  · simp [invoke, go_sem, eg _ _]
  · have away : ∀ {A : World} {row : Option Nat}, (∀ r, row = some r → W1.heap.size ≤ r ∧ ∃ o : Obj, A.heap[r]? = some o ∧ o.isWalk = true) → ∀ r, row = some r → w.heap.size ≤ r ∧ ∃ o : Obj, A.heap[r]? = some o ∧ o.isCells = false :=
      fun h r e => by obtain ⟨h2, o, h3, h4⟩ := h r e; exact ⟨by omega, o, h3, Obj.not_cells_of_walk h4⟩
    have far : ∀ {A A' : World} {row : Option Nat} {k : Nat} {o : Obj}, (∀ r, row = some r → W1.heap.size ≤ r ∧ ∃ o : Obj, A.heap[r]? = some o ∧ o.isWalk = true) → A.grownBy A' row → k < D + 2 → A.heap[k]? = some o → A'.heap[k]? = some o :=
      fun h hgr hk ho => (hgr.block _ (lt_of_block ho) (fun e => by have := (h _ e.symm).1; omega)).trans ho
    refine (hseq (D + 1) (fun s W => I s W ∧ W.heap[D + 1]? = some (.loop (rc .ready none)) ∧ W.heap[D]? = some (.deferred (some [])))
      (fun s W => ∃ c, Ix c s W ∧ W.heap[D + 1]? = some (.loop (rc .done (some c))) ∧ W.heap[D]? = some (.deferred (some []))) W1 b1
      (fun s A A' row h hgr hr => ⟨oI s A A' row h.1 hgr (away hr), far hr hgr (by omega) h.2.1, far hr hgr (by omega) h.2.2⟩)
      (fun s A A' row h hgr hr => by obtain ⟨c, h1, h2, h3⟩ := h; exact ⟨c, oIx c s A A' row h1 hgr (away hr), far hr hgr (by omega) h2, far hr hgr (by omega) h3⟩)
      ?_ ⟨i1, l1, d1⟩).mono ?_
    · rintro s x W ⟨hi, hl, hd⟩ hlen
      have hy := run_yield (P := P) (args := encs x) hl (by rw [hrc]; exact hps x)
      rw [hrc] at hy
      refine ⟨fn, _, assign, body, hy, roundIn_of_wpIn hfn (hassign _ s x W _ hi ?_)⟩
      intro V ko kV hm
      have lV := ko.same _ _ hl rfl
      have dV := ko.same _ _ hd rfl
      refine ⟨_, run_beginRound lV (by rw [hrc]), ?_⟩
      obtain ⟨V2, hV2⟩ : ∃ V2, V2 = V.putObj (D + 1) (.loop { rc .ready none with state := .busy }) := ⟨_, rfl⟩
      rw [← hV2]
      have l2 : V2.heap[D + 1]? = some (.loop { rc .ready none with state := .busy }) := by rw [hV2]; exact World.putObj_heap_same (lt_of_block lV)
      have d2 : V2.heap[D]? = some (.deferred (some [])) := by rw [hV2, World.putObj_heap_other (by omega)]; exact dV
      have m2 : Im s x V2 := by rw [hV2]; exact (oIm x).putObj _ hm (by omega) lV rfl
      have k2 : Kp W V2 := by rw [hV2]; exact kt kV (kp _ _ _ (by omega))
      refine wpIn_mono (hbody _ s x V2 m2 hlen) ?_
      have back : ∀ (j : Option Code) (V3 : World), KeepsOthers V2 V3 → (Instr.endRound (D + 1) j).run P V3 = .ok (.bool j.isNone) (V3.putObj (D + 1) (.loop (rc (if j.isNone then .ready else .done) j))) ∧
          V3.heap[D + 1]? = some (.loop { rc .ready none with state := .busy }) ∧
          (V3.putObj (D + 1) (.loop (rc (if j.isNone then .ready else .done) j))).heap[D + 1]? = some (.loop (rc (if j.isNone then .ready else .done) j)) ∧
          (V3.putObj (D + 1) (.loop (rc (if j.isNone then .ready else .done) j))).heap[D]? = some (.deferred (some [])) := fun j V3 k3 => by
        have l3 := k3.same _ _ l2 rfl
        have e := run_endRound (P := P) j l3
        refine ⟨?_, l3, World.putObj_heap_same (lt_of_block l3), by rw [World.putObj_heap_other (by omega)]; exact k3.same _ _ d2 rfl⟩
        rw [hrc] at e ⊢
        exact e
      intro e a3 V3 hp
      cases e with
      | normal =>
        obtain ⟨k3, kp3, i3⟩ := hp
        obtain ⟨hr, hl3, hl4, hd4⟩ := back none V3 k3
        exact ⟨_, _, hr, .inl ⟨rfl, ⟨oI.putObj _ i3 (by omega) hl3 rfl, hl4, hd4⟩, kt (kt k2 kp3) (kp _ _ _ (by omega))⟩⟩
      | ret =>
        obtain ⟨k3, i3⟩ := hp
        obtain ⟨hr, hl3, hl4, hd4⟩ := back (some .ret) V3 k3
        exact ⟨_, _, hr, .inr ⟨rfl, _, (oIx _).putObj _ i3 (by omega) hl3 rfl, hl4, hd4⟩⟩
      | exit id =>
        obtain ⟨k3, i3⟩ := hp
        obtain ⟨hr, hl3, hl4, hd4⟩ := back (some (.exit id)) V3 k3
        exact ⟨_, _, hr, .inr ⟨rfl, _, (oIx _).putObj _ i3 (by omega) hl3 rfl, hl4, hd4⟩⟩
      | goto t =>
        obtain ⟨k3, i3⟩ := hp
        obtain ⟨hr, hl3, hl4, hd4⟩ := back (some (.goto t)) V3 k3
        exact ⟨_, _, hr, .inr ⟨rfl, _, (oIx _).putObj _ i3 (by omega) hl3 rfl, hl4, hd4⟩⟩
      | panic ch => exact hp.elim
      | outgrown => exact hp.elim
    · rintro e W2 ⟨⟨v, rfl⟩, (⟨xs, hS, hi, hl, hd⟩ | ⟨s, hSp, c, hi, hl, hd⟩)⟩
      · have e := run_endLoop (P := P) hl (by rw [hrc]; simp)
        refine ⟨none, W2.putObj (D + 1) (.loop { rc .ready none with state := .exhausted }), ?_, ?_⟩
        · rw [hrc] at e ⊢; exact e
        · rw [hD]
          exact hdone _ _ _ (Nat.le_refl _) hS (oI.putObj _ hi (by omega) (by rw [← hD]; exact hl) rfl) (by rw [World.putObj_heap_other (by omega), ← hD]; exact hd)
      · have e := run_endLoop (P := P) hl (by rw [hrc]; simp)
        refine ⟨some c, W2.putObj (D + 1) (.loop { rc .done (some c) with state := .exhausted }), ?_, ?_⟩
        · rw [hrc] at e ⊢; exact e
        · rw [hD]
          exact hstop _ _ _ _ (Nat.le_refl _) hSp ((oIx c).putObj _ hi (by omega) (by rw [← hD]; exact hl) rfl) (by rw [World.putObj_heap_other (by omega), ← hD]; exact hd)
end Go.Proofs.Ythhmfebnnkcmmaa.Rf
