/-
  Things in memory, each in blocks of its own ('As'), several at once ('Own'); what a call may do to the blocks of one of them ('Off').
-/
import Derived.Test.YtoclgneokfbobaaBut
namespace Go.Proofs.Ytoclgneokfbobaa.Mem
open Go.RowKit

/-- Outside S every block that was there is as it was. -/
structure Off (S : Nat → Prop) (w w' : World) : Prop where
  os : w'.os = w.os
  tape : w'.tape = w.tape
  output : w'.output = w.output
  size : w.heap.size ≤ w'.heap.size
  block : ∀ k, k < w.heap.size → ¬ S k → w'.heap[k]? = w.heap[k]?
/-- S, and all that was made between w and w'. -/
def grew (S : Nat → Prop) (w w' : World) (k : Nat) : Prop := S k ∨ (w.heap.size ≤ k ∧ k < w'.heap.size)
theorem Off.refl (S : Nat → Prop) (w : World) : Off S w w := ⟨rfl, rfl, rfl, Nat.le_refl _, fun _ _ _ => rfl⟩
theorem Off.trans {S : Nat → Prop} {a b c : World} (h : Off S a b) (k : Off S b c) : Off S a c :=
  ⟨k.os.trans h.os, k.tape.trans h.tape, k.output.trans h.output, Nat.le_trans h.size k.size, fun i hi hs => (k.block i (Nat.lt_of_lt_of_le hi h.size) hs).trans (h.block i hi hs)⟩
theorem Off.mono {S T : Nat → Prop} {a b : World} (h : Off S a b) (hs : ∀ k, k < a.heap.size → S k → T k) : Off T a b :=
  ⟨h.os, h.tape, h.output, h.size, fun k hk ht => h.block k hk fun hk' => ht (hs k hk hk')⟩
/-- Two steps, of which the second may also write what the first has made. -/
theorem Off.then {S : Nat → Prop} {a b c : World} (h : Off S a b) (k : Off (grew S a b) b c) : Off S a c :=
  ⟨k.os.trans h.os, k.tape.trans h.tape, k.output.trans h.output, Nat.le_trans h.size k.size, fun i hi hs =>
    (k.block i (Nat.lt_of_lt_of_le hi h.size) (fun hg => hg.elim hs fun h2 => absurd hi (Nat.not_lt.2 h2.1))).trans (h.block i hi hs)⟩
theorem Off.drew {S : Nat → Prop} {a w : World} (h : Off S a w) : Off S a w.drew := h.trans ⟨rfl, rfl, rfl, Nat.le_refl _, fun _ _ _ => rfl⟩
theorem Off.alloc {S : Nat → Prop} {a w : World} (h : Off S a w) (o : Obj) : Off S a (w.alloc o) :=
  h.trans ⟨rfl, rfl, rfl, by simp, fun k hk _ => Below.heap_alloc _ _ k hk⟩
theorem Off.setc {S : Nat → Prop} {a w : World} (h : Off S a w) (B i : Nat) (v : Value) (hB : S B ∨ a.heap.size ≤ B) : Off S a (w.setCell ⟨B, i, none⟩ v) :=
  ⟨h.os, h.tape, h.output, by simpa using h.size, fun k hk hs => by
    have hne : k ≠ B := fun e => by subst e; exact hB.elim hs fun h2 => absurd hk (Nat.not_lt.2 h2)
    rw [heap_setCell_other _ _ _ _ hne]; exact h.block k hk hs⟩
theorem Off.but {S : Nat → Prop} {a b c : World} {B : Nat} (h : Off S a b) (k : But B b c) (hB : S B ∨ a.heap.size ≤ B) : Off S a c :=
  ⟨k.os.trans h.os, k.tape.trans h.tape, k.output.trans h.output, Nat.le_trans h.size k.size, fun i hi hs =>
    (k.block i (Nat.lt_of_lt_of_le hi h.size) (fun e => by subst e; exact hB.elim hs fun h2 => absurd hi (Nat.not_lt.2 h2))).trans (h.block i hi hs)⟩
theorem Off.kept {S : Nat → Prop} {a b c : World} (h : Off S a b) (k : Kept b c) : Off S a c :=
  ⟨k.os.trans h.os, k.tape.trans h.tape, k.output.trans h.output, Nat.le_trans h.size k.size, fun i hi hs => (Below.block k i (Nat.lt_of_lt_of_le hi h.size)).trans (h.block i hi hs)⟩
theorem Kept.off {a b : World} (k : Kept a b) (S : Nat → Prop) : Off S a b := (Off.refl S a).kept k
theorem But.off {B : Nat} {a b : World} (k : But B a b) {S : Nat → Prop} (hB : S B) : Off S a b := (Off.refl S a).but k (.inl hB)
/-- Below n, where S is not. -/
theorem Off.below {S : Nat → Prop} {n : Nat} {a b : World} (h : Off S a b) (hn : ∀ k, S k → n ≤ k) (hs : n ≤ a.heap.size) : Below n a b :=
  ⟨h.os, h.tape, h.output, h.size, fun k hk => h.block k (by omega) fun hk' => absurd (hn k hk') (by omega)⟩
/-- Nothing but new blocks. -/
theorem Off.keptOf {a b : World} {S : Nat → Prop} (h : Off S a b) (hs : ∀ k, ¬ S k) : Kept a b := h.below (fun k hk => absurd hk (hs k)) (Nat.le_refl _)
theorem Off.cell {S : Nat → Prop} {a b : World} (h : Off S a b) {p : Addr} {v : Value} (hc : a.cell? p = some v) (hp : ¬ S p.block) : b.cell? p = some v := by
  have hlt : p.block < a.heap.size := World.block_lt_of_cell? a p hc
  rw [World.cell?_of_block (h.block _ hlt hp)]; exact hc
theorem Off.at {S : Nat → Prop} {a b : World} (h : Off S a b) {k : Nat} {o : Obj} (hb : a.heap[k]? = some o) (hk : ¬ S k) : b.heap[k]? = some o := by
  rw [h.block k (lt_of_block hb) hk]; exact hb

/-- A thing in memory: it lies in the blocks S of w. -/
structure As where
  p : (Nat → Prop) → World → Prop
  mono : ∀ S T w, p S w → (∀ k, S k → T k) → p T w
  loc : ∀ S w w', p S w → (∀ k, S k → k < w.heap.size → w'.heap[k]? = w.heap[k]?) → p S w'
/-- One that comes out of another. -/
theorem As.keep {a : As} {S : Nat → Prop} {w w' : World} (h : a.p S w) (k : Kept w w') : a.p S w' := a.loc S w w' h fun i _ hi => Below.block k i hi
theorem As.off {a : As} {S T : Nat → Prop} {w w' : World} (h : a.p S w) (k : Off T w w') (hd : ∀ i, S i → ¬ T i) : a.p S w' := a.loc S w w' h fun i hs hi => k.block i hi (hd i hs)

/-- Since w0 nothing that was there has changed, and there are new things, each in blocks of its own. -/
structure Own (w0 : World) (L : List As) (w : World) : Prop where
  kept : Kept w0 w
  ex : ∃ f : Nat → Nat → Prop, (∀ i (a : As), L[i]? = some a → a.p (f i) w) ∧ (∀ i k, f i k → w0.heap.size ≤ k ∧ k < w.heap.size) ∧ (∀ i j k, f i k → f j k → i = j)
theorem Own.nil (w : World) : Own w [] w := ⟨Kept.refl w, fun _ _ => False, fun i a h => by simp at h, fun _ _ h => h.elim, fun _ _ _ h => h.elim⟩
theorem Own.start {w w' : World} (h : Kept w w') : Own w [] w' := ⟨h, fun _ _ => False, fun i a h => by simp at h, fun _ _ h => h.elim, fun _ _ _ h => h.elim⟩
theorem Own.later {w0 w w' : World} {L : List As} (h : Own w0 L w) (k : Kept w w') : Own w0 L w' := by
  obtain ⟨hk, f, h1, h2, h3⟩ := h
  exact ⟨hk.trans k, f, fun i a hi => As.keep (h1 i a hi) k, fun i j hf => ⟨(h2 i j hf).1, Nat.lt_of_lt_of_le (h2 i j hf).2 k.size⟩, h3⟩
theorem Own.drew {w0 w : World} {L : List As} (h : Own w0 L w) : Own w0 L w.drew := h.later (Kept.refl w).drew
theorem Own.drewN {w0 w : World} {L : List As} (h : Own w0 L w) (n : Nat) : Own w0 L (w.drewN n) := h.later ((Kept.refl w).drewN n)
theorem Own.alloc {w0 w : World} {L : List As} (h : Own w0 L w) (o : Obj) : Own w0 L (w.alloc o) := h.later ((Kept.refl w).alloc o)
/-- Thing i is taken in hand, written, and laid back. -/
theorem Own.open {w0 w : World} {L : List As} (h : Own w0 L w) (i : Nat) {a : As} (hi : L[i]? = some a) :
    ∃ S, a.p S w ∧ (∀ k, S k → k < w.heap.size) ∧ ∀ w' b, Off S w w' → b.p (grew S w w') w' → Own w0 (L.set i b) w' := by
  obtain ⟨hk, f, h1, h2, h3⟩ := h
  refine ⟨f i, h1 i a hi, fun k hk => (h2 i k hk).2, fun w' b ho hb => ?_⟩
  have hil : i < L.length := (List.getElem?_eq_some_iff.1 hi).1
  refine ⟨Below.trans hk (ho.below (fun k hf => (h2 i k hf).1) hk.size), fun j => if j = i then grew (f i) w w' else f j, ?_, ?_, ?_⟩
  · intro j c hj
    by_cases e : j = i
    · subst e
      rw [List.getElem?_set_self hil] at hj
      obtain rfl : b = c := by simpa using hj
      simpa using hb
    · rw [List.getElem?_set_ne (fun e' => e e'.symm)] at hj
      simp only [e, if_false]
      exact As.off (h1 j c hj) ho fun k hk hk' => e (h3 _ _ _ hk hk')
  · intro j k hf
    by_cases e : j = i
    · simp only [e, if_true] at hf
      rcases hf with hf | hf
      · exact ⟨(h2 i k hf).1, Nat.lt_of_lt_of_le (h2 i k hf).2 ho.size⟩
      · exact ⟨Nat.le_trans hk.size hf.1, hf.2⟩
    · simp only [e, if_false] at hf
      exact ⟨(h2 j k hf).1, Nat.lt_of_lt_of_le (h2 j k hf).2 ho.size⟩
  · intro j l k hf hg
    by_cases e : j = i <;> by_cases e' : l = i
    · rw [e, e']
    · simp only [e, e', if_true, if_false] at hf hg
      rcases hf with hf | hf
      · exact absurd (h3 _ _ _ hf hg).symm e'
      · exact absurd (h2 l k hg).2 (by omega)
    · simp only [e, e', if_true, if_false] at hf hg
      rcases hg with hg | hg
      · exact absurd (h3 _ _ _ hf hg) e
      · exact absurd (h2 j k hf).2 (by omega)
    · simp only [e, e', if_false] at hf hg
      exact h3 _ _ _ hf hg
/-- A new thing. -/
theorem Own.push {w0 w w' : World} {L : List As} (h : Own w0 L w) {b : As} (k : Kept w w') (hb : b.p (grew (fun _ => False) w w') w') : Own w0 (L ++ [b]) w' := by
  obtain ⟨hk, f, h1, h2, h3⟩ := h
  refine ⟨hk.trans k, fun j => if j = L.length then grew (fun _ => False) w w' else if j < L.length then f j else fun _ => False, ?_, ?_, ?_⟩
  · intro j c hj
    by_cases e : j = L.length
    · subst e
      obtain rfl : b = c := by simpa using hj
      simpa using hb
    · have hlt : j < L.length := by
        have := (List.getElem?_eq_some_iff.1 hj).1
        simp at this; omega
      rw [List.getElem?_append_left hlt] at hj
      simp only [e, hlt, if_false, if_true]
      exact As.keep (h1 j c hj) k
  · intro j i hf
    by_cases e : j = L.length
    · simp only [e, if_true] at hf
      rcases hf with hf | hf
      · exact hf.elim
      · exact ⟨Nat.le_trans hk.size hf.1, hf.2⟩
    · by_cases e2 : j < L.length
      · simp only [e, e2, if_false, if_true] at hf
        exact ⟨(h2 j i hf).1, Nat.lt_of_lt_of_le (h2 j i hf).2 k.size⟩
      · simp only [e, e2, if_false] at hf
  · intro j l i hf hg
    by_cases e : j = L.length <;> by_cases e' : l = L.length
    · rw [e, e']
    · simp only [e, e', if_true, if_false] at hf hg
      by_cases e2 : l < L.length
      · simp only [e2, if_true] at hg
        rcases hf with hf | hf
        · exact hf.elim
        · exact absurd (h2 l i hg).2 (by omega)
      · simp only [e2, if_false] at hg
    · simp only [e, e', if_true, if_false] at hf hg
      by_cases e2 : j < L.length
      · simp only [e2, if_true] at hf
        rcases hg with hg | hg
        · exact hg.elim
        · exact absurd (h2 j i hf).2 (by omega)
      · simp only [e2, if_false] at hf
    · simp only [e, e', if_false] at hf hg
      by_cases e2 : j < L.length <;> by_cases e3 : l < L.length
      · simp only [e2, e3, if_true] at hf hg
        exact h3 _ _ _ hf hg
      · simp only [e3, if_false] at hg
      · simp only [e2, if_false] at hf
      · simp only [e2, if_false] at hf
/-- Things that are no longer looked at: the list may lose any of its places, in order. -/
theorem Own.pick {w0 w : World} {L M : List As} (h : Own w0 L w) (g : Nat → Nat) (hg : ∀ i j, i < M.length → j < M.length → g i = g j → i = j) (hM : ∀ i a, M[i]? = some a → L[g i]? = some a) : Own w0 M w := by
  obtain ⟨hk, f, h1, h2, h3⟩ := h
  refine ⟨hk, fun j k => j < M.length ∧ f (g j) k, ?_, fun i k hf => h2 _ k hf.2, fun i j k hf hf' => hg i j hf.1 hf'.1 (h3 _ _ _ hf.2 hf'.2)⟩
  intro i a hi
  have hlt := (List.getElem?_eq_some_iff.1 hi).1
  exact a.mono _ _ _ (h1 _ a (hM i a hi)) fun k hk => ⟨hlt, hk⟩
theorem Own.front {w0 w : World} {L : List As} {b : As} (h : Own w0 (L ++ [b]) w) : Own w0 (b :: L) w :=
  h.pick (fun i => if i = 0 then L.length else i - 1) (fun i j hi hj e => by
    simp only [List.length_cons] at hi hj
    by_cases hi0 : i = 0 <;> by_cases hj0 : j = 0 <;> simp [hi0, hj0] at e ⊢ <;> omega) fun i a hi => by
    cases i with
    | zero => simp at hi; subst hi; simp
    | succ i =>
      simp only [List.getElem?_cons_succ] at hi
      have := (List.getElem?_eq_some_iff.1 hi).1
      simp only [Nat.succ_ne_zero, if_false, Nat.add_sub_cancel]
      rw [List.getElem?_append_left this]; exact hi
theorem Own.tail {w0 w : World} {L : List As} {b : As} (h : Own w0 (b :: L) w) : Own w0 L w :=
  h.pick (fun i => i + 1) (fun i j _ _ e => by omega) fun i a hi => by simpa using hi
theorem Own.second {w0 w : World} {L : List As} {a b : As} (h : Own w0 (a :: b :: L) w) : Own w0 (a :: L) w :=
  h.pick (fun i => if i = 0 then 0 else i + 1) (fun i j _ _ e => by by_cases hi0 : i = 0 <;> by_cases hj0 : j = 0 <;> simp [hi0, hj0] at e ⊢ <;> omega) fun i c hi => by
    cases i with
    | zero => simpa using hi
    | succ i => simpa using hi
/-- What is so of thing i. -/
theorem Own.see {w0 w : World} {L : List As} (h : Own w0 L w) (i : Nat) {a : As} (hi : L[i]? = some a) : ∃ S, a.p S w ∧ (∀ k, S k → w0.heap.size ≤ k ∧ k < w.heap.size) := by
  obtain ⟨hk, f, h1, h2, h3⟩ := h
  exact ⟨f i, h1 i a hi, fun k hf => h2 i k hf⟩
theorem Own.lift {P : Program} {fn : Nat} {args : Array Value} {w0 w : World} {L : List As} (h : Own w0 L w) (i : Nat) {a : As} (hi : L[i]? = some a) {X : Type} {R : X → Ending → Prop} {b : X → As}
    (c : ∀ S, a.p S w → (∀ k, S k → k < w.heap.size) → Calls P fn args w fun e w' => ∃ x, R x e ∧ Off S w w' ∧ (b x).p (grew S w w') w') :
    Calls P fn args w fun e w' => ∃ x, R x e ∧ Own w0 (L.set i (b x)) w' := by
  obtain ⟨S, ha, hs, back⟩ := h.open i hi
  exact (c S ha hs).mono fun e w' ⟨x, hr, ho, hb⟩ => ⟨x, hr, back _ _ ho hb⟩
theorem Own.lift1 {P : Program} {fn : Nat} {args : Array Value} {w0 w : World} {L : List As} (h : Own w0 L w) (i : Nat) {a : As} (hi : L[i]? = some a) {R : Ending → Prop} {b : As}
    (c : ∀ S, a.p S w → (∀ k, S k → k < w.heap.size) → Calls P fn args w fun e w' => R e ∧ Off S w w' ∧ b.p (grew S w w') w') :
    Calls P fn args w fun e w' => R e ∧ Own w0 (L.set i b) w' := by
  obtain ⟨S, ha, hs, back⟩ := h.open i hi
  exact (c S ha hs).mono fun e w' ⟨hr, ho, hb⟩ => ⟨hr, back _ _ ho hb⟩
theorem set0 {a b : As} {L : List As} : (a :: L).set 0 b = b :: L := rfl
theorem set1 {a b c : As} {L : List As} : (a :: b :: L).set 1 c = a :: c :: L := rfl
theorem set2 {a b c d : As} {L : List As} : (a :: b :: c :: L).set 2 d = a :: b :: d :: L := rfl
theorem set3 {a b c d e : As} {L : List As} : (a :: b :: c :: d :: L).set 3 e = a :: b :: c :: e :: L := rfl
end Go.Proofs.Ytoclgneokfbobaa.Mem
