/-
  Maps of the call's own from numbers to bools, all true (namespace In): which numbers are in ('Bs'); the loop over such a map.
-/
import Derived.Test.YtemfnobfdmlfaaaWb
import Derived.Maps.RangeWalk
import Derived.Maps.OwnSet
import Derived.Lib.SlKeysI
namespace Go.Proofs.Ytemfnobfdmlfaaa.In
open Go.RowKit Go.Maps Go.MapKept Go.ChangeMaps Go.Proofs.Ytemfnobfdmlfaaa.Mem Go.Proofs.Ytemfnobfdmlfaaa.Po

theorem bs_law : Keyed Try.prog 3 := int_keyed Try.underlying3
theorem bs_map : Try.prog.underlying 39 = some (.map 3 4) := Try.underlying39
theorem bs_zero (w : World) : (zeroValue 4).run Try.prog w = .ok (.bool false) w := by kernel_rfl
theorem wf_of {x : Int} (h : isI x) : (Lit.int .i64 x).wf = true := WalkArith.wf_i64 (by unfold isI at h; omega)
theorem bs_key {x : Int} (h : isI x) : keyOf Try.prog 3 (.int .i64 x) = some (.int .i64 x) := keyOf_int_mk Try.underlying3 (wf_of h)
theorem bs_ne {x y : Int} (h : x ≠ y) : (Lit.int .i64 x) ≠ .int .i64 y := fun e => h (by injection e)
/-- The datum has the numbers of which S holds, each with true. -/
def Says (D : DataW Unit) (S : Int → Prop) : Prop :=
  (∀ k, Maps.has D k = true → ∃ x, isI x ∧ S x ∧ k = .int .i64 x) ∧ ∀ x, S x → Maps.has D (.int .i64 x) = true ∧ ∀ z, D.atKey (.int .i64 x) z = .lit (.bool true)
/-- Block b is a map with the numbers of which S holds, at most N. -/
def Bs (b N : Nat) (S : Int → Prop) (w : World) : Prop := ∃ D, w.ownsMap Try.prog 3 (plainElem Try.prog 4) b N D ∧ Says D S
theorem Bs.lt {b N : Nat} {S : Int → Prop} {w : World} (h : Bs b N S w) : b < w.heap.size := by obtain ⟨D, h, _⟩ := h; exact h.lt
theorem Bs.at {b N : Nat} {S : Int → Prop} {w w' : World} (h : Bs b N S w) (he : w'.heap[b]? = w.heap[b]?) : Bs b N S w' := by
  obtain ⟨D, ⟨es, clock, hb, r⟩, hs⟩ := h
  exact ⟨D, ⟨es, clock, he.trans hb, r⟩, hs⟩
theorem Bs.kept {b N : Nat} {S : Int → Prop} {w w' : World} (h : Bs b N S w) (k : Kept w w') : Bs b N S w' := h.at (Below.block k b h.lt)
theorem Bs.grown {b N : Nat} {S : Int → Prop} {w w' : World} {row : Option Nat} (h : Bs b N S w) (k : w.grownBy w' row) (hr : some b ≠ row) : Bs b N S w' := h.at (k.block b h.lt hr)
theorem Bs.made (w : World) : Bs w.heap.size 0 (fun _ => False) (w.alloc (.map #[] 0)) :=
  ⟨.map [], World.ownsMap_made _ _ _ _, fun k hk => by simp [Maps.has_eq] at hk, fun x h => h.elim⟩
theorem Bs.same {b N : Nat} {S T : Int → Prop} {w : World} (h : Bs b N S w) (e : ∀ x, S x ↔ T x) : Bs b N T w := by
  obtain ⟨D, ho, h1, h2⟩ := h
  exact ⟨D, ho, fun k hk => by obtain ⟨x, hx, hs, e1⟩ := h1 k hk; exact ⟨x, hx, (e x).1 hs, e1⟩, fun x hx => h2 x ((e x).2 hx)⟩
theorem says_has {D : DataW Unit} {S : Int → Prop} (h : Says D S) (x : Int) : Maps.has D (.int .i64 x) = true ↔ S x :=
  ⟨fun hk => by obtain ⟨y, _, hs, e⟩ := h.1 _ hk; injection e with _ e; subst e; exact hs, fun hs => (h.2 x hs).1⟩
theorem bool_inv {v : Value} {z : DataW Unit × List MemPlace} (h : plainElem Try.prog 4 v = some z) : ∃ q, v = .bool q ∧ z.1 = .lit (.bool q) := by
  unfold plainElem at h
  rw [Try.underlying4] at h
  cases v <;> simp at h
  subst h
  exact ⟨_, rfl, rfl⟩
/-- Looked up. -/
theorem Bs.look {b N : Nat} {S : Int → Prop} {w : World} (h : Bs b N S w) {x : Int} (hx : isI x) : ∃ q, (Instr.lookup 39 (.map (some b)) (.int .i64 x) false).run Try.prog w = .ok (.bool q) w ∧ (q = true ↔ S x) := by
  obtain ⟨D, ho, hs⟩ := h
  obtain ⟨v, ps, hrun, hv⟩ := ho.lookup bs_law bs_map (bs_zero w) (plainElem_bool Try.underlying4 false) (bs_key hx)
  obtain ⟨q, rfl, hq⟩ := bool_inv hv
  refine ⟨q, hrun, ?_⟩
  simp only at hq
  by_cases hS : S x
  · rw [(hs.2 x hS).2] at hq
    have : q = true := by simpa using hq.symm
    exact ⟨fun _ => hS, fun _ => this⟩
  · have hno : Maps.has D (.int .i64 x) = false := by
      cases hh : Maps.has D (.int .i64 x)
      · rfl
      · exact absurd ((says_has hs x).1 hh) hS
    have hz : D.atKey (.int .i64 x) (.lit (.bool false)) = .lit (.bool false) := atKey_of_not_has hno _
    rw [hz] at hq
    have : q = false := by simpa using hq.symm
    subst this
    exact ⟨nofun, fun e => absurd e hS⟩
/-- Stored. -/
theorem Bs.store {b N : Nat} {S : Int → Prop} {w : World} (h : Bs b N S w) {x : Int} (hx : isI x) (hN : N < maxLen) :
    ∃ w', (Instr.mapUpdate 39 (.map (some b)) (.int .i64 x) (.bool true)).run Try.prog w = .ok () w' ∧ Bs b (N + 1) (fun y => S y ∨ y = x) w' ∧ w.grownBy w' (some b) := by
  obtain ⟨D, ho, hs⟩ := h
  obtain ⟨w', hrun, h1, h2⟩ := ho.store bs_law bs_map hN (bs_key hx) (plainElem_bool Try.underlying4 true)
  have hM := ho.isMap
  have hkey : WideAt.IsKeyLit (.int .i64 x) := bs_law.key (bs_key hx)
  refine ⟨w', hrun, ⟨_, h1, fun k hk => ?_, fun y hy => ?_⟩, h2.grown⟩
  · by_cases e : k = .int .i64 x
    · exact ⟨x, hx, .inr rfl, e⟩
    · rw [has_put_other e] at hk
      obtain ⟨y, hy, hsy, e1⟩ := hs.1 k hk
      exact ⟨y, hy, .inl hsy, e1⟩
  · by_cases e : y = x
    · subst e
      exact ⟨has_put_same hM hkey _, fun z => atKey_put_same hM hkey _ z⟩
    · rw [has_put_other (bs_ne e)]
      have hsy : S y := hy.resolve_right e
      exact ⟨(hs.2 y hsy).1, fun z => by rw [atKey_put_other (bs_ne e)]; exact (hs.2 y hsy).2 z⟩
/-- A number that is deleted. -/
theorem says_del {D : DataW Unit} {S : Int → Prop} (h : Says D S) (x : Int) : Says (D.del (.int .i64 x)) (fun y => S y ∧ y ≠ x) := by
  refine ⟨fun k hk => ?_, fun y hy => ?_⟩
  · by_cases e : k = .int .i64 x
    · subst e; rw [has_del_same] at hk; cases hk
    · rw [has_del_other e] at hk
      obtain ⟨y, hy, hs, rfl⟩ := h.1 k hk
      exact ⟨y, hy, ⟨hs, fun e1 => e (by rw [e1])⟩, rfl⟩
  · rw [has_del_other (bs_ne hy.2)]
    exact ⟨(h.2 y hy.1).1, fun z => by rw [atKey_del_other (bs_ne hy.2)]; exact (h.2 y hy.1).2 z⟩
/-- The keys, sorted. -/
theorem sort_keys {D : DataW Unit} {S : Int → Prop} {w : World} {b N : Nat} (ho : w.ownsMap Try.prog 3 (plainElem Try.prog 4) b N D) (hs : Says D S) {ss : List Int} (hp : ss.Perm (intKeys D)) {l : List Int} (hl : ∀ x, x ∈ l ↔ S x) :
    (ss.mergeSort (fun x y => decide (x ≤ y))) = srt l ∧ Fit ss := by
  obtain ⟨es, rfl, hpw, hkl⟩ := ho.entries bs_law
  have hk : ∀ p ∈ es, ∃ x, p.1 = .int .i64 x := fun p hp' => by
    obtain ⟨x, _, _, e⟩ := hs.1 p.1 (by rw [Maps.has_eq]; exact List.any_eq_true.2 ⟨p, hp', WideAt.sameKey_self (hkl p hp')⟩)
    exact ⟨x, e⟩
  have hmem : ∀ x, x ∈ intKeys (DataW.map es) ↔ S x := fun x => by
    rw [← says_has hs x, Maps.has_eq, List.any_eq_true]
    show x ∈ (es.map fun p => Go.intOf p.1) ↔ _
    rw [List.mem_map]
    constructor
    · rintro ⟨p, hp', rfl⟩
      obtain ⟨a, ha⟩ := hk p hp'
      exact ⟨p, hp', by rw [ha]; simp [Lit.sameKey, Go.intOf]⟩
    · rintro ⟨p, hp', h2⟩
      obtain ⟨a, ha⟩ := hk p hp'
      rw [ha] at h2
      exact ⟨p, hp', by rw [ha]; simpa [Lit.sameKey, Go.intOf] using h2⟩
  have hnd : (intKeys (DataW.map es)).Nodup := by
    show (es.map fun p => Go.intOf p.1).Nodup
    refine List.pairwise_map.2 (hpw.imp_of_mem fun {p q} hp' hq' hne e => hne ?_)
    obtain ⟨a, ha⟩ := hk p hp'
    obtain ⟨c, hc⟩ := hk q hq'
    rw [ha, hc] at e ⊢
    exact congrArg _ e
  have hms := List.mergeSort_perm ss (fun x y => decide (x ≤ y))
  have hnd2 : (ss.mergeSort (fun x y => decide (x ≤ y))).Nodup := (hms.trans hp).nodup_iff.2 hnd
  have hle : (ss.mergeSort (fun x y => decide (x ≤ y))).Pairwise (fun x y => decide (x ≤ y) = true) :=
    List.pairwise_mergeSort (fun a b c h1 h2 => by simp only [decide_eq_true_eq] at *; omega) (fun a b => by simp only [Bool.or_eq_true, decide_eq_true_eq]; omega) ss
  refine ⟨asc_ext ?_ (asc_srt l) fun x => ?_, fun x hx => ?_⟩
  · refine (hle.and hnd2).imp fun {a b} h => ?_
    have := h.1
    have h2 := h.2
    simp only [decide_eq_true_eq] at this
    omega
  · rw [hms.mem_iff, hp.mem_iff, hmem, mem_srt, hl]
  · have h1 := (hmem x).1 (hp.mem_iff.1 hx)
    obtain ⟨y, hy, _, e⟩ := hs.1 _ (hs.2 x h1).1
    injection e with _ e
    subst e; exact hy
end Go.Proofs.Ytemfnobfdmlfaaa.In
