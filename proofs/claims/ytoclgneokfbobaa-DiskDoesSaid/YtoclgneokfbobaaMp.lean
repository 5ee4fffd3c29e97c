/-
  Maps of the call's own from numbers below N to strings ('Mp').
-/
import Derived.Test.YtoclgneokfbobaaSep
import Derived.Maps.OwnSet
import Derived.Maps.Range
import Derived.Maps.StringElems
namespace Go.Proofs.Ytoclgneokfbobaa.Mem
open Go.RowKit Go.Maps Go.MapKept Go.ChangeMaps

theorem mp_law : Keyed Try.prog 3 := int_keyed Try.underlying3
theorem mp_zero (w : World) : (zeroValue 9).run Try.prog w = .ok (.string ByteArray.empty) w := by kernel_rfl
theorem mp_key {i : Nat} (hi : i < 9223372036854775808) : keyOf Try.prog 3 (.int .i64 (i : Int)) = some (.int .i64 (i : Int)) :=
  keyOf_int_mk Try.underlying3 (WalkArith.wf_i64 (by omega))
theorem mp_ne {i j : Nat} (h : j ≠ i) : (Lit.int .i64 (j : Int)) ≠ .int .i64 (i : Int) := fun e => h (by injection e with _ e; omega)
theorem ownsMap_tight {P : Program} {k : TypeId} {R : Value → Option (DataW Unit × List MemPlace)} {w : World} {b n : Nat} {D : DataW Unit} (h : w.ownsMap P k R b n D) : w.ownsMap P k R b (Maps.size D) D := by
  obtain ⟨es, clock, hb, F, hs, rfl⟩ := h
  exact ⟨es, clock, hb, F, by simp [Maps.size, length_sorted], rfl⟩
/-- A map whose keys are numbers below N has at most N entries. -/
theorem size_keys {R : Value → Option (DataW Unit × List MemPlace)} {t : TypeId} (ht : Try.prog.underlying t = some (.map 3 9)) : ∀ (N : Nat), N < 9223372036854775808 → ∀ {w : World} {b n : Nat} {D : DataW Unit},
    w.ownsMap Try.prog 3 R b n D → (∀ k, Maps.has D k = true → ∃ i : Nat, i < N ∧ k = .int .i64 (i : Int)) → Maps.size D ≤ N
  | 0, _, w, b, n, D, h, hk => by
    obtain ⟨es, rfl, _, hl⟩ := h.entries mp_law
    match es with
    | [] => exact Nat.le_refl _
    | p :: r =>
      obtain ⟨i, hi, _⟩ := hk p.1 (by rw [Maps.has_eq]; simp [WideAt.sameKey_self (hl p (by simp))])
      omega
  | N + 1, hN, w, b, n, D, h, hk => by
    obtain ⟨w', _, h', _⟩ := h.drop mp_law ht (mp_key (i := N) (by omega)) 0
    have := size_keys ht N (by omega) h' fun k hk' => by
      by_cases e : k = .int .i64 (N : Int)
      · subst e; rw [has_del_same] at hk'; cases hk'
      · rw [has_del_other e] at hk'
        obtain ⟨i, hi, rfl⟩ := hk k hk'
        exact ⟨i, by
          have : i ≠ N := fun e' => e (by rw [e'])
          omega, rfl⟩
    have h2 := size_del (k := .int .i64 (N : Int)) (h.tidy mp_law)
    split at h2 <;> omega

/-- What a map's datum says of the string at i. -/
def Says (D : DataW Unit) (N : Nat) (g : Nat → Option ByteArray) : Prop :=
  (∀ k, Maps.has D k = true → ∃ i : Nat, i < N ∧ k = .int .i64 (i : Int)) ∧
  ∀ i, i < N → Maps.has D (.int .i64 (i : Int)) = (g i).isSome ∧ ∀ z, D.atKey (.int .i64 (i : Int)) z = (g i).elim z fun s => .lit (.string s.data.toList)
/-- Block b is a map from numbers below N to strings; g i is what it has at i. -/
def Mp (b N : Nat) (g : Nat → Option ByteArray) (w : World) : Prop :=
  N < 9223372036854775808 ∧ ∃ (n : Nat) (D : DataW Unit), w.ownsMap Try.prog 3 (plainElem Try.prog 9) b n D ∧ Says D N g
def upd (g : Nat → Option ByteArray) (i : Nat) (v : Option ByteArray) (j : Nat) : Option ByteArray := if j = i then v else g j
theorem Mp.lt {b N : Nat} {g : Nat → Option ByteArray} {w : World} (h : Mp b N g w) : b < w.heap.size := by obtain ⟨_, n, D, h, _⟩ := h; exact h.lt
theorem Mp.obj {b N : Nat} {g : Nat → Option ByteArray} {w : World} (h : Mp b N g w) : ∃ es clock, w.heap[b]? = some (.map es clock) := by
  obtain ⟨_, n, D, ⟨es, clock, hb, _⟩, _⟩ := h; exact ⟨es, clock, hb⟩
theorem Mp.at {b N : Nat} {g : Nat → Option ByteArray} {w w' : World} (h : Mp b N g w) (he : w'.heap[b]? = w.heap[b]?) : Mp b N g w' := by
  obtain ⟨hN, n, D, ⟨es, clock, hb, r⟩, hs⟩ := h
  exact ⟨hN, n, D, ⟨es, clock, he.trans hb, r⟩, hs⟩
theorem Mp.keep {b N : Nat} {g : Nat → Option ByteArray} {w w' : World} (h : Mp b N g w) (k : Kept w w') : Mp b N g w' := h.at (Below.block k b h.lt)
theorem Mp.off {b N : Nat} {g : Nat → Option ByteArray} {w w' : World} {S : Nat → Prop} (h : Mp b N g w) (k : Off S w w') (hs : ¬ S b) : Mp b N g w' := h.at (k.block b h.lt hs)
theorem Mp.but {b B N : Nat} {g : Nat → Option ByteArray} {w w' : World} (h : Mp b N g w) (k : But B w w') (hs : b ≠ B) : Mp b N g w' := h.at (k.block b h.lt hs)
theorem Mp.drew {b N : Nat} {g : Nat → Option ByteArray} {w : World} (h : Mp b N g w) : Mp b N g w.drew := h
theorem Mp.same {b N : Nat} {g g' : Nat → Option ByteArray} {w : World} (h : Mp b N g w) (he : ∀ i, i < N → g' i = g i) : Mp b N g' w := by
  obtain ⟨hN, n, D, ho, hk, hs⟩ := h
  exact ⟨hN, n, D, ho, hk, fun i hi => by rw [he i hi]; exact hs i hi⟩
theorem Mp.made (w : World) {N : Nat} (hN : N < 9223372036854775808) : Mp w.heap.size N (fun _ => none) (w.alloc (.map #[] 0)) :=
  ⟨hN, 0, .map [], World.ownsMap_made _ _ _ _, fun k hk => by simp [Maps.has_eq] at hk, fun i hi => ⟨rfl, fun z => rfl⟩⟩
theorem turned_but {w w' : World} {b : Nat} (h : w.mapTurned w' b) : But b w w' := by
  obtain ⟨es, clock, es', clock', hb, rfl⟩ := h
  exact ⟨rfl, rfl, rfl, by simp [setBlock], fun k _ hk => heap_setBlock_other hb _ hk⟩
theorem Mp.look {b N : Nat} {g : Nat → Option ByteArray} {w : World} (h : Mp b N g w) {t : TypeId} (ht : Try.prog.underlying t = some (.map 3 9)) {i : Nat} (hi : i < N) :
    (Instr.lookup t (.map (some b)) (.int .i64 (i : Int)) true).run Try.prog w = .ok (.tuple #[.string ((g i).getD ByteArray.empty), .bool (g i).isSome]) w := by
  obtain ⟨hN, n, D, ho, hk, hs⟩ := h
  obtain ⟨v, ps, hrun, hv⟩ := ho.look_ok mp_law ht (mp_zero w) (plainElem_string Try.underlying9 (by decide)) (mp_key (i := i) (by omega))
  rw [hrun, (hs i hi).1]
  rw [(hs i hi).2] at hv
  obtain ⟨s, rfl, hz, _⟩ := plainElem_string_inv Try.underlying9 hv
  cases hg : g i with
  | none =>
    rw [hg] at hz
    have : s = ByteArray.empty := by
      have e : s.data = #[] ∧ ps = [] := by simpa using hz.symm
      have e := e.1
      cases s; simp at e; subst e; rfl
    subst this
    rfl
  | some q =>
    rw [hg] at hz
    have : s = q := by
      have e : q.data = s.data ∧ ps = [] := by simpa using hz
      have e := e.1
      cases s; cases q; simpa using e.symm
    subst this
    rfl
theorem Mp.store {b N : Nat} {g : Nat → Option ByteArray} {w : World} (h : Mp b N g w) {t : TypeId} (ht : Try.prog.underlying t = some (.map 3 9)) {i : Nat} (hi : i < N) {s : ByteArray} (hs : s.size ≤ maxLen) (hN2 : N < maxLen) :
    ∃ w', (Instr.mapUpdate t (.map (some b)) (.int .i64 (i : Int)) (.string s)).run Try.prog w = .ok () w' ∧ Mp b N (upd g i (some s)) w' ∧ But b w w' := by
  obtain ⟨hN, n, D, ho, hk, hsa⟩ := h
  have hsz := size_keys ht N hN ho hk
  obtain ⟨w', hrun, h1, h2⟩ := (ownsMap_tight ho).store mp_law ht (by omega) (mp_key (i := i) (by omega)) (plainElem_string Try.underlying9 hs)
  have hM := ho.isMap
  have hkey : WideAt.IsKeyLit (.int .i64 (i : Int)) := mp_law.key (mp_key (i := i) (by omega))
  refine ⟨w', hrun, ⟨hN, _, _, h1, fun k hk' => ?_, fun j hj => ?_⟩, turned_but h2⟩
  · by_cases e : k = .int .i64 (i : Int)
    · exact ⟨i, hi, e⟩
    · rw [has_put_other e] at hk'; exact hk k hk'
  · by_cases e : j = i
    · subst e
      rw [has_put_same hM hkey]
      exact ⟨by simp [upd], fun z => by rw [atKey_put_same hM hkey]; simp [upd]⟩
    · rw [has_put_other (mp_ne e)]
      exact ⟨by simp [upd, e, (hsa j hj).1], fun z => by rw [atKey_put_other (mp_ne e), (hsa j hj).2]; simp [upd, e]⟩
theorem Mp.drop {b N : Nat} {g : Nat → Option ByteArray} {w : World} (h : Mp b N g w) {t : TypeId} (ht : Try.prog.underlying t = some (.map 3 9)) {i : Nat} (hi : i < N) (ty : TypeId) :
    ∃ w', (Builtin.delete_ #[t, 3] ty #[.map (some b), .int .i64 (i : Int)]).run Try.prog w = .ok (.tuple #[]) w' ∧ Mp b N (upd g i none) w' ∧ But b w w' := by
  obtain ⟨hN, n, D, ho, hk, hsa⟩ := h
  obtain ⟨w', hrun, h1, h2⟩ := ho.drop mp_law ht (mp_key (i := i) (by omega)) ty
  refine ⟨w', hrun, ⟨hN, _, _, h1, fun k hk' => ?_, fun j hj => ?_⟩, turned_but h2⟩
  · by_cases e : k = .int .i64 (i : Int)
    · exact ⟨i, hi, e⟩
    · rw [has_del_other e] at hk'; exact hk k hk'
  · by_cases e : j = i
    · subst e
      rw [has_del_same]
      exact ⟨by simp [upd], fun z => by rw [atKey_del_same]; simp [upd]⟩
    · rw [has_del_other (mp_ne e)]
      exact ⟨by simp [upd, e, (hsa j hj).1], fun z => by rw [atKey_del_other (mp_ne e), (hsa j hj).2]; simp [upd, e]⟩
/-- A copy of the block. -/
theorem Mp.copy {b N : Nat} {g : Nat → Option ByteArray} {w : World} (h : Mp b N g w) {es : Array MapEntry} {clock : Nat} (hb : w.heap[b]? = some (.map es clock)) : Mp w.heap.size N g (w.alloc (.map es clock)) := by
  obtain ⟨hN, n, D, ⟨es', clock', hb', r⟩, hs⟩ := h
  rw [hb] at hb'
  obtain ⟨rfl, rfl⟩ : es = es' ∧ clock = clock' := by simpa using hb'
  exact ⟨hN, n, D, ⟨es, clock, (MapKept.heap_alloc w _).1, r⟩, hs⟩
end Go.Proofs.Ytoclgneokfbobaa.Mem
