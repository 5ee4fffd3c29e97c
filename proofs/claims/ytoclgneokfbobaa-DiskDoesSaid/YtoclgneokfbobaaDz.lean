/-
  What the calls of package disk do.
-/
import Derived.Test.YtoclgneokfbobaaDs
import Derived.Shelf.SlMaps.Clone
import Derived.Maps.AppendAt
import Derived.Deep.RegionHeld3
namespace Go.Proofs.Ytoclgneokfbobaa.Dz
open Go.RowKit Go.Proofs.Ytoclgneokfbobaa.Mem Go.Proofs.Ytoclgneokfbobaa.Fz
set_option linter.unusedVariables false

theorem toList_ne {a b : ByteArray} (h : a ≠ b) : (a.toList == b.toList) = false := by
  rw [beq_eq_false_iff_ne]
  intro e
  apply h
  have e2 : a.data.toList = b.data.toList := by simpa [ByteArray.toList_eq] using e
  cases a; cases b; simpa using e2
theorem put_c (M N : Nat) (g : Nat → Option ByteArray) (i : Nat) (hi : i < N) (hN : N ≤ 65536) (s : ByteArray) (hs : s.size = 80) (w : World) (h : Mp M N g w) :
    Calls Try.prog 59 #[.map (some M), .int .i64 (i : Int), .string s] w fun e w' => e = .returned (.tuple #[]) ∧ But M w w' ∧ Mp M N (upd g i (if s = Z then none else some s)) w' := by
  have ht := Try.underlying80
  by_cases hz : s = Z
  · subst hz
    simp only [if_true]
    have hq : (Z.toList == Z.toList) = true := by simp
    go_enter Try.func59, Try.ntmps59
    go_wp2_with (go_at_call 57; refine (zeros_c _).mono ?_; rintro e u ⟨rfl, hk⟩; obtain ⟨w2, hrun, hm, hb⟩ := (h.keep hk).drop ht hi 0)
    first | go_end0 | go_ret | refine bodyPost_ret (v := .tuple #[]) (by simp [results, Try.results59, go_sem]) rfl ?_
    exact ⟨rfl, (hk.but M).trans hb, hm⟩
  · simp only [hz, if_false]
    have hq := toList_ne hz
    go_enter Try.func59, Try.ntmps59
    go_wp2_with (go_at_call 57; refine (zeros_c _).mono ?_; rintro e u ⟨rfl, hk⟩; obtain ⟨w2, hrun, hm, hb⟩ := (h.keep hk).store ht hi (s := s) (by rw [hs]; decide) (by unfold maxLen; omega))
    first | go_end0 | go_ret | refine bodyPost_ret (v := .tuple #[]) (by simp [results, Try.results59, go_sem]) rfl ?_
    exact ⟨rfl, (hk.but M).trans hb, hm⟩

/-! ### a disk in memory -/
def blockOf (F D M1 M2 : Nat) (pv : Value) (s : Ds) : Array Value := #[.pointer (some ⟨F, 0, none⟩), .int .i64 (s.n : Int), .bool s.full, .map (some M1), pv, .map (some M2)]
/-- Block D is a disk with the fuse F in state s; M1, M2: its maps; pv: its slice of pending writes. -/
structure Dk (F D M1 M2 : Nat) (pv : Value) (s : Ds) (w : World) : Prop where
  fz : Fz F s.fu w
  blk : w.heap[D]? = some (.cells (blockOf F D M1 M2 pv s) 83 (0, 0))
  dur : Mp M1 s.n (dg s.dur) w
  lat : Mp M2 s.n (last s.pend) w
  row : w.ownsRow 0 85 2 pv s.pend.length (cellsOf s.pend)
  ok : s.ok
  ne : M1 ≠ M2
theorem row_block {w : World} {e : TypeId} {size : Nat} {v : Value} {n : Nat} {xs : List Value} (h : w.ownsRow 0 e size v n xs) {g : Nat} (hg : v.ownBlock = some g) : ∃ cur, w.heap[g]? = some (.cells cur e (0, 0)) := by
  rcases h.2 with ⟨rfl, _⟩ | ⟨g', cap, cur, rfl, _, hh, _⟩
  · simp [Value.ownBlock] at hg
  · obtain rfl : g' = g := by simpa [Value.ownBlock] using hg
    exact ⟨cur, hh⟩
theorem row_at {w w' : World} {e : TypeId} {size : Nat} {v : Value} {n : Nat} {xs : List Value} (h : w.ownsRow 0 e size v n xs) (hg : ∀ g, v.ownBlock = some g → w'.heap[g]? = w.heap[g]?) : w'.ownsRow 0 e size v n xs := by
  refine ⟨h.1, ?_⟩
  rcases h.2 with h2 | ⟨g, cap, cur, rfl, hb, hh, r⟩
  · exact .inl h2
  · exact .inr ⟨g, cap, cur, rfl, hb, (hg g rfl).trans hh, r⟩
structure Apart (F D M1 M2 : Nat) (pv : Value) : Prop where
  FD : F ≠ D
  FM1 : F ≠ M1
  FM2 : F ≠ M2
  DM1 : D ≠ M1
  DM2 : D ≠ M2
  M12 : M1 ≠ M2
  p : ∀ g, pv.ownBlock = some g → g ≠ F ∧ g ≠ D ∧ g ≠ M1 ∧ g ≠ M2
theorem ne_obj {w : World} {a b : Nat} {o o' : Obj} (h : w.heap[a]? = some o) (h' : w.heap[b]? = some o') (hn : o ≠ o') : a ≠ b := fun e => by subst e; rw [h] at h'; exact hn (by simpa using h')
theorem Dk.apart {F D M1 M2 : Nat} {pv : Value} {s : Ds} {w : World} (h : Dk F D M1 M2 pv s w) : Apart F D M1 M2 pv := by
  obtain ⟨e1, k1, h1⟩ := h.dur.obj
  obtain ⟨e2, k2, h2⟩ := h.lat.obj
  have hf : w.heap[F]? = _ := h.fz
  refine ⟨ne_obj hf h.blk (by simp), ne_obj hf h1 (by simp), ne_obj hf h2 (by simp), ne_obj h.blk h1 (by simp), ne_obj h.blk h2 (by simp), h.ne, fun g hg => ?_⟩
  obtain ⟨cur, hr⟩ := row_block h.row hg
  exact ⟨ne_obj hr hf (by simp), ne_obj hr h.blk (by simp), ne_obj hr h1 (by simp), ne_obj hr h2 (by simp)⟩
theorem Dk.at {F D M1 M2 : Nat} {pv : Value} {s : Ds} {w w' : World} (h : Dk F D M1 M2 pv s w) (hF : w'.heap[F]? = w.heap[F]?) (hD : w'.heap[D]? = w.heap[D]?) (h1 : w'.heap[M1]? = w.heap[M1]?) (h2 : w'.heap[M2]? = w.heap[M2]?)
    (hp : ∀ g, pv.ownBlock = some g → w'.heap[g]? = w.heap[g]?) : Dk F D M1 M2 pv s w' :=
  ⟨hF.trans h.fz, hD.trans h.blk, h.dur.at h1, h.lat.at h2, row_at h.row hp, h.ok, h.ne⟩
theorem Dk.lts {F D M1 M2 : Nat} {pv : Value} {s : Ds} {w : World} (h : Dk F D M1 M2 pv s w) : F < w.heap.size ∧ D < w.heap.size ∧ M1 < w.heap.size ∧ M2 < w.heap.size ∧ ∀ g, pv.ownBlock = some g → g < w.heap.size :=
  ⟨h.fz.lt, lt_of_block h.blk, h.dur.lt, h.lat.lt, fun g hg => (h.row.lt g hg).2⟩
theorem Dk.keep {F D M1 M2 : Nat} {pv : Value} {s : Ds} {w w' : World} (h : Dk F D M1 M2 pv s w) (k : Kept w w') : Dk F D M1 M2 pv s w' :=
  have l := h.lts
  h.at (Below.block k _ l.1) (Below.block k _ l.2.1) (Below.block k _ l.2.2.1) (Below.block k _ l.2.2.2.1) fun g hg => Below.block k _ (l.2.2.2.2 g hg)
/-- Behind a step that writes none of its blocks but its fuse's. -/
theorem Dk.burnt {F D M1 M2 : Nat} {pv : Value} {s : Ds} {w w' : World} (h : Dk F D M1 M2 pv s w) (k : But F w w') {f : St} (hf : Fz F f w') (hk : f.ok) : Dk F D M1 M2 pv { s with fu := f } w' :=
  have a := h.apart
  have l := h.lts
  ⟨hf, (k.block _ l.2.1 a.FD.symm).trans h.blk, h.dur.at (k.block _ l.2.2.1 a.FM1.symm), h.lat.at (k.block _ l.2.2.2.1 a.FM2.symm), row_at h.row fun g hg => k.block _ (l.2.2.2.2 g hg) (a.p g hg).1, ⟨h.ok.lo, h.ok.hi, hk, h.ok.dur, h.ok.pend⟩, h.ne⟩
theorem Dk.cell {F D M1 M2 : Nat} {pv : Value} {s : Ds} {w : World} (h : Dk F D M1 M2 pv s w) (i : Nat) : w.cell? ⟨D, i, none⟩ = (blockOf F D M1 M2 pv s)[i]? := cell_of_row _ _ _ _ _ _ h.blk
theorem Dk.free {F D M1 M2 : Nat} {pv : Value} {s : Ds} {w : World} (h : Dk F D M1 M2 pv s w) (i : Nat) : w.frozen? ⟨D, i, none⟩ = false := frozen_of_row _ _ _ _ _ h.blk
/-- The disk with the fuse F, behind the pointer to D. -/
def dk (F D : Nat) (s : Ds) : As where
  p S w := ∃ M1 M2 pv, Dk F D M1 M2 pv s w ∧ S F ∧ S D ∧ S M1 ∧ S M2 ∧ ∀ g, pv.ownBlock = some g → S g
  mono := fun S T w ⟨M1, M2, pv, h, h1, h2, h3, h4, h5⟩ hs => ⟨M1, M2, pv, h, hs _ h1, hs _ h2, hs _ h3, hs _ h4, fun g hg => hs _ (h5 g hg)⟩
  loc := fun S w w' ⟨M1, M2, pv, h, h1, h2, h3, h4, h5⟩ hs =>
    have l := h.lts
    ⟨M1, M2, pv, h.at (hs _ h1 l.1) (hs _ h2 l.2.1) (hs _ h3 l.2.2.1) (hs _ h4 l.2.2.2.1) (fun g hg => hs _ (h5 g hg) (l.2.2.2.2 g hg)), h1, h2, h3, h4, h5⟩
theorem Ds.out_in {s : Ds} {i : Nat} (h : i < s.n) : s.out (i : Int) = false := by unfold Ds.out; simp; omega
theorem Ds.out_nat {s : Ds} {i : Int} (h : s.out i = false) : ∃ k : Nat, i = (k : Int) ∧ k < s.n := by
  have h' : 0 ≤ i ∧ i < (s.n : Int) := by unfold Ds.out at h; simpa using h
  exact ⟨i.toNat, by omega, by omega⟩
theorem Ds.out_iff {s : Ds} {i : Int} : s.out i = false ↔ 0 ≤ i ∧ i < (s.n : Int) := by unfold Ds.out; simp

theorem has_c (F D M1 M2 : Nat) (pv : Value) (s : Ds) (i : Int) (w : World) (h : Dk F D M1 M2 pv s w) :
    Calls Try.prog 40 #[.pointer (some ⟨D, 0, none⟩), .int .i64 i] w fun e w' => e = .returned (.bool (!s.out i)) ∧ w = w' := by
  have c1 := h.cell 1
  simp [blockOf] at c1
  clear h
  have e : (!s.out i) = (decide (i ≥ 0) && decide (i < (s.n : Int))) := by unfold Ds.out; by_cases h1 : i < 0 <;> by_cases h2 : (s.n : Int) ≤ i <;> simp [h1, h2] <;> omega
  rw [e]
  clear e
  by_cases h1 : i ≥ 0
  · have e1 : decide (i ≥ 0) = true := by simpa using h1
    rw [e1]
    go_enter Try.func40, Try.ntmps40
    go_wp2
    go_ret
    exact ⟨by simp, rfl⟩
  · have e1 : decide (i ≥ 0) = false := by simpa using h1
    rw [e1]
    go_enter Try.func40, Try.ntmps40
    go_wp2
    go_ret
    exact ⟨by simp, rfl⟩

theorem durable_c (F D M1 M2 : Nat) (pv : Value) (s : Ds) (i : Int) (w : World) (h : Dk F D M1 M2 pv s w) :
    Calls Try.prog 18 #[.pointer (some ⟨D, 0, none⟩), .int .i64 i] w fun e w' => e = .returned (.string (s.durs i)) ∧ Kept w w' := by
  have c3 := h.cell 3
  simp [blockOf] at c3
  have hh := has_c F D M1 M2 pv s i w h
  cases ho : s.out i with
  | true =>
    rw [ho] at hh
    have e1 : s.durs i = ByteArray.empty := by simp [Ds.durs, ho]
    rw [e1]
    clear h e1
    go_enter Try.func18, Try.ntmps18
    go_wp2_with (go_at_call 40; refine hh.mono ?_; rintro e u ⟨rfl, rfl⟩)
    go_ret
    exact ⟨rfl, Kept.refl _⟩
  | false =>
    rw [ho] at hh
    obtain ⟨k, rfl, hk⟩ := Ds.out_nat ho
    have e1 : s.durs (k : Int) = s.dur k := by simp [Ds.durs, ho]
    rw [e1]
    clear e1 ho
    have hg := get_c M1 s.n (dg s.dur) k hk w h.dur
    rw [dg_getD] at hg
    clear h hk
    go_enter Try.func18, Try.ntmps18
    go_wp2_with (first
      | (go_at_call 40; refine hh.mono ?_; rintro e u ⟨rfl, rfl⟩)
      | (go_at_call 42; refine hg.mono ?_; rintro e u ⟨rfl, hk2⟩))
    go_ret
    exact ⟨rfl, hk2⟩
theorem read_c (F D M1 M2 : Nat) (pv : Value) (s : Ds) (i : Int) (w : World) (h : Dk F D M1 M2 pv s w) :
    Calls Try.prog 19 #[.pointer (some ⟨D, 0, none⟩), .int .i64 i] w fun e w' => e = .returned (.tuple #[.string (s.reads i).1, .int .i64 (s.reads i).2]) ∧ Kept w w' := by
  have c0 := h.cell 0
  have c3 := h.cell 3
  have c5 := h.cell 5
  simp [blockOf] at c0 c3 c5
  have hh := has_c F D M1 M2 pv s i w h
  cases ho : s.out i with
  | true =>
    rw [ho] at hh
    have e1 : s.reads i = (ByteArray.empty, 3) := by simp [Ds.reads, ho]
    rw [e1]
    clear h e1
    go_enter Try.func19, Try.ntmps19
    go_wp2_with (go_at_call 40; refine hh.mono ?_; rintro e u ⟨rfl, rfl⟩)
    go_ret2
    exact ⟨rfl, Kept.refl _⟩
  | false =>
    rw [ho] at hh
    have hb := blown_c F s.fu w h.fz
    obtain ⟨k, rfl, hk⟩ := Ds.out_nat ho
    cases hd : s.fu.dead with
    | true =>
      rw [hd] at hb
      have e1 : s.reads (k : Int) = (ByteArray.empty, 10) := by simp [Ds.reads, ho, hd]
      rw [e1]
      clear h e1 ho hd hk
      go_enter Try.func19, Try.ntmps19
      go_wp2_with (first
        | (go_at_call 40; refine hh.mono ?_; rintro e u ⟨rfl, rfl⟩)
        | (go_at_call 43; refine hb.mono ?_; rintro e u ⟨rfl, rfl⟩))
      go_ret2
      exact ⟨rfl, Kept.refl _⟩
    | false =>
      rw [hd] at hb
      have e1 : s.reads (k : Int) = (s.look k, 0) := by simp [Ds.reads, ho, hd]
      rw [e1]
      clear e1 ho hd
      have hg := get_c M1 s.n (dg s.dur) k hk w h.dur
      rw [dg_getD] at hg
      have hl := h.lat.look Try.underlying79 hk
      unfold Ds.look
      clear h hk
      cases hla : last s.pend k with
      | none =>
        rw [hla] at hl
        simp only [Option.getD, Option.isSome] at hl ⊢
        clear hla
        go_enter Try.func19, Try.ntmps19
        go_wp2_with (first
          | (go_at_call 40; refine hh.mono ?_; rintro e u ⟨rfl, rfl⟩)
          | (go_at_call 43; refine hb.mono ?_; rintro e u ⟨rfl, rfl⟩)
          | (go_at_call 42; refine hg.mono ?_; rintro e u ⟨rfl, hk2⟩))
        go_ret2
        exact ⟨rfl, hk2⟩
      | some v =>
        rw [hla] at hl
        simp only [Option.getD, Option.isSome] at hl ⊢
        clear hla hg
        go_enter Try.func19, Try.ntmps19
        go_wp2_with (first
          | (go_at_call 40; refine hh.mono ?_; rintro e u ⟨rfl, rfl⟩)
          | (go_at_call 43; refine hb.mono ?_; rintro e u ⟨rfl, rfl⟩))
        go_ret2
        exact ⟨rfl, Kept.refl _⟩
theorem sectors_c (F D M1 M2 : Nat) (pv : Value) (s : Ds) (w : World) (h : Dk F D M1 M2 pv s w) :
    Calls Try.prog 28 #[.pointer (some ⟨D, 0, none⟩)] w fun e w' => e = .returned (.int .i64 (s.n : Int)) ∧ w = w' := by
  have c1 := h.cell 1
  simp [blockOf] at c1
  clear h
  go_enter Try.func28, Try.ntmps28
  go_wp2
  go_ret
  exact ⟨rfl, rfl⟩
theorem full_c (F D M1 M2 : Nat) (pv : Value) (s : Ds) (w : World) (h : Dk F D M1 M2 pv s w) :
    Calls Try.prog 27 #[.pointer (some ⟨D, 0, none⟩)] w fun e w' => e = .returned (.bool s.full) ∧ w = w' := by
  have c2 := h.cell 2
  simp [blockOf] at c2
  clear h
  go_enter Try.func27, Try.ntmps27
  go_wp2
  go_ret
  exact ⟨rfl, rfl⟩
theorem setfull_c (F D M1 M2 : Nat) (pv : Value) (s : Ds) (b : Bool) (w : World) (h : Dk F D M1 M2 pv s w) :
    Calls Try.prog 26 #[.pointer (some ⟨D, 0, none⟩), .bool b] w fun e w' => e = .returned (.tuple #[]) ∧ But D w w' ∧ Dk F D M1 M2 pv { s with full := b } w' := by
  have c2 := h.cell 2
  have f2 := h.free 2
  simp [blockOf] at c2
  have H := Lib.hid h
  clear h
  go_enter Try.func26, Try.ntmps26
  go_wp2
  go_end0
  have h := H.out
  have a := h.apart
  have k : But D w (w.setCell ⟨D, 2, none⟩ (.bool b)) := But.set D 2 w _
  have l := h.lts
  refine ⟨rfl, k, ⟨h.fz.but k a.FD, ?_, h.dur.but k a.DM1.symm, h.lat.but k a.DM2.symm, row_at h.row fun g hg => k.block _ (l.2.2.2.2 g hg) (a.p g hg).2.1, ⟨h.ok.lo, h.ok.hi, h.ok.fu, h.ok.dur, h.ok.pend⟩, h.ne⟩⟩
  have := heap_setCell_same w D 2 _ _ (.bool b) h.blk
  simpa [blockOf] using this
end Go.Proofs.Ytoclgneokfbobaa.Dz
