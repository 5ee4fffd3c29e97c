/-
  The specification's fuse (layer 3).
  The specification of layer 4 beside the disk: its disk in memory, its New; package disk's calls on nil; helpers of the statements.
  What the calls of the specification's disk do: those that change no sector.
  What the calls of the specification's disk do that settle what is pending: Sync, Crash.
  The crash of the specification's disk.
  Layer 4's statements: the disk and the specification's, made together.
  The specification's disk among several things of the call's own; the pair's Crash and Arm.
  The pair's comparison.
-/
import Derived.Test.YtjbcpfndpfeepaaDb
namespace Go.Proofs.Ytjbcpfndpfeepaa.Fz
open Go.RowKit Go.Proofs.Ytjbcpfndpfeepaa.Mem

def St.ref : St → Array Value
  | .idle => #[.bool false, .bool false, .int .i64 0]
  | .armed n => #[.bool true, .bool false, .int .i64 n]
  | .blown => #[.bool true, .bool true, .int .i64 0]
end Go.Proofs.Ytjbcpfndpfeepaa.Fz

namespace Go.Proofs.Ytjbcpfndpfeepaa.Dz
open Go.RowKit Go.ChangeShapes Go.WideShapes Go.ChangeAt Go.Proofs.Ytjbcpfndpfeepaa.Mem Go.Proofs.Ytjbcpfndpfeepaa.Fz
set_option linter.unusedVariables false

def sarr (f : Nat → ByteArray) (n : Nat) : Array Value := ((List.range n).map fun i => Value.string (f i)).toArray
theorem sarr_size (f : Nat → ByteArray) (n : Nat) : (sarr f n).size = n := by simp [sarr]
theorem sarr_at (f : Nat → ByteArray) (n i : Nat) (h : i < n) : (sarr f n)[i]? = some (.string (f i)) := by simp [sarr, h]
theorem sarr_set (f : Nat → ByteArray) (n i : Nat) (v : ByteArray) : (sarr f n).setIfInBounds i (.string v) = sarr (put f i v) n := by
  apply Array.ext
  · simp [sarr]
  · intro j h1 h2
    have h3 : j < (sarr f n).size := by simpa using h1
    rw [Array.getElem_setIfInBounds h3]
    by_cases e : i = j
    · subst e; simp [sarr, put]
    · have e' : ¬ j = i := fun h => e h.symm
      simp [sarr, put, e, e']
theorem sarr_congr {f g : Nat → ByteArray} {n : Nat} (h : ∀ i, i < n → f i = g i) : sarr f n = sarr g n := by
  apply Array.ext
  · simp [sarr]
  · intro j h1 h2
    have : j < n := by simpa [sarr] using h1
    simp [sarr, h j this]
def rblock (G Sb : Nat) (pv : Value) (s : Ds) : Array Value := #[.slice (some ⟨Sb, 0, none⟩) s.n s.n, pv, .pointer (some ⟨G, 0, none⟩), .bool s.full]
structure RApart (R G Sb : Nat) (pv : Value) : Prop where
  RG : R ≠ G
  RS : R ≠ Sb
  GS : G ≠ Sb
  p : ∀ g, pv.ownBlock = some g → g ≠ R ∧ g ≠ G ∧ g ≠ Sb
theorem make_strs (n : Nat) (hn : n ≤ 65536) (w : World) :
    (Instr.makeSlice 29 (.int .i64 (n : Int)) (.int .i64 (n : Int))).run Try.prog w = .ok (.slice (some ⟨w.heap.size, 0, none⟩) n n) (w.alloc (.cells (sarr (fun _ => ByteArray.empty) n) 9)) := by
  have h := run_make_row' (P := Try.prog) 29 9 (.string ByteArray.empty) 16 Try.underlying29 (by kernel_rfl) rfl .i64 .i64 n (by omega) (by omega) w
  have e : madeCells #[Value.string ByteArray.empty] n = sarr (fun _ => ByteArray.empty) n := by
    apply Array.toList_inj.1
    rw [toList_madeCells_one]
    simp [sarr, List.map_const']
  rw [e] at h
  exact h
/-! Helpers. -/
def many (b : Nat) : ByteArray := ⟨(List.replicate 80 (UInt8.ofNat b)).toArray⟩
theorem many_size (b : Nat) : (many b).size = 80 := by simp [many, ByteArray.size]
def manyTo (b k : Nat) : List UInt8 := (List.range 80).map fun i => if i < k then UInt8.ofNat b else 0
theorem manyTo_len (b k : Nat) : (manyTo b k).length = 80 := by simp [manyTo]
theorem manyTo_zero (b : Nat) : manyTo b 0 = List.replicate 80 0 := by
  apply List.ext_getElem
  · simp [manyTo]
  · intro i h1 h2; rw [List.getElem_replicate]; simp [manyTo]
theorem manyTo_all (b : Nat) : manyTo b 80 = List.replicate 80 (UInt8.ofNat b) := by
  apply List.ext_getElem
  · simp [manyTo]
  · intro i h1 h2
    have : i < 80 := by simpa [manyTo] using h1
    rw [List.getElem_replicate]; simp [manyTo, this]
theorem manyTo_succ (b k : Nat) : (manyTo b k).set k (UInt8.ofNat b) = manyTo b (k + 1) := by
  apply List.ext_getElem
  · simp [manyTo]
  · intro i h1 h2
    rw [List.getElem_set]
    by_cases e : k = i
    · subst e; simp [manyTo]
    · have : i < k + 1 ↔ i < k := by omega
      simp [manyTo, e, this]
/-! Nil. -/
theorem read_nil (k : Int) (w : World) : Calls Try.prog 13 #[.pointer none, .int .i64 k] w fun e w' => e = .returned (.tuple #[.string ⟨#[]⟩, .int .i64 1]) ∧ Kept w w' := by
  go_enter Try.func13, Try.ntmps13
  go_wp2
  go_ret2
  exact ⟨rfl, Kept.refl _⟩
theorem write_nil (k : Int) (d : ByteArray) (w : World) : Calls Try.prog 54 #[.pointer none, .int .i64 k, .string d] w fun e w' => e = .returned (.int .i64 1) ∧ Kept w w' := by
  go_enter Try.func54, Try.ntmps54
  go_wp2
  go_ret
  exact ⟨rfl, Kept.refl _⟩
theorem sync_nil (w : World) : Calls Try.prog 56 #[.pointer none] w fun e w' => e = .returned (.int .i64 1) ∧ Kept w w' := by
  go_enter Try.func56, Try.ntmps56
  go_wp2
  go_ret
  exact ⟨rfl, Kept.refl _⟩
theorem sectors_nil (w : World) : Calls Try.prog 12 #[.pointer none] w fun e w' => e = .returned (.int .i64 0) ∧ Kept w w' := by
  go_enter Try.func12, Try.ntmps12
  go_wp2
  go_ret
  exact ⟨rfl, Kept.refl _⟩
theorem full_nil (w : World) : Calls Try.prog 37 #[.pointer none] w fun e w' => e = .returned (.bool false) ∧ Kept w w' := by
  go_enter Try.func37, Try.ntmps37
  go_wp2
  go_ret
  exact ⟨rfl, Kept.refl _⟩
theorem setfull_nil (b : Bool) (w : World) : Calls Try.prog 24 #[.pointer none, .bool b] w fun e w' => e = .returned (.tuple #[]) ∧ Kept w w' := by
  go_enter Try.func24, Try.ntmps24
  go_wp2
  go_end0
  exact ⟨rfl, Kept.refl _⟩
theorem crash_nil (c : Ch) (w : World) : Calls Try.prog 29 #[.pointer none, .agg c.cells] w fun e w' => e = .returned (.tuple #[]) ∧ Kept w w' := by
  unfold Ch.cells
  go_enter Try.func29, Try.ntmps29
  go_wp2
  go_end0
  exact ⟨rfl, (Kept.refl w).alloc _⟩
end Go.Proofs.Ytjbcpfndpfeepaa.Dz

namespace Go.Proofs.Ytjbcpfndpfeepaa.Dz
open Go.RowKit Go.ChangeShapes Go.WideShapes Go.ChangeAt Go.Proofs.Ytjbcpfndpfeepaa.Mem Go.Proofs.Ytjbcpfndpfeepaa.Fz
set_option linter.unusedVariables false

theorem last_take_succ {l : Pend} {j : Nat} (h : j < l.length) (i : Nat) : last (l.take (j + 1)) i = if i = l[j].1 then some l[j].2 else last (l.take j) i := by
  unfold last
  rw [List.take_succ_eq_append_getElem h, List.foldl_append]; rfl
theorem out_cases {s : Ds} {i : Int} (h : s.out i = true) : (decide (i < 0) = true) ∨ (decide (i < 0) = false ∧ decide (i ≥ (s.n : Int)) = true) := by
  unfold Ds.out at h
  by_cases h1 : i < 0
  · exact .inl (by simpa using h1)
  · refine .inr ⟨by simpa using h1, ?_⟩
    have : ¬ i < 0 := h1
    simp [this] at h
    simpa using h

end Go.Proofs.Ytjbcpfndpfeepaa.Dz

namespace Go.Proofs.Ytjbcpfndpfeepaa.Dz
open Go.RowKit Go.ChangeShapes Go.WideShapes Go.ChangeAt Go.Proofs.Ytjbcpfndpfeepaa.Mem Go.Proofs.Ytjbcpfndpfeepaa.Fz
set_option linter.unusedVariables false

structure Rd (Sb : Nat) (s : Ds) (f : Nat → Nat) (w : World) (k : Nat) (wr : World) : Prop where
  off : Off (fun k => k = Sb) w wr
  row : wr.heap[Sb]? = some (.cells (sarr (settle f s.pend s.dur k) s.n) 9 (0, 0))
theorem Rd.kept {Sb : Nat} {s : Ds} {f : Nat → Nat} {w a b : World} {k : Nat} (h : Rd Sb s f w k a) (kk : Kept a b) : Rd Sb s f w k b := ⟨h.off.kept kk, kk.at h.row⟩
theorem Rd.put {Sb : Nat} {s : Ds} {f : Nat → Nat} {w a : World} {k : Nat} (h : Rd Sb s f w k a) (hlt : k < s.pend.length) {sec : Nat} {v : ByteArray} (hs : sec = s.pend[k].1)
    (hv : v = mix (f k) s.pend[k].2 (settle f s.pend s.dur k s.pend[k].1)) : Rd Sb s f w (k + 1) (a.setCell ⟨Sb, sec, none⟩ (.string v)) := by
  subst hs hv
  refine ⟨h.off.setc Sb _ _ (.inl rfl), ?_⟩
  rw [heap_setCell_same a Sb _ _ _ _ h.row, sarr_set, settle_succ hlt]
theorem Rd.skip {Sb : Nat} {s : Ds} {f : Nat → Nat} {w a : World} {k : Nat} (h : Rd Sb s f w k a) (hlt : k < s.pend.length) (hv : settle f s.pend s.dur k s.pend[k].1 = mix (f k) s.pend[k].2 (settle f s.pend s.dur k s.pend[k].1)) : Rd Sb s f w (k + 1) a := by
  refine ⟨h.off, ?_⟩
  rw [settle_succ hlt, ← hv, h.row]
  have e : Go.Proofs.Ytjbcpfndpfeepaa.Dz.put (settle f s.pend s.dur k) s.pend[k].1 (settle f s.pend s.dur k s.pend[k].1) = settle f s.pend s.dur k := by
    funext j; unfold Go.Proofs.Ytjbcpfndpfeepaa.Dz.put; split
    · next e => rw [e]
    · rfl
  rw [e]
theorem Rd.cell {Sb : Nat} {s : Ds} {f : Nat → Nat} {w a : World} {k : Nat} (h : Rd Sb s f w k a) {i : Nat} (hi : i < s.n) : a.cell? ⟨Sb, i, none⟩ = some (.string (settle f s.pend s.dur k i)) ∧ a.frozen? ⟨Sb, i, none⟩ = false := by
  refine ⟨?_, frozen_of_row _ _ _ _ _ h.row⟩
  rw [cell_of_row _ _ _ _ _ _ h.row, sarr_at _ _ _ hi]
theorem mix80 {a b : ByteArray} (ha : a.size = 80) (hb : b.size = 80) : mix 80 a b = a := mix_all ha hb
theorem mix0 {a b : ByteArray} : mix 0 a b = b := by
  unfold mix
  simp

end Go.Proofs.Ytjbcpfndpfeepaa.Dz

namespace Go.Proofs.Ytjbcpfndpfeepaa.Dz
open Go.RowKit Go.ChangeShapes Go.WideShapes Go.ChangeAt Go.Proofs.Ytjbcpfndpfeepaa.Mem Go.Proofs.Ytjbcpfndpfeepaa.Fz
set_option linter.unusedVariables false

end Go.Proofs.Ytjbcpfndpfeepaa.Dz

namespace Go.Proofs.Ytjbcpfndpfeepaa.Dz
open Go.RowKit Go.ChangeShapes Go.WideShapes Go.ChangeAt Go.Proofs.Ytjbcpfndpfeepaa.Mem Go.Proofs.Ytjbcpfndpfeepaa.Fz
set_option linter.unusedVariables false

def bothOf (F D G R : Value) : Array Value := #[F, D, G, R]
theorem box4 {u : World} {B : Nat} {x y z t : Value} {T : TypeId} (h : u.heap[B]? = some (.cells #[x, y, z, t] T (0, 0))) : u.cell? ⟨B, 0, none⟩ = some x ∧ u.cell? ⟨B, 1, none⟩ = some y ∧ u.cell? ⟨B, 2, none⟩ = some z ∧ u.cell? ⟨B, 3, none⟩ = some t ∧ ∀ i, u.frozen? ⟨B, i, none⟩ = false :=
  ⟨cell_of_row _ _ _ _ _ _ h, cell_of_row _ _ _ _ _ _ h, cell_of_row _ _ _ _ _ _ h, cell_of_row _ _ _ _ _ _ h, fun i => frozen_of_row _ _ _ _ _ h⟩
end Go.Proofs.Ytjbcpfndpfeepaa.Dz

namespace Go.Proofs.Ytjbcpfndpfeepaa.Dz
open Go.RowKit Go.ChangeShapes Go.WideShapes Go.ChangeAt Go.Proofs.Ytjbcpfndpfeepaa.Mem Go.Proofs.Ytjbcpfndpfeepaa.Fz
set_option linter.unusedVariables false

theorem ok_arm {s : St} (h : s.ok) {k : Int} (hk : k < 9223372036854775808) : (s.arm k).ok := by
  cases s <;> simp only [St.arm] <;> (try split) <;> first | exact h | trivial | (show _ < 9223372036854775808; omega)
end Go.Proofs.Ytjbcpfndpfeepaa.Dz

namespace Go.Proofs.Ytjbcpfndpfeepaa.Dz
open Go.RowKit Go.ChangeShapes Go.WideShapes Go.ChangeAt Go.Proofs.Ytjbcpfndpfeepaa.Mem Go.Proofs.Ytjbcpfndpfeepaa.Fz
set_option linter.unusedVariables false

end Go.Proofs.Ytjbcpfndpfeepaa.Dz
