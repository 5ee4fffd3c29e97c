/-
  What the calls of package fuse do.
  Sectors: strings of 80 bytes; a disk's state and what its calls make of it (plain mathematics); package disk's maps of sectors.
  What the calls of package disk do.
  What the calls of package disk do that write.
  Package disk's settle, Sync and Crash.
  Package disk's Sync, Crash, Pending.
  Package disk's Pending, New, Copy, and its calls on nil.
  Package disk's New and Copy.
  The calls of packages fuse and disk on disks of the caller's own, several at once ('Own').
  Layer 4's statements: sectors of a seed, the fixed disk.
-/
import Derived.Test.YtckbhjjflpobbaaGreatBa
import Derived.RegionTactic
import Derived.Deep.QuietTactic
import Derived.BigQuiet
import Derived.Laws.Rows
import Derived.Laws.EntriesVeiled
import Derived.Laws.Pointers
import Derived.Outline
import Derived.Deep.OwnRows
import Derived.Laws.OwnMore
import Derived.Laws.Concat
import Derived.Shelf.SlMaps.Clone
import Derived.Maps.AppendAt
import Derived.Deep.RegionHeld3
import Derived.Lib.SliceRun
namespace Go.Proofs.YtckbhjjflpobbaaGreat.Fz
open Go.RowKit Go.Proofs.YtckbhjjflpobbaaGreat.Mem

/-- A fuse's state. -/
inductive St | idle | armed (n : Nat) | blown
def St.cells : St → Array Value
  | .idle => #[.int .u8 0, .int .i64 0, .nilFunc]
  | .armed n => #[.int .u8 1, .int .i64 n, .func (.func 66) #[] #[]]
  | .blown => #[.int .u8 2, .int .i64 0, .func (.func 89) #[] #[]]
def St.dead : St → Bool
  | .blown => true
  | _ => false
/-- Block B is a fuse in state s. -/
def Fz (B : Nat) (s : St) (w : World) : Prop := w.heap[B]? = some (.cells s.cells 105 (0, 0))
theorem Fz.kept {B : Nat} {s : St} {w w' : World} (h : Fz B s w) (k : Kept w w') : Fz B s w' := Kept.block k h
theorem Fz.but {B C : Nat} {s : St} {w w' : World} (h : Fz B s w) (k : But C w w') (hn : B ≠ C) : Fz B s w' := k.at h hn
theorem Fz.lt {B : Nat} {s : St} {w : World} (h : Fz B s w) : B < w.heap.size := lt_of_block h
theorem Fz.cell {B : Nat} {s : St} {w : World} (h : Fz B s w) (i : Nat) : w.cell? ⟨B, i, none⟩ = s.cells[i]? := cell_of_row _ _ _ _ _ _ h
theorem Fz.free {B : Nat} {s : St} {w : World} (h : Fz B s w) (i : Nat) : w.frozen? ⟨B, i, none⟩ = false := frozen_of_row _ _ _ _ _ h

theorem new_c (w : World) : Calls Tryz.prog 23 #[] w fun e w' => e = .returned (.pointer (some ⟨w.heap.size, 0, none⟩)) ∧ Kept w w' ∧ Fz w.heap.size .idle w' := by
  go_enter Tryz.func23, Tryz.ntmps23
  go_wp2
  go_ret
  exact ⟨rfl, Kept.alloc (Kept.refl _) _, heap_alloc_new _ _⟩

theorem blown_c (B : Nat) (s : St) (w : World) (h : Fz B s w) : Calls Tryz.prog 71 #[.pointer (some ⟨B, 0, none⟩)] w fun e w' => e = .returned (.bool s.dead) ∧ w = w' := by
  have h0 := h.cell 0
  cases s <;> simp [St.cells] at h0
  all_goals
    go_enter Tryz.func71, Tryz.ntmps71
    go_wp2
    go_ret
    exact ⟨rfl, rfl⟩

/-- What Burn answers and leaves. -/
def St.burnt : St → St
  | .idle => .idle
  | .armed 0 => .blown
  | .armed (n + 1) => .armed n
  | .blown => .blown
def St.says : St → Int
  | .idle => 0
  | .armed 0 => 10
  | .armed (_ + 1) => 0
  | .blown => 10
theorem count_c (B n : Nat) (hn : n < 9223372036854775808) (w : World) (h : Fz B (.armed n) w) :
    Calls Tryz.prog 66 #[.pointer (some ⟨B, 0, none⟩)] w fun e w' => e = .returned (.int .i64 (St.armed n).says) ∧ But B w w' ∧ Fz B (St.armed n).burnt w' := by
  have h0 := h.cell 0
  have h1 := h.cell 1
  have h2 := h.cell 2
  have f0 := h.free 0
  have f1 := h.free 1
  have f2 := h.free 2
  simp [St.cells] at h0 h1 h2
  have H := Lib.hid h
  clear h
  cases n with
  | zero =>
    go_enter Tryz.func66, Tryz.ntmps66
    go_wp2
    go_ret
    refine ⟨rfl, ((But.refl B w).setc _ _).setc _ _, ?_⟩
    have := heap_setCell_same _ B 2 _ _ (.func (.func 89) #[] #[]) (heap_setCell_same w B 0 _ _ (.int .u8 2) H.out)
    simpa [Fz, St.cells, St.burnt] using this
  | succ n =>
    go_enter Tryz.func66, Tryz.ntmps66
    go_wp2
    go_ret
    refine ⟨rfl, (But.refl B w).setc _ _, ?_⟩
    have := heap_setCell_same w B 1 _ _ (.int .i64 n) H.out
    simpa [Fz, St.cells, St.burnt] using this
theorem refuse_c (p : Value) (w : World) : Calls Tryz.prog 89 #[p] w fun e w' => e = .returned (.int .i64 10) ∧ w = w' := by
  go_enter Tryz.func89, Tryz.ntmps89
  go_wp2
  go_ret
  exact ⟨rfl, rfl⟩
/-- The number fits an int. -/
def St.ok : St → Prop
  | .armed n => n < 9223372036854775808
  | _ => True
theorem burn_c (B : Nat) (s : St) (hs : s.ok) (w : World) (h : Fz B s w) :
    Calls Tryz.prog 80 #[.pointer (some ⟨B, 0, none⟩)] w fun e w' => e = .returned (.int .i64 s.says) ∧ But B w w' ∧ Fz B s.burnt w' := by
  have h2 := h.cell 2
  cases s with
  | idle =>
    simp [St.cells] at h2
    have hrun : Sem.run Tryz.prog (binOp BinOp.eql 103 Value.nilFunc Value.nilFunc) w = .ok (.bool true) w := by kernel_rfl
    go_enter Tryz.func80, Tryz.ntmps80
    go_wp2
    go_ret
    exact ⟨rfl, But.refl _ _, h⟩
  | armed n =>
    simp [St.cells] at h2
    have hrun : Sem.run Tryz.prog (binOp BinOp.eql 103 (Value.func (.func 66) #[] #[]) Value.nilFunc) w = .ok (.bool false) w := by kernel_rfl
    go_enter Tryz.func80, Tryz.ntmps80
    go_wp2_with (go_at_call 66; refine (count_c B n hs _ h).mono ?_; rintro e u ⟨rfl, hk, hf⟩)
    go_ret
    exact ⟨rfl, hk, hf⟩
  | blown =>
    simp [St.cells] at h2
    have hrun : Sem.run Tryz.prog (binOp BinOp.eql 103 (Value.func (.func 89) #[] #[]) Value.nilFunc) w = .ok (.bool false) w := by kernel_rfl
    go_enter Tryz.func80, Tryz.ntmps80
    go_wp2_with (go_at_call 89; refine (refuse_c _ _).mono ?_; rintro e u ⟨rfl, rfl⟩)
    go_ret
    exact ⟨rfl, But.refl _ _, h⟩
/-- What Arm answers and leaves. -/
def St.arm (k : Int) : St → St
  | .blown => .blown
  | s => if k < 0 then s else .armed k.toNat
def St.armSays (k : Int) : St → Int
  | .blown => if k < 0 then 3 else 7
  | _ => if k < 0 then 3 else 0
theorem arm_c (B : Nat) (s : St) (k : Int) (w : World) (h : Fz B s w) :
    Calls Tryz.prog 37 #[.pointer (some ⟨B, 0, none⟩), .int .i64 k] w fun e w' => e = .returned (.int .i64 (s.armSays k)) ∧ But B w w' ∧ Fz B (s.arm k) w' := by
  have h0 := h.cell 0
  have h1 := h.cell 1
  have h2 := h.cell 2
  have f0 := h.free 0
  have f1 := h.free 1
  have f2 := h.free 2
  by_cases hk : k < 0
  · have e1 : s.armSays k = 3 := by cases s <;> simp [St.armSays, hk]
    have e2 : s.arm k = s := by cases s <;> simp [St.arm, hk]
    rw [e1, e2]
    go_enter Tryz.func37, Tryz.ntmps37
    go_wp2
    go_ret
    exact ⟨rfl, But.refl _ _, h⟩
  · have hk0 : 0 ≤ k := by omega
    have H := Lib.hid h
    clear h
    cases s with
    | blown =>
      simp [St.cells] at h0 h1 h2
      have e1 : St.blown.armSays k = 7 := by simp [St.armSays]; omega
      have e2 : St.blown.arm k = .blown := rfl
      rw [e1, e2]
      go_enter Tryz.func37, Tryz.ntmps37
      go_wp2
      go_ret
      exact ⟨rfl, But.refl _ _, H.out⟩
    | idle =>
      simp [St.cells] at h0 h1 h2
      have e1 : St.idle.armSays k = 0 := by simp [St.armSays]; omega
      have e2 : St.idle.arm k = .armed k.toNat := by simp [St.arm]; omega
      rw [e1, e2]
      go_enter Tryz.func37, Tryz.ntmps37
      go_wp2
      go_ret
      refine ⟨rfl, (((But.refl B w).setc _ _).setc _ _).setc _ _, ?_⟩
      have := heap_setCell_same _ B 1 _ _ (.int .i64 k) (heap_setCell_same _ B 2 _ _ (.func (.func 66) #[] #[]) (heap_setCell_same w B 0 _ _ (.int .u8 1) H.out))
      have e : ((k.toNat : Nat) : Int) = k := by omega
      simpa [Fz, St.cells, e] using this
    | armed n =>
      simp [St.cells] at h0 h1 h2
      have e1 : (St.armed n).armSays k = 0 := by simp [St.armSays]; omega
      have e2 : (St.armed n).arm k = .armed k.toNat := by simp [St.arm]; omega
      rw [e1, e2]
      go_enter Tryz.func37, Tryz.ntmps37
      go_wp2
      go_ret
      refine ⟨rfl, (But.refl B w).setc _ _, ?_⟩
      have := heap_setCell_same w B 1 _ _ (.int .i64 k) H.out
      have e : ((k.toNat : Nat) : Int) = k := by omega
      simpa [Fz, St.cells, e] using this
theorem reset_c (B : Nat) (s : St) (w : World) (h : Fz B s w) :
    Calls Tryz.prog 41 #[.pointer (some ⟨B, 0, none⟩)] w fun e w' => e = .returned (.tuple #[]) ∧ But B w w' ∧ Fz B .idle w' := by
  have h0 := h.cell 0
  have h1 := h.cell 1
  have h2 := h.cell 2
  have f0 := h.free 0
  have f1 := h.free 1
  have f2 := h.free 2
  have H := Lib.hid h
  clear h
  have HC : ∃ a b c, s.cells = #[a, b, c] := by cases s <;> exact ⟨_, _, _, rfl⟩
  obtain ⟨a, b, c, hc⟩ := HC
  rw [hc] at h0 h1 h2
  simp at h0 h1 h2
  have HC := Lib.hid hc
  clear hc
  go_enter Tryz.func41, Tryz.ntmps41
  go_wp2
  go_end0
  refine ⟨rfl, (((But.refl B w).setc _ _).setc _ _).setc _ _, ?_⟩
  have H' : w.heap[B]? = some (.cells #[a, b, c] 105 (0, 0)) := by rw [← HC.out]; exact H.out
  have := heap_setCell_same _ B 2 _ _ .nilFunc (heap_setCell_same _ B 1 _ _ (.int .i64 0) (heap_setCell_same w B 0 _ _ (.int .u8 0) H'))
  simpa [Fz, St.cells] using this
/-! Nil. -/
theorem arm_nil (k : Int) (w : World) : Calls Tryz.prog 37 #[.pointer none, .int .i64 k] w fun e w' => e = .returned (.int .i64 1) ∧ w = w' := by
  go_enter Tryz.func37, Tryz.ntmps37
  go_wp2
  go_ret
  exact ⟨rfl, rfl⟩
theorem burn_nil (w : World) : Calls Tryz.prog 80 #[.pointer none] w fun e w' => e = .returned (.int .i64 1) ∧ w = w' := by
  go_enter Tryz.func80, Tryz.ntmps80
  go_wp2
  go_ret
  exact ⟨rfl, rfl⟩
theorem blown_nil (w : World) : Calls Tryz.prog 71 #[.pointer none] w fun e w' => e = .returned (.bool false) ∧ w = w' := by
  go_enter Tryz.func71, Tryz.ntmps71
  go_wp2
  go_ret
  exact ⟨rfl, rfl⟩
theorem reset_nil (w : World) : Calls Tryz.prog 41 #[.pointer none] w fun e w' => e = .returned (.tuple #[]) ∧ w = w' := by
  go_enter Tryz.func41, Tryz.ntmps41
  go_wp2
  go_end0
  exact ⟨rfl, rfl⟩
end Go.Proofs.YtckbhjjflpobbaaGreat.Fz

namespace Go.Proofs.YtckbhjjflpobbaaGreat.Dz
open Go.RowKit Go.Proofs.YtckbhjjflpobbaaGreat.Mem Go.Proofs.YtckbhjjflpobbaaGreat.Fz

/-! ### plain -/
/-- A sector of zeros. -/
def Z : ByteArray := ⟨(List.replicate 80 (0 : UInt8)).toArray⟩
theorem Z_size : Z.size = 80 := by decide
/-- The first n bytes of a, the others of b. -/
def mix (n : Nat) (a b : ByteArray) : ByteArray := a.extract 0 n ++ b.extract n b.size
theorem size_mix {n : Nat} {a b : ByteArray} (hn : n ≤ 80) (ha : a.size = 80) (hb : b.size = 80) : (mix n a b).size = 80 := by
  simp [mix, ByteArray.size_append, ByteArray.size_extract]; omega
abbrev Pend := List (Nat × ByteArray)
/-- The latest of the writes to i. -/
def last (l : Pend) (i : Nat) : Option ByteArray := l.foldl (fun o p => if i = p.1 then some p.2 else o) none
theorem last_snoc (l : Pend) (k : Nat) (d : ByteArray) : last (l ++ [(k, d)]) = upd (last l) k (some d) := by
  funext i; simp [last, upd, List.foldl_append]
/-- What the map of what is durable has. -/
def dg (d : Nat → ByteArray) (i : Nat) : Option ByteArray := if d i = Z then none else some (d i)
theorem dg_getD (d : Nat → ByteArray) (i : Nat) : (dg d i).getD Z = d i := by unfold dg; split <;> simp_all
def put (d : Nat → ByteArray) (i : Nat) (v : ByteArray) (j : Nat) : ByteArray := if j = i then v else d j
theorem dg_put (d : Nat → ByteArray) (i : Nat) (v : ByteArray) : dg (put d i v) = upd (dg d) i (if v = Z then none else some v) := by
  funext j; unfold dg put upd; by_cases e : j = i <;> simp [e]
/-- What is durable when of the first k writes each has left its first bytes, as many as f says. -/
def settle (f : Nat → Nat) (l : Pend) (d : Nat → ByteArray) : Nat → Nat → ByteArray
  | 0 => d
  | k + 1 => match l[k]? with
    | some p => put (settle f l d k) p.1 (mix (f k) p.2 (settle f l d k p.1))
    | none => settle f l d k
theorem settle_succ {f : Nat → Nat} {l : Pend} {d : Nat → ByteArray} {k : Nat} (h : k < l.length) :
    settle f l d (k + 1) = put (settle f l d k) l[k].1 (mix (f k) l[k].2 (settle f l d k l[k].1)) := by
  simp [settle, List.getElem?_eq_getElem h]
theorem size_settle {f : Nat → Nat} {l : Pend} {d : Nat → ByteArray} {n : Nat} (hf : ∀ k, f k ≤ 80) (hl : ∀ p ∈ l, p.1 < n ∧ p.2.size = 80) (hd : ∀ i, i < n → (d i).size = 80) :
    ∀ k i, i < n → (settle f l d k i).size = 80
  | 0, i, hi => hd i hi
  | k + 1, i, hi => by
    have ih := size_settle hf hl hd k
    by_cases h : k < l.length
    · rw [settle_succ h]
      have hp := hl l[k] (List.getElem_mem h)
      unfold put
      split
      · exact size_mix (hf k) hp.2 (ih _ hp.1)
      · exact ih i hi
    · have e : l[k]? = none := by simp; omega
      simp only [settle, e]
      exact ih i hi
/-- The cells of writes. -/
def cellsOf (l : Pend) : List Value := l.flatMap fun p => [.int .i64 (p.1 : Int), .string p.2]
theorem cells_length (l : Pend) : (cellsOf l).length = l.length * 2 := by induction l with | nil => rfl | cons p l ih => simp [cellsOf] at *; omega
theorem cells_snoc (l : Pend) (k : Nat) (d : ByteArray) : cellsOf (l ++ [(k, d)]) = cellsOf l ++ [.int .i64 (k : Int), .string d] := by simp [cellsOf]
theorem cells_at : ∀ (l : Pend) (k : Nat) (h : k < l.length), (cellsOf l)[k * 2]? = some (.int .i64 (l[k].1 : Int)) ∧ (cellsOf l)[k * 2 + 1]? = some (.string l[k].2)
  | p :: l, 0, _ => by simp [cellsOf]
  | p :: l, k + 1, h => by
    have := cells_at l k (by simpa using h)
    have e : (k + 1) * 2 = k * 2 + 2 := by omega
    have e2 : (k + 1) * 2 + 1 = k * 2 + 1 + 2 := by omega
    rw [e2, e]
    simpa [cellsOf] using this
/-- A disk: how many sectors, the mark, the fuse's state, what is durable, the pending writes. -/
structure Ds where
  n : Nat
  full : Bool
  fu : St
  dur : Nat → ByteArray
  pend : Pend
structure Ds.ok (s : Ds) : Prop where
  lo : 1 ≤ s.n
  hi : s.n ≤ 65536
  fu : s.fu.ok
  dur : ∀ i, i < s.n → (s.dur i).size = 80
  pend : ∀ p ∈ s.pend, p.1 < s.n ∧ p.2.size = 80
def fresh (n : Nat) (f : St) : Ds := ⟨n, false, f, fun _ => Z, []⟩
theorem ok_fresh {n : Nat} {f : St} (h1 : 1 ≤ n) (h2 : n ≤ 65536) (hf : f.ok) : (fresh n f).ok := ⟨h1, h2, hf, fun _ _ => Z_size, fun p hp => by simp [fresh] at hp⟩
def Ds.look (s : Ds) (i : Nat) : ByteArray := (last s.pend i).getD (s.dur i)
def Ds.out (s : Ds) (i : Int) : Bool := decide (i < 0) || decide ((s.n : Int) ≤ i)
def Ds.reads (s : Ds) (i : Int) : ByteArray × Int := if s.out i then (ByteArray.empty, 3) else if s.fu.dead then (ByteArray.empty, 10) else (s.look i.toNat, 0)
def Ds.durs (s : Ds) (i : Int) : ByteArray := if s.out i then ByteArray.empty else s.dur i.toNat
def Ds.burnt (s : Ds) : Ds := { s with fu := s.fu.burnt }
def Ds.wrote (s : Ds) (i : Nat) (d : ByteArray) : Ds := { s with pend := s.pend ++ [(i, d)] }
def Ds.settled (s : Ds) (f : Nat → Nat) : Ds := { s with dur := settle f s.pend s.dur s.pend.length, pend := [] }
def Ds.writes (s : Ds) (i : Int) (d : ByteArray) : Int × Ds :=
  if s.out i then (3, s) else if d.size ≠ 80 then (2, s) else if s.fu.says ≠ 0 then (s.fu.says, s.burnt) else (0, s.burnt.wrote i.toNat d)
def Ds.syncs (s : Ds) : Int × Ds := if s.fu.says ≠ 0 then (s.fu.says, s.burnt) else (0, s.burnt.settled fun _ => 80)
/-- How many bytes a crash leaves of write k. -/
structure Ch where
  keep : Nat
  torn : Int
  bytes : Int
structure Ch.ok (c : Ch) : Prop where
  keep : c.keep < 18446744073709551616
  tlo : -9223372036854775808 ≤ c.torn
  thi : c.torn ≤ 9223372036854775807
  blo : -9223372036854775808 ≤ c.bytes
  bhi : c.bytes ≤ 9223372036854775807
def Ch.left (c : Ch) (k : Nat) : Nat := if (k : Int) = c.torn then (c.bytes % 80).toNat else if c.keep.testBit (k % 64) then 80 else 0
theorem Ch.left_le (c : Ch) (k : Nat) : c.left k ≤ 80 := by unfold Ch.left; split; omega; split <;> omega
theorem ok_burnt {s : St} (h : s.ok) : s.burnt.ok := by
  match s with
  | .idle => trivial
  | .armed 0 => trivial
  | .armed (n + 1) => exact Nat.lt_of_succ_lt h
  | .blown => trivial
theorem Ds.ok.burnt {s : Ds} (h : s.ok) : s.burnt.ok := ⟨h.lo, h.hi, ok_burnt h.fu, h.dur, h.pend⟩
theorem Ds.ok.wrote {s : Ds} (h : s.ok) {i : Nat} {d : ByteArray} (hi : i < s.n) (hd : d.size = 80) : (s.wrote i d).ok :=
  ⟨h.lo, h.hi, h.fu, h.dur, fun p hp => by
    rcases List.mem_append.1 hp with hp | hp
    · exact h.pend p hp
    · obtain rfl : p = (i, d) := by simpa using hp
      exact ⟨hi, hd⟩⟩
theorem Ds.ok.settled {s : Ds} (h : s.ok) {f : Nat → Nat} (hf : ∀ k, f k ≤ 80) : (s.settled f).ok :=
  ⟨h.lo, h.hi, h.fu, fun i hi => size_settle hf h.pend h.dur _ i hi, fun p hp => by simp [Ds.settled] at hp⟩

/-! ### bytes -/
theorem make_row (n : Nat) (hn : n ≤ 281474976710656) (w : World) :
    (Instr.makeSlice 130 (.int .i64 (n : Int)) (.int .i64 (n : Int))).run Tryz.prog w = .ok (.slice (some ⟨w.heap.size, 0, none⟩) n n) (w.alloc (.cells (Array.replicate n (.int .u8 0)) 5)) := by
  have h := run_make_row' (P := Tryz.prog) 130 5 (.int .u8 0) 1 Tryz.underlying130 (by kernel_rfl) rfl .i64 .i64 n (by omega) (by omega) w
  have e : madeCells #[Value.int .u8 0] n = Array.replicate n (.int .u8 0) := by
    apply Array.toList_inj.1
    rw [toList_madeCells_one, Array.toList_replicate]
  rw [e] at h
  exact h
theorem make_80 (w : World) : (Instr.makeSlice 130 (.int .i64 80) (.int .i64 80)).run Tryz.prog w = .ok (.slice (some ⟨w.heap.size, 0, none⟩) 80 80) (w.alloc (.cells (Array.replicate 80 (.int .u8 0)) 5)) := make_row 80 (by decide) w
theorem zero_row (w : World) : Row w w.heap.size (List.replicate 80 0) (w.alloc (.cells (Array.replicate 80 (.int .u8 0)) 5)) := Row.start w 80 _
theorem zero_str (w : World) : (convert 130 9 (.slice (some ⟨w.heap.size, 0, none⟩) 80 80)).run Tryz.prog (w.alloc (.cells (Array.replicate 80 (.int .u8 0)) 5)) = .ok (.string Z) (w.alloc (.cells (Array.replicate 80 (.int .u8 0)) 5)) := by
  have h := (zero_row w).str 80 80 (by simp)
  simpa [Z] using h
theorem zeros_c (w : World) : Calls Tryz.prog 91 #[] w fun e w' => e = .returned (.string Z) ∧ Kept w w' := by
  have hm := make_80
  have hs := zero_str w
  go_enter Tryz.func91, Tryz.ntmps91
  go_wp2
  go_ret
  exact ⟨rfl, (Kept.refl w).alloc _⟩
theorem rzeros_c (w : World) : Calls Tryz.prog 51 #[] w fun e w' => e = .returned (.string Z) ∧ Kept w w' := by
  have hm := make_80
  have hs := zero_str w
  go_enter Tryz.func51, Tryz.ntmps51
  go_wp2
  go_ret
  exact ⟨rfl, (Kept.refl w).alloc _⟩

/-! ### maps of sectors -/
theorem get_c (M N : Nat) (g : Nat → Option ByteArray) (i : Nat) (hi : i < N) (w : World) (h : Mp M N g w) :
    Calls Tryz.prog 72 #[.map (some M), .int .i64 (i : Int)] w fun e w' => e = .returned (.string ((g i).getD Z)) ∧ Kept w w' := by
  have hl := h.look Tryz.underlying92 hi
  clear h
  cases hg : g i with
  | none =>
    rw [hg] at hl
    simp only [Option.getD, Option.isSome] at hl
    go_enter Tryz.func72, Tryz.ntmps72
    go_wp2_with (go_at_call 91; refine (zeros_c _).mono ?_; rintro e u ⟨rfl, hk⟩)
    go_ret
    exact ⟨rfl, hk⟩
  | some v =>
    rw [hg] at hl
    simp only [Option.getD, Option.isSome] at hl
    go_enter Tryz.func72, Tryz.ntmps72
    go_wp2
    go_ret
    exact ⟨rfl, Kept.refl _⟩
end Go.Proofs.YtckbhjjflpobbaaGreat.Dz

namespace Go.Proofs.YtckbhjjflpobbaaGreat.Dz
open Go.RowKit Go.Proofs.YtckbhjjflpobbaaGreat.Mem Go.Proofs.YtckbhjjflpobbaaGreat.Fz
set_option linter.unusedVariables false

theorem toList_ne {a b : ByteArray} (h : a ≠ b) : (a.toList == b.toList) = false := by
  rw [beq_eq_false_iff_ne]
  intro e
  apply h
  have e2 : a.data.toList = b.data.toList := by simpa [ByteArray.toList_eq] using e
  cases a; cases b; simpa using e2
theorem put_c (M N : Nat) (g : Nat → Option ByteArray) (i : Nat) (hi : i < N) (hN : N ≤ 65536) (s : ByteArray) (hs : s.size = 80) (w : World) (h : Mp M N g w) :
    Calls Tryz.prog 90 #[.map (some M), .int .i64 (i : Int), .string s] w fun e w' => e = .returned (.tuple #[]) ∧ But M w w' ∧ Mp M N (upd g i (if s = Z then none else some s)) w' := by
  have ht := Tryz.underlying92
  by_cases hz : s = Z
  · subst hz
    simp only [if_true]
    have hq : (Z.toList == Z.toList) = true := by simp
    go_enter Tryz.func90, Tryz.ntmps90
    go_wp2_with (go_at_call 91; refine (zeros_c _).mono ?_; rintro e u ⟨rfl, hk⟩; obtain ⟨w2, hrun, hm, hb⟩ := (h.keep hk).drop ht hi 0)
    first | go_end0 | go_ret | refine bodyPost_ret (v := .tuple #[]) (by simp [results, Tryz.results90, go_sem]) rfl ?_
    exact ⟨rfl, (hk.but M).trans hb, hm⟩
  · simp only [hz, if_false]
    have hq := toList_ne hz
    go_enter Tryz.func90, Tryz.ntmps90
    go_wp2_with (go_at_call 91; refine (zeros_c _).mono ?_; rintro e u ⟨rfl, hk⟩; obtain ⟨w2, hrun, hm, hb⟩ := (h.keep hk).store ht hi (s := s) (by rw [hs]; decide) (by unfold maxLen; omega))
    first | go_end0 | go_ret | refine bodyPost_ret (v := .tuple #[]) (by simp [results, Tryz.results90, go_sem]) rfl ?_
    exact ⟨rfl, (hk.but M).trans hb, hm⟩

/-! ### a disk in memory -/
def blockOf (F D M1 M2 : Nat) (pv : Value) (s : Ds) : Array Value := #[.pointer (some ⟨F, 0, none⟩), .int .i64 (s.n : Int), .bool s.full, .map (some M1), pv, .map (some M2)]
/-- Block D is a disk with the fuse F in state s; M1, M2: its maps; pv: its slice of pending writes. -/
structure Dk (F D M1 M2 : Nat) (pv : Value) (s : Ds) (w : World) : Prop where
  fz : Fz F s.fu w
  blk : w.heap[D]? = some (.cells (blockOf F D M1 M2 pv s) 95 (0, 0))
  dur : Mp M1 s.n (dg s.dur) w
  lat : Mp M2 s.n (last s.pend) w
  row : w.ownsRow 0 97 2 pv s.pend.length (cellsOf s.pend)
  ok : s.ok
  ne : M1 ≠ M2
theorem row_block {w : World} {e : TypeId} {size : Nat} {v : Value} {n : Nat} {xs : List Value} (h : w.ownsRow 0 e size v n xs) {g : Nat} (hg : v.ownBlock = some g) : ∃ cur, w.heap[g]? = some (.cells cur e (0, 0)) := by
  rcases h.2 with ⟨rfl, _⟩ | ⟨g', cap, cur, rfl, _, hh, _⟩
  · simp [Value.ownBlock] at hg
  · obtain rfl : g' = g := by simpa [Value.ownBlock] using hg
    exact ⟨cur, hh⟩
theorem row_at {w w' : World} {e : TypeId} {size : Nat} {v : Value} {n : Nat} {xs : List Value} (h : w.ownsRow 0 e size v n xs) (hg : ∀ g, v.ownBlock = some g → w'.heap[g]? = w.heap[g]?) : w'.ownsRow 0 e size v n xs := by
  refine ⟨h.1, ?_⟩
  rcases h.2 with h2 | ⟨g, cap, cur, rfl, hb, hh, r⟩
  · exact .inl h2
  · exact .inr ⟨g, cap, cur, rfl, hb, (hg g rfl).trans hh, r⟩
structure Apart (F D M1 M2 : Nat) (pv : Value) : Prop where
  FD : F ≠ D
  FM1 : F ≠ M1
  FM2 : F ≠ M2
  DM1 : D ≠ M1
  DM2 : D ≠ M2
  M12 : M1 ≠ M2
  p : ∀ g, pv.ownBlock = some g → g ≠ F ∧ g ≠ D ∧ g ≠ M1 ∧ g ≠ M2
theorem ne_obj {w : World} {a b : Nat} {o o' : Obj} (h : w.heap[a]? = some o) (h' : w.heap[b]? = some o') (hn : o ≠ o') : a ≠ b := fun e => by subst e; rw [h] at h'; exact hn (by simpa using h')
theorem Dk.apart {F D M1 M2 : Nat} {pv : Value} {s : Ds} {w : World} (h : Dk F D M1 M2 pv s w) : Apart F D M1 M2 pv := by
  obtain ⟨e1, k1, h1⟩ := h.dur.obj
  obtain ⟨e2, k2, h2⟩ := h.lat.obj
  have hf : w.heap[F]? = _ := h.fz
  refine ⟨ne_obj hf h.blk (by simp), ne_obj hf h1 (by simp), ne_obj hf h2 (by simp), ne_obj h.blk h1 (by simp), ne_obj h.blk h2 (by simp), h.ne, fun g hg => ?_⟩
  obtain ⟨cur, hr⟩ := row_block h.row hg
  exact ⟨ne_obj hr hf (by simp), ne_obj hr h.blk (by simp), ne_obj hr h1 (by simp), ne_obj hr h2 (by simp)⟩
theorem Dk.at {F D M1 M2 : Nat} {pv : Value} {s : Ds} {w w' : World} (h : Dk F D M1 M2 pv s w) (hF : w'.heap[F]? = w.heap[F]?) (hD : w'.heap[D]? = w.heap[D]?) (h1 : w'.heap[M1]? = w.heap[M1]?) (h2 : w'.heap[M2]? = w.heap[M2]?)
    (hp : ∀ g, pv.ownBlock = some g → w'.heap[g]? = w.heap[g]?) : Dk F D M1 M2 pv s w' :=
  ⟨hF.trans h.fz, hD.trans h.blk, h.dur.at h1, h.lat.at h2, row_at h.row hp, h.ok, h.ne⟩
theorem Dk.lts {F D M1 M2 : Nat} {pv : Value} {s : Ds} {w : World} (h : Dk F D M1 M2 pv s w) : F < w.heap.size ∧ D < w.heap.size ∧ M1 < w.heap.size ∧ M2 < w.heap.size ∧ ∀ g, pv.ownBlock = some g → g < w.heap.size :=
  ⟨h.fz.lt, lt_of_block h.blk, h.dur.lt, h.lat.lt, fun g hg => (h.row.lt g hg).2⟩
theorem Dk.keep {F D M1 M2 : Nat} {pv : Value} {s : Ds} {w w' : World} (h : Dk F D M1 M2 pv s w) (k : Kept w w') : Dk F D M1 M2 pv s w' :=
  have l := h.lts
  h.at (Below.block k _ l.1) (Below.block k _ l.2.1) (Below.block k _ l.2.2.1) (Below.block k _ l.2.2.2.1) fun g hg => Below.block k _ (l.2.2.2.2 g hg)
/-- Behind a step that writes none of its blocks but its fuse's. -/
theorem Dk.burnt {F D M1 M2 : Nat} {pv : Value} {s : Ds} {w w' : World} (h : Dk F D M1 M2 pv s w) (k : But F w w') {f : St} (hf : Fz F f w') (hk : f.ok) : Dk F D M1 M2 pv { s with fu := f } w' :=
  have a := h.apart
  have l := h.lts
  ⟨hf, (k.block _ l.2.1 a.FD.symm).trans h.blk, h.dur.at (k.block _ l.2.2.1 a.FM1.symm), h.lat.at (k.block _ l.2.2.2.1 a.FM2.symm), row_at h.row fun g hg => k.block _ (l.2.2.2.2 g hg) (a.p g hg).1, ⟨h.ok.lo, h.ok.hi, hk, h.ok.dur, h.ok.pend⟩, h.ne⟩
theorem Dk.cell {F D M1 M2 : Nat} {pv : Value} {s : Ds} {w : World} (h : Dk F D M1 M2 pv s w) (i : Nat) : w.cell? ⟨D, i, none⟩ = (blockOf F D M1 M2 pv s)[i]? := cell_of_row _ _ _ _ _ _ h.blk
theorem Dk.free {F D M1 M2 : Nat} {pv : Value} {s : Ds} {w : World} (h : Dk F D M1 M2 pv s w) (i : Nat) : w.frozen? ⟨D, i, none⟩ = false := frozen_of_row _ _ _ _ _ h.blk
/-- The disk with the fuse F, behind the pointer to D. -/
def dk (F D : Nat) (s : Ds) : As where
  p S w := ∃ M1 M2 pv, Dk F D M1 M2 pv s w ∧ S F ∧ S D ∧ S M1 ∧ S M2 ∧ ∀ g, pv.ownBlock = some g → S g
  mono := fun S T w ⟨M1, M2, pv, h, h1, h2, h3, h4, h5⟩ hs => ⟨M1, M2, pv, h, hs _ h1, hs _ h2, hs _ h3, hs _ h4, fun g hg => hs _ (h5 g hg)⟩
  loc := fun S w w' ⟨M1, M2, pv, h, h1, h2, h3, h4, h5⟩ hs =>
    have l := h.lts
    ⟨M1, M2, pv, h.at (hs _ h1 l.1) (hs _ h2 l.2.1) (hs _ h3 l.2.2.1) (hs _ h4 l.2.2.2.1) (fun g hg => hs _ (h5 g hg) (l.2.2.2.2 g hg)), h1, h2, h3, h4, h5⟩
theorem Ds.out_in {s : Ds} {i : Nat} (h : i < s.n) : s.out (i : Int) = false := by unfold Ds.out; simp; omega
theorem Ds.out_nat {s : Ds} {i : Int} (h : s.out i = false) : ∃ k : Nat, i = (k : Int) ∧ k < s.n := by
  have h' : 0 ≤ i ∧ i < (s.n : Int) := by unfold Ds.out at h; simpa using h
  exact ⟨i.toNat, by omega, by omega⟩
theorem Ds.out_iff {s : Ds} {i : Int} : s.out i = false ↔ 0 ≤ i ∧ i < (s.n : Int) := by unfold Ds.out; simp

theorem has_c (F D M1 M2 : Nat) (pv : Value) (s : Ds) (i : Int) (w : World) (h : Dk F D M1 M2 pv s w) :
    Calls Tryz.prog 70 #[.pointer (some ⟨D, 0, none⟩), .int .i64 i] w fun e w' => e = .returned (.bool (!s.out i)) ∧ w = w' := by
  have c1 := h.cell 1
  simp [blockOf] at c1
  clear h
  have e : (!s.out i) = (decide (i ≥ 0) && decide (i < (s.n : Int))) := by unfold Ds.out; by_cases h1 : i < 0 <;> by_cases h2 : (s.n : Int) ≤ i <;> simp [h1, h2] <;> omega
  rw [e]
  clear e
  by_cases h1 : i ≥ 0
  · have e1 : decide (i ≥ 0) = true := by simpa using h1
    rw [e1]
    go_enter Tryz.func70, Tryz.ntmps70
    go_wp2
    go_ret
    exact ⟨by simp, rfl⟩
  · have e1 : decide (i ≥ 0) = false := by simpa using h1
    rw [e1]
    go_enter Tryz.func70, Tryz.ntmps70
    go_wp2
    go_ret
    exact ⟨by simp, rfl⟩

theorem durable_c (F D M1 M2 : Nat) (pv : Value) (s : Ds) (i : Int) (w : World) (h : Dk F D M1 M2 pv s w) :
    Calls Tryz.prog 48 #[.pointer (some ⟨D, 0, none⟩), .int .i64 i] w fun e w' => e = .returned (.string (s.durs i)) ∧ Kept w w' := by
  have c3 := h.cell 3
  simp [blockOf] at c3
  have hh := has_c F D M1 M2 pv s i w h
  cases ho : s.out i with
  | true =>
    rw [ho] at hh
    have e1 : s.durs i = ByteArray.empty := by simp [Ds.durs, ho]
    rw [e1]
    clear h e1
    go_enter Tryz.func48, Tryz.ntmps48
    go_wp2_with (go_at_call 70; refine hh.mono ?_; rintro e u ⟨rfl, rfl⟩)
    go_ret
    exact ⟨rfl, Kept.refl _⟩
  | false =>
    rw [ho] at hh
    obtain ⟨k, rfl, hk⟩ := Ds.out_nat ho
    have e1 : s.durs (k : Int) = s.dur k := by simp [Ds.durs, ho]
    rw [e1]
    clear e1 ho
    have hg := get_c M1 s.n (dg s.dur) k hk w h.dur
    rw [dg_getD] at hg
    clear h hk
    go_enter Tryz.func48, Tryz.ntmps48
    go_wp2_with (first
      | (go_at_call 70; refine hh.mono ?_; rintro e u ⟨rfl, rfl⟩)
      | (go_at_call 72; refine hg.mono ?_; rintro e u ⟨rfl, hk2⟩))
    go_ret
    exact ⟨rfl, hk2⟩
theorem read_c (F D M1 M2 : Nat) (pv : Value) (s : Ds) (i : Int) (w : World) (h : Dk F D M1 M2 pv s w) :
    Calls Tryz.prog 46 #[.pointer (some ⟨D, 0, none⟩), .int .i64 i] w fun e w' => e = .returned (.tuple #[.string (s.reads i).1, .int .i64 (s.reads i).2]) ∧ Kept w w' := by
  have c0 := h.cell 0
  have c3 := h.cell 3
  have c5 := h.cell 5
  simp [blockOf] at c0 c3 c5
  have hh := has_c F D M1 M2 pv s i w h
  cases ho : s.out i with
  | true =>
    rw [ho] at hh
    have e1 : s.reads i = (ByteArray.empty, 3) := by simp [Ds.reads, ho]
    rw [e1]
    clear h e1
    go_enter Tryz.func46, Tryz.ntmps46
    go_wp2_with (go_at_call 70; refine hh.mono ?_; rintro e u ⟨rfl, rfl⟩)
    go_ret2
    exact ⟨rfl, Kept.refl _⟩
  | false =>
    rw [ho] at hh
    have hb := blown_c F s.fu w h.fz
    obtain ⟨k, rfl, hk⟩ := Ds.out_nat ho
    cases hd : s.fu.dead with
    | true =>
      rw [hd] at hb
      have e1 : s.reads (k : Int) = (ByteArray.empty, 10) := by simp [Ds.reads, ho, hd]
      rw [e1]
      clear h e1 ho hd hk
      go_enter Tryz.func46, Tryz.ntmps46
      go_wp2_with (first
        | (go_at_call 70; refine hh.mono ?_; rintro e u ⟨rfl, rfl⟩)
        | (go_at_call 71; refine hb.mono ?_; rintro e u ⟨rfl, rfl⟩))
      go_ret2
      exact ⟨rfl, Kept.refl _⟩
    | false =>
      rw [hd] at hb
      have e1 : s.reads (k : Int) = (s.look k, 0) := by simp [Ds.reads, ho, hd]
      rw [e1]
      clear e1 ho hd
      have hg := get_c M1 s.n (dg s.dur) k hk w h.dur
      rw [dg_getD] at hg
      have hl := h.lat.look Tryz.underlying91 hk
      unfold Ds.look
      clear h hk
      cases hla : last s.pend k with
      | none =>
        rw [hla] at hl
        simp only [Option.getD, Option.isSome] at hl ⊢
        clear hla
        go_enter Tryz.func46, Tryz.ntmps46
        go_wp2_with (first
          | (go_at_call 70; refine hh.mono ?_; rintro e u ⟨rfl, rfl⟩)
          | (go_at_call 71; refine hb.mono ?_; rintro e u ⟨rfl, rfl⟩)
          | (go_at_call 72; refine hg.mono ?_; rintro e u ⟨rfl, hk2⟩))
        go_ret2
        exact ⟨rfl, hk2⟩
      | some v =>
        rw [hla] at hl
        simp only [Option.getD, Option.isSome] at hl ⊢
        clear hla hg
        go_enter Tryz.func46, Tryz.ntmps46
        go_wp2_with (first
          | (go_at_call 70; refine hh.mono ?_; rintro e u ⟨rfl, rfl⟩)
          | (go_at_call 71; refine hb.mono ?_; rintro e u ⟨rfl, rfl⟩))
        go_ret2
        exact ⟨rfl, Kept.refl _⟩
theorem sectors_c (F D M1 M2 : Nat) (pv : Value) (s : Ds) (w : World) (h : Dk F D M1 M2 pv s w) :
    Calls Tryz.prog 45 #[.pointer (some ⟨D, 0, none⟩)] w fun e w' => e = .returned (.int .i64 (s.n : Int)) ∧ w = w' := by
  have c1 := h.cell 1
  simp [blockOf] at c1
  clear h
  go_enter Tryz.func45, Tryz.ntmps45
  go_wp2
  go_ret
  exact ⟨rfl, rfl⟩
theorem full_c (F D M1 M2 : Nat) (pv : Value) (s : Ds) (w : World) (h : Dk F D M1 M2 pv s w) :
    Calls Tryz.prog 28 #[.pointer (some ⟨D, 0, none⟩)] w fun e w' => e = .returned (.bool s.full) ∧ w = w' := by
  have c2 := h.cell 2
  simp [blockOf] at c2
  clear h
  go_enter Tryz.func28, Tryz.ntmps28
  go_wp2
  go_ret
  exact ⟨rfl, rfl⟩
theorem setfull_c (F D M1 M2 : Nat) (pv : Value) (s : Ds) (b : Bool) (w : World) (h : Dk F D M1 M2 pv s w) :
    Calls Tryz.prog 16 #[.pointer (some ⟨D, 0, none⟩), .bool b] w fun e w' => e = .returned (.tuple #[]) ∧ But D w w' ∧ Dk F D M1 M2 pv { s with full := b } w' := by
  have c2 := h.cell 2
  have f2 := h.free 2
  simp [blockOf] at c2
  have H := Lib.hid h
  clear h
  go_enter Tryz.func16, Tryz.ntmps16
  go_wp2
  go_end0
  have h := H.out
  have a := h.apart
  have k : But D w (w.setCell ⟨D, 2, none⟩ (.bool b)) := But.set D 2 w _
  have l := h.lts
  refine ⟨rfl, k, ⟨h.fz.but k a.FD, ?_, h.dur.but k a.DM1.symm, h.lat.but k a.DM2.symm, row_at h.row fun g hg => k.block _ (l.2.2.2.2 g hg) (a.p g hg).2.1, ⟨h.ok.lo, h.ok.hi, h.ok.fu, h.ok.dur, h.ok.pend⟩, h.ne⟩⟩
  have := heap_setCell_same w D 2 _ _ (.bool b) h.blk
  simpa [blockOf] using this
end Go.Proofs.YtckbhjjflpobbaaGreat.Dz

namespace Go.Proofs.YtckbhjjflpobbaaGreat.Dz
open Go.RowKit Go.Proofs.YtckbhjjflpobbaaGreat.Mem Go.Proofs.YtckbhjjflpobbaaGreat.Fz
set_option linter.unusedVariables false

theorem grown_off {S : Nat → Prop} {a w w' : World} {row : Option Nat} (h : Off S a w) (k : w.grownBy w' row) (hr : ∀ g, row = some g → S g ∨ a.heap.size ≤ g) : Off S a w' :=
  ⟨k.os.trans h.os, k.tape.trans h.tape, k.output.trans h.output, Nat.le_trans h.size k.size, fun i hi hs =>
    (k.block i (Nat.lt_of_lt_of_le hi h.size) fun e => (hr i e.symm).elim hs fun h2 => absurd hi (Nat.not_lt.2 h2)).trans (h.block i hi hs)⟩
theorem cell_two_new (w : World) (x y : Value) (t : TypeId) : ∀ j u, [x, y][j]? = some u → (w.alloc (.cells #[x, y] t)).cell? ((⟨w.heap.size, 0, none⟩ : Addr).add j) = some u := by
  intro j u hj
  match j, hj with
  | 0, hj => simp at hj; subst hj; simp [Addr.add]
  | 1, hj => simp at hj; subst hj; simp [Addr.add]
theorem write_info : (Tryz.prog.info? 97).map (fun i => (i.zero, i.size, i.bytes)) = some (some (.agg #[.int .i64 0, .string ByteArray.empty]), 2, 24) := by kernel_rfl
theorem row_slice {w : World} {e : TypeId} {size : Nat} {v : Value} {n : Nat} {xs : List Value} (h : w.ownsRow 0 e size v n xs) : v = .slice none 0 0 ∨ ∃ g cap, v = .slice (some ⟨g, 0, none⟩) n cap := by
  rcases h.2 with ⟨rfl, _⟩ | ⟨g, cap, cur, rfl, _⟩
  · exact .inl rfl
  · exact .inr ⟨g, cap, rfl⟩
theorem row_pos {w : World} {e : TypeId} {size : Nat} {v : Value} {n : Nat} {xs : List Value} (h : w.ownsRow 0 e size v n xs) (hn : 0 < n) : ∃ g cap, v = .slice (some ⟨g, 0, none⟩) n cap := by
  rcases h.2 with ⟨rfl, h0⟩ | ⟨g, cap, cur, rfl, _⟩
  · omega
  · exact ⟨g, cap, rfl⟩
theorem says_ok (f : St) : f.says = 0 ∨ f.says = 10 := by
  match f with
  | .idle => exact .inl rfl
  | .armed 0 => exact .inr rfl
  | .armed (n + 1) => exact .inl rfl
  | .blown => exact .inr rfl

/-- A write that is taken: the two stores behind the fuse. -/
theorem wrote_dk {F D M1 M2 : Nat} {pv v' : Value} {s : Ds} {i : Nat} {d : ByteArray} {u w1 w2 : World} (h : Dk F D M1 M2 pv s u) (hi : i < s.n) (hd : d.size = 80)
    (hrow : w1.ownsRow 0 97 2 v' (s.pend.length + 1) (cellsOf s.pend ++ [.int .i64 (i : Int), .string d])) (hg : u.grownBy w1 pv.ownBlock) (hv : v'.ownBlock = pv.ownBlock ∨ ∃ g, v'.ownBlock = some g ∧ u.heap.size ≤ g)
    (hm : Mp M2 s.n (upd (last s.pend) i (some d)) w2) (hb : But M2 (w1.setCell ⟨D, 4, none⟩ v') w2) : Dk F D M1 M2 v' (s.wrote i d) w2 := by
  have a := h.apart
  have l := h.lts
  have hv' : ∀ g, v'.ownBlock = some g → g ≠ F ∧ g ≠ D ∧ g ≠ M1 ∧ g ≠ M2 := fun g hg' => by
    rcases hv with e | ⟨g', e, hlt⟩
    · exact a.p g (by rw [← e]; exact hg')
    · rw [e] at hg'
      obtain rfl : g' = g := by simpa using hg'
      obtain ⟨l1, l2, l3, l4, _⟩ := l
      omega
  have nn : ∀ k, (k = F ∨ k = D ∨ k = M1 ∨ k = M2) → some k ≠ pv.ownBlock := fun k hk e => by
    obtain ⟨p1, p2, p3, p4⟩ := a.p k e.symm
    rcases hk with rfl | rfl | rfl | rfl
    · exact p1 rfl
    · exact p2 rfl
    · exact p3 rfl
    · exact p4 rfl
  have keep : ∀ k, k < u.heap.size → (k = F ∨ k = M1) → w2.heap[k]? = u.heap[k]? := fun k hk hc => by
    have e1 : k ≠ M2 := by rcases hc with rfl | rfl; exact a.FM2; exact a.M12
    have e2 : k ≠ D := by rcases hc with rfl | rfl; exact a.FD; exact a.DM1.symm
    rw [hb.block k (by simp; exact Nat.lt_of_lt_of_le hk hg.size) e1, heap_setCell_other _ _ _ _ e2, hg.block k hk (nn k (by rcases hc with h | h <;> simp [h]))]
  have hblk : w1.heap[D]? = some (.cells (blockOf F D M1 M2 pv s) 95 (0, 0)) := (hg.block D l.2.1 (nn D (by simp))).trans h.blk
  refine ⟨(keep F l.1 (by simp)).trans h.fz, ?_, h.dur.at (keep M1 l.2.2.1 (by simp)), ?_, ?_, h.ok.wrote hi hd, h.ne⟩
  · rw [hb.block D (by simp; exact Nat.lt_of_lt_of_le l.2.1 hg.size) a.DM2]
    have := heap_setCell_same w1 D 4 _ _ v' hblk
    simpa [blockOf, Ds.wrote] using this
  · show Mp M2 s.n (last (s.pend ++ [(i, d)])) w2
    rw [last_snoc]; exact hm
  · have e1 : (s.wrote i d).pend.length = s.pend.length + 1 := by simp [Ds.wrote]
    have e2 : cellsOf (s.wrote i d).pend = cellsOf s.pend ++ [.int .i64 (i : Int), .string d] := cells_snoc _ _ _
    rw [e1, e2]
    refine row_at hrow fun g hg' => ?_
    have hlt := (hrow.lt g hg').2
    rw [hb.block g (by simpa using hlt) (hv' g hg').2.2.2, heap_setCell_other _ _ _ _ (hv' g hg').2.1]
set_option maxHeartbeats 1000000 in
set_option maxRecDepth 100000 in
theorem write_c (F D M1 M2 : Nat) (pv : Value) (s : Ds) (i : Int) (d : ByteArray) (hroom : s.pend.length < 4294967296) (S : Nat → Prop) (w : World) (h : Dk F D M1 M2 pv s w)
    (hS : S F ∧ S D ∧ S M1 ∧ S M2 ∧ ∀ g, pv.ownBlock = some g → S g) :
    Calls Tryz.prog 57 #[.pointer (some ⟨D, 0, none⟩), .int .i64 i, .string d] w fun e w' => e = .returned (.int .i64 (s.writes i d).1) ∧ Off S w w' ∧ (dk F D (s.writes i d).2).p (grew S w w') w' := by
  have hh := has_c F D M1 M2 pv s i w h
  have same : (dk F D s).p S w := ⟨M1, M2, pv, h, hS⟩
  cases ho : s.out i with
  | true =>
    rw [ho] at hh
    have e1 : s.writes i d = (3, s) := by simp [Ds.writes, ho]
    rw [e1]
    have H := Lib.hid same
    clear h same e1 ho
    go_enter Tryz.func57, Tryz.ntmps57
    go_wp2_with (go_at_call 70; refine hh.mono ?_; rintro e u ⟨rfl, rfl⟩)
    go_ret
    exact ⟨rfl, Off.refl _ _, (dk F D s).mono _ _ _ H.out fun k hk => .inl hk⟩
  | false =>
    rw [ho] at hh
    by_cases hd : d.size = 80
    · obtain ⟨k, rfl, hk⟩ := Ds.out_nat ho
      have hb := burn_c F s.fu h.ok.fu w h.fz
      have c0 := h.cell 0
      have f4 := h.free 4
      simp [blockOf] at c0
      rcases says_ok s.fu with h0 | h10
      · have e1 : s.writes (k : Int) d = (0, s.burnt.wrote k d) := by simp [Ds.writes, ho, hd, h0]
        rw [e1]
        rw [h0] at hb
        have hsz : ((d.size : Int) != 80) = false := by simp; omega
        have H := Lib.hid (And.intro h (And.intro hS (And.intro hroom (And.intro hd hk))))
        obtain ⟨i0, hi, hz0, hz1, hz2⟩ := info_parts write_info
        clear h same e1 ho h0 hk hroom hd hS f4
        go_enter Tryz.func57, Tryz.ntmps57
        go_wp2_with (first
          | (go_at_call 70; refine hh.mono ?_; rintro e u ⟨rfl, rfl⟩)
          | (go_at_call 80; refine hb.mono ?_; rintro e u ⟨rfl, hbu, hfu⟩; have hq := (H.out.1).burnt hbu hfu (ok_burnt H.out.1.ok.fu); have c4 := hq.cell 4; simp [blockOf] at c4; have Hq := Lib.hid hq; clear hq)
          | (at_builtin; refine wpList_append_own_at _ rfl _ _ 93 rfl 0 97 i0 (.agg #[.int .i64 0, .string ByteArray.empty]) 2 24 Tryz.underlying93 hi hz0 hz1 hz2 rfl (by decide) _ _ _ rfl (Hq.out.row.alloc _) ⟨u.heap.size, 0, none⟩ 1 1 [.int .i64 (k : Int), .string d] rfl rfl (cell_two_new _ _ _ _) (by intro x hx; simp at hx; rcases hx with rfl | rfl <;> rfl) (by have := H.out.2.2.1; unfold maxLen; simp; omega) (by have := H.out.2.2.1; simp; omega) (Nat.zero_le _) ?_; intro v' w1 hrow hgrow hnil hloc
             have hq := Hq.out
             have hgr : u.grownBy w1 pv.ownBlock := (World.grownBy_alloc _ _ _).trans hgrow
             have hblk : w1.heap[D]? = _ := (hgr.block D hq.lts.2.1 (fun e => (hq.apart.p D e.symm).2.1 rfl)).trans hq.blk
             have c5 : w1.cell? ⟨D, 5, none⟩ = some (.map (some M2)) := cell_of_row _ _ _ _ _ _ hblk
             have d4 : w1.cell? ⟨D, 4, none⟩ = some pv := cell_of_row _ _ _ _ _ _ hblk
             have f4 : w1.frozen? ⟨D, 4, none⟩ = false := frozen_of_row _ _ _ _ _ hblk
             have hM : Mp M2 s.n (last s.pend) w1 := hq.lat.at (hgr.block M2 hq.lts.2.2.2.1 (fun e => (hq.apart.p M2 e.symm).2.2.2 rfl))
             obtain ⟨g, cap, hv⟩ := row_pos hrow (Nat.succ_pos _)
             have hM2 : Mp M2 s.n (last s.pend) (w1.setCell ⟨D, 4, none⟩ v') := hM.but (But.set D 4 w1 v') hq.apart.DM2.symm
             obtain ⟨w2, hrun, hm2, hb2⟩ := hM2.store Tryz.underlying91 H.out.2.2.2.2 (s := d) (by rw [H.out.2.2.2.1]; decide) (by have := hq.ok.hi; unfold maxLen; show s.n < _; simp at this; omega)
             have hl : v'.ownBlock = pv.ownBlock ∨ ∃ g, v'.ownBlock = some g ∧ u.heap.size ≤ g := hloc.imp id fun e => ⟨_, e, by simp⟩
             have Hx := Lib.hid (And.intro hrow (And.intro hgr (And.intro hl (And.intro hm2 hb2))))
             clear hrow hgr hgrow hloc hl hm2 hb2 hq hblk hM hM2 hnil
             rw [hv] at hrun ⊢))
        go_ret
        obtain ⟨hrow, hgr, hl, hm2, hb2⟩ := Hx.out
        obtain ⟨h, hS, _, hd, hk⟩ := H.out
        have hD := wrote_dk (s := s.burnt) Hq.out hk hd hrow hgr hl hm2 hb2
        have ho : Off S w w2 := ((grown_off (hbu.off hS.1) hgr fun g hg => .inl (hS.2.2.2.2 g hg)).setc D 4 v' (.inl hS.2.1)).but hb2 (.inl hS.2.2.2.1)
        refine ⟨rfl, ho, M1, M2, v', hD, .inl hS.1, .inl hS.2.1, .inl hS.2.2.1, .inl hS.2.2.2.1, fun g hg => ?_⟩
        rcases hl with e | ⟨g', e, hlt⟩
        · exact .inl (hS.2.2.2.2 g (by rw [← e]; exact hg))
        · rw [e] at hg
          obtain rfl : g' = g := by simpa using hg
          exact .inr ⟨Nat.le_trans hbu.size hlt, hD.lts.2.2.2.2 g' e⟩
      · have e1 : s.writes (k : Int) d = (10, s.burnt) := by simp [Ds.writes, ho, hd, h10]
        rw [e1]
        rw [h10] at hb
        have hsz : ((d.size : Int) != 80) = false := by simp; omega
        have H := Lib.hid (And.intro h hS)
        clear h same e1 ho h10 hk hroom hd hS f4
        go_enter Tryz.func57, Tryz.ntmps57
        go_wp2_with (first
          | (go_at_call 70; refine hh.mono ?_; rintro e u ⟨rfl, rfl⟩)
          | (go_at_call 80; refine hb.mono ?_; rintro e u ⟨rfl, hbu, hfu⟩))
        go_ret
        obtain ⟨h, hS⟩ := H.out
        exact ⟨rfl, hbu.off hS.1, (dk F D s.burnt).mono S _ _ ⟨M1, M2, pv, h.burnt hbu hfu (ok_burnt h.ok.fu), hS⟩ fun k hk => .inl hk⟩
    · have e1 : s.writes i d = (2, s) := by simp [Ds.writes, ho, hd]
      rw [e1]
      have hsz : ((d.size : Int) != 80) = true := by simp; omega
      have H := Lib.hid same
      clear h same e1 ho hd
      go_enter Tryz.func57, Tryz.ntmps57
      go_wp2_with (go_at_call 70; refine hh.mono ?_; rintro e u ⟨rfl, rfl⟩)
      go_ret
      exact ⟨rfl, Off.refl _ _, (dk F D s).mono _ _ _ H.out fun k hk => .inl hk⟩
end Go.Proofs.YtckbhjjflpobbaaGreat.Dz

namespace Go.Proofs.YtckbhjjflpobbaaGreat.Dz
open Go.RowKit Go.ChangeShapes Go.WideShapes Go.ChangeAt Go.Proofs.YtckbhjjflpobbaaGreat.Mem Go.Proofs.YtckbhjjflpobbaaGreat.Fz
set_option linter.unusedVariables false

/-- The map of the latest writes when the first k have been settled. -/
def rest (l : Pend) (k : Nat) (i : Nat) : Option ByteArray := if (l.take k).any (fun p => p.1 == i) then none else last l i
theorem rest_zero (l : Pend) : rest l 0 = last l := by funext i; simp [rest]
theorem rest_succ {l : Pend} {k : Nat} (h : k < l.length) : rest l (k + 1) = upd (rest l k) l[k].1 none := by
  funext i
  unfold rest upd
  rw [List.take_succ_eq_append_getElem h, List.any_append]
  by_cases e : i = l[k].1
  · subst e; simp
  · have e' : (l[k].1 == i) = false := by simp; exact fun h => e h.symm
    rw [List.any_cons, List.any_nil, e', Bool.or_false, Bool.or_false, if_neg e]
theorem last_none {i : Nat} : ∀ {l : Pend}, l.any (fun p => p.1 == i) = false → last l i = none := by
  intro l
  suffices h : ∀ (l : Pend) (o : Option ByteArray), l.any (fun p => p.1 == i) = false → l.foldl (fun o p => if i = p.1 then some p.2 else o) o = o from h l none
  intro l
  induction l with
  | nil => intro o _; rfl
  | cons p l ih =>
    intro o h
    simp only [List.any_cons, Bool.or_eq_false_iff] at h
    have : i ≠ p.1 := by have := h.1; simp at this; exact fun e => this e.symm
    simp only [List.foldl_cons, this, if_false]
    exact ih o h.2
theorem rest_all (l : Pend) (i : Nat) : rest l l.length i = none := by
  unfold rest
  rw [List.take_length]
  split
  · rfl
  · rename_i h
    exact last_none (by cases hh : l.any (fun p => p.1 == i) with | false => rfl | true => exact absurd hh h)
theorem Mem_drewOf {u v : World} (k : Kept u.drew v) : Kept u v := (Kept.refl u).drew.trans k
def maps (M1 M2 : Nat) (k : Nat) : Prop := k = M1 ∨ k = M2
/-- k writes are settled. -/
structure Sd (M1 M2 : Nat) (s : Ds) (f : Nat → Nat) (w : World) (k : Nat) (wr : World) : Prop where
  off : Off (maps M1 M2) w wr
  dur : Mp M1 s.n (dg (settle f s.pend s.dur k)) wr
  lat : Mp M2 s.n (rest s.pend k) wr
theorem Sd.start {F D M1 M2 : Nat} {pv : Value} {s : Ds} {w : World} (h : Dk F D M1 M2 pv s w) (f : Nat → Nat) : Sd M1 M2 s f w 0 w := ⟨Off.refl _ _, h.dur, by rw [rest_zero]; exact h.lat⟩
theorem Sd.kept {M1 M2 : Nat} {s : Ds} {f : Nat → Nat} {w a b : World} {k : Nat} (h : Sd M1 M2 s f w k a) (kk : Kept a b) : Sd M1 M2 s f w k b := ⟨h.off.kept kk, h.dur.keep kk, h.lat.keep kk⟩
theorem slice_h (s : ByteArray) (m : Nat) (h : m ≤ s.size) (w : World) : (Instr.slice 9 (.string s) none (some (.int .i64 (m : Int))) none).run Tryz.prog w = .ok (.string (s.extract 0 m)) w := by
  have := run_slice_string_h (P := Tryz.prog) (w := w) (t := 9) (s := s) Tryz.underlying9 .i64 (m : Int) (by omega) (by omega)
  simpa using this
theorem slice_l (s : ByteArray) (m : Nat) (h : m ≤ s.size) (w : World) : (Instr.slice 9 (.string s) (some (.int .i64 (m : Int))) none none).run Tryz.prog w = .ok (.string (s.extract m s.size)) w := by
  have := run_slice_string_l (P := Tryz.prog) (w := w) (t := 9) (s := s) Tryz.underlying9 .i64 (m : Int) (by omega) (by omega)
  simpa using this

set_option maxHeartbeats 2000000 in
set_option maxRecDepth 100000 in
theorem settle_sync (F D M1 M2 : Nat) (pv : Value) (s : Ds) (f : Nat → Nat) (hf : ∀ k, f k ≤ 80) (w : World) (h : Dk F D M1 M2 pv s w)
    (hcall : ∀ (k : Nat) W, k < s.pend.length → Off (maps M1 M2) w W → Calls Tryz.prog 81 #[.int .i64 (k : Int)] W fun e w' => e = .returned (.int .i64 (f k : Int)) ∧ Kept W w') :
    Calls Tryz.prog 67 #[.pointer (some ⟨D, 0, none⟩), .func (.func 81) #[] #[]] w fun e w' => e = .returned (.tuple #[]) ∧ ∃ w1, Sd M1 M2 s f w s.pend.length w1 ∧ w' = w1.setCell ⟨D, 4, none⟩ (.slice none 0 0) := by
  have c4 := h.cell 4
  simp [blockOf] at c4
  have hst := Sd.start h f
  have hlen : s.pend.length ≤ 9223372036854775807 := by
    rcases h.row.2 with ⟨_, h0⟩ | ⟨_, _, _, _, _, _, h1, h2, _⟩
    · omega
    · unfold maxLen at h2; omega
  have H := Lib.hid h
  clear h
  have rows : ∃ (ao : Option Addr) (cap : Nat), pv = .slice ao s.pend.length cap ∧ ∀ k (hk : k < s.pend.length), ∃ g, ao = some ⟨g, 0, none⟩ ∧ ∀ W, Off (maps M1 M2) w W → W.cell? ⟨g, k * 2, none⟩ = some (.int .i64 (s.pend[k].1 : Int)) ∧ W.cell? ⟨g, k * 2 + 1, none⟩ = some (.string s.pend[k].2) := by
    have h := H.out
    rcases row_slice h.row with rfl | ⟨g, cap, rfl⟩
    · have h0 : s.pend.length = 0 := by
        rcases h.row.2 with ⟨_, h0⟩ | ⟨_, _, _, e, _⟩
        · exact h0
        · simp at e
      exact ⟨none, 0, by rw [h0], fun k hk => by omega⟩
    · refine ⟨some ⟨g, 0, none⟩, cap, rfl, fun k hk => ⟨g, rfl, fun W hW => ?_⟩⟩
      have hg := h.row.cells (g := g) rfl
      have ap := h.apart.p g rfl
      have q := cells_at s.pend k hk
      have a1 := hg _ _ q.1
      have a2 := hg _ _ q.2
      simp only [add_plain, Nat.zero_add] at a1 a2
      have nm : ¬ maps M1 M2 g := fun e => by rcases e with e | e; exact ap.2.2.1 e; exact ap.2.2.2 e
      exact ⟨hW.cell a1 nm, hW.cell a2 nm⟩
  obtain ⟨ao, cap, rfl, hrow⟩ := rows
  have cD : ∀ W, Off (maps M1 M2) w W → W.cell? ⟨D, 3, none⟩ = some (.map (some M1)) ∧ W.cell? ⟨D, 5, none⟩ = some (.map (some M2)) ∧ W.cell? ⟨D, 4, none⟩ = some (.slice ao s.pend.length cap) ∧ W.frozen? ⟨D, 4, none⟩ = false := fun W hW => by
    have h := H.out
    have nm : ¬ maps M1 M2 D := fun e => by rcases e with e | e; exact h.apart.DM1 e; exact h.apart.DM2 e
    have hb := hW.at h.blk nm
    exact ⟨cell_of_row _ _ _ _ _ _ hb, cell_of_row _ _ _ _ _ _ hb, cell_of_row _ _ _ _ _ _ hb, frozen_of_row _ _ _ _ _ hb⟩
  have HC := Lib.hid (And.intro hcall (And.intro hrow cD))
  clear hcall hrow cD
  go_enter Tryz.func67, Tryz.ntmps67
  go_wp2
  go_loopw [12] (fun i wr => ∃ k : Nat, k ≤ s.pend.length ∧ i = .int .i64 k ∧ Sd M1 M2 s f w k wr) (fun i _ => s.pend.length - (intOf i).toNat)
  case atStart => exact ⟨0, by omega, rfl, hst⟩
  case round =>
    clear hst c4
    obtain ⟨k, hk, rfl, hp⟩ := hrel
    by_cases hlt : k < s.pend.length
    · obtain ⟨g, rfl, hrow⟩ := HC.out.2.1 k hlt
      obtain ⟨r0, r1⟩ := hrow wr hp.off
      obtain ⟨sec, hsec⟩ : ∃ sec, sec = s.pend[k].1 := ⟨_, rfl⟩
      obtain ⟨dat, hdat⟩ : ∃ dat, dat = s.pend[k].2 := ⟨_, rfl⟩
      rw [← hsec] at r0
      rw [← hdat] at r1
      have Hs := Lib.hid (And.intro hsec hdat)
      have Hp := Lib.hid hp
      clear hrow hsec hdat hp
      have hcall := HC.out.1 k (wr.alloc (.cells #[.int .i64 (sec : Int), .string dat] 97)) hlt (Hp.out.off.alloc _)
      obtain ⟨m, hm⟩ : ∃ m, m = f k := ⟨_, rfl⟩
      rw [← hm] at hcall
      have Hm := Lib.hid hm
      clear hm
      go_wp2_with (first | (go_at_call 81; refine hcall.mono ?_; rintro e u ⟨rfl, hku⟩))
      have hh := H.out
      have hpu := (Hp.out.kept ((Kept.refl _).alloc (.cells #[.int .i64 (sec : Int), .string dat] 97))).kept hku
      have hpk := s.ok
      have bx : u.heap[wr.heap.size]? = some (.cells #[.int .i64 (sec : Int), .string dat] 97 (0, 0)) := hku.at (heap_alloc_new _ _)
      have okp : sec < s.n ∧ dat.size = 80 := by rw [Hs.out.1, Hs.out.2]; exact hh.ok.pend _ (List.getElem_mem hlt)
      obtain ⟨old, hold⟩ : ∃ old, old = settle f s.pend s.dur k sec := ⟨_, rfl⟩
      have oldsz : old.size = 80 := by rw [hold]; exact size_settle hf hh.ok.pend hh.ok.dur k sec okp.1
      have hm80 : m ≤ 80 := by rw [Hm.out]; exact hf k
      have hs1 : ∀ W, (Instr.slice 9 (.string dat) none (some (.int .i64 (m : Int))) none).run Tryz.prog W = .ok (.string (dat.extract 0 m)) W := slice_h dat m (by omega)
      have hs2 : ∀ W, (Instr.slice 9 (.string old) (some (.int .i64 (m : Int))) none none).run Tryz.prog W = .ok (.string (old.extract m old.size)) W := slice_l old m (by omega)
      obtain ⟨pa, hpa⟩ : ∃ pa, pa = dat.extract 0 m := ⟨_, rfl⟩
      obtain ⟨pb, hpb⟩ : ∃ pb, pb = old.extract m old.size := ⟨_, rfl⟩
      obtain ⟨c, hc⟩ : ∃ c, c = pa ++ pb := ⟨_, rfl⟩
      have hcm : c = mix m dat old := by rw [hc, hpa, hpb]; rfl
      have csz : c.size = 80 := by rw [hcm]; exact size_mix hm80 okp.2 oldsz
      rw [← hpa] at hs1
      rw [← hpb] at hs2
      have psz : pa.size + pb.size = 80 := by rw [← ByteArray.size_append, ← hc]; exact csz
      have hadd : ∀ W, (Op.stringOp .add pa pb).run Tryz.prog W = .ok (.string c) W := fun W => by
        rw [hc]; exact run_string_add_sum W pa pb (by omega)
      obtain ⟨G, hG⟩ : ∃ G, G = dg (settle f s.pend s.dur k) := ⟨_, rfl⟩
      have hget : ∀ W, Mp M1 s.n G W → Calls Tryz.prog 72 #[.map (some M1), .int .i64 (sec : Int)] W fun e w' => e = .returned (.string old) ∧ Kept W w' := fun W hW => by
        have q := get_c M1 s.n G sec okp.1 W hW
        rw [hG, dg_getD, ← hold] at q
        exact q
      have hput : ∀ W, Mp M1 s.n G W → Calls Tryz.prog 90 #[.map (some M1), .int .i64 (sec : Int), .string c] W fun e w' => e = .returned (.tuple #[]) ∧ But M1 W w' ∧ Mp M1 s.n (upd G sec (if c = Z then none else some c)) w' := fun W hW =>
        put_c M1 s.n G sec okp.1 hh.ok.hi c csz W hW
      have hMu : Mp M1 s.n G u.drew := by rw [hG]; exact hpu.dur
      have cells : ∀ W, Kept u W → W.cell? ⟨D, 3, none⟩ = some (.map (some M1)) ∧ W.cell? ⟨wr.heap.size, 0, none⟩ = some (.int .i64 (sec : Int)) ∧ W.cell? ⟨wr.heap.size, 1, none⟩ = some (.string dat) := fun W hW =>
        ⟨(HC.out.2.2 W (hpu.off.kept hW)).1, cell_of_row _ _ _ _ _ _ (hW.at bx), cell_of_row _ _ _ _ _ _ (hW.at bx)⟩
      have cells2 : ∀ W W', Kept u W → But M1 W W' → W'.cell? ⟨D, 3, none⟩ = some (.map (some M1)) ∧ W'.cell? ⟨wr.heap.size, 0, none⟩ = some (.int .i64 (sec : Int)) ∧ W'.cell? ⟨wr.heap.size, 1, none⟩ = some (.string dat) := fun W W' hW hb => by
        have nb : wr.heap.size ≠ M1 := Nat.ne_of_gt (Nat.lt_of_lt_of_le hh.lts.2.2.1 Hp.out.off.size)
        have b2 := hb.at (hW.at bx) nb
        exact ⟨(HC.out.2.2 W' ((hpu.off.kept hW).but hb (.inl (.inl rfl)))).1, cell_of_row _ _ _ _ _ _ b2, cell_of_row _ _ _ _ _ _ b2⟩
      have S1 := cells u (Kept.refl u)
      have S1' := cells u.drew (Kept.refl u).drew
      have HX := Lib.hid (And.intro cells cells2)
      have HY := Lib.hid (And.intro hpu (And.intro hold (And.intro hcm (And.intro hG (And.intro okp (And.intro hh hku))))))
      have Hf := Lib.hid (And.intro bx (And.intro oldsz (And.intro hm80 csz)))
      clear psz hh hpu hpk bx okp hold oldsz hm80 hc hcm csz hpa hpb hG cells cells2 hku r0 r1 hk
      go_region_held3 (fun W => W.cell? ⟨D, 3, none⟩ = some (.map (some M1)) ∧ W.cell? ⟨wr.heap.size, 0, none⟩ = some (.int .i64 (sec : Int)) ∧ W.cell? ⟨wr.heap.size, 1, none⟩ = some (.string dat))
        (first | assumption | (refine HX.out.1 _ ?_; exact Mem_drewOf k1) | (refine HX.out.2 _ _ ?_ k2; exact Mem_drewOf k1))
        (first
          | (go_at_call 72; refine (hget _ ‹_›).mono ?_; rintro e u1 ⟨rfl, k1⟩)
          | (go_at_call 90; refine (hput _ (hMu.keep k1)).mono ?_; rintro e u2 ⟨rfl, k2, hM2⟩))
      obtain ⟨hpu, hold, hcm, hG, okp, hh, hku⟩ := HY.out
      have k1' : Kept u u1 := Mem_drewOf k1
      have o2 : Off (maps M1 M2) w u2 := (hpu.off.kept k1').but k2 (.inl (.inl rfl))
      have c5 := (HC.out.2.2 u2 o2).2.1
      have b0 := (HX.out.2 u1 u2 k1' k2).2.1
      have lat2 := ((hpu.lat.keep k1').but k2 hh.ne.symm).drew
      obtain ⟨w2, hrun, hm2, hb2⟩ := lat2.drop Tryz.underlying91 okp.1 0
      have Hz := Lib.hid (And.intro o2 (And.intro hm2 (And.intro hb2 (And.intro hM2 k2))))
      clear hpu hold hcm hG okp hh hku k1' o2 lat2 hm2 hb2 hM2 k1 k2 S1 S1' hget hput hMu hs1 hs2 hadd
      go_wp2
      go_region
      go_wp2
      go_roundw
      case rel =>
        refine ⟨k + 1, by omega, by go_num, ?_⟩
        obtain ⟨hpu, hold, hcm, hG, okp, hh, hku⟩ := HY.out
        obtain ⟨o2, hm2, hb2, hM2, k2⟩ := Hz.out
        refine ⟨o2.drew.but hb2 (.inl (.inr rfl)), ?_, ?_⟩
        · rw [settle_succ hlt, dg_put, ← Hs.out.1, ← Hs.out.2, ← Hm.out, ← hold, ← hcm, ← hG]
          exact hM2.drew.but hb2 hh.ne
        · rw [rest_succ hlt, ← Hs.out.1]
          exact hm2
      case measure => simp [intOf]; omega
    · obtain rfl : k = s.pend.length := by omega
      obtain ⟨_, _, c4, f4⟩ := HC.out.2.2 wr hp.off
      have Hp := Lib.hid hp
      clear hp
      go_wp2
      go_end0
      exact ⟨rfl, wr, Hp.out, rfl⟩

set_option maxHeartbeats 2000000 in
set_option maxRecDepth 100000 in
theorem settle_crash (F D M1 M2 : Nat) (pv : Value) (s : Ds) (f : Nat → Nat) (hf : ∀ k, f k ≤ 80) (C : Nat) (w : World) (h : Dk F D M1 M2 pv s w)
    (hcall : ∀ (k : Nat) W, k < s.pend.length → Off (maps M1 M2) w W → Calls Tryz.prog 68 #[.int .i64 (k : Int), .pointer (some ⟨C, 0, none⟩)] W fun e w' => e = .returned (.int .i64 (f k : Int)) ∧ Kept W w') :
    Calls Tryz.prog 67 #[.pointer (some ⟨D, 0, none⟩), .func (.func 68) #[] #[.pointer (some ⟨C, 0, none⟩)]] w fun e w' => e = .returned (.tuple #[]) ∧ ∃ w1, Sd M1 M2 s f w s.pend.length w1 ∧ w' = w1.setCell ⟨D, 4, none⟩ (.slice none 0 0) := by
  have c4 := h.cell 4
  simp [blockOf] at c4
  have hst := Sd.start h f
  have hlen : s.pend.length ≤ 9223372036854775807 := by
    rcases h.row.2 with ⟨_, h0⟩ | ⟨_, _, _, _, _, _, h1, h2, _⟩
    · omega
    · unfold maxLen at h2; omega
  have H := Lib.hid h
  clear h
  have rows : ∃ (ao : Option Addr) (cap : Nat), pv = .slice ao s.pend.length cap ∧ ∀ k (hk : k < s.pend.length), ∃ g, ao = some ⟨g, 0, none⟩ ∧ ∀ W, Off (maps M1 M2) w W → W.cell? ⟨g, k * 2, none⟩ = some (.int .i64 (s.pend[k].1 : Int)) ∧ W.cell? ⟨g, k * 2 + 1, none⟩ = some (.string s.pend[k].2) := by
    have h := H.out
    rcases row_slice h.row with rfl | ⟨g, cap, rfl⟩
    · have h0 : s.pend.length = 0 := by
        rcases h.row.2 with ⟨_, h0⟩ | ⟨_, _, _, e, _⟩
        · exact h0
        · simp at e
      exact ⟨none, 0, by rw [h0], fun k hk => by omega⟩
    · refine ⟨some ⟨g, 0, none⟩, cap, rfl, fun k hk => ⟨g, rfl, fun W hW => ?_⟩⟩
      have hg := h.row.cells (g := g) rfl
      have ap := h.apart.p g rfl
      have q := cells_at s.pend k hk
      have a1 := hg _ _ q.1
      have a2 := hg _ _ q.2
      simp only [add_plain, Nat.zero_add] at a1 a2
      have nm : ¬ maps M1 M2 g := fun e => by rcases e with e | e; exact ap.2.2.1 e; exact ap.2.2.2 e
      exact ⟨hW.cell a1 nm, hW.cell a2 nm⟩
  obtain ⟨ao, cap, rfl, hrow⟩ := rows
  have cD : ∀ W, Off (maps M1 M2) w W → W.cell? ⟨D, 3, none⟩ = some (.map (some M1)) ∧ W.cell? ⟨D, 5, none⟩ = some (.map (some M2)) ∧ W.cell? ⟨D, 4, none⟩ = some (.slice ao s.pend.length cap) ∧ W.frozen? ⟨D, 4, none⟩ = false := fun W hW => by
    have h := H.out
    have nm : ¬ maps M1 M2 D := fun e => by rcases e with e | e; exact h.apart.DM1 e; exact h.apart.DM2 e
    have hb := hW.at h.blk nm
    exact ⟨cell_of_row _ _ _ _ _ _ hb, cell_of_row _ _ _ _ _ _ hb, cell_of_row _ _ _ _ _ _ hb, frozen_of_row _ _ _ _ _ hb⟩
  have HC := Lib.hid (And.intro hcall (And.intro hrow cD))
  clear hcall hrow cD
  go_enter Tryz.func67, Tryz.ntmps67
  go_wp2
  go_loopw [12] (fun i wr => ∃ k : Nat, k ≤ s.pend.length ∧ i = .int .i64 k ∧ Sd M1 M2 s f w k wr) (fun i _ => s.pend.length - (intOf i).toNat)
  case atStart => exact ⟨0, by omega, rfl, hst⟩
  case round =>
    clear hst c4
    obtain ⟨k, hk, rfl, hp⟩ := hrel
    by_cases hlt : k < s.pend.length
    · obtain ⟨g, rfl, hrow⟩ := HC.out.2.1 k hlt
      obtain ⟨r0, r1⟩ := hrow wr hp.off
      obtain ⟨sec, hsec⟩ : ∃ sec, sec = s.pend[k].1 := ⟨_, rfl⟩
      obtain ⟨dat, hdat⟩ : ∃ dat, dat = s.pend[k].2 := ⟨_, rfl⟩
      rw [← hsec] at r0
      rw [← hdat] at r1
      have Hs := Lib.hid (And.intro hsec hdat)
      have Hp := Lib.hid hp
      clear hrow hsec hdat hp
      have hcall := HC.out.1 k (wr.alloc (.cells #[.int .i64 (sec : Int), .string dat] 97)) hlt (Hp.out.off.alloc _)
      obtain ⟨m, hm⟩ : ∃ m, m = f k := ⟨_, rfl⟩
      rw [← hm] at hcall
      have Hm := Lib.hid hm
      clear hm
      go_wp2_with (first | (go_at_call 68; refine hcall.mono ?_; rintro e u ⟨rfl, hku⟩))
      have hh := H.out
      have hpu := (Hp.out.kept ((Kept.refl _).alloc (.cells #[.int .i64 (sec : Int), .string dat] 97))).kept hku
      have hpk := s.ok
      have bx : u.heap[wr.heap.size]? = some (.cells #[.int .i64 (sec : Int), .string dat] 97 (0, 0)) := hku.at (heap_alloc_new _ _)
      have okp : sec < s.n ∧ dat.size = 80 := by rw [Hs.out.1, Hs.out.2]; exact hh.ok.pend _ (List.getElem_mem hlt)
      obtain ⟨old, hold⟩ : ∃ old, old = settle f s.pend s.dur k sec := ⟨_, rfl⟩
      have oldsz : old.size = 80 := by rw [hold]; exact size_settle hf hh.ok.pend hh.ok.dur k sec okp.1
      have hm80 : m ≤ 80 := by rw [Hm.out]; exact hf k
      have hs1 : ∀ W, (Instr.slice 9 (.string dat) none (some (.int .i64 (m : Int))) none).run Tryz.prog W = .ok (.string (dat.extract 0 m)) W := slice_h dat m (by omega)
      have hs2 : ∀ W, (Instr.slice 9 (.string old) (some (.int .i64 (m : Int))) none none).run Tryz.prog W = .ok (.string (old.extract m old.size)) W := slice_l old m (by omega)
      obtain ⟨pa, hpa⟩ : ∃ pa, pa = dat.extract 0 m := ⟨_, rfl⟩
      obtain ⟨pb, hpb⟩ : ∃ pb, pb = old.extract m old.size := ⟨_, rfl⟩
      obtain ⟨c, hc⟩ : ∃ c, c = pa ++ pb := ⟨_, rfl⟩
      have hcm : c = mix m dat old := by rw [hc, hpa, hpb]; rfl
      have csz : c.size = 80 := by rw [hcm]; exact size_mix hm80 okp.2 oldsz
      rw [← hpa] at hs1
      rw [← hpb] at hs2
      have psz : pa.size + pb.size = 80 := by rw [← ByteArray.size_append, ← hc]; exact csz
      have hadd : ∀ W, (Op.stringOp .add pa pb).run Tryz.prog W = .ok (.string c) W := fun W => by
        rw [hc]; exact run_string_add_sum W pa pb (by omega)
      obtain ⟨G, hG⟩ : ∃ G, G = dg (settle f s.pend s.dur k) := ⟨_, rfl⟩
      have hget : ∀ W, Mp M1 s.n G W → Calls Tryz.prog 72 #[.map (some M1), .int .i64 (sec : Int)] W fun e w' => e = .returned (.string old) ∧ Kept W w' := fun W hW => by
        have q := get_c M1 s.n G sec okp.1 W hW
        rw [hG, dg_getD, ← hold] at q
        exact q
      have hput : ∀ W, Mp M1 s.n G W → Calls Tryz.prog 90 #[.map (some M1), .int .i64 (sec : Int), .string c] W fun e w' => e = .returned (.tuple #[]) ∧ But M1 W w' ∧ Mp M1 s.n (upd G sec (if c = Z then none else some c)) w' := fun W hW =>
        put_c M1 s.n G sec okp.1 hh.ok.hi c csz W hW
      have hMu : Mp M1 s.n G u.drew := by rw [hG]; exact hpu.dur
      have cells : ∀ W, Kept u W → W.cell? ⟨D, 3, none⟩ = some (.map (some M1)) ∧ W.cell? ⟨wr.heap.size, 0, none⟩ = some (.int .i64 (sec : Int)) ∧ W.cell? ⟨wr.heap.size, 1, none⟩ = some (.string dat) := fun W hW =>
        ⟨(HC.out.2.2 W (hpu.off.kept hW)).1, cell_of_row _ _ _ _ _ _ (hW.at bx), cell_of_row _ _ _ _ _ _ (hW.at bx)⟩
      have cells2 : ∀ W W', Kept u W → But M1 W W' → W'.cell? ⟨D, 3, none⟩ = some (.map (some M1)) ∧ W'.cell? ⟨wr.heap.size, 0, none⟩ = some (.int .i64 (sec : Int)) ∧ W'.cell? ⟨wr.heap.size, 1, none⟩ = some (.string dat) := fun W W' hW hb => by
        have nb : wr.heap.size ≠ M1 := Nat.ne_of_gt (Nat.lt_of_lt_of_le hh.lts.2.2.1 Hp.out.off.size)
        have b2 := hb.at (hW.at bx) nb
        exact ⟨(HC.out.2.2 W' ((hpu.off.kept hW).but hb (.inl (.inl rfl)))).1, cell_of_row _ _ _ _ _ _ b2, cell_of_row _ _ _ _ _ _ b2⟩
      have S1 := cells u (Kept.refl u)
      have S1' := cells u.drew (Kept.refl u).drew
      have HX := Lib.hid (And.intro cells cells2)
      have HY := Lib.hid (And.intro hpu (And.intro hold (And.intro hcm (And.intro hG (And.intro okp (And.intro hh hku))))))
      have Hf := Lib.hid (And.intro bx (And.intro oldsz (And.intro hm80 csz)))
      clear psz hh hpu hpk bx okp hold oldsz hm80 hc hcm csz hpa hpb hG cells cells2 hku r0 r1 hk
      go_region_held3 (fun W => W.cell? ⟨D, 3, none⟩ = some (.map (some M1)) ∧ W.cell? ⟨wr.heap.size, 0, none⟩ = some (.int .i64 (sec : Int)) ∧ W.cell? ⟨wr.heap.size, 1, none⟩ = some (.string dat))
        (first | assumption | (refine HX.out.1 _ ?_; exact Mem_drewOf k1) | (refine HX.out.2 _ _ ?_ k2; exact Mem_drewOf k1))
        (first
          | (go_at_call 72; refine (hget _ ‹_›).mono ?_; rintro e u1 ⟨rfl, k1⟩)
          | (go_at_call 90; refine (hput _ (hMu.keep k1)).mono ?_; rintro e u2 ⟨rfl, k2, hM2⟩))
      obtain ⟨hpu, hold, hcm, hG, okp, hh, hku⟩ := HY.out
      have k1' : Kept u u1 := Mem_drewOf k1
      have o2 : Off (maps M1 M2) w u2 := (hpu.off.kept k1').but k2 (.inl (.inl rfl))
      have c5 := (HC.out.2.2 u2 o2).2.1
      have b0 := (HX.out.2 u1 u2 k1' k2).2.1
      have lat2 := ((hpu.lat.keep k1').but k2 hh.ne.symm).drew
      obtain ⟨w2, hrun, hm2, hb2⟩ := lat2.drop Tryz.underlying91 okp.1 0
      have Hz := Lib.hid (And.intro o2 (And.intro hm2 (And.intro hb2 (And.intro hM2 k2))))
      clear hpu hold hcm hG okp hh hku k1' o2 lat2 hm2 hb2 hM2 k1 k2 S1 S1' hget hput hMu hs1 hs2 hadd
      go_wp2
      go_region
      go_wp2
      go_roundw
      case rel =>
        refine ⟨k + 1, by omega, by go_num, ?_⟩
        obtain ⟨hpu, hold, hcm, hG, okp, hh, hku⟩ := HY.out
        obtain ⟨o2, hm2, hb2, hM2, k2⟩ := Hz.out
        refine ⟨o2.drew.but hb2 (.inl (.inr rfl)), ?_, ?_⟩
        · rw [settle_succ hlt, dg_put, ← Hs.out.1, ← Hs.out.2, ← Hm.out, ← hold, ← hcm, ← hG]
          exact hM2.drew.but hb2 hh.ne
        · rw [rest_succ hlt, ← Hs.out.1]
          exact hm2
      case measure => simp [intOf]; omega
    · obtain rfl : k = s.pend.length := by omega
      obtain ⟨_, _, c4, f4⟩ := HC.out.2.2 wr hp.off
      have Hp := Lib.hid hp
      clear hp
      go_wp2
      go_end0
      exact ⟨rfl, wr, Hp.out, rfl⟩
end Go.Proofs.YtckbhjjflpobbaaGreat.Dz

namespace Go.Proofs.YtckbhjjflpobbaaGreat.Dz
open Go.RowKit Go.ChangeShapes Go.WideShapes Go.ChangeAt Go.Proofs.YtckbhjjflpobbaaGreat.Mem Go.Proofs.YtckbhjjflpobbaaGreat.Fz
set_option linter.unusedVariables false

theorem settled_dk {F D M1 M2 : Nat} {pv : Value} {s : Ds} {f : Nat → Nat} (hf : ∀ k, f k ≤ 80) {w w1 : World} (h : Dk F D M1 M2 pv s w) (hs : Sd M1 M2 s f w s.pend.length w1) :
    Dk F D M1 M2 (.slice none 0 0) (s.settled f) (w1.setCell ⟨D, 4, none⟩ (.slice none 0 0)) := by
  have a := h.apart
  have nmD : ¬ maps M1 M2 D := fun e => by rcases e with e | e; exact a.DM1 e; exact a.DM2 e
  have nmF : ¬ maps M1 M2 F := fun e => by rcases e with e | e; exact a.FM1 e; exact a.FM2 e
  have b := But.set D 4 w1 (.slice none 0 0)
  refine ⟨Fz.but (hs.off.at h.fz nmF) b a.FD, ?_, ?_, ?_, ?_, h.ok.settled hf, h.ne⟩
  · have := heap_setCell_same w1 D 4 _ _ (.slice none 0 0) (hs.off.at h.blk nmD)
    simpa [blockOf, Ds.settled] using this
  · exact (hs.dur.but b a.DM1.symm)
  · exact (hs.lat.but b a.DM2.symm).same fun i _ => by simp [Ds.settled, rest_all, last]
  · exact World.ownsRow_nil _ _ _ _
theorem sync1_c (k : Nat) (w : World) : Calls Tryz.prog 81 #[.int .i64 (k : Int)] w fun e w' => e = .returned (.int .i64 (80 : Nat)) ∧ Kept w w' := by
  go_enter Tryz.func81, Tryz.ntmps81
  go_wp2
  go_ret
  exact ⟨rfl, Kept.refl _⟩
theorem keep_bit (n j : Nat) (hn : n < 18446744073709551616) : (bits .and .u64 ((n : Int) / 2 ^ j) 1 == 1) = n.testBit j := by
  have hd : n / 2 ^ j < 18446744073709551616 := Nat.lt_of_le_of_lt (Nat.div_le_self _ _) hn
  have e : ((n : Int) / 2 ^ j) = ((n / 2 ^ j : Nat) : Int) := by simp
  have h1 : (1 : Int) = ((1 : Nat) : Int) := rfl
  rw [e, h1, u64_and_nat _ _ hd (by decide), Nat.and_one_is_mod, Nat.testBit_eq_decide_div_mod_eq]
  rcases Nat.mod_two_eq_zero_or_one (n / 2 ^ j) with h | h <;> rw [h] <;> decide
theorem tmod80 (b : Int) : (b.tmod 80 + 80).tmod 80 = b % 80 := by
  rcases Int.le_total 0 b with h | h
  · rw [Int.tmod_eq_emod_of_nonneg h, Int.tmod_eq_emod_of_nonneg (by omega)]; omega
  · obtain ⟨m, rfl⟩ : ∃ m, b = -m := ⟨-b, by omega⟩
    rw [Int.neg_tmod, Int.tmod_eq_emod_of_nonneg (a := m) (by omega), Int.tmod_eq_emod_of_nonneg (by omega)]; omega
theorem tmod80_b (b : Int) : -80 < b.tmod 80 ∧ b.tmod 80 < 80 := by
  rcases Int.le_total 0 b with h | h
  · rw [Int.tmod_eq_emod_of_nonneg h]; omega
  · obtain ⟨m, rfl⟩ : ∃ m, b = -m := ⟨-b, by omega⟩
    rw [Int.neg_tmod, Int.tmod_eq_emod_of_nonneg (by omega)]; omega
def Ch.cells (c : Ch) : Array Value := #[.int .u64 (c.keep : Int), .int .i64 c.torn, .int .i64 c.bytes]
set_option maxRecDepth 100000 in
theorem left_c (c : Ch) (hc : c.ok) (k : Nat) (w : World) : Calls Tryz.prog 69 #[.agg c.cells, .int .i64 (k : Int)] w fun e w' => e = .returned (.int .i64 (c.left k : Int)) ∧ Kept w w' := by
  obtain ⟨keep, torn, bytes⟩ := c
  have hk := hc.keep
  simp only at hk
  unfold Ch.cells
  dsimp only
  cases ht : ((k : Int) == torn) with
  | true =>
    have e : (⟨keep, torn, bytes⟩ : Ch).left k = (bytes % 80).toNat := by
      have : (k : Int) = torn := by simpa using ht
      simp [Ch.left, this]
    have hv : (bytes.tmod 80 + 80).tmod 80 = ((bytes % 80).toNat : Int) := by rw [tmod80]; omega
    rw [e]
    obtain ⟨b1, b2⟩ := tmod80_b bytes
    go_enter Tryz.func69, Tryz.ntmps69
    go_wp2
    go_ret
    have hm : max (bytes % 80) 0 = ((bytes % 80).toNat : Int) := by omega
    exact ⟨congrArg (fun x : Int => Ending.returned (.int .i64 x)) hm, (Kept.refl w).alloc _⟩
  | false =>
    have hb := keep_bit keep (k % 64) hk
    have e : (⟨keep, torn, bytes⟩ : Ch).left k = if keep.testBit (k % 64) then 80 else 0 := by
      have : ¬ (k : Int) = torn := by simpa using ht
      simp [Ch.left, this]
    rw [e]
    cases hq : keep.testBit (k % 64) with
    | true =>
      rw [hq] at hb
      go_enter Tryz.func69, Tryz.ntmps69
      go_wp2
      go_ret
      exact ⟨rfl, (Kept.refl w).alloc _⟩
    | false =>
      rw [hq] at hb
      go_enter Tryz.func69, Tryz.ntmps69
      go_wp2
      go_ret
      exact ⟨rfl, (Kept.refl w).alloc _⟩
theorem crash1_c (c : Ch) (hc : c.ok) (k C : Nat) (w : World) (hC : w.heap[C]? = some (.cells c.cells 36 (0, 0))) :
    Calls Tryz.prog 68 #[.int .i64 (k : Int), .pointer (some ⟨C, 0, none⟩)] w fun e w' => e = .returned (.int .i64 (c.left k : Int)) ∧ Kept w w' := by
  have c0 : w.cell? ⟨C, 0, none⟩ = some (.int .u64 (c.keep : Int)) := cell_of_row _ _ _ _ _ _ hC
  have c1 : w.cell? ⟨C, 1, none⟩ = some (.int .i64 c.torn) := cell_of_row _ _ _ _ _ _ hC
  have c2 : w.cell? ⟨C, 2, none⟩ = some (.int .i64 c.bytes) := cell_of_row _ _ _ _ _ _ hC
  have hl := left_c c hc k
  unfold Ch.cells at hl
  clear hC
  go_enter Tryz.func68, Tryz.ntmps68
  go_wp2_with (go_at_call 69; refine (hl _).mono ?_; rintro e u ⟨rfl, hk⟩)
  go_ret
  exact ⟨rfl, hk⟩
set_option maxHeartbeats 1000000 in
set_option maxRecDepth 100000 in
theorem sync_c (F D M1 M2 : Nat) (pv : Value) (s : Ds) (S : Nat → Prop) (w : World) (h : Dk F D M1 M2 pv s w)
    (hS : S F ∧ S D ∧ S M1 ∧ S M2 ∧ ∀ g, pv.ownBlock = some g → S g) :
    Calls Tryz.prog 59 #[.pointer (some ⟨D, 0, none⟩)] w fun e w' => e = .returned (.int .i64 s.syncs.1) ∧ Off S w w' ∧ (dk F D s.syncs.2).p (grew S w w') w' := by
  have hb := burn_c F s.fu h.ok.fu w h.fz
  have c0 := h.cell 0
  simp [blockOf] at c0
  have H := Lib.hid (And.intro h hS)
  clear h hS
  rcases says_ok s.fu with h0 | h10
  · have e1 : s.syncs = (0, s.burnt.settled fun _ => 80) := by simp [Ds.syncs, h0]
    rw [e1]
    rw [h0] at hb
    clear e1 h0
    go_enter Tryz.func59, Tryz.ntmps59
    go_wp2_with (first
      | (go_at_call 80; refine hb.mono ?_; rintro e u ⟨rfl, hbu, hfu⟩; have hq := Lib.hid ((H.out.1).burnt hbu hfu (ok_burnt H.out.1.ok.fu)))
      | (go_at_call 67; refine (settle_sync F D M1 M2 pv s.burnt (fun _ => 80) (fun _ => Nat.le_refl _) _ hq.out (fun k W _ _ => sync1_c k W)).mono ?_; rintro e u2 ⟨rfl, w1, hsd, hu2⟩; have Hu := Lib.hid (And.intro hsd hu2); clear hsd hu2))
    go_ret
    obtain ⟨h, hS⟩ := H.out
    obtain ⟨hsd, rfl⟩ := Hu.out
    have hD := settled_dk (fun _ => Nat.le_refl _) hq.out hsd
    refine ⟨rfl, ((hbu.off hS.1).trans (hsd.off.mono fun k _ hk => by rcases hk with rfl | rfl; exact hS.2.2.1; exact hS.2.2.2.1)).setc D 4 _ (.inl hS.2.1), M1, M2, _, hD, .inl hS.1, .inl hS.2.1, .inl hS.2.2.1, .inl hS.2.2.2.1, fun g hg => by simp [Value.ownBlock] at hg⟩
  · have e1 : s.syncs = (10, s.burnt) := by simp [Ds.syncs, h10]
    rw [e1]
    rw [h10] at hb
    clear e1 h10
    go_enter Tryz.func59, Tryz.ntmps59
    go_wp2_with (go_at_call 80; refine hb.mono ?_; rintro e u ⟨rfl, hbu, hfu⟩)
    go_ret
    obtain ⟨h, hS⟩ := H.out
    exact ⟨rfl, hbu.off hS.1, (dk F D s.burnt).mono S _ _ ⟨M1, M2, pv, h.burnt hbu hfu (ok_burnt h.ok.fu), hS⟩ fun k hk => .inl hk⟩
set_option maxHeartbeats 1000000 in
set_option maxRecDepth 100000 in
theorem crash_c (c : Ch) (hc : c.ok) (F D M1 M2 : Nat) (pv : Value) (s : Ds) (S : Nat → Prop) (w : World) (h : Dk F D M1 M2 pv s w)
    (hS : S F ∧ S D ∧ S M1 ∧ S M2 ∧ ∀ g, pv.ownBlock = some g → S g) :
    Calls Tryz.prog 39 #[.pointer (some ⟨D, 0, none⟩), .agg c.cells] w fun e w' => e = .returned (.tuple #[]) ∧ Off S w w' ∧ (dk F D (s.settled c.left)).p (grew S w w') w' := by
  have hal : Kept w (w.alloc (.cells c.cells 36)) := (Kept.refl w).alloc _
  have hset := settle_crash F D M1 M2 pv s c.left c.left_le w.heap.size (w.alloc (.cells c.cells 36)) (h.keep hal) (fun k W _ hW => crash1_c c hc k _ W (hW.at (heap_alloc_new _ _) fun e => by
    rcases e with e | e
    · exact Nat.ne_of_lt h.lts.2.2.1 e.symm
    · exact Nat.ne_of_lt h.lts.2.2.2.1 e.symm))
  have H := Lib.hid (And.intro h hS)
  unfold Ch.cells at hset ⊢
  clear h hS hal
  go_enter Tryz.func39, Tryz.ntmps39
  go_wp2_with (go_at_call 67; refine hset.mono ?_; rintro e u2 ⟨rfl, w1, hsd, hu2⟩; have Hu := Lib.hid (And.intro hsd hu2); clear hsd hu2)
  go_end0
  obtain ⟨h, hS⟩ := H.out
  obtain ⟨hsd, rfl⟩ := Hu.out
  have hal : Kept w (w.alloc (.cells c.cells 36)) := (Kept.refl w).alloc _
  have hD := settled_dk c.left_le (h.keep hal) hsd
  refine ⟨rfl, ((hal.off S).trans (hsd.off.mono fun k _ hk => by rcases hk with rfl | rfl; exact hS.2.2.1; exact hS.2.2.2.1)).setc D 4 _ (.inl hS.2.1), M1, M2, _, hD, .inl hS.1, .inl hS.2.1, .inl hS.2.2.1, .inl hS.2.2.2.1, fun g hg => by simp [Value.ownBlock] at hg⟩
end Go.Proofs.YtckbhjjflpobbaaGreat.Dz

namespace Go.Proofs.YtckbhjjflpobbaaGreat.Dz
open Go.RowKit Go.ChangeShapes Go.WideShapes Go.ChangeAt Go.Proofs.YtckbhjjflpobbaaGreat.Mem Go.Proofs.YtckbhjjflpobbaaGreat.Fz
set_option linter.unusedVariables false

/-- A slice of numbers that lies in memory at or above block b. -/
structure Ints (b : Nat) (ao : Option Addr) (l : List Nat) (w : World) : Prop where
  cell : ∀ k (h : k < l.length), ∃ g, ao = some ⟨g, 0, none⟩ ∧ b ≤ g ∧ g < w.heap.size ∧ w.cell? ⟨g, k, none⟩ = some (.int .i64 (l[k] : Int))
theorem Ints.kept {b : Nat} {ao : Option Addr} {l : List Nat} {w w' : World} (h : Ints b ao l w) (k : Kept w w') : Ints b ao l w' :=
  ⟨fun i hi => by obtain ⟨g, h1, h2, h3, h4⟩ := h.cell i hi; exact ⟨g, h1, h2, Nat.lt_of_lt_of_le h3 k.size, by rw [Kept.cell k h3]; exact h4⟩⟩
def nums (l : List Nat) : List Value := l.map fun (i : Nat) => Value.int .i64 (i : Int)
theorem ints_of {b : Nat} {v : Value} {l : List Nat} {w : World} (h : w.ownsRow b 3 1 v l.length (nums l)) : ∃ ao cap, v = .slice ao l.length cap ∧ Ints b ao l w := by
  rcases h.2 with ⟨rfl, h0⟩ | ⟨g, cap, cur, rfl, hb, hg, _⟩
  · exact ⟨none, 0, by rw [h0], ⟨fun k hk => by omega⟩⟩
  · refine ⟨some ⟨g, 0, none⟩, cap, rfl, ⟨fun k hk => ⟨g, rfl, hb, lt_of_block hg, ?_⟩⟩⟩
    have := h.cells (g := g) rfl k (.int .i64 (l[k] : Int)) (by simp [nums, hk])
    simpa only [add_plain, Nat.zero_add] using this
theorem cell_one_later (w : World) (o : Obj) (x : Value) (t : TypeId) : ∀ j u, [x][j]? = some u → ((w.alloc o).alloc (.cells #[x] t)).cell? ((⟨w.heap.size + 1, 0, none⟩ : Addr).add j) = some u := by
  have h := cell_one_new (w.alloc o) x t
  simpa using h
theorem grown_kept {w a b : World} {row : Option Nat} (h : Kept w a) (k : a.grownBy b row) (hr : ∀ g, row = some g → w.heap.size ≤ g) : Kept w b :=
  Below.trans h ⟨k.os, k.tape, k.output, k.size, fun i hi => k.block i (Nat.lt_of_lt_of_le hi h.size) fun e => by have := hr i e.symm; omega⟩
theorem int_info : (Tryz.prog.info? 3).map (fun i => (i.zero, i.size, i.bytes)) = some (some (.int .i64 0), 1, 8) := by kernel_rfl
set_option maxHeartbeats 1000000 in
set_option maxRecDepth 100000 in
theorem pending_c (F D M1 M2 : Nat) (pv : Value) (s : Ds) (hroom : s.pend.length < 4294967296) (w : World) (h : Dk F D M1 M2 pv s w) :
    Calls Tryz.prog 19 #[.pointer (some ⟨D, 0, none⟩)] w fun e w' => ∃ ao cap, e = .returned (.slice ao s.pend.length cap) ∧ Kept w w' ∧ Ints w.heap.size ao (s.pend.map (·.1)) w' := by
  have c4 := h.cell 4
  simp [blockOf] at c4
  have rows : ∃ (ao : Option Addr) (cap : Nat), pv = .slice ao s.pend.length cap ∧ ∀ k (hk : k < s.pend.length), ∃ g, ao = some ⟨g, 0, none⟩ ∧ ∀ W, Kept w W → W.cell? ⟨g, k * 2, none⟩ = some (.int .i64 (s.pend[k].1 : Int)) ∧ W.cell? ⟨g, k * 2 + 1, none⟩ = some (.string s.pend[k].2) := by
    rcases row_slice h.row with rfl | ⟨g, cap, rfl⟩
    · have h0 : s.pend.length = 0 := by
        rcases h.row.2 with ⟨_, h0⟩ | ⟨_, _, _, e, _⟩
        · exact h0
        · simp at e
      exact ⟨none, 0, by rw [h0], fun k hk => by omega⟩
    · refine ⟨some ⟨g, 0, none⟩, cap, rfl, fun k hk => ⟨g, rfl, fun W hW => ?_⟩⟩
      have hg := h.row.cells (g := g) rfl
      have hlt := (h.row.lt g rfl).2
      have q := cells_at s.pend k hk
      have a1 := hg _ _ q.1
      have a2 := hg _ _ q.2
      simp only [add_plain, Nat.zero_add] at a1 a2
      exact ⟨by rw [Kept.cell hW hlt]; exact a1, by rw [Kept.cell hW hlt]; exact a2⟩
  obtain ⟨ao, cap, rfl, hrow⟩ := rows
  have HC := Lib.hid (And.intro hrow hroom)
  obtain ⟨i0, hi, hz0, hz1, hz2⟩ := info_parts int_info
  clear h hrow
  go_enter Tryz.func19, Tryz.ntmps19
  go_wp2
  go_loopw [3, 13] (fun v i wr => ∃ k : Nat, k ≤ s.pend.length ∧ i = .int .i64 k ∧ Kept w wr ∧ wr.ownsRow w.heap.size 3 1 v k (nums ((s.pend.take k).map (·.1)))) (fun _ i _ => s.pend.length - (intOf i).toNat)
  case atStart => exact ⟨0, by omega, rfl, Kept.refl _, by simpa [nums] using World.ownsRow_nil _ _ _ _⟩
  case round =>
    clear c4
    obtain ⟨k, hk, rfl, hp, hown⟩ := hrel
    by_cases hlt : k < s.pend.length
    · obtain ⟨g, rfl, hc⟩ := HC.out.1 k hlt
      obtain ⟨r0, r1⟩ := hc wr hp
      obtain ⟨sec, hsec⟩ : ∃ sec, sec = s.pend[k].1 := ⟨_, rfl⟩
      obtain ⟨dat, hdat⟩ : ∃ dat, dat = s.pend[k].2 := ⟨_, rfl⟩
      rw [← hsec] at r0
      rw [← hdat] at r1
      have Hs := Lib.hid hsec
      have Hp := Lib.hid hp
      have Ho := Lib.hid hown
      clear hc hsec hdat hp hown
      go_wp2_with (at_builtin; refine wpList_append_own_at _ rfl _ _ 57 rfl w.heap.size 3 i0 (.int .i64 0) 1 8 Tryz.underlying57 hi hz0 hz1 hz2 rfl (by decide) _ _ _ rfl ((Ho.out.alloc _).alloc _) ⟨wr.heap.size + 1, 0, none⟩ 1 1 [.int .i64 (sec : Int)] rfl rfl (cell_one_later _ _ _ _) (by intro x hx; simp at hx; subst hx; rfl) (by have := HC.out.2; unfold maxLen; omega) (by have := HC.out.2; omega) (by have := Hp.out.size; simp; omega) ?_; intro v' w1 hown1 hgrow hnil hloc)
      go_roundw
      case rel =>
        refine ⟨k + 1, by omega, by go_num, grown_kept ((Hp.out.alloc _).alloc _) hgrow (fun g hg => (Ho.out.lt g hg).1), ?_⟩
        have e : nums ((s.pend.take (k + 1)).map (·.1)) = nums ((s.pend.take k).map (·.1)) ++ [.int .i64 (sec : Int)] := by
          rw [List.take_succ_eq_append_getElem hlt, List.map_append, Hs.out]; simp [nums]
        rw [e]; exact hown1
      case measure => simp [intOf]; omega
    · obtain rfl : k = s.pend.length := by omega
      have e : s.pend.take s.pend.length = s.pend := List.take_length
      rw [e] at hown
      have hown' : wr.ownsRow w.heap.size 3 1 u3 (s.pend.map (·.1)).length (nums (s.pend.map (·.1))) := by simpa using hown
      have Hx := Lib.hid (And.intro hp (ints_of hown'))
      clear hp hown hown' e
      go_wp2
      go_ret
      obtain ⟨hp, ao, cap', rfl, hi⟩ := Hx.out
      exact ⟨ao, cap', by simp, hp, hi⟩
end Go.Proofs.YtckbhjjflpobbaaGreat.Dz

namespace Go.Proofs.YtckbhjjflpobbaaGreat.Dz
open Go.RowKit Go.ChangeShapes Go.WideShapes Go.ChangeAt Go.Proofs.YtckbhjjflpobbaaGreat.Mem Go.Proofs.YtckbhjjflpobbaaGreat.Fz
set_option linter.unusedVariables false

/-- A fuse by itself. -/
def fzA (F : Nat) (s : St) : As where
  p S w := Fz F s w ∧ s.ok ∧ S F
  mono := fun S T w ⟨h, h1, h2⟩ hs => ⟨h, h1, hs _ h2⟩
  loc := fun S w w' ⟨h, h1, h2⟩ hs => ⟨(hs _ h2 h.lt).trans h, h1, h2⟩
set_option maxRecDepth 100000 in
theorem new_c (F : Nat) (st : St) (n : Nat) (h1 : 1 ≤ n) (h2 : n ≤ 65536) (S : Nat → Prop) (w : World) (h : Fz F st w) (hst : st.ok) (hF : S F) :
    Calls Tryz.prog 22 #[.int .i64 (n : Int), .pointer (some ⟨F, 0, none⟩)] w fun e w' => e = .returned (.tuple #[.pointer (some ⟨w.heap.size + 2, 0, none⟩), .int .i64 0]) ∧ Off S w w' ∧ (dk F (w.heap.size + 2) (fresh n st)).p (grew S w w') w' := by
  have hmm := @run_makeMap Tryz.prog
  have a1 : decide ((n : Int) < 1) = false := by simp; omega
  have a2 : decide ((n : Int) > 65536) = false := by simp; omega
  have a3 : decide ((65536 : Int) < (n : Int)) = false := by simp; omega
  have H := Lib.hid (And.intro h (And.intro h1 h2))
  clear h h1 h2
  go_enter Tryz.func22, Tryz.ntmps22
  go_wp2
  go_ret2
  obtain ⟨h, h1, h2⟩ := H.out
  have e1 : (w.alloc (.map #[] 0)).heap.size = w.heap.size + 1 := by simp
  have e2 : ((w.alloc (.map #[] 0)).alloc (.map #[] 0)).heap.size = w.heap.size + 2 := by simp
  have m1 := Mp.made w (N := n) (by omega)
  have m2 := Mp.made (w.alloc (.map #[] 0)) (N := n) (by omega)
  rw [e1] at m2
  obtain ⟨w2, hw2⟩ : ∃ w2, w2 = (w.alloc (.map #[] 0)).alloc (.map #[] 0) := ⟨_, rfl⟩
  have k2 : Kept (w.alloc (.map #[] 0)) w2 := by rw [hw2]; exact (Kept.refl _).alloc _
  have k1 : Kept w w2 := ((Kept.refl w).alloc _).trans k2
  have m1 := m1.keep k2
  rw [← hw2] at m2 e2 ⊢
  obtain ⟨o, ho⟩ : ∃ o, o = Obj.cells (blockOf F (w.heap.size + 2) w.heap.size (w.heap.size + 1) (.slice none 0 0) (fresh n st)) 95 (0, 0) := ⟨_, rfl⟩
  have k3 : Kept w2 (w2.alloc o) := (Kept.refl _).alloc _
  have hD : Dk F (w.heap.size + 2) w.heap.size (w.heap.size + 1) (.slice none 0 0) (fresh n st) (w2.alloc o) := by
    refine ⟨h.kept (k1.trans k3), ?_, (m1.keep k3).same fun i _ => by simp [fresh, dg], (m2.keep k3).same fun i _ => rfl, World.ownsRow_nil _ _ _ _, ok_fresh h1 h2 hst, by omega⟩
    rw [← ho, ← e2]; exact heap_alloc_new _ _
  have hk := k1.trans k3
  rw [ho] at hD hk
  exact ⟨rfl, hk.off S, w.heap.size, w.heap.size + 1, _, hD, .inl hF, .inr ⟨by omega, hD.lts.2.1⟩, .inr ⟨by omega, hD.lts.2.2.1⟩, .inr ⟨by omega, hD.lts.2.2.2.1⟩, fun g hg => by simp [Value.ownBlock] at hg⟩
theorem new_range (n : Int) (p : Option Addr) (h : n < 1 ∨ 65536 < n) (w : World) : Calls Tryz.prog 22 #[.int .i64 n, .pointer p] w fun e w' => e = .returned (.tuple #[.pointer none, .int .i64 3]) ∧ w = w' := by
  by_cases h1 : n < 1
  · have a1 : decide (n < 1) = true := by simpa using h1
    clear h
    go_enter Tryz.func22, Tryz.ntmps22
    go_wp2
    go_ret2
    exact ⟨rfl, rfl⟩
  · have a1 : decide (n < 1) = false := by simpa using h1
    have a2 : decide (n > 65536) = true := by simp; omega
    have a3 : decide (65536 < n) = true := by simp; omega
    clear h
    go_enter Tryz.func22, Tryz.ntmps22
    go_wp2
    go_ret2
    exact ⟨rfl, rfl⟩
theorem new_nil (n : Nat) (h1 : 1 ≤ n) (h2 : n ≤ 65536) (w : World) : Calls Tryz.prog 22 #[.int .i64 (n : Int), .pointer none] w fun e w' => e = .returned (.tuple #[.pointer none, .int .i64 1]) ∧ w = w' := by
  have a1 : decide ((n : Int) < 1) = false := by simp; omega
  have a2 : decide ((n : Int) > 65536) = false := by simp; omega
  have a3 : decide ((65536 : Int) < (n : Int)) = false := by simp; omega
  clear h1 h2
  go_enter Tryz.func22, Tryz.ntmps22
  go_wp2
  go_ret2
  exact ⟨rfl, rfl⟩
theorem grown_later {a b : World} {row : Option Nat} {w : World} (h : Kept w a) (k : a.grownBy b row) (hr : ∀ g, row = some g → w.heap.size ≤ g) : Kept w b := grown_kept h k hr
theorem row_shape {w : World} {e : TypeId} {size : Nat} {v : Value} {n : Nat} {xs : List Value} (h : w.ownsRow 0 e size v n xs) : ∃ ao cap, v = .slice ao n cap := by
  rcases h.2 with ⟨rfl, h0⟩ | ⟨g, cap, cur, rfl, _⟩
  · exact ⟨none, 0, by rw [h0]⟩
  · exact ⟨_, cap, rfl⟩
end Go.Proofs.YtckbhjjflpobbaaGreat.Dz

namespace Go.Proofs.YtckbhjjflpobbaaGreat.Dz
open Go.RowKit Go.ChangeShapes Go.WideShapes Go.ChangeAt Go.Proofs.YtckbhjjflpobbaaGreat.Mem Go.Proofs.YtckbhjjflpobbaaGreat.Fz
set_option linter.unusedVariables false

/-- A row of the call's own, behind the slice v. -/
def rowA (e : TypeId) (size : Nat) (v : Value) (n : Nat) (xs : List Value) : As where
  p S w := w.ownsRow 0 e size v n xs ∧ ∀ g, v.ownBlock = some g → S g
  mono := fun S T w ⟨h, h1⟩ hs => ⟨h, fun g hg => hs _ (h1 g hg)⟩
  loc := fun S w w' ⟨h, h1⟩ hs => ⟨row_at h fun g hg => hs _ (h1 g hg) (h.lt g hg).2, h1⟩
theorem _root_.Go.Proofs.YtckbhjjflpobbaaGreat.Mem.Own.row {w0 w : World} {L : List As} (h : Own w0 L w) (i : Nat) {e : TypeId} {size n : Nat} {v : Value} {xs : List Value} (hi : L[i]? = some (rowA e size v n xs)) : w.ownsRow 0 e size v n xs := by
  obtain ⟨S, hp, _⟩ := h.see i hi
  exact hp.1
/-- Appended to it. -/
theorem _root_.Go.Proofs.YtckbhjjflpobbaaGreat.Mem.Own.appended {w0 w wa w1 : World} {L : List As} (h : Own w0 L w) (i : Nat) {e : TypeId} {size n n' : Nat} {v v' : Value} {xs xs' : List Value} (hi : L[i]? = some (rowA e size v n xs)) (ka : Kept w wa)
    (hrow : w1.ownsRow 0 e size v' n' xs') (hg : wa.grownBy w1 v.ownBlock) (hl : v'.ownBlock = v.ownBlock ∨ v'.ownBlock = some wa.heap.size) : Own w0 (L.set i (rowA e size v' n' xs')) w1 := by
  obtain ⟨S, hp, hs, back⟩ := h.open i hi
  refine back _ _ (grown_off (ka.off S) hg fun g hg' => .inl (hp.2 g hg')) ⟨hrow, fun g hg' => ?_⟩
  rcases hl with e | e
  · exact .inl (hp.2 g (by rw [← e]; exact hg'))
  · have := (hrow.lt g hg').2
    rw [e] at hg'
    obtain rfl : wa.heap.size = g := Option.some.inj hg'
    exact .inr ⟨ka.size, this⟩
theorem _root_.Go.Proofs.YtckbhjjflpobbaaGreat.Mem.Own.newRow {w0 w : World} {L : List As} (h : Own w0 L w) (e : TypeId) (size : Nat) : Own w0 (L ++ [rowA e size (.slice none 0 0) 0 []]) w :=
  h.push (Kept.refl w) ⟨World.ownsRow_nil _ _ _ _, fun g hg => by simp [Value.ownBlock] at hg⟩
/-- A block of the call's own. -/
def boxA (B : Nat) (cs : Array Value) (T : TypeId) : As where
  p S w := w.heap[B]? = some (.cells cs T (0, 0)) ∧ S B
  mono := fun S T w ⟨h, h1⟩ hs => ⟨h, hs _ h1⟩
  loc := fun S w w' ⟨h, h1⟩ hs => ⟨(hs _ h1 (lt_of_block h)).trans h, h1⟩
theorem _root_.Go.Proofs.YtckbhjjflpobbaaGreat.Mem.Own.box {w0 w : World} {L : List As} (h : Own w0 L w) (cs : Array Value) (T : TypeId) : Own w0 (boxA w.heap.size cs T :: L) (w.alloc (.cells cs T)) :=
  (h.push (b := boxA w.heap.size cs T) ((Kept.refl w).alloc _) ⟨heap_alloc_new _ _, .inr ⟨Nat.le_refl _, by simp⟩⟩).front
theorem _root_.Go.Proofs.YtckbhjjflpobbaaGreat.Mem.Own.boxed {w0 w : World} {L : List As} (h : Own w0 L w) (i : Nat) {B : Nat} {cs : Array Value} {T : TypeId} (hi : L[i]? = some (boxA B cs T)) : w.heap[B]? = some (.cells cs T (0, 0)) := by
  obtain ⟨S, hp, _⟩ := h.see i hi
  exact hp.1
theorem _root_.Go.Proofs.YtckbhjjflpobbaaGreat.Mem.Own.boxset {w0 w : World} {L : List As} (h : Own w0 L w) (i : Nat) {B : Nat} {cs : Array Value} {T : TypeId} (hi : L[i]? = some (boxA B cs T)) (j : Nat) (v : Value) : Own w0 (L.set i (boxA B (cs.setIfInBounds j v) T)) (w.setCell ⟨B, j, none⟩ v) := by
  obtain ⟨S, hp, hs, back⟩ := h.open i hi
  exact back _ _ ((Off.refl S w).setc B j v (.inl hp.2)) ⟨heap_setCell_same w B j _ _ v hp.1, .inl hp.2⟩
/-- A disk that a call only looks at. -/
theorem _root_.Go.Proofs.YtckbhjjflpobbaaGreat.Mem.Own.look {P : Program} {fn : Nat} {args : Array Value} {w0 w : World} {L : List As} (h : Own w0 L w) (i : Nat) {F D : Nat} {s : Ds} (hi : L[i]? = some (dk F D s)) {R : Ending → World → Prop}
    (c : ∀ M1 M2 pv, Dk F D M1 M2 pv s w → Calls P fn args w fun e w' => R e w' ∧ Kept w w') : Calls P fn args w fun e w' => R e w' ∧ Own w0 L w' := by
  obtain ⟨S, ⟨M1, M2, pv, hd, _⟩, _⟩ := h.see i hi
  exact (c M1 M2 pv hd).mono fun e w' ⟨hr, hk⟩ => ⟨hr, h.later hk⟩
theorem o_fnew {w0 w : World} {L : List As} (h : Own w0 L w) : Calls Tryz.prog 23 #[] w fun e w' => ∃ F, e = .returned (.pointer (some ⟨F, 0, none⟩)) ∧ Own w0 (L ++ [fzA F .idle]) w' :=
  (Fz.new_c w).mono fun e w' ⟨he, hk, hf⟩ => ⟨_, he, h.push hk ⟨hf, trivial, .inr ⟨Nat.le_refl _, hf.lt⟩⟩⟩
theorem o_new {w0 w : World} {L : List As} (h : Own w0 L w) (i : Nat) {F : Nat} {st : St} (hi : L[i]? = some (fzA F st)) {n : Nat} (h1 : 1 ≤ n) (h2 : n ≤ 65536) :
    Calls Tryz.prog 22 #[.int .i64 (n : Int), .pointer (some ⟨F, 0, none⟩)] w fun e w' => ∃ D, e = .returned (.tuple #[.pointer (some ⟨D, 0, none⟩), .int .i64 0]) ∧ Own w0 (L.set i (dk F D (fresh n st))) w' :=
  (h.lift1 i hi fun S ⟨hf, ho, hF⟩ _ => new_c F st n h1 h2 S w hf ho hF).mono fun e w' ⟨he, hk⟩ => ⟨_, he, hk⟩
theorem o_read {w0 w : World} {L : List As} (h : Own w0 L w) (i : Nat) {F D : Nat} {s : Ds} (hi : L[i]? = some (dk F D s)) (k : Int) :
    Calls Tryz.prog 46 #[.pointer (some ⟨D, 0, none⟩), .int .i64 k] w fun e w' => e = .returned (.tuple #[.string (s.reads k).1, .int .i64 (s.reads k).2]) ∧ Own w0 L w' :=
  h.look i hi fun M1 M2 pv hd => read_c F D M1 M2 pv s k w hd
theorem o_durable {w0 w : World} {L : List As} (h : Own w0 L w) (i : Nat) {F D : Nat} {s : Ds} (hi : L[i]? = some (dk F D s)) (k : Int) :
    Calls Tryz.prog 48 #[.pointer (some ⟨D, 0, none⟩), .int .i64 k] w fun e w' => e = .returned (.string (s.durs k)) ∧ Own w0 L w' :=
  h.look i hi fun M1 M2 pv hd => durable_c F D M1 M2 pv s k w hd
theorem o_pending {w0 w : World} {L : List As} (h : Own w0 L w) (i : Nat) {F D : Nat} {s : Ds} (hi : L[i]? = some (dk F D s)) (hroom : s.pend.length < 4294967296) :
    Calls Tryz.prog 19 #[.pointer (some ⟨D, 0, none⟩)] w fun e w' => (∃ ao cap, e = .returned (.slice ao s.pend.length cap) ∧ Ints w.heap.size ao (s.pend.map (·.1)) w') ∧ Own w0 L w' :=
  h.look i hi fun M1 M2 pv hd => (pending_c F D M1 M2 pv s hroom w hd).mono fun e w' ⟨ao, cap, he, hk, hi⟩ => ⟨⟨ao, cap, he, hi⟩, hk⟩
theorem o_sectors {w0 w : World} {L : List As} (h : Own w0 L w) (i : Nat) {F D : Nat} {s : Ds} (hi : L[i]? = some (dk F D s)) :
    Calls Tryz.prog 45 #[.pointer (some ⟨D, 0, none⟩)] w fun e w' => e = .returned (.int .i64 (s.n : Int)) ∧ Own w0 L w' :=
  h.look i hi fun M1 M2 pv hd => (sectors_c F D M1 M2 pv s w hd).mono fun e w' ⟨he, hw⟩ => ⟨he, hw ▸ Kept.refl _⟩
theorem o_full {w0 w : World} {L : List As} (h : Own w0 L w) (i : Nat) {F D : Nat} {s : Ds} (hi : L[i]? = some (dk F D s)) :
    Calls Tryz.prog 28 #[.pointer (some ⟨D, 0, none⟩)] w fun e w' => e = .returned (.bool s.full) ∧ Own w0 L w' :=
  h.look i hi fun M1 M2 pv hd => (full_c F D M1 M2 pv s w hd).mono fun e w' ⟨he, hw⟩ => ⟨he, hw ▸ Kept.refl _⟩
theorem o_write {w0 w : World} {L : List As} (h : Own w0 L w) (i : Nat) {F D : Nat} {s : Ds} (hi : L[i]? = some (dk F D s)) (hroom : s.pend.length < 4294967296) (k : Int) (d : ByteArray) :
    Calls Tryz.prog 57 #[.pointer (some ⟨D, 0, none⟩), .int .i64 k, .string d] w fun e w' => e = .returned (.int .i64 (s.writes k d).1) ∧ Own w0 (L.set i (dk F D (s.writes k d).2)) w' :=
  h.lift1 i hi fun S ⟨M1, M2, pv, hd, hS⟩ _ => write_c F D M1 M2 pv s k d hroom S w hd hS
theorem o_sync {w0 w : World} {L : List As} (h : Own w0 L w) (i : Nat) {F D : Nat} {s : Ds} (hi : L[i]? = some (dk F D s)) :
    Calls Tryz.prog 59 #[.pointer (some ⟨D, 0, none⟩)] w fun e w' => e = .returned (.int .i64 s.syncs.1) ∧ Own w0 (L.set i (dk F D s.syncs.2)) w' :=
  h.lift1 i hi fun S ⟨M1, M2, pv, hd, hS⟩ _ => sync_c F D M1 M2 pv s S w hd hS
theorem o_crash {w0 w : World} {L : List As} (h : Own w0 L w) (i : Nat) {F D : Nat} {s : Ds} (hi : L[i]? = some (dk F D s)) {c : Ch} (hc : c.ok) :
    Calls Tryz.prog 39 #[.pointer (some ⟨D, 0, none⟩), .agg c.cells] w fun e w' => e = .returned (.tuple #[]) ∧ Own w0 (L.set i (dk F D (s.settled c.left))) w' :=
  h.lift1 i hi fun S ⟨M1, M2, pv, hd, hS⟩ _ => crash_c c hc F D M1 M2 pv s S w hd hS
theorem o_setfull {w0 w : World} {L : List As} (h : Own w0 L w) (i : Nat) {F D : Nat} {s : Ds} (hi : L[i]? = some (dk F D s)) (b : Bool) :
    Calls Tryz.prog 16 #[.pointer (some ⟨D, 0, none⟩), .bool b] w fun e w' => e = .returned (.tuple #[]) ∧ Own w0 (L.set i (dk F D { s with full := b })) w' :=
  h.lift1 i hi fun S ⟨M1, M2, pv, hd, h1, h2, h3, h4, h5⟩ _ => (setfull_c F D M1 M2 pv s b w hd).mono fun e w' ⟨he, hk, hd'⟩ => ⟨he, hk.off h2, M1, M2, pv, hd', .inl h1, .inl h2, .inl h3, .inl h4, fun g hg => .inl (h5 g hg)⟩
/-- A call of the disk's fuse. -/
theorem o_fuse {fn : Nat} {args : Array Value} {w0 w : World} {L : List As} (h : Own w0 L w) (i : Nat) {F D : Nat} {s : Ds} (hi : L[i]? = some (dk F D s)) {R : Ending → Prop} {f : St} (hf : f.ok)
    (c : Fz F s.fu w → s.fu.ok → Calls Tryz.prog fn args w fun e w' => R e ∧ But F w w' ∧ Fz F f w') : Calls Tryz.prog fn args w fun e w' => R e ∧ Own w0 (L.set i (dk F D { s with fu := f })) w' :=
  h.lift1 i hi fun S ⟨M1, M2, pv, hd, h1, h2, h3, h4, h5⟩ _ => (c hd.fz hd.ok.fu).mono fun e w' ⟨he, hk, hf'⟩ => ⟨he, hk.off h1, M1, M2, pv, hd.burnt hk hf' hf, .inl h1, .inl h2, .inl h3, .inl h4, fun g hg => .inl (h5 g hg)⟩
/-! An idle fuse. -/
theorem Ds.idle_burnt {s : Ds} (h : s.fu = .idle) : s.burnt = s := by cases s; simp only at h; subst h; rfl
theorem Ds.writes_idle {s : Ds} (h : s.fu = .idle) {i : Nat} (hi : i < s.n) {d : ByteArray} (hd : d.size = 80) : s.writes (i : Int) d = (0, s.wrote i d) := by
  have e : s.fu.says = 0 := by rw [h]; rfl
  simp [Ds.writes, Ds.out_in hi, hd, e, Ds.idle_burnt h]
theorem Ds.syncs_idle {s : Ds} (h : s.fu = .idle) : s.syncs = (0, s.settled fun _ => 80) := by
  have e : s.fu.says = 0 := by rw [h]; rfl
  simp [Ds.syncs, e, Ds.idle_burnt h]
theorem Ds.reads_idle {s : Ds} (h : s.fu = .idle) {i : Nat} (hi : i < s.n) : s.reads (i : Int) = (s.look i, 0) := by
  have e : s.fu.dead = false := by rw [h]; rfl
  simp [Ds.reads, Ds.out_in hi, e]
theorem Ds.durs_in {s : Ds} {i : Nat} (hi : i < s.n) : s.durs (i : Int) = s.dur i := by simp [Ds.durs, Ds.out_in hi]
theorem o_w0 {w0 w : World} {L : List As} {F D : Nat} {s : Ds} (h : Own w0 (dk F D s :: L) w) (hf : s.fu = .idle) (hroom : s.pend.length < 4294967296) {k : Nat} (hk : k < s.n) {d : ByteArray} (hd : d.size = 80) :
    Calls Tryz.prog 57 #[.pointer (some ⟨D, 0, none⟩), .int .i64 (k : Int), .string d] w fun e w' => e = .returned (.int .i64 0) ∧ Own w0 (dk F D (s.wrote k d) :: L) w' := by
  have q := o_write h 0 rfl hroom (k : Int) d
  rw [Ds.writes_idle hf hk hd] at q
  exact q
theorem o_w1 {w0 w : World} {a : As} {L : List As} {F D : Nat} {s : Ds} (h : Own w0 (a :: dk F D s :: L) w) (hf : s.fu = .idle) (hroom : s.pend.length < 4294967296) {k : Nat} (hk : k < s.n) {d : ByteArray} (hd : d.size = 80) :
    Calls Tryz.prog 57 #[.pointer (some ⟨D, 0, none⟩), .int .i64 (k : Int), .string d] w fun e w' => e = .returned (.int .i64 0) ∧ Own w0 (a :: dk F D (s.wrote k d) :: L) w' := by
  have q := o_write h 1 rfl hroom (k : Int) d
  rw [Ds.writes_idle hf hk hd] at q
  exact q
theorem o_w2 {w0 w : World} {a b : As} {L : List As} {F D : Nat} {s : Ds} (h : Own w0 (a :: b :: dk F D s :: L) w) (hf : s.fu = .idle) (hroom : s.pend.length < 4294967296) {k : Nat} (hk : k < s.n) {d : ByteArray} (hd : d.size = 80) :
    Calls Tryz.prog 57 #[.pointer (some ⟨D, 0, none⟩), .int .i64 (k : Int), .string d] w fun e w' => e = .returned (.int .i64 0) ∧ Own w0 (a :: b :: dk F D (s.wrote k d) :: L) w' := by
  have q := o_write h 2 rfl hroom (k : Int) d
  rw [Ds.writes_idle hf hk hd] at q
  exact q
theorem o_w3 {w0 w : World} {a b c : As} {L : List As} {F D : Nat} {s : Ds} (h : Own w0 (a :: b :: c :: dk F D s :: L) w) (hf : s.fu = .idle) (hroom : s.pend.length < 4294967296) {k : Nat} (hk : k < s.n) {d : ByteArray} (hd : d.size = 80) :
    Calls Tryz.prog 57 #[.pointer (some ⟨D, 0, none⟩), .int .i64 (k : Int), .string d] w fun e w' => e = .returned (.int .i64 0) ∧ Own w0 (a :: b :: c :: dk F D (s.wrote k d) :: L) w' := by
  have q := o_write h 3 rfl hroom (k : Int) d
  rw [Ds.writes_idle hf hk hd] at q
  exact q
theorem o_w4 {w0 w : World} {a b c d0 : As} {L : List As} {F D : Nat} {s : Ds} (h : Own w0 (a :: b :: c :: d0 :: dk F D s :: L) w) (hf : s.fu = .idle) (hroom : s.pend.length < 4294967296) {k : Nat} (hk : k < s.n) {d : ByteArray} (hd : d.size = 80) :
    Calls Tryz.prog 57 #[.pointer (some ⟨D, 0, none⟩), .int .i64 (k : Int), .string d] w fun e w' => e = .returned (.int .i64 0) ∧ Own w0 (a :: b :: c :: d0 :: dk F D (s.wrote k d) :: L) w' := by
  have q := o_write h 4 rfl hroom (k : Int) d
  rw [Ds.writes_idle hf hk hd] at q
  exact q
theorem o_w5 {w0 w : World} {a b c d0 e0 : As} {L : List As} {F D : Nat} {s : Ds} (h : Own w0 (a :: b :: c :: d0 :: e0 :: dk F D s :: L) w) (hf : s.fu = .idle) (hroom : s.pend.length < 4294967296) {k : Nat} (hk : k < s.n) {d : ByteArray} (hd : d.size = 80) :
    Calls Tryz.prog 57 #[.pointer (some ⟨D, 0, none⟩), .int .i64 (k : Int), .string d] w fun e w' => e = .returned (.int .i64 0) ∧ Own w0 (a :: b :: c :: d0 :: e0 :: dk F D (s.wrote k d) :: L) w' := by
  have q := o_write h 5 rfl hroom (k : Int) d
  rw [Ds.writes_idle hf hk hd] at q
  exact q
theorem o_s0 {w0 w : World} {L : List As} {F D : Nat} {s : Ds} (h : Own w0 (dk F D s :: L) w) (hf : s.fu = .idle) :
    Calls Tryz.prog 59 #[.pointer (some ⟨D, 0, none⟩)] w fun e w' => e = .returned (.int .i64 0) ∧ Own w0 (dk F D (s.settled fun _ => 80) :: L) w' := by
  have q := o_sync h 0 rfl
  rw [Ds.syncs_idle hf] at q
  exact q
theorem o_s1 {w0 w : World} {a : As} {L : List As} {F D : Nat} {s : Ds} (h : Own w0 (a :: dk F D s :: L) w) (hf : s.fu = .idle) :
    Calls Tryz.prog 59 #[.pointer (some ⟨D, 0, none⟩)] w fun e w' => e = .returned (.int .i64 0) ∧ Own w0 (a :: dk F D (s.settled fun _ => 80) :: L) w' := by
  have q := o_sync h 1 rfl
  rw [Ds.syncs_idle hf] at q
  exact q
theorem o_s2 {w0 w : World} {a b : As} {L : List As} {F D : Nat} {s : Ds} (h : Own w0 (a :: b :: dk F D s :: L) w) (hf : s.fu = .idle) :
    Calls Tryz.prog 59 #[.pointer (some ⟨D, 0, none⟩)] w fun e w' => e = .returned (.int .i64 0) ∧ Own w0 (a :: b :: dk F D (s.settled fun _ => 80) :: L) w' := by
  have q := o_sync h 2 rfl
  rw [Ds.syncs_idle hf] at q
  exact q
theorem o_s3 {w0 w : World} {a b c : As} {L : List As} {F D : Nat} {s : Ds} (h : Own w0 (a :: b :: c :: dk F D s :: L) w) (hf : s.fu = .idle) :
    Calls Tryz.prog 59 #[.pointer (some ⟨D, 0, none⟩)] w fun e w' => e = .returned (.int .i64 0) ∧ Own w0 (a :: b :: c :: dk F D (s.settled fun _ => 80) :: L) w' := by
  have q := o_sync h 3 rfl
  rw [Ds.syncs_idle hf] at q
  exact q
theorem o_s4 {w0 w : World} {a b c d0 : As} {L : List As} {F D : Nat} {s : Ds} (h : Own w0 (a :: b :: c :: d0 :: dk F D s :: L) w) (hf : s.fu = .idle) :
    Calls Tryz.prog 59 #[.pointer (some ⟨D, 0, none⟩)] w fun e w' => e = .returned (.int .i64 0) ∧ Own w0 (a :: b :: c :: d0 :: dk F D (s.settled fun _ => 80) :: L) w' := by
  have q := o_sync h 4 rfl
  rw [Ds.syncs_idle hf] at q
  exact q
theorem o_s5 {w0 w : World} {a b c d0 e0 : As} {L : List As} {F D : Nat} {s : Ds} (h : Own w0 (a :: b :: c :: d0 :: e0 :: dk F D s :: L) w) (hf : s.fu = .idle) :
    Calls Tryz.prog 59 #[.pointer (some ⟨D, 0, none⟩)] w fun e w' => e = .returned (.int .i64 0) ∧ Own w0 (a :: b :: c :: d0 :: e0 :: dk F D (s.settled fun _ => 80) :: L) w' := by
  have q := o_sync h 5 rfl
  rw [Ds.syncs_idle hf] at q
  exact q
theorem o_c0 {w0 w : World} {L : List As} {F D : Nat} {s : Ds} (h : Own w0 (dk F D s :: L) w) {c1 : Ch} (hc : c1.ok) :
    Calls Tryz.prog 39 #[.pointer (some ⟨D, 0, none⟩), .agg c1.cells] w fun e w' => e = .returned (.tuple #[]) ∧ Own w0 (dk F D (s.settled c1.left) :: L) w' := o_crash h 0 rfl hc
theorem o_c1 {w0 w : World} {a : As} {L : List As} {F D : Nat} {s : Ds} (h : Own w0 (a :: dk F D s :: L) w) {c1 : Ch} (hc : c1.ok) :
    Calls Tryz.prog 39 #[.pointer (some ⟨D, 0, none⟩), .agg c1.cells] w fun e w' => e = .returned (.tuple #[]) ∧ Own w0 (a :: dk F D (s.settled c1.left) :: L) w' := o_crash h 1 rfl hc
theorem o_c2 {w0 w : World} {a b : As} {L : List As} {F D : Nat} {s : Ds} (h : Own w0 (a :: b :: dk F D s :: L) w) {c1 : Ch} (hc : c1.ok) :
    Calls Tryz.prog 39 #[.pointer (some ⟨D, 0, none⟩), .agg c1.cells] w fun e w' => e = .returned (.tuple #[]) ∧ Own w0 (a :: b :: dk F D (s.settled c1.left) :: L) w' := o_crash h 2 rfl hc
theorem o_c3 {w0 w : World} {a b c : As} {L : List As} {F D : Nat} {s : Ds} (h : Own w0 (a :: b :: c :: dk F D s :: L) w) {c1 : Ch} (hc : c1.ok) :
    Calls Tryz.prog 39 #[.pointer (some ⟨D, 0, none⟩), .agg c1.cells] w fun e w' => e = .returned (.tuple #[]) ∧ Own w0 (a :: b :: c :: dk F D (s.settled c1.left) :: L) w' := o_crash h 3 rfl hc
theorem o_c4 {w0 w : World} {a b c d0 : As} {L : List As} {F D : Nat} {s : Ds} (h : Own w0 (a :: b :: c :: d0 :: dk F D s :: L) w) {c1 : Ch} (hc : c1.ok) :
    Calls Tryz.prog 39 #[.pointer (some ⟨D, 0, none⟩), .agg c1.cells] w fun e w' => e = .returned (.tuple #[]) ∧ Own w0 (a :: b :: c :: d0 :: dk F D (s.settled c1.left) :: L) w' := o_crash h 4 rfl hc
theorem o_c5 {w0 w : World} {a b c d0 e0 : As} {L : List As} {F D : Nat} {s : Ds} (h : Own w0 (a :: b :: c :: d0 :: e0 :: dk F D s :: L) w) {c1 : Ch} (hc : c1.ok) :
    Calls Tryz.prog 39 #[.pointer (some ⟨D, 0, none⟩), .agg c1.cells] w fun e w' => e = .returned (.tuple #[]) ∧ Own w0 (a :: b :: c :: d0 :: e0 :: dk F D (s.settled c1.left) :: L) w' := o_crash h 5 rfl hc
theorem o_r0 {w0 w : World} {L : List As} {F D : Nat} {s : Ds} (h : Own w0 (dk F D s :: L) w) (hf : s.fu = .idle) {k : Nat} (hk : k < s.n) :
    Calls Tryz.prog 46 #[.pointer (some ⟨D, 0, none⟩), .int .i64 (k : Int)] w fun e w' => e = .returned (.tuple #[.string (s.look k), .int .i64 0]) ∧ Own w0 (dk F D s :: L) w' := by
  have q := o_read h 0 rfl (k : Int)
  rw [Ds.reads_idle hf hk] at q
  exact q
theorem o_r1 {w0 w : World} {a : As} {L : List As} {F D : Nat} {s : Ds} (h : Own w0 (a :: dk F D s :: L) w) (hf : s.fu = .idle) {k : Nat} (hk : k < s.n) :
    Calls Tryz.prog 46 #[.pointer (some ⟨D, 0, none⟩), .int .i64 (k : Int)] w fun e w' => e = .returned (.tuple #[.string (s.look k), .int .i64 0]) ∧ Own w0 (a :: dk F D s :: L) w' := by
  have q := o_read h 1 rfl (k : Int)
  rw [Ds.reads_idle hf hk] at q
  exact q
theorem o_r2 {w0 w : World} {a b : As} {L : List As} {F D : Nat} {s : Ds} (h : Own w0 (a :: b :: dk F D s :: L) w) (hf : s.fu = .idle) {k : Nat} (hk : k < s.n) :
    Calls Tryz.prog 46 #[.pointer (some ⟨D, 0, none⟩), .int .i64 (k : Int)] w fun e w' => e = .returned (.tuple #[.string (s.look k), .int .i64 0]) ∧ Own w0 (a :: b :: dk F D s :: L) w' := by
  have q := o_read h 2 rfl (k : Int)
  rw [Ds.reads_idle hf hk] at q
  exact q
theorem o_r3 {w0 w : World} {a b c : As} {L : List As} {F D : Nat} {s : Ds} (h : Own w0 (a :: b :: c :: dk F D s :: L) w) (hf : s.fu = .idle) {k : Nat} (hk : k < s.n) :
    Calls Tryz.prog 46 #[.pointer (some ⟨D, 0, none⟩), .int .i64 (k : Int)] w fun e w' => e = .returned (.tuple #[.string (s.look k), .int .i64 0]) ∧ Own w0 (a :: b :: c :: dk F D s :: L) w' := by
  have q := o_read h 3 rfl (k : Int)
  rw [Ds.reads_idle hf hk] at q
  exact q
theorem o_r4 {w0 w : World} {a b c d0 : As} {L : List As} {F D : Nat} {s : Ds} (h : Own w0 (a :: b :: c :: d0 :: dk F D s :: L) w) (hf : s.fu = .idle) {k : Nat} (hk : k < s.n) :
    Calls Tryz.prog 46 #[.pointer (some ⟨D, 0, none⟩), .int .i64 (k : Int)] w fun e w' => e = .returned (.tuple #[.string (s.look k), .int .i64 0]) ∧ Own w0 (a :: b :: c :: d0 :: dk F D s :: L) w' := by
  have q := o_read h 4 rfl (k : Int)
  rw [Ds.reads_idle hf hk] at q
  exact q
theorem o_r5 {w0 w : World} {a b c d0 e0 : As} {L : List As} {F D : Nat} {s : Ds} (h : Own w0 (a :: b :: c :: d0 :: e0 :: dk F D s :: L) w) (hf : s.fu = .idle) {k : Nat} (hk : k < s.n) :
    Calls Tryz.prog 46 #[.pointer (some ⟨D, 0, none⟩), .int .i64 (k : Int)] w fun e w' => e = .returned (.tuple #[.string (s.look k), .int .i64 0]) ∧ Own w0 (a :: b :: c :: d0 :: e0 :: dk F D s :: L) w' := by
  have q := o_read h 5 rfl (k : Int)
  rw [Ds.reads_idle hf hk] at q
  exact q
theorem o_d0 {w0 w : World} {L : List As} {F D : Nat} {s : Ds} (h : Own w0 (dk F D s :: L) w) {k : Nat} (hk : k < s.n) :
    Calls Tryz.prog 48 #[.pointer (some ⟨D, 0, none⟩), .int .i64 (k : Int)] w fun e w' => e = .returned (.string (s.dur k)) ∧ Own w0 (dk F D s :: L) w' := by
  have q := o_durable h 0 rfl (k : Int)
  rw [Ds.durs_in hk] at q
  exact q
theorem o_d1 {w0 w : World} {a : As} {L : List As} {F D : Nat} {s : Ds} (h : Own w0 (a :: dk F D s :: L) w) {k : Nat} (hk : k < s.n) :
    Calls Tryz.prog 48 #[.pointer (some ⟨D, 0, none⟩), .int .i64 (k : Int)] w fun e w' => e = .returned (.string (s.dur k)) ∧ Own w0 (a :: dk F D s :: L) w' := by
  have q := o_durable h 1 rfl (k : Int)
  rw [Ds.durs_in hk] at q
  exact q
theorem o_d2 {w0 w : World} {a b : As} {L : List As} {F D : Nat} {s : Ds} (h : Own w0 (a :: b :: dk F D s :: L) w) {k : Nat} (hk : k < s.n) :
    Calls Tryz.prog 48 #[.pointer (some ⟨D, 0, none⟩), .int .i64 (k : Int)] w fun e w' => e = .returned (.string (s.dur k)) ∧ Own w0 (a :: b :: dk F D s :: L) w' := by
  have q := o_durable h 2 rfl (k : Int)
  rw [Ds.durs_in hk] at q
  exact q
theorem o_d3 {w0 w : World} {a b c : As} {L : List As} {F D : Nat} {s : Ds} (h : Own w0 (a :: b :: c :: dk F D s :: L) w) {k : Nat} (hk : k < s.n) :
    Calls Tryz.prog 48 #[.pointer (some ⟨D, 0, none⟩), .int .i64 (k : Int)] w fun e w' => e = .returned (.string (s.dur k)) ∧ Own w0 (a :: b :: c :: dk F D s :: L) w' := by
  have q := o_durable h 3 rfl (k : Int)
  rw [Ds.durs_in hk] at q
  exact q
theorem o_d4 {w0 w : World} {a b c d0 : As} {L : List As} {F D : Nat} {s : Ds} (h : Own w0 (a :: b :: c :: d0 :: dk F D s :: L) w) {k : Nat} (hk : k < s.n) :
    Calls Tryz.prog 48 #[.pointer (some ⟨D, 0, none⟩), .int .i64 (k : Int)] w fun e w' => e = .returned (.string (s.dur k)) ∧ Own w0 (a :: b :: c :: d0 :: dk F D s :: L) w' := by
  have q := o_durable h 4 rfl (k : Int)
  rw [Ds.durs_in hk] at q
  exact q
theorem o_d5 {w0 w : World} {a b c d0 e0 : As} {L : List As} {F D : Nat} {s : Ds} (h : Own w0 (a :: b :: c :: d0 :: e0 :: dk F D s :: L) w) {k : Nat} (hk : k < s.n) :
    Calls Tryz.prog 48 #[.pointer (some ⟨D, 0, none⟩), .int .i64 (k : Int)] w fun e w' => e = .returned (.string (s.dur k)) ∧ Own w0 (a :: b :: c :: d0 :: e0 :: dk F D s :: L) w' := by
  have q := o_durable h 5 rfl (k : Int)
  rw [Ds.durs_in hk] at q
  exact q
end Go.Proofs.YtckbhjjflpobbaaGreat.Dz

namespace Go.Proofs.YtckbhjjflpobbaaGreat.Dz
open Go.RowKit Go.ChangeShapes Go.WideShapes Go.ChangeAt Go.Proofs.YtckbhjjflpobbaaGreat.Mem Go.Proofs.YtckbhjjflpobbaaGreat.Fz
set_option linter.unusedVariables false

/-- The first k bytes of the sector of the seed b. -/
def secTo (b k : Nat) : List UInt8 := (List.range 80).map fun i => if i < k then UInt8.ofNat (b + 7 * i) else 0
def sec (b : Nat) : ByteArray := ⟨(secTo b 80).toArray⟩
theorem sec_size (b : Nat) : (sec b).size = 80 := by simp [sec, secTo, ByteArray.size]
theorem secTo_zero (b : Nat) : secTo b 0 = List.replicate 80 0 := by
  apply List.ext_getElem
  · simp [secTo]
  · intro i h1 h2; rw [List.getElem_replicate]; simp [secTo]
theorem secTo_succ (b k : Nat) : (secTo b k).set k (UInt8.ofNat (b + 7 * k)) = secTo b (k + 1) := by
  apply List.ext_getElem
  · simp [secTo]
  · intro i h1 h2
    rw [List.getElem_set]
    by_cases e : k = i
    · subst e; simp [secTo]
    · have : i < k + 1 ↔ i < k := by omega
      simp [secTo, e, this]
theorem secTo_len (b k : Nat) : (secTo b k).length = 80 := by simp [secTo]
theorem look_fresh {n : Nat} {f : St} : (fresh n f).fu = f := rfl
theorem mix_all {a b : ByteArray} (ha : a.size = 80) (hb : b.size = 80) : mix 80 a b = a := by
  have ha' : a.data.size = 80 := ha
  have hb' : b.data.size = 80 := hb
  have e : (mix 80 a b).data = a.data := by
    unfold mix
    rw [hb]
    simp only [ByteArray.data_append, ByteArray.data_extract]
    rw [← ha', Array.extract_size, Array.extract_empty_of_stop_le_start (Nat.le_refl _), Array.append_empty]
  cases a; cases h : mix 80 _ b; rw [h] at e; simpa using e
theorem mix_none {a b : ByteArray} : mix 0 a b = b := by
  have e : (mix 0 a b).data = b.data := by
    unfold mix
    simp only [ByteArray.data_append, ByteArray.data_extract]
    have : b.size = b.data.size := rfl
    rw [this, Array.extract_size, Array.extract_empty_of_stop_le_start (Nat.le_refl _), Array.empty_append]
  cases b; cases h : mix 0 a _; rw [h] at e; simpa using e
/-- The state of the fixed disk. -/
def kn1 : Ds := (fresh 2 .idle).wrote 1 (sec 5)
def kn2 : Ds := kn1.settled fun _ => 80
theorem kn2_look : kn2.look 1 = sec 5 := by
  have e : kn2.look 1 = mix 80 (sec 5) Z := rfl
  rw [e]; exact mix_all (sec_size 5) Z_size
theorem kn2_dur : kn2.dur 0 = Z := rfl
theorem sec5_Z : (Z.toList == (sec 5).toList) = false := toList_ne (by decide)
theorem ok_kn1 : kn1.ok := (ok_fresh (n := 2) (f := .idle) (by decide) (by decide) trivial).wrote (by decide) (sec_size 5)
end Go.Proofs.YtckbhjjflpobbaaGreat.Dz
