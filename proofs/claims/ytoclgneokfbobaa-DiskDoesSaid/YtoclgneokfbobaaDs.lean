/-
  Sectors: strings of 80 bytes; a disk's state and what its calls make of it (plain mathematics); package disk's maps of sectors.
-/
import Derived.Test.YtoclgneokfbobaaMp
import Derived.Test.YtoclgneokfbobaaFz
import Derived.Deep.OwnRows
import Derived.Laws.OwnMore
import Derived.Laws.Concat
namespace Go.Proofs.Ytoclgneokfbobaa.Dz
open Go.RowKit Go.Proofs.Ytoclgneokfbobaa.Mem Go.Proofs.Ytoclgneokfbobaa.Fz

/-! ### plain -/
/-- A sector of zeros. -/
def Z : ByteArray := ⟨(List.replicate 80 (0 : UInt8)).toArray⟩
theorem Z_size : Z.size = 80 := by decide
/-- The first n bytes of a, the others of b. -/
def mix (n : Nat) (a b : ByteArray) : ByteArray := a.extract 0 n ++ b.extract n b.size
theorem size_mix {n : Nat} {a b : ByteArray} (hn : n ≤ 80) (ha : a.size = 80) (hb : b.size = 80) : (mix n a b).size = 80 := by
  simp [mix, ByteArray.size_append, ByteArray.size_extract]; omega
abbrev Pend := List (Nat × ByteArray)
/-- The latest of the writes to i. -/
def last (l : Pend) (i : Nat) : Option ByteArray := l.foldl (fun o p => if i = p.1 then some p.2 else o) none
theorem last_snoc (l : Pend) (k : Nat) (d : ByteArray) : last (l ++ [(k, d)]) = upd (last l) k (some d) := by
  funext i; simp [last, upd, List.foldl_append]
/-- What the map of what is durable has. -/
def dg (d : Nat → ByteArray) (i : Nat) : Option ByteArray := if d i = Z then none else some (d i)
theorem dg_getD (d : Nat → ByteArray) (i : Nat) : (dg d i).getD Z = d i := by unfold dg; split <;> simp_all
def put (d : Nat → ByteArray) (i : Nat) (v : ByteArray) (j : Nat) : ByteArray := if j = i then v else d j
theorem dg_put (d : Nat → ByteArray) (i : Nat) (v : ByteArray) : dg (put d i v) = upd (dg d) i (if v = Z then none else some v) := by
  funext j; unfold dg put upd; by_cases e : j = i <;> simp [e]
/-- What is durable when of the first k writes each has left its first bytes, as many as f says. -/
def settle (f : Nat → Nat) (l : Pend) (d : Nat → ByteArray) : Nat → Nat → ByteArray
  | 0 => d
  | k + 1 => match l[k]? with
    | some p => put (settle f l d k) p.1 (mix (f k) p.2 (settle f l d k p.1))
    | none => settle f l d k
theorem settle_succ {f : Nat → Nat} {l : Pend} {d : Nat → ByteArray} {k : Nat} (h : k < l.length) :
    settle f l d (k + 1) = put (settle f l d k) l[k].1 (mix (f k) l[k].2 (settle f l d k l[k].1)) := by
  simp [settle, List.getElem?_eq_getElem h]
theorem size_settle {f : Nat → Nat} {l : Pend} {d : Nat → ByteArray} {n : Nat} (hf : ∀ k, f k ≤ 80) (hl : ∀ p ∈ l, p.1 < n ∧ p.2.size = 80) (hd : ∀ i, i < n → (d i).size = 80) :
    ∀ k i, i < n → (settle f l d k i).size = 80
  | 0, i, hi => hd i hi
  | k + 1, i, hi => by
    have ih := size_settle hf hl hd k
    by_cases h : k < l.length
    · rw [settle_succ h]
      have hp := hl l[k] (List.getElem_mem h)
      unfold put
      split
      · exact size_mix (hf k) hp.2 (ih _ hp.1)
      · exact ih i hi
    · have e : l[k]? = none := by simp; omega
      simp only [settle, e]
      exact ih i hi
/-- The cells of writes. -/
def cellsOf (l : Pend) : List Value := l.flatMap fun p => [.int .i64 (p.1 : Int), .string p.2]
theorem cells_length (l : Pend) : (cellsOf l).length = l.length * 2 := by induction l with | nil => rfl | cons p l ih => simp [cellsOf] at *; omega
theorem cells_snoc (l : Pend) (k : Nat) (d : ByteArray) : cellsOf (l ++ [(k, d)]) = cellsOf l ++ [.int .i64 (k : Int), .string d] := by simp [cellsOf]
theorem cells_at : ∀ (l : Pend) (k : Nat) (h : k < l.length), (cellsOf l)[k * 2]? = some (.int .i64 (l[k].1 : Int)) ∧ (cellsOf l)[k * 2 + 1]? = some (.string l[k].2)
  | p :: l, 0, _ => by simp [cellsOf]
  | p :: l, k + 1, h => by
    have := cells_at l k (by simpa using h)
    have e : (k + 1) * 2 = k * 2 + 2 := by omega
    have e2 : (k + 1) * 2 + 1 = k * 2 + 1 + 2 := by omega
    rw [e2, e]
    simpa [cellsOf] using this
/-- A disk: how many sectors, the mark, the fuse's state, what is durable, the pending writes. -/
structure Ds where
  n : Nat
  full : Bool
  fu : St
  dur : Nat → ByteArray
  pend : Pend
structure Ds.ok (s : Ds) : Prop where
  lo : 1 ≤ s.n
  hi : s.n ≤ 65536
  fu : s.fu.ok
  dur : ∀ i, i < s.n → (s.dur i).size = 80
  pend : ∀ p ∈ s.pend, p.1 < s.n ∧ p.2.size = 80
def fresh (n : Nat) (f : St) : Ds := ⟨n, false, f, fun _ => Z, []⟩
theorem ok_fresh {n : Nat} {f : St} (h1 : 1 ≤ n) (h2 : n ≤ 65536) (hf : f.ok) : (fresh n f).ok := ⟨h1, h2, hf, fun _ _ => Z_size, fun p hp => by simp [fresh] at hp⟩
def Ds.look (s : Ds) (i : Nat) : ByteArray := (last s.pend i).getD (s.dur i)
def Ds.out (s : Ds) (i : Int) : Bool := decide (i < 0) || decide ((s.n : Int) ≤ i)
def Ds.reads (s : Ds) (i : Int) : ByteArray × Int := if s.out i then (ByteArray.empty, 3) else if s.fu.dead then (ByteArray.empty, 10) else (s.look i.toNat, 0)
def Ds.durs (s : Ds) (i : Int) : ByteArray := if s.out i then ByteArray.empty else s.dur i.toNat
def Ds.burnt (s : Ds) : Ds := { s with fu := s.fu.burnt }
def Ds.wrote (s : Ds) (i : Nat) (d : ByteArray) : Ds := { s with pend := s.pend ++ [(i, d)] }
def Ds.settled (s : Ds) (f : Nat → Nat) : Ds := { s with dur := settle f s.pend s.dur s.pend.length, pend := [] }
def Ds.writes (s : Ds) (i : Int) (d : ByteArray) : Int × Ds :=
  if s.out i then (3, s) else if d.size ≠ 80 then (2, s) else if s.fu.says ≠ 0 then (s.fu.says, s.burnt) else (0, s.burnt.wrote i.toNat d)
def Ds.syncs (s : Ds) : Int × Ds := if s.fu.says ≠ 0 then (s.fu.says, s.burnt) else (0, s.burnt.settled fun _ => 80)
/-- How many bytes a crash leaves of write k. -/
structure Ch where
  keep : Nat
  torn : Int
  bytes : Int
structure Ch.ok (c : Ch) : Prop where
  keep : c.keep < 18446744073709551616
  tlo : -9223372036854775808 ≤ c.torn
  thi : c.torn ≤ 9223372036854775807
  blo : -9223372036854775808 ≤ c.bytes
  bhi : c.bytes ≤ 9223372036854775807
def Ch.left (c : Ch) (k : Nat) : Nat := if (k : Int) = c.torn then (c.bytes % 80).toNat else if c.keep.testBit (k % 64) then 80 else 0
theorem Ch.left_le (c : Ch) (k : Nat) : c.left k ≤ 80 := by unfold Ch.left; split; omega; split <;> omega
theorem ok_burnt {s : St} (h : s.ok) : s.burnt.ok := by
  match s with
  | .idle => trivial
  | .armed 0 => trivial
  | .armed (n + 1) => exact Nat.lt_of_succ_lt h
  | .blown => trivial
theorem Ds.ok.burnt {s : Ds} (h : s.ok) : s.burnt.ok := ⟨h.lo, h.hi, ok_burnt h.fu, h.dur, h.pend⟩
theorem Ds.ok.wrote {s : Ds} (h : s.ok) {i : Nat} {d : ByteArray} (hi : i < s.n) (hd : d.size = 80) : (s.wrote i d).ok :=
  ⟨h.lo, h.hi, h.fu, h.dur, fun p hp => by
    rcases List.mem_append.1 hp with hp | hp
    · exact h.pend p hp
    · obtain rfl : p = (i, d) := by simpa using hp
      exact ⟨hi, hd⟩⟩
theorem Ds.ok.settled {s : Ds} (h : s.ok) {f : Nat → Nat} (hf : ∀ k, f k ≤ 80) : (s.settled f).ok :=
  ⟨h.lo, h.hi, h.fu, fun i hi => size_settle hf h.pend h.dur _ i hi, fun p hp => by simp [Ds.settled] at hp⟩

/-! ### bytes -/
theorem make_row (n : Nat) (hn : n ≤ 281474976710656) (w : World) :
    (Instr.makeSlice 78 (.int .i64 (n : Int)) (.int .i64 (n : Int))).run Try.prog w = .ok (.slice (some ⟨w.heap.size, 0, none⟩) n n) (w.alloc (.cells (Array.replicate n (.int .u8 0)) 5)) := by
  have h := run_make_row' (P := Try.prog) 78 5 (.int .u8 0) 1 Try.underlying78 (by kernel_rfl) rfl .i64 .i64 n (by omega) (by omega) w
  have e : madeCells #[Value.int .u8 0] n = Array.replicate n (.int .u8 0) := by
    apply Array.toList_inj.1
    rw [toList_madeCells_one, Array.toList_replicate]
  rw [e] at h
  exact h
theorem make_80 (w : World) : (Instr.makeSlice 78 (.int .i64 80) (.int .i64 80)).run Try.prog w = .ok (.slice (some ⟨w.heap.size, 0, none⟩) 80 80) (w.alloc (.cells (Array.replicate 80 (.int .u8 0)) 5)) := make_row 80 (by decide) w
theorem zero_row (w : World) : Row w w.heap.size (List.replicate 80 0) (w.alloc (.cells (Array.replicate 80 (.int .u8 0)) 5)) := Row.start w 80 _
theorem zero_str (w : World) : (convert 78 9 (.slice (some ⟨w.heap.size, 0, none⟩) 80 80)).run Try.prog (w.alloc (.cells (Array.replicate 80 (.int .u8 0)) 5)) = .ok (.string Z) (w.alloc (.cells (Array.replicate 80 (.int .u8 0)) 5)) := by
  have h := (zero_row w).str 80 80 (by simp)
  simpa [Z] using h
theorem zeros_c (w : World) : Calls Try.prog 57 #[] w fun e w' => e = .returned (.string Z) ∧ Kept w w' := by
  have hm := make_80
  have hs := zero_str w
  go_enter Try.func57, Try.ntmps57
  go_wp2
  go_ret
  exact ⟨rfl, (Kept.refl w).alloc _⟩
theorem rzeros_c (w : World) : Calls Try.prog 14 #[] w fun e w' => e = .returned (.string Z) ∧ Kept w w' := by
  have hm := make_80
  have hs := zero_str w
  go_enter Try.func14, Try.ntmps14
  go_wp2
  go_ret
  exact ⟨rfl, (Kept.refl w).alloc _⟩

/-! ### maps of sectors -/
theorem get_c (M N : Nat) (g : Nat → Option ByteArray) (i : Nat) (hi : i < N) (w : World) (h : Mp M N g w) :
    Calls Try.prog 42 #[.map (some M), .int .i64 (i : Int)] w fun e w' => e = .returned (.string ((g i).getD Z)) ∧ Kept w w' := by
  have hl := h.look Try.underlying80 hi
  clear h
  cases hg : g i with
  | none =>
    rw [hg] at hl
    simp only [Option.getD, Option.isSome] at hl
    go_enter Try.func42, Try.ntmps42
    go_wp2_with (go_at_call 57; refine (zeros_c _).mono ?_; rintro e u ⟨rfl, hk⟩)
    go_ret
    exact ⟨rfl, hk⟩
  | some v =>
    rw [hg] at hl
    simp only [Option.getD, Option.isSome] at hl
    go_enter Try.func42, Try.ntmps42
    go_wp2
    go_ret
    exact ⟨rfl, Kept.refl _⟩
end Go.Proofs.Ytoclgneokfbobaa.Dz
