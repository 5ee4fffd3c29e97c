/-
  An argument that is a slice of items, opened; and what its items are written as.
-/
import Derived.Test.YtghnaimpcjbhdaaPl
import Derived.Test.YtghnaimpcjbhdaaPo
import Derived.Deep.Slices
import Derived.ProofKit
import Derived.OpenShut
import Derived.Carry
namespace Go.Proofs.Ytghnaimpcjbhdaa.Pk
open Go.RowKit Go.Proofs.Ytghnaimpcjbhdaa.Mem Go.ChangeShapes Go.WideShapes Go.ChangeAt

/-- An item: its kind, a number that may be negative, one that may not, a string. -/
structure It where
  k : Int
  i : Int
  n : Nat
  s : ByteArray
deriving Inhabited
structure It.ok (x : It) : Prop where
  k0 : 0 ≤ x.k
  k1 : x.k ≤ 255
  i : I64 x.i
  n : U64 x.n
/-- The cells at o of block b hold x. -/
structure It.at (x : It) (b o : Nat) (W : World) : Prop where
  ck : W.cell? ⟨b, o, none⟩ = some (.int .u8 x.k)
  ci : W.cell? ⟨b, o + 1, none⟩ = some (.int .i64 x.i)
  cn : W.cell? ⟨b, o + 2, none⟩ = some (.int .u64 x.n)
  cs : W.cell? ⟨b, o + 3, none⟩ = some (.string x.s)
theorem It.at.kept {x : It} {b o : Nat} {W V : World} (h : x.at b o W) (k : Kept W V) (hb : b < W.heap.size) : x.at b o V :=
  ⟨by rw [Kept.cell k hb]; exact h.ck, by rw [Kept.cell k hb]; exact h.ci, by rw [Kept.cell k hb]; exact h.cn, by rw [Kept.cell k hb]; exact h.cs⟩
theorem lt_of_cell {W : World} {a : Addr} {v : Value} (h : W.cell? a = some v) : a.block < W.heap.size ∧ a.spot = none := by
  unfold World.cell? at h
  cases hb : W.heap[a.block]? with
  | none => rw [hb] at h; cases h
  | some o =>
    refine ⟨(Array.getElem?_eq_some_iff.1 hb).1, ?_⟩
    rw [hb] at h
    cases o with
    | cells c t f =>
      cases hs : a.spot with
      | none => rfl
      | some _ => simp [hs] at h
    | _ => simp at h
section
variable {H : Type} {enc : TypeId × Value → H} {P : Program} {w : World} {base : Nat} {spare : Nat → Bool} {held : Bool}
/-- Types and places of a struct's fields. -/
def fieldsOf (P : Program) (t : TypeId) : Option (List (TypeId × Nat)) :=
  (P.underlying t).bind fun d => match d with | .struct fs => some (fs.toList.map fun f => (f.type, f.offset)) | _ => none
theorem trod_fields {t : TypeId} {L : List (TypeId × Nat)} {fuel : Nat} {cs : List Value} {x : DataW H × List MemPlace} (hL : fieldsOf P t = some L) (h : DataW.trod enc P w base spare held fuel t cs = some x) :
    ∃ n, cs.length = P.cellsOf t ∧ ∀ (j : Nat) (q : TypeId × Nat), L[j]? = some q → ∃ y, DataW.trod enc P w base spare held n q.1 ((cs.drop q.2).take (P.cellsOf q.1)) = some y := by
  unfold fieldsOf at hL
  cases hu : P.underlying t with
  | none => rw [hu] at hL; cases hL
  | some d =>
    rw [hu] at hL
    cases d with
    | struct fs =>
      have hL' : L = fs.toList.map fun f => (f.type, f.offset) := by simpa using hL.symm
      obtain ⟨xs, n, _, _, hl, hx, hf⟩ := DataW.trod_struct hu h
      refine ⟨n, hl, fun j q hq => ?_⟩
      rw [hL', List.getElem?_map] at hq
      cases hj : fs.toList[j]? with
      | none => rw [hj] at hq; cases hq
      | some f =>
        rw [hj] at hq
        obtain rfl : (f.type, f.offset) = q := by simpa using hq
        have hj' : fs[j]? = some f := by simpa using hj
        have hlt : j < fs.size := (Array.getElem?_eq_some_iff.1 hj').1
        exact ⟨xs[j]'(by omega), by rw [hf j f hj']; exact List.getElem?_eq_getElem (by omega)⟩
    | _ => simp at hL
end
theorem itemFields : fieldsOf Try.prog 46 = some [(5, 0), (3, 1), (22, 2), (9, 3)] := by kernel_rfl
theorem itemCells : Try.prog.cellsOf 46 = 4 := by kernel_rfl
theorem cells_u8 : Try.prog.cellsOf 5 = 1 := by kernel_rfl
theorem cells_int : Try.prog.cellsOf 3 = 1 := by kernel_rfl
theorem cells_u64 : Try.prog.cellsOf 22 = 1 := by kernel_rfl
theorem cells_str : Try.prog.cellsOf 9 = 1 := by kernel_rfl
theorem sliceItem : Try.prog.underlying 44 = some (.slice 46) := by kernel_rfl
/-- A slice of items as the call gets it. -/
structure Items (W : World) (v : Value) (ao : Option Addr) (len cap : Nat) (X : Nat → It) : Prop where
  eq : v = .slice ao len cap
  cell : 0 < len → ∃ b off, ao = some ⟨b, off, none⟩ ∧ b < W.heap.size ∧ ∀ i, i < len → (X i).at b (off + i * 4) W
  ok : ∀ i, i < len → (X i).ok
  max : len ≤ maxLen
theorem add_zero (a : Addr) : a.add 0 = a := by unfold Addr.add; simp
theorem item_one {H : Type} {enc : TypeId × Value → H} {W : World} {base : Nat} {spare : Nat → Bool} {held : Bool} {n : Nat} {a : Addr} {cs : List Value} {y : DataW H × List MemPlace}
    (hc : W.cells? base a 4 = some cs) (h : DataW.trod enc Try.prog W base spare held n 46 cs = some y) :
    ∃ x : It, x.ok ∧ W.cell? (a.add 0) = some (.int .u8 x.k) ∧ W.cell? (a.add 1) = some (.int .i64 x.i) ∧ W.cell? (a.add 2) = some (.int .u64 x.n) ∧ W.cell? (a.add 3) = some (.string x.s) := by
  obtain ⟨_, hl, hat⟩ := World.cells?_some hc
  obtain ⟨m, _, hq⟩ := trod_fields itemFields h
  match cs, hl with
  | [c0, c1, c2, c3], _ =>
    obtain ⟨y0, h0⟩ := hq 0 _ rfl
    obtain ⟨y1, h1⟩ := hq 1 _ rfl
    obtain ⟨y2, h2⟩ := hq 2 _ rfl
    obtain ⟨y3, h3⟩ := hq 3 _ rfl
    rw [cells_u8] at h0
    rw [cells_int] at h1
    rw [cells_u64] at h2
    rw [cells_str] at h3
    obtain ⟨k, e0, _, w0⟩ := DataW.trod_int Try.underlying5 h0
    obtain ⟨i, e1, _, w1⟩ := DataW.trod_int Try.underlying3 h1
    obtain ⟨n, e2, _, w2⟩ := DataW.trod_int Try.underlying22 h2
    obtain ⟨s, e3, _, _⟩ := DataW.trod_string Try.underlying9 h3
    have b0 := bounds_u8 w0
    have b1 := bounds_i64 w1
    have b2 := bounds_u64 w2
    obtain ⟨n, rfl⟩ := Int.eq_ofNat_of_zero_le b2.1
    obtain rfl : c0 = .int .u8 k := by simpa using e0
    obtain rfl : c1 = .int .i64 i := by simpa using e1
    obtain rfl : c2 = .int .u64 n := by simpa using e2
    obtain rfl : c3 = .string s := by simpa using e3
    have hi : I64 i := ⟨by omega, by omega⟩
    have hn : U64 n := by unfold U64; omega
    exact ⟨⟨k, i, n, s⟩, ⟨b0.1, b0.2, hi, hn⟩, hat 0 (by decide), hat 1 (by decide), hat 2 (by decide), hat 3 (by decide)⟩
theorem open_items {H : Type} {enc : TypeId × Value → H} {W : World} {v : Value} {d : DataW H} {p : List MemPlace} {r : Reach} {b0 : Nat} (hv : Value.okWide Try.prog W r b0 44 v) (h : DataW.Trod enc Try.prog W 0 (fun _ => true) true 44 v d p) :
    ∃ ao len cap X, Items W v ao len cap X := by
  obtain ⟨ao, l, c, rfl⟩ := okWide_slice sliceItem hv
  obtain ⟨fuel, hf⟩ := h
  rcases Go.Deep.open_slice sliceItem hf with ⟨hcs, _⟩ | ⟨a, len, cap, m, n, D, Pl, hcs, hb, hl, hm, hmm, hx, hi⟩
  · simp only [Value.cells, List.cons.injEq, Value.slice.injEq, and_true] at hcs
    obtain ⟨rfl, rfl, rfl⟩ := hcs
    exact ⟨none, 0, 0, fun _ => default, rfl, fun h => absurd h (by omega), fun i h => absurd h (by omega), by decide⟩
  · simp only [Value.cells, List.cons.injEq, Value.slice.injEq, and_true] at hcs
    obtain ⟨rfl, rfl, rfl⟩ := hcs
    have hmc : m = c := by simpa using hmm
    have each : ∀ i, i < l → ∃ x : It, x.ok ∧ W.cell? ((a.add (i * 4)).add 0) = some (.int .u8 x.k) ∧ W.cell? ((a.add (i * 4)).add 1) = some (.int .i64 x.i) ∧ W.cell? ((a.add (i * 4)).add 2) = some (.int .u64 x.n) ∧ W.cell? ((a.add (i * 4)).add 3) = some (.string x.s) := by
      intro i hil
      obtain ⟨cs', hc, ht⟩ := hi i (by omega)
      rw [itemCells] at hc
      exact item_one hc ht
    obtain ⟨X, hX⟩ := Go.Deep.choose_lt each
    refine ⟨some a, l, c, X, rfl, fun h0 => ?_, fun i h => (hX i h).1, Nat.le_trans hl hm⟩
    have hp := lt_of_cell (hX 0 h0).2.1
    rw [Nat.zero_mul, add_zero, add_zero] at hp
    obtain ⟨b, off, sp⟩ := a
    obtain ⟨hb2, rfl⟩ := hp
    refine ⟨b, off, rfl, hb2, fun i h => ?_⟩
    obtain ⟨_, k0, k1, k2, k3⟩ := hX i h
    simp only [add_plain] at k0 k1 k2 k3
    exact ⟨k0, k1, k2, k3⟩

/-- What an item is written as. -/
def enc (x : It) : ByteArray := if x.k % 3 = 0 then str (num (zig x.i)) else if x.k % 3 = 1 then str (num x.n) else str (num x.s.size) ++ x.s
/-- What the first k items are written as. -/
def cat (X : Nat → It) : Nat → ByteArray
  | 0 => ⟨#[]⟩
  | k + 1 => cat X k ++ enc (X k)
/-- What c items from k on are written as. -/
def rest (X : Nat → It) : Nat → Nat → ByteArray
  | _, 0 => ⟨#[]⟩
  | k, c + 1 => enc (X k) ++ rest X (k + 1) c
theorem empty_append (a : ByteArray) : (⟨#[]⟩ : ByteArray) ++ a = a := by apply ByteArray.ext; simp
theorem append_empty (a : ByteArray) : a ++ (⟨#[]⟩ : ByteArray) = a := by apply ByteArray.ext; simp
theorem cat_rest (X : Nat → It) (c : Nat) : ∀ k, cat X k ++ rest X k c = cat X (k + c) := by
  induction c with
  | zero => intro k; exact append_empty _
  | succ c ih =>
    intro k
    rw [show k + (c + 1) = k + 1 + c by omega, ← ih (k + 1)]
    show cat X k ++ (enc (X k) ++ rest X (k + 1) c) = cat X k ++ enc (X k) ++ rest X (k + 1) c
    rw [ByteArray.append_assoc]
theorem cat_all (X : Nat → It) (n : Nat) : cat X n = rest X 0 n := by
  have := cat_rest X n 0
  rw [Nat.zero_add] at this
  rw [← this]; exact empty_append _
theorem enc_size (x : It) (h : x.s.size ≤ 300) : 1 ≤ (enc x).size ∧ (enc x).size ≤ 309 := by
  have s1 := num_len (zig x.i)
  have s2 := num_len x.n
  have s3 := num_len x.s.size
  unfold enc
  split
  · rw [size_str]; omega
  · split
    · rw [size_str]; omega
    · rw [ByteArray.size_append, size_str]; omega
theorem cat_size (X : Nat → It) (k : Nat) (h : ∀ j, j < k → (X j).s.size ≤ 300) : (cat X k).size ≤ 309 * k := by
  induction k with
  | zero => exact Nat.le_refl _
  | succ k ih =>
    have := ih fun j hj => h j (by omega)
    have := (enc_size (X k) (h k (by omega))).2
    show (cat X k ++ enc (X k)).size ≤ _
    rw [ByteArray.size_append]; omega
/-- What the writing calls return for an item. -/
structure Enc (x : It) (A B C E : ByteArray) : Prop where
  cI : ∀ w, Calls Try.prog 14 #[.int .i64 x.i] w fun e w' => e = .returned (.string A) ∧ Kept w w'
  cN : ∀ w, Calls Try.prog 12 #[.int .u64 x.n] w fun e w' => e = .returned (.string B) ∧ Kept w w'
  cT : ∀ w, Calls Try.prog 16 #[.string x.s] w fun e w' => e = .returned (.string C) ∧ Kept w w'
  ix : ∀ w, (Instr.index 47 (.agg #[.string A, .string B, .string C]) (.int .u8 (x.k % 3))).run Try.prog w = .ok (.string E) w
theorem ix0 (A B C : ByteArray) (w : World) : (Instr.index 47 (.agg #[.string A, .string B, .string C]) (.int .u8 0)).run Try.prog w = .ok (.string A) w := by kernel_rfl
theorem ix1 (A B C : ByteArray) (w : World) : (Instr.index 47 (.agg #[.string A, .string B, .string C]) (.int .u8 1)).run Try.prog w = .ok (.string B) w := by kernel_rfl
theorem ix2 (A B C : ByteArray) (w : World) : (Instr.index 47 (.agg #[.string A, .string B, .string C]) (.int .u8 2)).run Try.prog w = .ok (.string C) w := by kernel_rfl
theorem enc_of (x : It) (h : x.ok) (hs : x.s.size ≤ 300) : ∃ A B C, Enc x A B C (enc x) := by
  refine ⟨_, _, _, int_any x.i h.i, var_any x.n h.n, text_any x.s (by unfold Short; omega), fun w => ?_⟩
  unfold enc
  have h3 : x.k % 3 = 0 ∨ x.k % 3 = 1 ∨ x.k % 3 = 2 := by omega
  rcases h3 with e | e | e
  · rw [e]; exact ix0 _ _ _ w
  · rw [e]; exact ix1 _ _ _ w
  · rw [e]; exact ix2 _ _ _ w
end Go.Proofs.Ytghnaimpcjbhdaa.Pk
