/-
  A slice of bytes that a call holds in a block of its own, what becomes of it, and the exclusive or of strings.
-/
import Derived.Test.YtibpocemjdcgaaaKept
import Derived.Laws.IdiomStrings
import Derived.ProofKit
namespace Go.Proofs.Ytibpocemjdcgaaa
open Go.ChangeShapes Go.WideShapes Go.ChangeAt Go.RowKit

/-- Block B holds the bytes l; below B the world is as w was. -/
structure Row (w : World) (B : Nat) (l : List UInt8) (w' : World) : Prop where
  bel : Below B w w'
  lt : B < w'.heap.size
  cell : ∀ j (h : j < l.length), w'.cell? ⟨B, j, none⟩ = some (.int .u8 (l[j].toNat : Int))
  free : ∀ j, j < l.length → w'.frozen? ⟨B, j, none⟩ = false
theorem Row.drew {w w' : World} {B : Nat} {l : List UInt8} (h : Row w B l w') : Row w B l w'.drew := ⟨h.bel.drew, h.lt, h.cell, h.free⟩
theorem Row.set {w w' : World} {B : Nat} {l : List UInt8} (h : Row w B l w') (j : Nat) (c : UInt8) {v : Int} (hv : v = (c.toNat : Int)) (hj : j < l.length) :
    Row w B (l.set j c) (w'.setCell ⟨B, j, none⟩ (.int .u8 v)) := by
  subst hv
  refine ⟨h.bel.setCell (Nat.le_refl _) _, by simpa [World.setCell] using h.lt, fun i hi => ?_, fun i hi => ?_⟩
  · have hi' : i < l.length := by simpa using hi
    by_cases e : i = j
    · subst e
      rw [World.cell?_setCell_same _ _ _ (h.cell i hi')]; simp
    · rw [World.cell?_setCell_other _ _ _ _ (by simp), h.cell i hi', List.getElem_set_ne (by omega)]
  · rw [List.length_set] at hi
    rw [World.frozen?_setCell]; exact h.free i hi
theorem Row.kept {w a b : World} {B : Nat} {l : List UInt8} (h : Row w B l a) (k : Kept a b) : Row w B l b :=
  ⟨h.bel.trans (Below.mono k (Nat.le_of_lt h.lt)), Nat.lt_of_lt_of_le h.lt k.size, fun j hj => by rw [Below.cell k h.lt]; exact h.cell j hj, fun j hj => by rw [Below.frozen k h.lt]; exact h.free j hj⟩
theorem Row.str {w w' : World} {B : Nat} {l : List UInt8} (h : Row w B l w') (cap n : Nat) (hn : l.length = n) :
    (convert 29 9 (.slice (some ⟨B, 0, none⟩) n cap)).run Try.prog w' = .ok (.string ⟨l.toArray⟩) w' := by
  subst hn
  exact run_convert_bytes_back w' 29 9 5 ⟨B, 0, none⟩ cap l Try.underlying29 Try.underlying5 Try.underlying9 (fun j hj => by
    have e : (⟨B, 0, none⟩ : Addr).add j = ⟨B, j, none⟩ := by rw [add_plain]; simp
    rw [e]; exact h.cell j hj)

theorem xor_u8 (a b : UInt8) : bits .xor .u8 (a.toNat : Int) (b.toNat : Int) = ((a ^^^ b).toNat : Int) := by
  rw [u8_xor_nat _ _ (u8_lt a) (u8_lt b), UInt8.toNat_xor]
theorem bitOf_xor (a b : UInt8) (k : Nat) : bitOf (a ^^^ b) k = (bitOf a k ^^ bitOf b k) := by
  unfold bitOf; rw [UInt8.toNat_xor, Nat.testBit_xor]
theorem bitAt_lt (l : List UInt8) (p : Nat) (h : p / 8 < l.length) : bitAt l p = bitOf l[p / 8] (p % 8) := by
  unfold bitAt; simp [List.getD, h]
/-- The checksum of an exclusive or. -/
theorem mix (a b c x : List UInt8) (n : Nat) (ha : a.length = n) (hb : b.length = n) (hc : c.length = n) (hx : x.length = n)
    (h : ∀ j (hj : j < n), x[j] = a[j] ^^^ b[j] ^^^ c[j]) : moreB 0 a ^^^ moreB 0 b ^^^ moreB 0 c = moreB 0 x := by
  have hr : ∀ r : BitVec 32, run r x = run r a ^^^ run r b ^^^ run r c := by
    intro r
    rw [run_feed, run_feed a, run_feed b, run_feed c, ha, hb, hc, hx]
    have e := feed_xor (fun p => bitAt a p ^^ bitAt b p) (bitAt c) (r ^^^ r) r (8 * n)
    have e2 := feed_xor (bitAt a) (bitAt b) r r (8 * n)
    rw [e2] at e
    rw [← e]
    have e0 : r ^^^ r ^^^ r = r := by rw [BitVec.xor_self]; exact zx r
    rw [e0]
    apply feed_congr
    intro p hp
    have hq : p / 8 < n := by omega
    rw [bitAt_lt x p (by omega), bitAt_lt a p (by omega), bitAt_lt b p (by omega), bitAt_lt c p (by omega), h _ hq, bitOf_xor, bitOf_xor]
  unfold moreB
  rw [hr]
  generalize run (~~~ 0) a = A
  generalize run (~~~ 0) b = B
  generalize run (~~~ 0) c = C
  apply BitVec.eq_of_getLsbD_eq
  intro i hi
  simp only [BitVec.getLsbD_xor, BitVec.getLsbD_not, hi, decide_true, Bool.true_and]
  cases A.getLsbD i <;> cases B.getLsbD i <;> cases C.getLsbD i <;> rfl
theorem ext_list (s : ByteArray) (n : Nat) : (s.extract 0 n).data.toList = s.data.toList.take n := by simp
end Go.Proofs.Ytibpocemjdcgaaa
