/-
  The calls of package record on disks of the caller's own ('Own'); the statements' own helpers: write, known.
-/
import Derived.Test.YtckbhjjflpobbaaGreatGn
import Derived.Test.YtckbhjjflpobbaaGreatGd
import Derived.Test.YtckbhjjflpobbaaGreatDb
namespace Go.Proofs.YtckbhjjflpobbaaGreat.Rc
open Go Go.RowKit Go.ChangeShapes Go.WideShapes Go.ChangeAt Go.Proofs.YtckbhjjflpobbaaGreat.Mem Go.Proofs.YtckbhjjflpobbaaGreat.Pk Go.Proofs.YtckbhjjflpobbaaGreat.Fk Go.Proofs.YtckbhjjflpobbaaGreat.Dz Go.Proofs.YtckbhjjflpobbaaGreat.Fz

/-- The sectors of a record, as a row of the call's own. -/
def secA (v : Value) (n : Nat) (x : Nat → ByteArray) : As := rowA 9 1 v n (strs x n)
theorem set_same {L : List As} {i : Nat} {a : As} (h : L[i]? = some a) : L.set i a = L := by
  apply List.ext_getElem?
  intro j
  by_cases e : i = j
  · subst e
    rw [List.getElem?_set_self (List.getElem?_eq_some_iff.1 h).1, h]
  · rw [List.getElem?_set_ne e]
theorem set_other {L : List As} {i j : Nat} {a : As} (h : i ≠ j) : (L.set i a)[j]? = L[j]? := List.getElem?_set_ne h
theorem set_at {L : List As} {i : Nat} {a b : As} (h : L[i]? = some a) : (L.set i b)[i]? = some b := List.getElem?_set_self (List.getElem?_eq_some_iff.1 h).1
theorem own_strs {w0 w : World} {L : List As} (h : Mem.Own w0 L w) (j : Nat) {ao : Option Addr} {n cap : Nat} {x : Nat → ByteArray} (hj : L[j]? = some (secA (.slice ao n cap) n x)) : SAt w ao n x := by
  obtain ⟨ao', cap', e, hs⟩ := strings_at (h.row j hj)
  cases e
  exact hs
theorem own_slice {w0 w : World} {L : List As} (h : Mem.Own w0 L w) (j : Nat) {v : Value} {n : Nat} {x : Nat → ByteArray} (hj : L[j]? = some (secA v n x)) : ∃ ao cap, v = .slice ao n cap := by
  obtain ⟨ao', cap', e, _⟩ := strings_at (h.row j hj)
  exact ⟨_, _, e⟩
theorem o_secs {w0 w : World} {L : List As} (h : Mem.Own w0 L w) (b l : Int) (k : Nat) (d : ByteArray) (hk : k < 256) (hd : d.size ≤ maxLen) :
    Calls Tryz.prog 55 #[.int .i64 b, .int .i64 l, .int .u8 (k : Int), .string d] w fun e w' => ∃ ao cap, e = .returned (.tuple #[.slice ao (nS b l d) cap, .int .i64 (secE b l d)]) ∧ Mem.Own w0 (secA (.slice ao (nS b l d) cap) (nS b l d) (sec b l k d) :: L) w' :=
  (sectors_c b l k d hk hd w).mono fun e w' ⟨v, he, hrow, hk⟩ => by
    obtain ⟨ao, cap, rfl, _⟩ := strings_at hrow
    refine ⟨ao, cap, he, (h.push (b := secA _ _ _) hk ⟨ownsRow_mono hrow (Nat.zero_le _), fun g hg => .inr ⟨ownsRow_base hrow hg, (hrow.lt g hg).2⟩⟩).front⟩
theorem o_fetch {w0 w : World} {L : List As} (h : Mem.Own w0 L w) (i : Nat) {F D : Nat} {s : Ds} (hi : L[i]? = some (dk F D s)) (hok : s.ok) (a e lsn boot : Int) (ha : -9223372036854775808 ≤ a ∧ a ≤ 9223372036854775807) (he : -9223372036854775808 ≤ e ∧ e ≤ 9223372036854775807) :
    Calls Tryz.prog 75 #[.pointer (some ⟨D, 0, none⟩), .int .i64 a, .int .i64 e, .int .i64 lsn, .int .i64 boot] w fun ed w' => ed = .returned (.tuple #[.agg #[.int .i64 (fetch s a e lsn boot).1.boot, .int .i64 (fetch s a e lsn boot).1.lsn, .int .i64 (fetch s a e lsn boot).1.part, .int .i64 (fetch s a e lsn boot).1.parts, .int .u8 ((fetch s a e lsn boot).1.kind : Int), .string (fetch s a e lsn boot).1.data], .int .i64 (fetch s a e lsn boot).2]) ∧ Mem.Own w0 L w' :=
  h.look i hi fun M1 M2 pv hd => fetch_c F D M1 M2 pv s hok a e lsn boot ha he w hd
/-- Frames compared with what was looked for. -/
theorem o_fetch_ok {w0 w : World} {L : List As} (h : Mem.Own w0 L w) (i : Nat) {F D : Nat} {s : Ds} (hi : L[i]? = some (dk F D s)) (hok : s.ok) (hidle : s.fu = .idle) (t u : Nat) (htu : t ≤ u) (hu : u ≤ s.n) (lsn boot : Int) (r : Fr) (hr : rdOk s.look t u lsn boot r) :
    Calls Tryz.prog 75 #[.pointer (some ⟨D, 0, none⟩), .int .i64 (t : Int), .int .i64 (u : Int), .int .i64 lsn, .int .i64 boot] w fun ed w' => ed = .returned (.tuple #[.agg #[.int .i64 r.boot, .int .i64 r.lsn, .int .i64 r.part, .int .i64 r.parts, .int .u8 (r.kind : Int), .string r.data], .int .i64 0]) ∧ Mem.Own w0 L w' := by
  have hn := hok.hi
  have := o_fetch h i hi hok t u lsn boot ⟨by omega, by omega⟩ ⟨by omega, by omega⟩
  rw [fetch_in htu hu (by rw [hidle]; rfl), (rdF_ok hr).1, (rdF_ok hr).2] at this
  exact this
theorem o_fetch_bad {w0 w : World} {L : List As} (h : Mem.Own w0 L w) (i : Nat) {F D : Nat} {s : Ds} (hi : L[i]? = some (dk F D s)) (hok : s.ok) (hidle : s.fu = .idle) (t u : Nat) (htu : t ≤ u) (hu : u ≤ s.n) (lsn boot : Int) (hr : ∀ r, ¬ rdOk s.look t u lsn boot r) :
    Calls Tryz.prog 75 #[.pointer (some ⟨D, 0, none⟩), .int .i64 (t : Int), .int .i64 (u : Int), .int .i64 lsn, .int .i64 boot] w fun ed w' => ed = .returned (.tuple #[.agg #[.int .i64 0, .int .i64 0, .int .i64 0, .int .i64 0, .int .u8 0, .string ⟨#[]⟩], .int .i64 12]) ∧ Mem.Own w0 L w' := by
  have hn := hok.hi
  have := o_fetch h i hi hok t u lsn boot ⟨by omega, by omega⟩ ⟨by omega, by omega⟩
  rw [fetch_in htu hu (by rw [hidle]; rfl), (rdF_bad hr).1, (rdF_bad hr).2] at this
  exact this
end Go.Proofs.YtckbhjjflpobbaaGreat.Rc
