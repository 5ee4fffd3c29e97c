/-
  The statements' run: opens, begin.
-/
import Derived.Test.YtckbhjjflpobbaaGreatJi
import Derived.Test.YtckbhjjflpobbaaGreatJn
namespace Go.Proofs.YtckbhjjflpobbaaGreat.Jk
open Go Go.RowKit Go.ChangeShapes Go.WideShapes Go.ChangeAt Go.Proofs.YtckbhjjflpobbaaGreat.Mem Go.Proofs.YtckbhjjflpobbaaGreat.Pk Go.Proofs.YtckbhjjflpobbaaGreat.Fk Go.Proofs.YtckbhjjflpobbaaGreat.Dz Go.Proofs.YtckbhjjflpobbaaGreat.Fz Go.Proofs.YtckbhjjflpobbaaGreat.Rc
open Go.Proofs.YtckbhjjflpobbaaGreat.Hk (Hd saves loads o_save o_load hblock)

def runC (F D : Nat) (vJ : Value) (area : Nat) (vS vR : Value) (boot : Int) : Array Value := #[.pointer (some ⟨F, 0, none⟩), .pointer (some ⟨D, 0, none⟩), vJ, .int .i64 (area : Int), vS, vR, .int .i64 boot]
/-- What there is for an opening to succeed. -/
structure Opens (s : Ds) (area : Nat) (c : Hd) (R : List Fr) (m : Nat) (s1 : Ds) : Prop where
  ok : s.ok
  ar : 1 ≤ area ∧ area ≤ 32000
  n : s.n = 2 + 2 * area
  room : s.pend.length < 4294967296
  new : newestHd s = (c, 0)
  hok : Hok c m
  found : Found s.look (beg area c.area + area) (beg area c.area) c.first 1 m R
  most : m ≤ R.length
  save : saves s (nextHd c) = (0, s1)
theorem Opens.len {s : Ds} {area : Nat} {c : Hd} {R : List Fr} {m : Nat} {s1 : Ds} (h : Opens s area c R m s1) : R.length ≤ area := by
  have e := chain_le (Nat.le_add_right _ _) h.found.chain
  have key : ∀ X : List Fr, X.length ≤ total X := fun X => by
    induction X with
    | nil => exact Nat.le_refl _
    | cons r X ih => have := parts_pos r.data.size; show X.length + 1 ≤ parts r.data.size + total X; omega
  have := key R
  omega
theorem o_open1 {w0 w : World} {L : List As} {F D : Nat} {s s1 : Ds} {area : Nat} {c : Hd} {R : List Fr} {m : Nat} (h : Mem.Own w0 (dk F D s :: L) w) (q : Opens s area c R m s1) :
    Calls Tryz.prog 24 #[.pointer (some ⟨D, 0, none⟩), .int .i64 (area : Int)] w fun e w' =>
      ∃ J aS dS aR dR, e = .returned (.tuple #[.pointer (some ⟨J, 0, none⟩), .slice aS m dS, .slice aR (R.length - m) dR, .int .i64 0]) ∧ Mem.Own w0 (jA J D (jw area (nextHd c) R) :: dk F D s1 :: secA (.slice aR (R.length - m) dR) (R.length - m) (fun i => xsF R (m + i)) :: secA (.slice aS m dS) m (xsF R) :: L) w' := by
  refine (o_open h q.ok area q.ar q.n q.room c m q.new q.hok R q.found q.most).mono ?_
  rw [q.save]
  rintro e w' ⟨hw0, _⟩
  obtain ⟨J, vS, vR, he, hw1⟩ := hw0 rfl
  obtain ⟨aR, dR, eR⟩ := own_slice hw1 2 rfl
  obtain ⟨aS, dS, eS⟩ := own_slice hw1 3 rfl
  rw [eR, eS] at he hw1
  exact ⟨J, aS, dS, aR, dR, he, hw1⟩
end Go.Proofs.YtckbhjjflpobbaaGreat.Jk
