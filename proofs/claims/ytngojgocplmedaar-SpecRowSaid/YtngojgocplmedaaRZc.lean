/-
  Specifications as values: the kit's EqualSpec and CopySpec.
-/
import Derived.Test.YtngojgocplmedaaRZb
namespace Go.Proofs.YtngojgocplmedaaR.Ls
open Go.RowKit Go.Proofs.YtngojgocplmedaaR.Mem Go.Proofs.YtngojgocplmedaaR.Bx Go.Proofs.YtngojgocplmedaaR.In Go.Proofs.YtngojgocplmedaaR.Sp Go.ChangeShapes Go.WideShapes Go.ChangeAt
set_option linter.unusedVariables false

/-- Where the slices of a specification lie. -/
structure Pl where
  po : Option Addr
  pn : Nat
  pc : Nat
  to : Option Addr
  tn : Nat
  tc : Nat
/-- The six cells of a specification. -/
def spC (s : Sp) (p : Pl) : Array Value := #[.int .i64 s.id, .int .i64 s.c, .int .i64 s.m, .int .i64 s.d, .slice p.po p.pn p.pc, .slice p.to p.tn p.tc]
structure SpAt (w : World) (s : Sp) (p : Pl) : Prop where
  ports : At w p.po p.pn p.pc s.ports
  tasks : AtE elT w p.to p.tn p.tc s.tasks
theorem SpAt.kept {w w' : World} {s : Sp} {p : Pl} (h : SpAt w s p) (k : Kept w w') : SpAt w' s p := ⟨h.ports.kept k, h.tasks.kept k⟩
structure SpNew (B : Nat) (w : World) (s : Sp) (p : Pl) : Prop where
  ports : New B w p.po p.pn p.pc s.ports
  tasks : NewE elT B w p.to p.tn p.tc s.tasks
theorem SpNew.at {B : Nat} {w : World} {s : Sp} {p : Pl} (h : SpNew B w s p) : SpAt w s p := ⟨h.ports.at, h.tasks.at elT_fine⟩
theorem SpNew.kept {B : Nat} {w w' : World} {s : Sp} {p : Pl} (h : SpNew B w s p) (k : Kept w w') : SpNew B w' s p := ⟨h.ports.kept k, h.tasks.kept k⟩
theorem SpNew.base {B B' : Nat} {w : World} {s : Sp} {p : Pl} (h : SpNew B w s p) (hB : B' ≤ B) : SpNew B' w s p := ⟨h.ports.base hB, h.tasks.base hB⟩
theorem box6 {y : World} {F : Nat} {T : TypeId} {a b c d e f : Value} (h : y.heap[F]? = some (.cells #[a, b, c, d, e, f] T (0, 0))) :
    (y.cell? ⟨F, 0, none⟩ = some a ∧ y.cell? ⟨F, 1, none⟩ = some b ∧ y.cell? ⟨F, 2, none⟩ = some c ∧ y.cell? ⟨F, 3, none⟩ = some d ∧ y.cell? ⟨F, 4, none⟩ = some e ∧ y.cell? ⟨F, 5, none⟩ = some f) ∧ ∀ i, y.frozen? ⟨F, i, none⟩ = false :=
  ⟨⟨cell_of_row _ _ _ _ _ _ h, cell_of_row _ _ _ _ _ _ h, cell_of_row _ _ _ _ _ _ h, cell_of_row _ _ _ _ _ _ h, cell_of_row _ _ _ _ _ _ h, cell_of_row _ _ _ _ _ _ h⟩, fun i => frozen_of_row y F i _ _ h⟩
def sameA (a b c a' b' c' : Int) : Bool := a == a' && (b == b' && c == c')
theorem eqlA (a b c a' b' c' : Int) (w : World) :
    (binOp .eql 23 (.agg #[.int .i64 a, .int .i64 b, .int .i64 c]) (.agg #[.int .i64 a', .int .i64 b', .int .i64 c'])).run Try.prog w = .ok (.bool (sameA a b c a' b' c')) w := by
  unfold sameA
  simp [go_sem, Try.underlying23]
  (repeat' split) <;> simp_all
theorem boxes2 (w : World) (a b : Array Value) (T : TypeId) : Mem.Own w [boxA (w.heap.size + 1) b T, boxA w.heap.size a T] ((w.alloc (.cells a T)).alloc (.cells b T)) := by
  have h := ((Own.nil w).box a T).box b T
  have e : (w.alloc (.cells a T)).heap.size = w.heap.size + 1 := by simp
  rw [e] at h
  exact h
theorem sp_eq (s t : Sp) : (s = t) ↔ (s.id = t.id ∧ sameA s.c s.m s.d t.c t.m t.d = true ∧ s.ports = t.ports ∧ s.tasks = t.tasks) := by
  cases s; cases t
  simp [sameA, and_assoc]
set_option maxHeartbeats 2000000 in
set_option maxRecDepth 100000 in
theorem eqs_c {w : World} {s t : Sp} {p q : Pl} (h : SpAt w s p) (k : SpAt w t q) : Calls Try.prog 13 #[.agg (spC s p), .agg (spC t q)] w fun e w' => e = .returned (.bool (decide (s = t))) ∧ Kept w w' := by
  have H := Lib.hid (And.intro h k)
  clear h k
  obtain ⟨po, pn, pc, to, tn, tc⟩ := p
  obtain ⟨qo, qn, qc, uo, un, uc⟩ := q
  have h0 := boxes2 w (spC s ⟨po, pn, pc, to, tn, tc⟩) (spC t ⟨qo, qn, qc, uo, un, uc⟩) 27
  unfold spC at h0 ⊢
  have n2 := eqlA s.c s.m s.d t.c t.m t.d
  have HS := Lib.hid (sp_eq s t)
  obtain ⟨Q, hQ⟩ : ∃ Q, Q = sameA s.c s.m s.d t.c t.m t.d := ⟨_, rfl⟩
  rw [← hQ] at n2
  have HQ := Lib.hid hQ
  obtain ⟨R, hR⟩ : ∃ R, R = decide (s.ports = t.ports) := ⟨_, rfl⟩
  have HR := Lib.hid hR
  clear hQ hR
  have fin0 : decide (s = t) = (decide (s.id = t.id) && (Q && (R && decide (s.tasks = t.tasks)))) := by
    rw [HQ.out, HR.out, Bool.eq_iff_iff]
    simp [HS.out]
  have fin := Lib.hid fin0
  clear fin0
  by_cases hid : s.id = t.id
  · have n1 : (s.id == t.id) = true := by simpa using hid
    cases Q with
    | false =>
      have HF0 : decide (s = t) = false := by rw [fin.out]; simp
      have HF := Lib.hid HF0
      clear HF0
      clear hid
      go_enter Try.func13, Try.ntmps13
      go_wp2
      go_ret
      exact ⟨by rw [HF.out]; rfl, h0.kept⟩
    | true =>
      cases R with
      | false =>
        have HF0 : decide (s = t) = false := by rw [fin.out]; simp
        have HF := Lib.hid HF0
        clear HF0
        clear hid
        go_enter Try.func13, Try.ntmps13
        go_wp2_with (go_at_call 34; (with_reducible refine (eqi_c (H.out.1.kept h0.kept).ports (H.out.2.kept h0.kept).ports).mono ?_); rintro e w1 ⟨rfl, k1⟩; rw [← HR.out])
        go_ret
        exact ⟨by rw [HF.out]; rfl, h0.kept.trans k1⟩
      | true =>
        have HF0 : decide (s = t) = decide (s.tasks = t.tasks) := by rw [fin.out]; simp [hid]
        have HF := Lib.hid HF0
        clear HF0
        clear hid
        go_enter Try.func13, Try.ntmps13
        go_wp2_with (first
          | (go_at_call 34; (with_reducible refine (eqi_c (H.out.1.kept h0.kept).ports (H.out.2.kept h0.kept).ports).mono ?_); rintro e w1 ⟨rfl, k1⟩; rw [← HR.out]; have h1 := h0.later k1; obtain ⟨⟨_, _, _, _, _, c5⟩, _⟩ := box6 (h1.boxed 1 rfl); obtain ⟨⟨_, _, _, _, _, d5⟩, _⟩ := box6 (h1.boxed 0 rfl))
          | (go_at_call 35; (with_reducible refine (eqt_c (H.out.1.kept h1.kept).tasks (H.out.2.kept h1.kept).tasks).mono ?_); rintro e w2 ⟨rfl, k2⟩))
        go_ret
        exact ⟨by rw [HF.out]; rfl, h1.kept.trans k2⟩
  · have n1 : (s.id == t.id) = false := by simpa using hid
    have HF0 : decide (s = t) = false := by rw [fin.out]; simp [hid]
    have HF := Lib.hid HF0
    clear HF0
    clear hid
    go_enter Try.func13, Try.ntmps13
    go_wp2
    go_ret
    exact ⟨by rw [HF.out]; rfl, h0.kept⟩
end Go.Proofs.YtngojgocplmedaaR.Ls
