/-
  Bytes read as a specification by the program (package spec's Decode, layer 13): a panic that is recovered.
-/
import Derived.Test.YtngojgocplmedaaRNh
import Derived.Test.YtngojgocplmedaaRNd
import Derived.Test.YtngojgocplmedaaRZs
import Derived.Defers
import Derived.Recover
namespace Go.Proofs.YtngojgocplmedaaR.Ls
open Go.RowKit Go.Proofs.YtngojgocplmedaaR.Mem Go.Proofs.YtngojgocplmedaaR.Bx Go.Proofs.YtngojgocplmedaaR.In Go.Proofs.YtngojgocplmedaaR.Sp Go.Proofs.YtngojgocplmedaaR.Nr Go.Proofs.YtngojgocplmedaaR.Pk Go.ChangeShapes Go.WideShapes Go.ChangeAt
set_option linter.unusedVariables false

/-- The world behind the deferred closure: the results are those of a failure. -/
def failW (A B C : Nat) (w : World) : World := (((((((w.setCell ⟨A, 0, none⟩ (.int .i64 0)).setCell ⟨A, 1, none⟩ (.int .i64 0)).setCell ⟨A, 2, none⟩ (.int .i64 0)).setCell ⟨A, 3, none⟩ (.int .i64 0)).setCell ⟨A, 4, none⟩ (.slice none 0 0)).setCell ⟨A, 5, none⟩ (.slice none 0 0)).setCell ⟨B, 0, none⟩ (.string ⟨#[]⟩)).setCell ⟨C, 0, none⟩ (.int .i64 4)
set_option maxRecDepth 100000 in
theorem catch_panicking {w w0 : World} {L : List As} {A B C : Nat} {a0 a1 a2 a3 a4 a5 r x : Value} (h : Mem.Own w0 L w) (i j k : Nat) (hi : L[i]? = some (boxA A #[a0, a1, a2, a3, a4, a5] 27)) (hj : L[j]? = some (boxA B #[r] 9)) (hk : L[k]? = some (boxA C #[x] 29)) (hAB : A ≠ B) (hAC : A ≠ C) (hBC : B ≠ C) (u : TypeId) (pv : Value) (older : List PanicEntry) :
    CallsD Try.prog 53 #[.pointer (some ⟨A, 0, none⟩), .pointer (some ⟨B, 0, none⟩), .pointer (some ⟨C, 0, none⟩)] (.panicking ({ v := .iface u pv, recovered := false } :: older)) w fun e u' w' =>
      e = .returned (.tuple #[]) ∧ u' = .panicking ({ v := .iface u pv, recovered := true } :: older) ∧ w' = failW A B C w := by
  obtain ⟨⟨b0, b1, b2, b3, b4, b5⟩, bf⟩ := box6 (h.boxed i hi)
  have c0 : w.cell? ⟨B, 0, none⟩ = some r := cell_of_row _ _ _ _ _ _ (h.boxed j hj)
  have cf : w.frozen? ⟨B, 0, none⟩ = false := frozen_of_row w B 0 _ _ (h.boxed j hj)
  have d0 : w.cell? ⟨C, 0, none⟩ = some x := cell_of_row _ _ _ _ _ _ (h.boxed k hk)
  have df : w.frozen? ⟨C, 0, none⟩ = false := frozen_of_row w C 0 _ _ (h.boxed k hk)
  refine callsD_of_wpS Try.func53 rfl fun c₀ cs hu => ?_
  apply wpS_seq
  apply wpS_region
  simp [wpOpsS, go_sem, recoverD, hu, Try.ntmps53, Exit.thenS]
  refine wpS_cond (t := true) (by simp [Act.eval, Array.replicate]) ?_
  simp only [if_true]
  refine wpS_of_wp ?_
  rw [show (#[Value.pointer (some ⟨A, 0, none⟩), Value.pointer (some ⟨B, 0, none⟩), Value.pointer (some ⟨C, 0, none⟩)] ++ ((Array.replicate 3 undef).setIfInBounds 0 (Value.iface u pv)).setIfInBounds 1 (Value.bool true)) = #[Value.pointer (some ⟨A, 0, none⟩), Value.pointer (some ⟨B, 0, none⟩), Value.pointer (some ⟨C, 0, none⟩), Value.iface u pv, Value.bool true, undef] from rfl]
  have hBA := Ne.symm hAB
  have hCA := Ne.symm hAC
  have hCB := Ne.symm hBC
  have f0 := bf 0
  have f1 := bf 1
  have f2 := bf 2
  have f3 := bf 3
  have f4 := bf 4
  have f5 := bf 5
  clear bf h hi hj hk
  go_wp2
  cases c₀
  simp [bodyPostS, results, Try.results53, failW]
set_option maxRecDepth 100000 in
theorem catch_idle (A B C : Addr) (w : World) :
    CallsD Try.prog 53 #[.pointer (some A), .pointer (some B), .pointer (some C)] .returning w fun e u' w' => e = .returned (.tuple #[]) ∧ u' = .returning ∧ w' = w := by
  refine callsD_of_wpS Try.func53 rfl fun c₀ cs hu => ?_
  apply wpS_seq
  apply wpS_region
  simp [wpOpsS, go_sem, recoverD, hu, Try.ntmps53, Exit.thenS]
  refine wpS_cond (t := false) (by simp [Act.eval, Array.replicate]) ?_
  simp only [Bool.false_eq_true, if_false]
  refine wpS_of_wp (wp_skip ?_)
  cases c₀
  simp_all [bodyPostS, results, Try.results53]
/-- The results' boxes. -/
def eA (A : Nat) (x0 x1 x2 x3 : Value) (p q : Value) : As := boxA A #[x0, x1, x2, x3, p, q] 27
def rA (B : Nat) (r : ByteArray) : As := boxA B #[.string r] 9
def xA (C : Nat) (x : Int) : As := boxA C #[.int .i64 x] 29
theorem fail_own {w w1 : World} {A B C : Nat} {x0 x1 x2 x3 p q : Value} {r : ByteArray} {x : Int} (o : Mem.Own w [xA C x, rA B r, eA A x0 x1 x2 x3 p q] w1) : Mem.Own w [xA C 4, rA B ⟨#[]⟩, eA A (.int .i64 0) (.int .i64 0) (.int .i64 0) (.int .i64 0) (.slice none 0 0) (.slice none 0 0)] (failW A B C w1) :=
  ((((((((o.boxset 2 rfl 0 (.int .i64 0)).boxset 2 rfl 1 (.int .i64 0)).boxset 2 rfl 2 (.int .i64 0)).boxset 2 rfl 3 (.int .i64 0)).boxset 2 rfl 4 (.slice none 0 0)).boxset 2 rfl 5 (.slice none 0 0)).boxset 1 rfl 0 (.string ⟨#[]⟩)).boxset 0 rfl 0 (.int .i64 4))
set_option maxRecDepth 100000 in
theorem fail_leaves {w w1 : World} {s : ByteArray} {A B C : Nat} {x0 x1 x2 x3 p q : Value} {r : ByteArray} {x : Int} {t : Array Value} (o : Mem.Own w [xA C x, rA B r, eA A x0 x1 x2 x3 p q] w1) (hAB : A ≠ B) (hAC : A ≠ C) (hBC : B ≠ C) (hN : NoRead s)
    (h2 : t[2]? = some (.pointer (some ⟨A, 0, none⟩))) (h3 : t[3]? = some (.pointer (some ⟨B, 0, none⟩))) (h4 : t[4]? = some (.pointer (some ⟨C, 0, none⟩))) :
    Leaves Try.prog Try.f18 t (fun e w' => DecP w s e w') [{ target := Target.fn (Fn.func 53) #[.pointer (some ⟨A, 0, none⟩), .pointer (some ⟨B, 0, none⟩), .pointer (some ⟨C, 0, none⟩)], args := #[] }] (.panicking [{ v := .iface 29 (.int .i64 4), recovered := false }]) w1 := by
  refine leaves_cons (f := 53) (args := #[.pointer (some ⟨A, 0, none⟩), .pointer (some ⟨B, 0, none⟩), .pointer (some ⟨C, 0, none⟩)]) (by simp) (by simp [go_sem]) ?_
  refine (catch_panicking o 2 1 0 rfl rfl rfl hAB hAC hBC _ _ []).mono ?_
  rintro e u' w2 ⟨rfl, rfl, hw⟩
  have o2 := hw ▸ fail_own o
  clear hw
  obtain ⟨⟨b0, b1, b2, b3, b4, b5⟩, _⟩ := box6 (o2.boxed 2 rfl)
  have c0 : w2.cell? ⟨B, 0, none⟩ = some (.string ⟨#[]⟩) := cell_of_row _ _ _ _ _ _ (o2.boxed 1 rfl)
  have d0 : w2.cell? ⟨C, 0, none⟩ = some (.int .i64 4) := cell_of_row _ _ _ _ _ _ (o2.boxed 0 rfl)
  refine ⟨.tuple #[.agg #[.int .i64 0, .int .i64 0, .int .i64 0, .int .i64 0, .slice none 0 0, .slice none 0 0], .string ⟨#[]⟩, .int .i64 4], ?_, .inr ⟨hN, ⟨none, 0, 0, none, 0, 0⟩, rfl, ⟨At.empty _, AtE.empty _ _⟩, o2.kept⟩⟩
  simp [results, Try.results18, go_sem, h2, h3, h4, b0, b1, b2, b3, b4, b5, c0, d0]
set_option maxRecDepth 100000 in
theorem ok_leaves {w w1 : World} {s r : ByteArray} {A B C : Nat} {S : Sp} {x0 x1 x2 x3 : Int} {po uo : Option Addr} {pn pc un uc : Nat} {t : Array Value} (hS : S = ⟨x0, x1, x2, x3, S.ports, S.tasks⟩) (o : Mem.Own w [xA C 0, rA B r, eA A (.int .i64 x0) (.int .i64 x1) (.int .i64 x2) (.int .i64 x3) (.slice po pn pc) (.slice uo un uc)] w1) (hR : SpRead s S r) (hA : SpAt w1 S ⟨po, pn, pc, uo, un, uc⟩)
    (h2 : t[2]? = some (.pointer (some ⟨A, 0, none⟩))) (h3 : t[3]? = some (.pointer (some ⟨B, 0, none⟩))) (h4 : t[4]? = some (.pointer (some ⟨C, 0, none⟩))) :
    Leaves Try.prog Try.f18 t (fun e w' => DecP w s e w') [{ target := Target.fn (Fn.func 53) #[.pointer (some ⟨A, 0, none⟩), .pointer (some ⟨B, 0, none⟩), .pointer (some ⟨C, 0, none⟩)], args := #[] }] .returning w1 := by
  refine leaves_cons (f := 53) (args := #[.pointer (some ⟨A, 0, none⟩), .pointer (some ⟨B, 0, none⟩), .pointer (some ⟨C, 0, none⟩)]) (by simp) (by simp [go_sem]) ?_
  refine (catch_idle _ _ _ _).mono ?_
  rintro e u' w2 ⟨rfl, rfl, rfl⟩
  obtain ⟨⟨b0, b1, b2, b3, b4, b5⟩, _⟩ := box6 (o.boxed 2 rfl)
  have c0 : w2.cell? ⟨B, 0, none⟩ = some (.string r) := cell_of_row _ _ _ _ _ _ (o.boxed 1 rfl)
  have d0 : w2.cell? ⟨C, 0, none⟩ = some (.int .i64 0) := cell_of_row _ _ _ _ _ _ (o.boxed 0 rfl)
  refine ⟨.tuple #[.agg #[.int .i64 x0, .int .i64 x1, .int .i64 x2, .int .i64 x3, .slice po pn pc, .slice uo un uc], .string r, .int .i64 0], ?_, .inl ⟨S, ⟨po, pn, pc, uo, un, uc⟩, r, hR, by rw [hS]; rfl, hA, o.kept⟩⟩
  simp [results, Try.results18, go_sem, h2, h3, h4, b0, b1, b2, b3, b4, b5, c0, d0]
set_option maxHeartbeats 2000000 in
set_option maxRecDepth 100000 in
theorem sdec_c (s : ByteArray) (w : World) : Calls Try.prog 18 #[.string s] w fun e w' => DecP w s e w' := by
  have hmf : ∀ (fn : Fn) (first cap : Array Value) (w : World), (Instr.makeFunc fn first cap).run Try.prog w = .ok (.func fn first cap) w := fun _ _ _ _ => rfl
  have ob := ((Own.nil w).box #[.int .i64 0, .int .i64 0, .int .i64 0, .int .i64 0, .slice none 0 0, .slice none 0 0] 27).box #[.string ⟨#[]⟩] 9 |>.box #[.int .i64 0] 29
  have z1 : (w.alloc (.cells #[.int .i64 0, .int .i64 0, .int .i64 0, .int .i64 0, .slice none 0 0, .slice none 0 0] 27)).heap.size = w.heap.size + 1 := by simp
  have z2 : ((w.alloc (.cells #[.int .i64 0, .int .i64 0, .int .i64 0, .int .i64 0, .slice none 0 0, .slice none 0 0] 27)).alloc (.cells #[.string ⟨#[]⟩] 9)).heap.size = w.heap.size + 2 := by simp
  have z3 : (((w.alloc (.cells #[.int .i64 0, .int .i64 0, .int .i64 0, .int .i64 0, .slice none 0 0, .slice none 0 0] 27)).alloc (.cells #[.string ⟨#[]⟩] 9)).alloc (.cells #[.int .i64 0] 29)).heap.size = w.heap.size + 3 := by simp
  rw [z1, z2] at ob
  have OB := Lib.hid (show Mem.Own w [xA (w.heap.size + 2) 0, rA (w.heap.size + 1) ⟨#[]⟩, eA w.heap.size (.int .i64 0) (.int .i64 0) (.int .i64 0) (.int .i64 0) (.slice none 0 0) (.slice none 0 0)] (((w.alloc (.cells #[.int .i64 0, .int .i64 0, .int .i64 0, .int .i64 0, .slice none 0 0, .slice none 0 0] 27)).alloc (.cells #[.string ⟨#[]⟩] 9)).alloc (.cells #[.int .i64 0] 29)) from ob)
  have oa := (Own.nil (((w.alloc (.cells #[.int .i64 0, .int .i64 0, .int .i64 0, .int .i64 0, .slice none 0 0, .slice none 0 0] 27)).alloc (.cells #[.string ⟨#[]⟩] 9)).alloc (.cells #[.int .i64 0] 29))).box #[.string s] 79
  rw [z3] at oa
  have OA := Lib.hid (show Mem.Own (((w.alloc (.cells #[.int .i64 0, .int .i64 0, .int .i64 0, .int .i64 0, .slice none 0 0, .slice none 0 0] 27)).alloc (.cells #[.string ⟨#[]⟩] 9)).alloc (.cells #[.int .i64 0] 29)) [pdA (w.heap.size + 3) s] ((((w.alloc (.cells #[.int .i64 0, .int .i64 0, .int .i64 0, .int .i64 0, .slice none 0 0, .slice none 0 0] 27)).alloc (.cells #[.string ⟨#[]⟩] 9)).alloc (.cells #[.int .i64 0] 29)).alloc (.cells #[.string s] 79)) from oa)
  have Z3 := Lib.hid z3
  clear ob oa z1 z2 z3
  go_enter_defers Try.func18, Try.ntmps18
  go_upto_region 4 with (go_at_call 54; ((with_reducible refine (spec_q OA.out).mono ?_); rintro e w1 (⟨S, ⟨po, pn, pc, uo, un, uc⟩, t, rfl, hS, hO, hT⟩ | ⟨rfl, hN, hk⟩); rotate_left; exact fail_leaves (OB.out.later hk) (by omega) (by omega) (by omega) hN rfl rfl rfl; have B1 := Lib.hid (OB.out.later hO.kept); have S1 := Lib.hid hS; have R1 := Lib.hid hO; have T1 := Lib.hid hT; clear hS hO hT; obtain ⟨⟨a0, a1, a2, a3, a4, a5⟩, af⟩ := box6 (B1.out.boxed 2 rfl); have f0 := af 0; have f1 := af 1; have f2 := af 2; have f3 := af 3; have f4 := af 4; have f5 := af 5; clear af; unfold spC))
  obtain ⟨x0, x1, x2, x3, ports, tasks⟩ := S
  simp only []
  obtain ⟨W, hW⟩ : ∃ W, W = ((((((w1.setCell ⟨w.heap.size, 0, none⟩ (.int .i64 x0)).setCell ⟨w.heap.size, 1, none⟩ (.int .i64 x1)).setCell ⟨w.heap.size, 2, none⟩ (.int .i64 x2)).setCell ⟨w.heap.size, 3, none⟩ (.int .i64 x3)).setCell ⟨w.heap.size, 4, none⟩ (.slice po pn pc)).setCell ⟨w.heap.size, 5, none⟩ (.slice uo un uc)) := ⟨_, rfl⟩
  rw [← hW]
  have hF : w.heap.size ≤ w.heap.size ∧ w.heap.size < w.heap.size + 1 := by omega
  have ho : Only w.heap.size (w.heap.size + 1) w1 W := by
    rw [hW]
    exact ((((((Only.refl w.heap.size (w.heap.size + 1) w1).set hF).set hF).set hF).set hF).set hF).set hF
  have B2 := Lib.hid (show Mem.Own w [xA (w.heap.size + 2) 0, rA (w.heap.size + 1) ⟨#[]⟩, eA w.heap.size (.int .i64 x0) (.int .i64 x1) (.int .i64 x2) (.int .i64 x3) (.slice po pn pc) (.slice uo un uc)] W from by
    rw [hW]
    exact (((((B1.out.boxset 2 rfl 0 (.int .i64 x0)).boxset 2 rfl 1 (.int .i64 x1)).boxset 2 rfl 2 (.int .i64 x2)).boxset 2 rfl 3 (.int .i64 x3)).boxset 2 rfl 4 (.slice po pn pc)).boxset 2 rfl 5 (.slice uo un uc))
  have hS := S1.out
  rw [Z3.out] at hS
  have S2 := Lib.hid (show SpNew (w.heap.size + 3) W ⟨x0, x1, x2, x3, ports, tasks⟩ ⟨po, pn, pc, uo, un, uc⟩ from ⟨hS.ports.off fun g hg => ho.block g (by omega), hS.tasks.off fun g hg => ho.block g (by omega)⟩)
  have hr : W.heap[w.heap.size + 3]? = some (.cells #[.string t] 79 (0, 0)) := by rw [ho.block _ (by omega)]; exact R1.out.boxed 0 rfl
  have HR := Lib.hid hr
  have HD := Lib.hid (PTrk.done T1.out)
  have hchk := scheck_c S2.out.at
  unfold spC at hchk
  simp only [] at hchk
  obtain ⟨V, hV⟩ : ∃ V, V = spSays ⟨x0, x1, x2, x3, ports, tasks⟩ := ⟨_, rfl⟩
  rw [← hV] at hchk HD
  clear hV hr hS ho hF hW B1 S1 R1 T1 OA Z3 a0 a1 a2 a3 a4 a5 f0 f1 f2 f3 f4 f5
  obtain ⟨⟨a0, a1, a2, a3, a4, a5⟩, _⟩ := box6 (B2.out.boxed 2 rfl)
  by_cases hz : V = 0
  · have n0 : (V != 0) = false := by simp [hz]
    have HZ := Lib.hid (HD.out.1 hz)
    clear hz
    go_upto_region 6 with (go_at_call 14; ((with_reducible refine hchk.mono ?_); rintro e w2 ⟨rfl, k2⟩; have B3 := Lib.hid (B2.out.later k2); have hr := k2.block HR.out; have S3 := Lib.hid (S2.out.kept k2); clear k2))
    clear a0 a1 a2 a3 a4 a5
    have hr' : w2.drew.heap[w.heap.size + 3]? = some (.cells #[.string t] 79 (0, 0)) := hr
    obtain ⟨⟨a0, a1, a2, a3, a4, a5⟩, af⟩ := box6 (B3.out.boxed 2 rfl)
    have af0 := af 0
    have af1 := af 1
    have af2 := af 2
    have af3 := af 3
    have af4 := af 4
    have af5 := af 5
    clear af
    have aq0 : w2.cell? ⟨w.heap.size + 1 + 1 + 1, 0, none⟩ = some (.string t) := cell_of_row _ _ _ _ _ _ hr
    have ar0 : w2.cell? ⟨w.heap.size + 1, 0, none⟩ = some (.string ⟨#[]⟩) := cell_of_row _ _ _ _ _ _ (B3.out.boxed 1 rfl)
    have arf : w2.frozen? ⟨w.heap.size + 1, 0, none⟩ = false := frozen_of_row _ _ 0 _ _ (B3.out.boxed 1 rfl)
    have ax0 : w2.cell? ⟨w.heap.size + 1 + 1, 0, none⟩ = some (.int .i64 0) := cell_of_row _ _ _ _ _ _ (B3.out.boxed 0 rfl)
    have axf : w2.frozen? ⟨w.heap.size + 1 + 1, 0, none⟩ = false := frozen_of_row _ _ 0 _ _ (B3.out.boxed 0 rfl)
    obtain ⟨⟨e0, e1, e2, e3, e4, e5⟩, ef⟩ := box6 (B3.out.drew.boxed 2 rfl)
    have ef0 := ef 0
    have ef1 := ef 1
    have ef2 := ef 2
    have ef3 := ef 3
    have ef4 := ef 4
    have ef5 := ef 5
    clear ef
    have eq0 : w2.drew.cell? ⟨w.heap.size + 1 + 1 + 1, 0, none⟩ = some (.string t) := cell_of_row _ _ _ _ _ _ hr'
    have er0 : w2.drew.cell? ⟨w.heap.size + 1, 0, none⟩ = some (.string ⟨#[]⟩) := cell_of_row _ _ _ _ _ _ (B3.out.drew.boxed 1 rfl)
    have erf : w2.drew.frozen? ⟨w.heap.size + 1, 0, none⟩ = false := frozen_of_row _ _ 0 _ _ (B3.out.drew.boxed 1 rfl)
    have ex0 : w2.drew.cell? ⟨w.heap.size + 1 + 1, 0, none⟩ = some (.int .i64 0) := cell_of_row _ _ _ _ _ _ (B3.out.drew.boxed 0 rfl)
    have exf : w2.drew.frozen? ⟨w.heap.size + 1 + 1, 0, none⟩ = false := frozen_of_row _ _ 0 _ _ (B3.out.drew.boxed 0 rfl)
    clear hr hr' hchk n0
    go_wp2_with fail
    go_region
    all_goals
      go_wp2_with fail
      have hF : w.heap.size ≤ w.heap.size ∧ w.heap.size < w.heap.size + 3 := by omega
      have hG : w.heap.size ≤ w.heap.size + 1 ∧ w.heap.size + 1 < w.heap.size + 3 := by omega
      have hH : w.heap.size ≤ w.heap.size + 2 ∧ w.heap.size + 2 < w.heap.size + 3 := by omega
      have ho := ((((((((Only.refl w.heap.size (w.heap.size + 3) w2).set (p := ⟨w.heap.size, 0, none⟩) (v := .int .i64 x0) hF).set (p := ⟨w.heap.size, 1, none⟩) (v := .int .i64 x1) hF).set (p := ⟨w.heap.size, 2, none⟩) (v := .int .i64 x2) hF).set (p := ⟨w.heap.size, 3, none⟩) (v := .int .i64 x3) hF).set (p := ⟨w.heap.size, 4, none⟩) (v := .slice po pn pc) hF).set (p := ⟨w.heap.size, 5, none⟩) (v := .slice uo un uc) hF).set (p := ⟨w.heap.size + 1, 0, none⟩) (v := .string t) hG).set (p := ⟨w.heap.size + 2, 0, none⟩) (v := .int .i64 0) hH
      have nn : SpNew (w.heap.size + 3) _ ⟨x0, x1, x2, x3, ports, tasks⟩ ⟨po, pn, pc, uo, un, uc⟩ := ⟨S3.out.ports.off fun g hg => ho.block g (by omega), S3.out.tasks.off fun g hg => ho.block g (by omega)⟩
      exact ok_leaves (S := ⟨x0, x1, x2, x3, ports, tasks⟩) rfl ((((((((B3.out.boxset 2 rfl 0 (.int .i64 x0)).boxset 2 rfl 1 (.int .i64 x1)).boxset 2 rfl 2 (.int .i64 x2)).boxset 2 rfl 3 (.int .i64 x3)).boxset 2 rfl 4 (.slice po pn pc)).boxset 2 rfl 5 (.slice uo un uc)).boxset 1 rfl 0 (.string t)).boxset 0 rfl 0 (.int .i64 0)).drew HZ.out (nn.kept (Kept.refl _).drew).at rfl rfl rfl
  · have n0 : (V != 0) = true := by simp [hz]
    have HZ := Lib.hid (HD.out.2 hz)
    clear hz
    go_wp2_with (go_at_call 14; ((with_reducible refine hchk.mono ?_); rintro e w2 ⟨rfl, k2⟩; have B3 := Lib.hid (B2.out.later k2)))
    exact fail_leaves B3.out (by omega) (by omega) (by omega) HZ.out rfl rfl rfl
end Go.Proofs.YtngojgocplmedaaR.Ls
