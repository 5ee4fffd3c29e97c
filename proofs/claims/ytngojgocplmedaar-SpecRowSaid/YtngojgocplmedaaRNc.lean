/-
  Policies checked (package delay's Check); tasks and specifications checked (package spec's Check).
-/
import Derived.Test.YtngojgocplmedaaRNb
import Derived.Test.YtngojgocplmedaaRZm
namespace Go.Proofs.YtngojgocplmedaaR.Ls
open Go.RowKit Go.Proofs.YtngojgocplmedaaR.Mem Go.Proofs.YtngojgocplmedaaR.Bx Go.Proofs.YtngojgocplmedaaR.In Go.Proofs.YtngojgocplmedaaR.Sp Go.ChangeShapes Go.WideShapes Go.ChangeAt
set_option linter.unusedVariables false

def inside (n m : Int) : Bool := decide (1 ≤ n) && decide (n ≤ m)
set_option maxRecDepth 100000 in
theorem dwithin_c (n m : Int) (w : World) : Calls Try.prog 75 #[.int .i64 n, .int .i64 m] w fun e w' => e = .returned (.bool (inside n m)) ∧ w' = w := by
  go_enter Try.func75, Try.ntmps75
  by_cases h : 1 ≤ n
  · go_wp2
    go_ret
    exact ⟨by unfold inside; simp [h], rfl⟩
  · go_wp2
    go_ret
    exact ⟨by unfold inside; rw [decide_eq_false (p := 1 ≤ n) (by omega)]; rfl, rfl⟩
theorem polGood_inside (t : Tsk) : polGood t ↔ inside t.lim 8 = true ∧ inside t.win 1099511627776 = true ∧ inside t.most 1099511627776 = true ∧ inside t.bas t.most = true := by
  unfold polGood inside; simp
set_option maxRecDepth 100000 in
theorem dpol_c (t : Tsk) (w : World) : Calls Try.prog 65 #[.agg #[.bool t.always, .int .i64 t.lim, .int .i64 t.win, .int .i64 t.bas, .int .i64 t.most]] w fun e w' => e = .returned (.int .i64 (polSays t)) ∧ Kept w w' := by
  have hg := polGood_inside t
  have hp : polSays t = if polGood t then 0 else 3 := rfl
  obtain ⟨S, hS⟩ : ∃ S, S = polSays t := ⟨_, rfl⟩
  obtain ⟨P, hP⟩ : ∃ P, P = polGood t := ⟨_, rfl⟩
  rw [← hS] at hp
  rw [← hS]
  have hok : P → S = 0 := fun h => by rw [hp, if_pos (hP ▸ h)]
  have hno : ¬ P → S = 3 := fun h => by rw [hp, if_neg (hP ▸ h)]
  rw [← hP] at hg
  clear hp hS hP
  obtain ⟨al, lim, win, bas, most, prb⟩ := t
  have c1 := dwithin_c lim 8
  have c2 := dwithin_c win 1099511627776
  have c3 := dwithin_c most 1099511627776
  have c4 := dwithin_c bas most
  simp only [] at hg ⊢
  generalize inside lim 8 = q1 at *
  generalize inside win 1099511627776 = q2 at *
  generalize inside most 1099511627776 = q3 at *
  generalize inside bas most = q4 at *
  have kb : Kept w (w.alloc (.cells #[.bool al, .int .i64 lim, .int .i64 win, .int .i64 bas, .int .i64 most] 35)) := (Kept.refl w).alloc _
  have HG := Lib.hid (And.intro hg kb)
  have HO := Lib.hid (And.intro hok hno)
  clear hg kb hok hno
  go_enter Try.func65, Try.ntmps65
  cases q1
  · go_wp2_with (go_at_call 75; first | (with_reducible refine (c1 _).mono ?_; rintro e w' ⟨rfl, rfl⟩))
    go_ret
    exact ⟨by rw [HO.out.2 (by rw [HG.out.1]; simp)]; rfl, HG.out.2⟩
  · skip
    cases q2
    · go_wp2_with (go_at_call 75; first | (with_reducible refine (c1 _).mono ?_; rintro e w' ⟨rfl, rfl⟩) | (with_reducible refine (c2 _).mono ?_; rintro e w' ⟨rfl, rfl⟩))
      go_ret
      exact ⟨by rw [HO.out.2 (by rw [HG.out.1]; simp)]; rfl, HG.out.2⟩
    · skip
      cases q3
      · go_wp2_with (go_at_call 75; first | (with_reducible refine (c1 _).mono ?_; rintro e w' ⟨rfl, rfl⟩) | (with_reducible refine (c2 _).mono ?_; rintro e w' ⟨rfl, rfl⟩) | (with_reducible refine (c3 _).mono ?_; rintro e w' ⟨rfl, rfl⟩))
        go_ret
        exact ⟨by rw [HO.out.2 (by rw [HG.out.1]; simp)]; rfl, HG.out.2⟩
      · skip
        cases q4
        · go_wp2_with (go_at_call 75; first | (with_reducible refine (c1 _).mono ?_; rintro e w' ⟨rfl, rfl⟩) | (with_reducible refine (c2 _).mono ?_; rintro e w' ⟨rfl, rfl⟩) | (with_reducible refine (c3 _).mono ?_; rintro e w' ⟨rfl, rfl⟩) | (with_reducible refine (c4 _).mono ?_; rintro e w' ⟨rfl, rfl⟩))
          go_ret
          exact ⟨by rw [HO.out.2 (by rw [HG.out.1]; simp)]; rfl, HG.out.2⟩
        · go_wp2_with (go_at_call 75; first | (with_reducible refine (c1 _).mono ?_; rintro e w' ⟨rfl, rfl⟩) | (with_reducible refine (c2 _).mono ?_; rintro e w' ⟨rfl, rfl⟩) | (with_reducible refine (c3 _).mono ?_; rintro e w' ⟨rfl, rfl⟩) | (with_reducible refine (c4 _).mono ?_; rintro e w' ⟨rfl, rfl⟩))
          go_ret
          exact ⟨by rw [HO.out.1 (by rw [HG.out.1]; simp)]; rfl, HG.out.2⟩

/-! ### A task's policy, as a closure -/
def taskC (t : Tsk) : Array Value := #[.bool t.always, .int .i64 t.lim, .int .i64 t.win, .int .i64 t.bas, .int .i64 t.most, .int .i64 t.prb]
def taskCl (B : Nat) : Cl := ⟨64, #[.pointer (some ⟨B, 0, none⟩)]⟩
theorem task_runs (B : Nat) : ∀ W, (callFunc (taskCl B).G (taskCl B).cap).run Try.prog W = .ok (.enter (taskCl B).G (taskCl B).cap) W := fun W => by kernel_rfl
set_option maxRecDepth 100000 in
theorem task1_c {w : World} {B : Nat} {t : Tsk} (h : w.heap[B]? = some (.cells (taskC t) 37 (0, 0))) :
    Calls Try.prog 64 #[.pointer (some ⟨B, 0, none⟩)] w fun e w' => e = .returned (.int .i64 (polSays t)) ∧ Kept w w' := by
  have hd := dpol_c t
  obtain ⟨S, hS⟩ : ∃ S, S = polSays t := ⟨_, rfl⟩
  rw [← hS] at hd ⊢
  clear hS
  obtain ⟨al, lim, win, bas, most, prb⟩ := t
  simp only [] at hd
  unfold taskC at h
  obtain ⟨⟨a0, a1, a2, a3, a4, a5⟩, _⟩ := box6 h
  clear h
  go_enter Try.func64, Try.ntmps64
  go_wp2_with (go_at_call 65; (with_reducible refine (hd _).mono ?_); rintro e w1 ⟨rfl, k1⟩)
  go_ret
  exact ⟨rfl, k1⟩
theorem task_clo {w : World} {B : Nat} {t : Tsk} (h : w.heap[B]? = some (.cells (taskC t) 37 (0, 0))) : Clo w (taskCl B) (polSays t) :=
  ⟨task_runs B, fun W K => task1_c (K.block h)⟩
/-- What the closures of the tasks answer, one after another. -/
def taskRs : List Tsk → List Int
  | [] => []
  | t :: l => polSays t :: inS t.prb 0 1000 :: taskRs l
theorem taskRs_len : ∀ l : List Tsk, (taskRs l).length = 2 * l.length
  | [] => rfl
  | t :: l => by simp [taskRs, taskRs_len l]; omega
theorem taskRs_snoc (l : List Tsk) (t : Tsk) : taskRs (l ++ [t]) = taskRs l ++ [polSays t, inS t.prb 0 1000] := by
  induction l with
  | nil => rfl
  | cons x l ih => simp [taskRs, ih]
theorem firstV_tasks : ∀ l : List Tsk, firstV (taskRs l) = tasksSay l
  | [] => rfl
  | t :: l => by
    unfold taskRs tasksSay
    unfold firstV
    by_cases h : polSays t = 0
    · rw [if_pos h, if_neg (by simp [h])]
      unfold firstV inS
      by_cases h2 : t.prb < 0 ∨ 1000 < t.prb
      · rw [if_pos h2, if_pos h2]; rfl
      · rw [if_neg h2, if_neg h2, if_pos rfl]; exact firstV_tasks l
    · rw [if_neg h, if_pos h]
/-- The closures cs answer rs, by boxes among Z. -/
def Good (Z : List As) (cs : List Cl) (rs : List Int) : Prop :=
  ∀ (j : Nat) (c : Cl), cs[j]? = some c → ∃ r, rs[j]? = some r ∧
    ((∃ (t : Tsk) (B : Nat), boxA B (taskC t) 37 ∈ Z ∧ c = taskCl B ∧ r = polSays t) ∨
     (∃ (n lo hi : Int) (B : Nat), boxA B #[.int .i64 n] 3 ∈ Z ∧ boxA (B + 1) #[.int .i64 lo] 3 ∈ Z ∧ boxA (B + 2) #[.int .i64 hi] 3 ∈ Z ∧ c = withinCl B ∧ r = inS n lo hi))
theorem Good.clo {w0 w : World} {L Z : List As} {cs : List Cl} {rs : List Int} (h : Good Z cs rs) (o : Mem.Own w0 L w) (hz : ∀ a ∈ Z, a ∈ L) : ∀ (j : Nat) (c : Cl), cs[j]? = some c → ∃ r, rs[j]? = some r ∧ Clo w c r := by
  intro j c hj
  have box : ∀ {B : Nat} {cs : Array Value} {T : TypeId}, boxA B cs T ∈ Z → w.heap[B]? = some (.cells cs T (0, 0)) := fun hb => by
    obtain ⟨i, hi, e⟩ := List.getElem_of_mem (hz _ hb)
    exact o.boxed i (by rw [List.getElem?_eq_getElem hi, e])
  obtain ⟨r, hr, ⟨t, B, hb, rfl, rfl⟩ | ⟨n, lo, hi, B, b0, b1, b2, rfl, rfl⟩⟩ := h j c hj
  · exact ⟨_, hr, task_clo (box hb)⟩
  · exact ⟨_, hr, within_clo (box b0) (box b1) (box b2)⟩
theorem Good.add {Z : List As} {cs : List Cl} {rs : List Int} (h : Good Z cs rs) (hl : cs.length = rs.length) (t : Tsk) (B C : Nat) :
    Good (boxA (C + 2) #[.int .i64 1000] 3 :: boxA (C + 1) #[.int .i64 0] 3 :: boxA C #[.int .i64 t.prb] 3 :: boxA B (taskC t) 37 :: Z) (cs ++ [taskCl B, withinCl C]) (rs ++ [polSays t, inS t.prb 0 1000]) := by
  intro j c hj
  by_cases h1 : j < cs.length
  · rw [List.getElem?_append_left h1] at hj
    obtain ⟨r, hr, hh⟩ := h j c hj
    refine ⟨r, by rw [List.getElem?_append_left (by omega)]; exact hr, ?_⟩
    rcases hh with ⟨t, B, hb, rfl, rfl⟩ | ⟨n, lo, hi, B, b0, b1, b2, rfl, rfl⟩
    · exact .inl ⟨t, B, by simp [hb], rfl, rfl⟩
    · exact .inr ⟨n, lo, hi, B, by simp [b0], by simp [b1], by simp [b2], rfl, rfl⟩
  · rw [List.getElem?_append_right (by omega)] at hj
    rw [List.getElem?_append_right (by omega), ← hl]
    generalize j - cs.length = i at hj ⊢
    match i, hj with
    | 0, hj => cases hj; exact ⟨_, rfl, .inl ⟨t, B, by simp, rfl, rfl⟩⟩
    | 1, hj => cases hj; exact ⟨_, rfl, .inr ⟨t.prb, 0, 1000, C, by simp, by simp, by simp, rfl, rfl⟩⟩
    | i + 2, hj => simp at hj
theorem _root_.List.take_succ_eq_snoc {α : Type} {l : List α} {j : Nat} {x : α} (h : l[j]? = some x) : l.take (j + 1) = l.take j ++ [x] := by
  rw [List.take_add_one, h]; rfl
/-- Two closures more at the end of a row of the call's own. -/
theorem list_two {w0 w wa : World} {Z : List As} {ao bo : Option Addr} {n cap c N : Nat} {l k : List Cl} {ops : Array Oper} {rest : List Oper} {o : Oper} {a : Act} {Q : Exit → Act → World → Prop}
    (h : Mem.Own w0 (Z ++ [rowA elC.T elC.k (.slice ao n cap) n (l.flatMap elC.cs)]) w) (hl : l.length = n) (ka : Kept w wa) (s : AtE elC wa bo 2 c k) (hN : n + 2 = N) (hb : N ≤ 1000000)
    (hgd : o.guard = none) (p q : Operand) (ho : o.op = .call { callee := .builtin .append, args := #[p, q], argTypes := #[elC.S, elC.S] }) (hp : a.eval p = .slice ao n cap) (hq : a.eval q = .slice bo 2 c)
    (hK : ∀ ao' cap' w', Mem.Own w0 (Z ++ [rowA elC.T elC.k (.slice ao' N cap') N ((l ++ k).flatMap elC.cs)]) w' → wpList Try.prog ops Q rest (a.put o.dst (.slice ao' N cap')) w') : wpList Try.prog ops Q (o :: rest) a wa := by
  subst hN
  refine wpList_plain hgd fun K' hK' => ?_
  have hi : (Z ++ [rowA elC.T elC.k (.slice ao n cap) n (l.flatMap elC.cs)])[Z.length]? = some (rowA elC.T elC.k (.slice ao n cap) n (l.flatMap elC.cs)) := by simp
  obtain ⟨ao', cap', w', hrun, hnew, hg, hloc⟩ := run_appE elC_fine (B := 0) ⟨hl, (h.later ka).row Z.length hi⟩ s (Nat.zero_le _) hb o.type
  unfold Oper.wp
  simp [execOp, ho, resolve, invoke, builtin, hp, hq, hrun, Result.andThen]
  have hO := own_appended h Z.length hi ka hnew.2 hg hloc
  rw [List.set_append_right _ _ (Nat.le_refl _), Nat.sub_self] at hO
  exact hK' _ _ (hK _ _ _ hO)
theorem lit2 (w : World) (a b : Cl) : AtE elC (w.alloc (.cells #[.func (.func a.G) #[] a.cap, .func (.func b.G) #[] b.cap] 68)) (some ⟨w.heap.size, 0, none⟩) 2 2 [a, b] :=
  (NewE.lit elC_fine (B := 0) w (Nat.zero_le _) [a, b] (by simp [maxLen])).at elC_fine

set_option maxHeartbeats 2000000 in
set_option maxRecDepth 100000 in
theorem checkTasks_c {w : World} {ao : Option Addr} {n cap : Nat} {l : List Tsk} (h : AtE elT w ao n cap l) (hn : n ≤ 4) : Calls Try.prog 45 #[.slice ao n cap] w fun e w' => e = .returned (.int .i64 (tasksSay l)) ∧ Kept w w' := by
  have H := Lib.hid h
  clear h
  have hmf : ∀ (fn : Fn) (first cap : Array Value) (w : World), (Instr.makeFunc fn first cap).run Try.prog w = .ok (.func fn first cap) w := fun _ _ _ _ => rfl
  have O0 := Lib.hid ((Own.nil w).newRow elC.T elC.k)
  go_enter Try.func45, Try.ntmps45
  go_wp2
  go_loopw [3, 8] (fun v i wr => ∃ (j N c : Nat) (bo : Option Addr) (Z : List As) (cs : List Cl), j ≤ n ∧ N = 2 * j ∧ i = .int .i64 j ∧ v = .slice bo N c ∧ cs.length = N ∧ Good Z cs (taskRs (l.take j)) ∧ Mem.Own w (Z ++ [rowA elC.T elC.k (.slice bo N c) N (cs.flatMap elC.cs)]) wr) (fun _ i _ => n - (RowKit.intOf i).toNat)
  case atStart => exact ⟨0, 0, 0, none, [], [], Nat.zero_le _, rfl, rfl, rfl, rfl, fun j c hj => by simp at hj, O0.out⟩
  case round =>
    obtain ⟨j, N, c, bo, Z, cs, hj, hN, rfl, rfl, hl, hG, hO⟩ := hrel
    have R := Lib.hid (And.intro hN (And.intro hl (And.intro hG hO)))
    have N8 : N ≤ 8 := by omega
    clear hN hl hG hO
    by_cases hlt : j < n
    · obtain ⟨x, g, o, hx, rfl, hg, hcell⟩ := (H.out.kept R.out.2.2.2.kept).get hlt
      obtain ⟨a0, a1, a2, a3, a4, a5⟩ := task_cells hcell
      have HX := Lib.hid hx
      clear hx hcell
      obtain ⟨al, lim, win, bas, most, prb⟩ := x
      simp only [] at a0 a1 a2 a3 a4 a5
      have OB := Lib.hid (R.out.2.2.2.box (taskC ⟨al, lim, win, bas, most, prb⟩) 37)
      have B5 := box6 (OB.out.boxed 0 rfl)
      obtain ⟨⟨_, _, _, _, _, b5⟩, _⟩ := B5
      go_wp2_with (first
        | (at_builtin; refine list_two OZ.out (by rw [R.out.2.1]) kT.out sT.out rfl (by omega) rfl _ _ rfl rfl rfl ?_; intro ao' cap' u3 o3; have O3 := Lib.hid o3; clear o3)
        | (go_at_call 37; (with_reducible refine (within_e prb 0 1000 _).mono ?_); rintro e w1 ⟨C, rfl, k1, ho⟩; have OZ := Lib.hid (show Mem.Own w ((boxA (C + 2) #[.int .i64 1000] 3 :: boxA (C + 1) #[.int .i64 0] 3 :: boxA C #[.int .i64 prb] 3 :: boxA wr.heap.size (taskC ⟨al, lim, win, bas, most, prb⟩) 37 :: Z) ++ [rowA elC.T elC.k (.slice bo N c) N (cs.flatMap elC.cs)]) w1 from ho _ _ OB.out); have sT := Lib.hid (show AtE elC (w1.alloc (.cells #[.func (.func 64) #[] #[.pointer (some ⟨wr.heap.size, 0, none⟩)], .func (.func 62) #[] #[.pointer (some ⟨C, 0, none⟩), .pointer (some ⟨C + 1, 0, none⟩), .pointer (some ⟨C + 2, 0, none⟩)]] 68)) (some ⟨w1.heap.size, 0, none⟩) 2 2 [taskCl wr.heap.size, withinCl C] from lit2 w1 (taskCl wr.heap.size) (withinCl C)); have kT := Lib.hid ((Kept.refl w1).alloc (.cells #[.func (.func 64) #[] #[.pointer (some ⟨wr.heap.size, 0, none⟩)], .func (.func 62) #[] #[.pointer (some ⟨C, 0, none⟩), .pointer (some ⟨C + 1, 0, none⟩), .pointer (some ⟨C + 2, 0, none⟩)]] 68)); have hg := b5; clear k1 ho hg))
      go_roundw
      case rel =>
        refine ⟨j + 1, N + 2, cap', ao', _, _, by omega, by have := R.out.1; omega, by go_num, rfl, by simp [R.out.2.1], ?_, O3.out⟩
        have hG := R.out.2.2.1.add (by rw [taskRs_len, List.length_take, H.out.len, R.out.2.1, R.out.1]; omega) ⟨al, lim, win, bas, most, prb⟩ wr.heap.size C
        rw [← taskRs_snoc, ← List.take_succ_eq_snoc HX.out] at hG
        exact hG
      case measure => simp [RowKit.intOf]; omega
    · obtain rfl : j = n := by omega
      have hr := row_base (e := elC.T) (size := elC.k) (v := .slice bo N c) (n := N) (xs := cs.flatMap elC.cs) R.out.2.2.2 Z.length (by simp)
      have HR := Lib.hid (NewE.at elC_fine (B := w.heap.size) ⟨R.out.2.1, hr⟩)
      have HV := Lib.hid (firstV_tasks l)
      have ht : l.take j = l := List.take_of_length_le (by rw [H.out.len]; exact Nat.le_refl _)
      have HC := Lib.hid (R.out.2.2.1.clo R.out.2.2.2 (fun a ha => by simp [ha]))
      have hll : (taskRs (l.take j)).length = N := by rw [ht, taskRs_len, H.out.len, R.out.1]
      rw [ht] at hll HC
      have HL := Lib.hid hll
      clear hr ht hll
      go_wp2_with (go_at_call 36; (with_reducible refine (first_c HR.out (fun j c hj => by obtain ⟨r, hr, hc⟩ := HC.out j c hj; exact ⟨r, hr, fun _ => hc⟩) HL.out).mono ?_); rintro e w1 ⟨rfl, k1⟩; rw [HV.out])
      go_ret
      exact ⟨rfl, R.out.2.2.2.kept.trans k1⟩
end Go.Proofs.YtngojgocplmedaaR.Ls
