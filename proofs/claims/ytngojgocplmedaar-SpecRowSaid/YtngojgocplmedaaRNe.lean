/-
  Configurations checked (package spec's Need and Config).
-/
import Derived.Test.YtngojgocplmedaaRNd
namespace Go.Proofs.YtngojgocplmedaaR.Ls
open Go.RowKit Go.Proofs.YtngojgocplmedaaR.Mem Go.Proofs.YtngojgocplmedaaR.Bx Go.Proofs.YtngojgocplmedaaR.In Go.Proofs.YtngojgocplmedaaR.Sp Go.ChangeShapes Go.WideShapes Go.ChangeAt
set_option linter.unusedVariables false

set_option maxRecDepth 100000 in
theorem need_c (a : Int) (w : World) : Calls Try.prog 22 #[.int .i64 a] w fun e w' => e = .returned (.int .i64 (needV a)) ∧ Kept w w' := by
  by_cases h1 : a < 1
  · have F := Lib.hid (show needV a = 0 by unfold needV inR; rw [if_neg (by simp; omega)])
    go_enter Try.func22, Try.ntmps22
    go_wp2
    go_ret
    exact ⟨by rw [F.out]; rfl, Kept.refl _⟩
  · by_cases h2 : 8 < a
    · have F := Lib.hid (show needV a = 0 by unfold needV inR; rw [if_neg (by simp; omega)])
      go_enter Try.func22, Try.ntmps22
      go_wp2
      go_ret
      exact ⟨by rw [F.out]; rfl, Kept.refl _⟩
    · have F := Lib.hid (show needV a = 16 * (a + 1) by unfold needV inR; rw [if_pos (by simp; omega)])
      go_enter Try.func22, Try.ntmps22
      go_wp2
      go_ret
      exact ⟨by rw [F.out]; rfl, Kept.refl _⟩
theorem inS_inR (n lo hi : Int) : inS n lo hi = if inR n lo hi then 0 else 3 := by
  unfold inS inR
  by_cases h : n < lo ∨ hi < n
  · rw [if_pos h, if_neg (by simp; omega)]
  · rw [if_neg h, if_pos (by simp; omega)]
theorem cf_first (c m d a0 a1 a2 a3 a4 a5 a6 a7 V E : Int) (hV : V = needV a0) (hE : E = (⟨c, m, d⟩ : Re.Am).says) : firstV [E, inS a0 1 8, inS a1 V 1024, inS a2 2 16, inS a3 1 64, inS a4 1 1099511627776, inS a5 1 1099511627776, inS a6 0 1099511627776, inS a7 0 1099511627776] = cfSays ⟨c, m, d, a0, a1, a2, a3, a4, a5, a6, a7⟩ := by
  unfold cfSays cfOk
  simp only [inS_inR, ← hV, ← hE]
  by_cases h : E = 0
  · rw [if_neg (show ¬ E ≠ 0 from fun k => k h)]
    simp only [firstV, if_pos h]
    clear h hV hE
    generalize inR a0 1 8 = q0
    generalize inR a1 V 1024 = q1
    generalize inR a2 2 16 = q2
    generalize inR a3 1 64 = q3
    generalize inR a4 1 1099511627776 = q4
    generalize inR a5 1 1099511627776 = q5
    generalize inR a6 0 1099511627776 = q6
    generalize inR a7 0 1099511627776 = q7
    cases q0 <;> cases q1 <;> cases q2 <;> cases q3 <;> cases q4 <;> cases q5 <;> cases q6 <;> cases q7 <;> (first | rfl | simp)
  · rw [if_pos h]
    simp only [firstV, if_neg h]
set_option maxRecDepth 100000 in
theorem conf1_c {w : World} {B : Nat} {c m d a0 a1 a2 a3 a4 a5 a6 a7 : Int} (hb : w.heap[B]? = some (.cells #[.int .i64 c, .int .i64 m, .int .i64 d, .int .i64 a0, .int .i64 a1, .int .i64 a2, .int .i64 a3, .int .i64 a4, .int .i64 a5, .int .i64 a6, .int .i64 a7] 43 (0, 0))) :
    Calls Try.prog 56 #[.pointer (some ⟨B, 0, none⟩)] w fun e w' => e = .returned (.int .i64 ((⟨c, m, d⟩ : Re.Am).says)) ∧ Kept w w' := by
  have hr := Re.check_c ⟨c, m, d⟩
  obtain ⟨V, hV⟩ : ∃ V, V = (⟨c, m, d⟩ : Re.Am).says := ⟨_, rfl⟩
  rw [← hV] at hr ⊢
  clear hV
  simp only [] at hr
  have b0 : w.cell? ⟨B, 0, none⟩ = some (.int .i64 c) := cell_of_row _ _ _ _ _ _ hb
  have b1 : w.cell? ⟨B, 1, none⟩ = some (.int .i64 m) := cell_of_row _ _ _ _ _ _ hb
  have b2 : w.cell? ⟨B, 2, none⟩ = some (.int .i64 d) := cell_of_row _ _ _ _ _ _ hb
  clear hb
  go_enter Try.func56, Try.ntmps56
  go_wp2_with (go_at_call 39; (with_reducible refine (hr _).mono ?_); rintro e w1 ⟨rfl, k1⟩)
  go_ret
  exact ⟨rfl, k1⟩
theorem conf1_runs (B : Nat) : ∀ W, (callFunc 56 #[.pointer (some ⟨B, 0, none⟩)]).run Try.prog W = .ok (.enter 56 #[.pointer (some ⟨B, 0, none⟩)]) W := fun W => by kernel_rfl
/-- The closures of Config. -/
def confCl (B : Nat) (p0 p1 p2 p3 p4 p5 p6 p7 : Array Value) : List Cl := [⟨56, #[.pointer (some ⟨B, 0, none⟩)]⟩, ⟨62, p0⟩, ⟨62, p1⟩, ⟨62, p2⟩, ⟨62, p3⟩, ⟨62, p4⟩, ⟨62, p5⟩, ⟨62, p6⟩, ⟨62, p7⟩]
theorem lit9 (w : World) (x0 x1 x2 x3 x4 x5 x6 x7 x8 : Cl) : AtE elC (w.alloc (.cells #[.func (.func x0.G) #[] x0.cap, .func (.func x1.G) #[] x1.cap, .func (.func x2.G) #[] x2.cap, .func (.func x3.G) #[] x3.cap, .func (.func x4.G) #[] x4.cap, .func (.func x5.G) #[] x5.cap, .func (.func x6.G) #[] x6.cap, .func (.func x7.G) #[] x7.cap, .func (.func x8.G) #[] x8.cap] 68)) (some ⟨w.heap.size, 0, none⟩) 9 9 [x0, x1, x2, x3, x4, x5, x6, x7, x8] :=
  (NewE.lit elC_fine (B := 0) w (Nat.zero_le _) [x0, x1, x2, x3, x4, x5, x6, x7, x8] (by simp [maxLen])).at elC_fine
theorem conf_lit (w : World) (B : Nat) (p0 p1 p2 p3 p4 p5 p6 p7 : Array Value) : AtE elC (w.alloc (.cells #[.func (.func 56) #[] #[.pointer (some ⟨B, 0, none⟩)], .func (.func 62) #[] p0, .func (.func 62) #[] p1, .func (.func 62) #[] p2, .func (.func 62) #[] p3, .func (.func 62) #[] p4, .func (.func 62) #[] p5, .func (.func 62) #[] p6, .func (.func 62) #[] p7] 68)) (some ⟨w.heap.size, 0, none⟩) 9 9 (confCl B p0 p1 p2 p3 p4 p5 p6 p7) := lit9 w ⟨56, #[.pointer (some ⟨B, 0, none⟩)]⟩ ⟨62, p0⟩ ⟨62, p1⟩ ⟨62, p2⟩ ⟨62, p3⟩ ⟨62, p4⟩ ⟨62, p5⟩ ⟨62, p6⟩ ⟨62, p7⟩
theorem conf_clos {W : World} {B : Nat} {p0 p1 p2 p3 p4 p5 p6 p7 : Array Value} {c m d a0 a1 a2 a3 a4 a5 a6 a7 V E : Int} (hE : E = (⟨c, m, d⟩ : Re.Am).says) (hb : W.heap[B]? = some (.cells #[.int .i64 c, .int .i64 m, .int .i64 d, .int .i64 a0, .int .i64 a1, .int .i64 a2, .int .i64 a3, .int .i64 a4, .int .i64 a5, .int .i64 a6, .int .i64 a7] 43 (0, 0)))
    (h0 : Clo W ⟨62, p0⟩ (inS a0 1 8)) (h1 : Clo W ⟨62, p1⟩ (inS a1 V 1024)) (h2 : Clo W ⟨62, p2⟩ (inS a2 2 16)) (h3 : Clo W ⟨62, p3⟩ (inS a3 1 64)) (h4 : Clo W ⟨62, p4⟩ (inS a4 1 1099511627776)) (h5 : Clo W ⟨62, p5⟩ (inS a5 1 1099511627776)) (h6 : Clo W ⟨62, p6⟩ (inS a6 0 1099511627776)) (h7 : Clo W ⟨62, p7⟩ (inS a7 0 1099511627776)) :
    ∀ (j : Nat) (x : Cl), (confCl B p0 p1 p2 p3 p4 p5 p6 p7)[j]? = some x → ∃ r, [E, inS a0 1 8, inS a1 V 1024, inS a2 2 16, inS a3 1 64, inS a4 1 1099511627776, inS a5 1 1099511627776, inS a6 0 1099511627776, inS a7 0 1099511627776][j]? = some r ∧ ((∀ (i : Nat) (q : Int), i < j → [E, inS a0 1 8, inS a1 V 1024, inS a2 2 16, inS a3 1 64, inS a4 1 1099511627776, inS a5 1 1099511627776, inS a6 0 1099511627776, inS a7 0 1099511627776][i]? = some q → q = 0) → Clo W x r) := by
  intro j x hj
  match j, hj with
  | 0, hj => cases hj; exact ⟨_, rfl, fun _ => ⟨conf1_runs B, fun X K => hE ▸ conf1_c (K.block hb)⟩⟩
  | 1, hj => cases hj; exact ⟨_, rfl, fun _ => h0⟩
  | 2, hj => cases hj; exact ⟨_, rfl, fun _ => h1⟩
  | 3, hj => cases hj; exact ⟨_, rfl, fun _ => h2⟩
  | 4, hj => cases hj; exact ⟨_, rfl, fun _ => h3⟩
  | 5, hj => cases hj; exact ⟨_, rfl, fun _ => h4⟩
  | 6, hj => cases hj; exact ⟨_, rfl, fun _ => h5⟩
  | 7, hj => cases hj; exact ⟨_, rfl, fun _ => h6⟩
  | 8, hj => cases hj; exact ⟨_, rfl, fun _ => h7⟩
  | j + 9, hj => simp [confCl] at hj
set_option maxHeartbeats 4000000 in
set_option maxRecDepth 100000 in
theorem sconf_c (f : Cf) (w : World) : Calls Try.prog 20 #[.agg (cfC f)] w fun e w' => e = .returned (.int .i64 (cfSays f)) ∧ Kept w w' := by
  have hmf : ∀ (fn : Fn) (first cap : Array Value) (w : World), (Instr.makeFunc fn first cap).run Try.prog w = .ok (.func fn first cap) w := fun _ _ _ _ => rfl
  obtain ⟨c, m, d, a0, a1, a2, a3, a4, a5, a6, a7⟩ := f
  have hneed := need_c a0
  obtain ⟨V, hV⟩ : ∃ V, V = needV a0 := ⟨_, rfl⟩
  rw [← hV] at hneed
  obtain ⟨E, hE⟩ : ∃ E, E = (⟨c, m, d⟩ : Re.Am).says := ⟨_, rfl⟩
  have hf := cf_first c m d a0 a1 a2 a3 a4 a5 a6 a7 V E hV hE
  rw [← hf]
  have HE := Lib.hid hE
  clear hf hV hE
  obtain ⟨X, hX⟩ : ∃ X, X = firstV [E, inS a0 1 8, inS a1 V 1024, inS a2 2 16, inS a3 1 64, inS a4 1 1099511627776, inS a5 1 1099511627776, inS a6 0 1099511627776, inS a7 0 1099511627776] := ⟨_, rfl⟩
  rw [← hX]
  have HX := Lib.hid hX
  clear hX
  have O := Lib.hid ((Own.nil w).box #[.int .i64 c, .int .i64 m, .int .i64 d, .int .i64 a0, .int .i64 a1, .int .i64 a2, .int .i64 a3, .int .i64 a4, .int .i64 a5, .int .i64 a6, .int .i64 a7] 43)
  unfold cfC
  simp only []
  have HB := Lib.hid (show ∀ W, Kept (w.alloc (.cells #[.int .i64 c, .int .i64 m, .int .i64 d, .int .i64 a0, .int .i64 a1, .int .i64 a2, .int .i64 a3, .int .i64 a4, .int .i64 a5, .int .i64 a6, .int .i64 a7] 43)) W → (W.cell? ⟨w.heap.size, 3, none⟩ = some (.int .i64 a0) ∧ W.cell? ⟨w.heap.size, 4, none⟩ = some (.int .i64 a1) ∧ W.cell? ⟨w.heap.size, 5, none⟩ = some (.int .i64 a2) ∧ W.cell? ⟨w.heap.size, 6, none⟩ = some (.int .i64 a3) ∧ W.cell? ⟨w.heap.size, 7, none⟩ = some (.int .i64 a4) ∧ W.cell? ⟨w.heap.size, 8, none⟩ = some (.int .i64 a5) ∧ W.cell? ⟨w.heap.size, 9, none⟩ = some (.int .i64 a6) ∧ W.cell? ⟨w.heap.size, 10, none⟩ = some (.int .i64 a7)) from fun W k => by
    have hb := (O.out.later k).boxed 0 rfl
    exact ⟨cell_of_row _ _ _ _ _ _ hb, cell_of_row _ _ _ _ _ _ hb, cell_of_row _ _ _ _ _ _ hb, cell_of_row _ _ _ _ _ _ hb, cell_of_row _ _ _ _ _ _ hb, cell_of_row _ _ _ _ _ _ hb, cell_of_row _ _ _ _ _ _ hb, cell_of_row _ _ _ _ _ _ hb⟩)
  have K0 := Lib.hid (Kept.refl (w.alloc (.cells #[.int .i64 c, .int .i64 m, .int .i64 d, .int .i64 a0, .int .i64 a1, .int .i64 a2, .int .i64 a3, .int .i64 a4, .int .i64 a5, .int .i64 a6, .int .i64 a7] 43))).drew
  have S0 := HB.out _ K0.out
  go_enter Try.func20, Try.ntmps20
  go_wp2_with fail
  go_region_held3 (fun W => W.cell? ⟨w.heap.size, 3, none⟩ = some (.int .i64 a0) ∧ W.cell? ⟨w.heap.size, 4, none⟩ = some (.int .i64 a1) ∧ W.cell? ⟨w.heap.size, 5, none⟩ = some (.int .i64 a2) ∧ W.cell? ⟨w.heap.size, 6, none⟩ = some (.int .i64 a3) ∧ W.cell? ⟨w.heap.size, 7, none⟩ = some (.int .i64 a4) ∧ W.cell? ⟨w.heap.size, 8, none⟩ = some (.int .i64 a5) ∧ W.cell? ⟨w.heap.size, 9, none⟩ = some (.int .i64 a6) ∧ W.cell? ⟨w.heap.size, 10, none⟩ = some (.int .i64 a7))
    (first | with_reducible assumption | exact HB.out _ K0.out)
    (first
      | (go_at_call 22; (with_reducible refine (hneed _).mono ?_); rintro e u ⟨rfl, k⟩; have KN := Lib.hid (K1.out.trans k); have SN := HB.out _ KN.out; have DN := Lib.hid (D0_0.out.kept k); clear k)
      | (go_at_call 37; first
        | ((with_reducible refine (within_c a0 1 8 _).mono ?_); rintro e w1 ⟨p0, rfl, hc, k⟩; have K1 := Lib.hid (K0.out.trans k); have S1 := HB.out _ K1.out; have D0_0 := Lib.hid hc; clear hc k)
        | ((with_reducible refine (within_c a1 V 1024 _).mono ?_); rintro e w2 ⟨p1, rfl, hc, k⟩; have K2 := Lib.hid (KN.out.trans k); have S2 := HB.out _ K2.out; have D1_1 := Lib.hid hc; have D0_1 := Lib.hid (DN.out.kept k); clear hc k)
        | ((with_reducible refine (within_c a2 2 16 _).mono ?_); rintro e w3 ⟨p2, rfl, hc, k⟩; have K3 := Lib.hid (K2.out.trans k); have S3 := HB.out _ K3.out; have D2_2 := Lib.hid hc; have D0_2 := Lib.hid (D0_1.out.kept k); have D1_2 := Lib.hid (D1_1.out.kept k); clear hc k)
        | ((with_reducible refine (within_c a3 1 64 _).mono ?_); rintro e w4 ⟨p3, rfl, hc, k⟩; have K4 := Lib.hid (K3.out.trans k); have S4 := HB.out _ K4.out; have D3_3 := Lib.hid hc; have D0_3 := Lib.hid (D0_2.out.kept k); have D1_3 := Lib.hid (D1_2.out.kept k); have D2_3 := Lib.hid (D2_2.out.kept k); clear hc k)
        | ((with_reducible refine (within_c a4 1 1099511627776 _).mono ?_); rintro e w5 ⟨p4, rfl, hc, k⟩; have K5 := Lib.hid (K4.out.trans k); have S5 := HB.out _ K5.out; have D4_4 := Lib.hid hc; have D0_4 := Lib.hid (D0_3.out.kept k); have D1_4 := Lib.hid (D1_3.out.kept k); have D2_4 := Lib.hid (D2_3.out.kept k); have D3_4 := Lib.hid (D3_3.out.kept k); clear hc k)
        | ((with_reducible refine (within_c a5 1 1099511627776 _).mono ?_); rintro e w6 ⟨p5, rfl, hc, k⟩; have K6 := Lib.hid (K5.out.trans k); have S6 := HB.out _ K6.out; have D5_5 := Lib.hid hc; have D0_5 := Lib.hid (D0_4.out.kept k); have D1_5 := Lib.hid (D1_4.out.kept k); have D2_5 := Lib.hid (D2_4.out.kept k); have D3_5 := Lib.hid (D3_4.out.kept k); have D4_5 := Lib.hid (D4_4.out.kept k); clear hc k)
        | ((with_reducible refine (within_c a6 0 1099511627776 _).mono ?_); rintro e w7 ⟨p6, rfl, hc, k⟩; have K7 := Lib.hid (K6.out.trans k); have S7 := HB.out _ K7.out; have D6_6 := Lib.hid hc; have D0_6 := Lib.hid (D0_5.out.kept k); have D1_6 := Lib.hid (D1_5.out.kept k); have D2_6 := Lib.hid (D2_5.out.kept k); have D3_6 := Lib.hid (D3_5.out.kept k); have D4_6 := Lib.hid (D4_5.out.kept k); have D5_6 := Lib.hid (D5_5.out.kept k); clear hc k)
        | ((with_reducible refine (within_c a7 0 1099511627776 _).mono ?_); rintro e w8 ⟨p7, rfl, hc, k⟩; have K8 := Lib.hid (K7.out.trans k); have S8 := HB.out _ K8.out; have D7_7 := Lib.hid hc; have D0_7 := Lib.hid (D0_6.out.kept k); have D1_7 := Lib.hid (D1_6.out.kept k); have D2_7 := Lib.hid (D2_6.out.kept k); have D3_7 := Lib.hid (D3_6.out.kept k); have D4_7 := Lib.hid (D4_6.out.kept k); have D5_7 := Lib.hid (D5_6.out.kept k); have D6_7 := Lib.hid (D6_6.out.kept k); clear hc k; have kT := Lib.hid ((Kept.refl w8).alloc (.cells #[.func (.func 56) #[] #[.pointer (some ⟨w.heap.size, 0, none⟩)], .func (.func 62) #[] p0, .func (.func 62) #[] p1, .func (.func 62) #[] p2, .func (.func 62) #[] p3, .func (.func 62) #[] p4, .func (.func 62) #[] p5, .func (.func 62) #[] p6, .func (.func 62) #[] p7] 68)); have sT := Lib.hid (show AtE elC (w8.alloc (.cells #[.func (.func 56) #[] #[.pointer (some ⟨w.heap.size, 0, none⟩)], .func (.func 62) #[] p0, .func (.func 62) #[] p1, .func (.func 62) #[] p2, .func (.func 62) #[] p3, .func (.func 62) #[] p4, .func (.func 62) #[] p5, .func (.func 62) #[] p6, .func (.func 62) #[] p7] 68)) (some ⟨w8.heap.size, 0, none⟩) 9 9 (confCl w.heap.size p0 p1 p2 p3 p4 p5 p6 p7) from conf_lit w8 w.heap.size p0 p1 p2 p3 p4 p5 p6 p7); have ST := HB.out _ (K8.out.trans kT.out)))
      | (go_at_call 36; (with_reducible refine (first_c sT.out (conf_clos HE.out (((O.out.later K8.out).later kT.out).boxed 0 rfl) (D0_7.out.kept kT.out) (D1_7.out.kept kT.out) (D2_7.out.kept kT.out) (D3_7.out.kept kT.out) (D4_7.out.kept kT.out) (D5_7.out.kept kT.out) (D6_7.out.kept kT.out) (D7_7.out.kept kT.out)) rfl).mono ?_); rintro e w9 ⟨rfl, k9⟩; have S9 := HB.out _ ((K8.out.trans kT.out).trans k9); rw [← HX.out]))
  all_goals
    go_wp2_with fail
    go_ret
    exact ⟨rfl, ((O.out.kept.trans K8.out).trans kT.out).trans k9⟩
end Go.Proofs.YtngojgocplmedaaR.Ls
