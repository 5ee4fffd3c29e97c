/-
  Specifications and configurations checked (package spec's Check, Need and Config).
-/
import Derived.Test.YtngojgocplmedaaRNc
import Derived.Test.YtngojgocplmedaaRZj
import Derived.Deep.RegionHeld3
namespace Go.Proofs.YtngojgocplmedaaR.Ls
open Go.RowKit Go.Proofs.YtngojgocplmedaaR.Mem Go.Proofs.YtngojgocplmedaaR.Bx Go.Proofs.YtngojgocplmedaaR.In Go.Proofs.YtngojgocplmedaaR.Sp Go.ChangeShapes Go.WideShapes Go.ChangeAt
set_option linter.unusedVariables false

def numS (n : Nat) : Int := if n = 0 then 2 else if 4 < n then 5 else 0
set_option maxRecDepth 100000 in
theorem checkNumber_c (ao : Option Addr) (n cap : Nat) (w : World) : Calls Try.prog 43 #[.slice ao n cap] w fun e w' => e = .returned (.int .i64 (numS n)) ∧ Kept w w' := by
  by_cases h0 : n = 0
  · subst h0
    have q0 : ((0 : Nat) : Int) = 0 := rfl
    go_enter Try.func43, Try.ntmps43
    go_wp2
    go_ret
    exact ⟨rfl, Kept.refl _⟩
  · have q0 : ((n : Int) == 0) = false := by simp [h0]
    by_cases h4 : 4 < n
    · have F := Lib.hid (show numS n = 5 by unfold numS; rw [if_neg h0, if_pos h4])
      have q4 : decide ((4 : Int) < (n : Int)) = true := decide_eq_true (by omega)
      clear h0
      go_enter Try.func43, Try.ntmps43
      go_wp2
      go_ret
      exact ⟨by rw [F.out]; rfl, Kept.refl _⟩
    · have F := Lib.hid (show numS n = 0 by unfold numS; rw [if_neg h0, if_neg h4])
      have q4 : decide ((4 : Int) < (n : Int)) = false := decide_eq_false (by omega)
      clear h0
      go_enter Try.func43, Try.ntmps43
      go_wp2
      go_ret
      exact ⟨by rw [F.out]; rfl, Kept.refl _⟩
theorem spSays_first (s : Sp) : firstV [inS s.id 0 2147483648, resSays s, chk s.ports, numS s.tasks.length, tasksSay s.tasks] = spSays s := by
  unfold spSays inS numS
  simp only [firstV]
  (repeat' split) <;> simp_all

set_option maxRecDepth 100000 in
theorem chk1_c {w : World} {B : Nat} {s : Sp} {p : Pl} (h : SpAt w s p) (hb : w.heap[B]? = some (.cells (spC s p) 27 (0, 0))) :
    Calls Try.prog 38 #[.pointer (some ⟨B, 0, none⟩)] w fun e w' => e = .returned (.int .i64 (resSays s)) ∧ Kept w w' := by
  have H := Lib.hid h
  have hr := Re.check_c ⟨s.c, s.m, s.d⟩
  simp only [] at hr
  obtain ⟨V, hV⟩ : ∃ V, V = resSays s := ⟨_, rfl⟩
  rw [show (⟨s.c, s.m, s.d⟩ : Re.Am).says = V from hV.symm] at hr
  rw [← hV]
  clear hV
  clear h
  obtain ⟨po, pn, pc, uo, tn, tc⟩ := p
  unfold spC at hb
  try simp only [] at hr
  obtain ⟨⟨a0, a1, a2, a3, a4, a5⟩, _⟩ := box6 hb
  clear hb
  go_enter Try.func38, Try.ntmps38
  go_wp2_with (go_at_call 39; (with_reducible refine (hr _).mono ?_); rintro e w1 ⟨rfl, k1⟩)
  go_ret
  exact ⟨rfl, k1⟩
theorem chk1_runs (B : Nat) : ∀ W, (callFunc 38 #[.pointer (some ⟨B, 0, none⟩)]).run Try.prog W = .ok (.enter 38 #[.pointer (some ⟨B, 0, none⟩)]) W := fun W => by kernel_rfl

set_option maxRecDepth 100000 in
theorem chk2_c {w : World} {B : Nat} {s : Sp} {p : Pl} (h : SpAt w s p) (hb : w.heap[B]? = some (.cells (spC s p) 27 (0, 0))) :
    Calls Try.prog 40 #[.pointer (some ⟨B, 0, none⟩)] w fun e w' => e = .returned (.int .i64 (chk s.ports)) ∧ Kept w w' := by
  have H := Lib.hid h
  have hr := check_c h.ports
  obtain ⟨V, hV⟩ : ∃ V, V = chk s.ports := ⟨_, rfl⟩
  rw [← hV] at hr ⊢
  clear hV
  clear h
  obtain ⟨po, pn, pc, uo, tn, tc⟩ := p
  unfold spC at hb
  try simp only [] at hr
  obtain ⟨⟨a0, a1, a2, a3, a4, a5⟩, _⟩ := box6 hb
  clear hb
  go_enter Try.func40, Try.ntmps40
  go_wp2_with (go_at_call 41; (with_reducible refine (hr).mono ?_); rintro e w1 ⟨rfl, k1⟩)
  go_ret
  exact ⟨rfl, k1⟩
theorem chk2_runs (B : Nat) : ∀ W, (callFunc 40 #[.pointer (some ⟨B, 0, none⟩)]).run Try.prog W = .ok (.enter 40 #[.pointer (some ⟨B, 0, none⟩)]) W := fun W => by kernel_rfl

set_option maxRecDepth 100000 in
theorem chk3_c {w : World} {B : Nat} {s : Sp} {p : Pl} (h : SpAt w s p) (hb : w.heap[B]? = some (.cells (spC s p) 27 (0, 0))) :
    Calls Try.prog 42 #[.pointer (some ⟨B, 0, none⟩)] w fun e w' => e = .returned (.int .i64 (numS s.tasks.length)) ∧ Kept w w' := by
  have H := Lib.hid h
  have hr := fun W => checkNumber_c p.4 p.tn p.tc W
  obtain ⟨V, hV⟩ : ∃ V, V = numS s.tasks.length := ⟨_, rfl⟩
  rw [show numS p.tn = V by rw [hV, h.tasks.len]] at hr
  rw [← hV]
  clear hV
  clear h
  obtain ⟨po, pn, pc, uo, tn, tc⟩ := p
  unfold spC at hb
  try simp only [] at hr
  obtain ⟨⟨a0, a1, a2, a3, a4, a5⟩, _⟩ := box6 hb
  clear hb
  go_enter Try.func42, Try.ntmps42
  go_wp2_with (go_at_call 43; (with_reducible refine (hr _).mono ?_); rintro e w1 ⟨rfl, k1⟩)
  go_ret
  exact ⟨rfl, k1⟩
theorem chk3_runs (B : Nat) : ∀ W, (callFunc 42 #[.pointer (some ⟨B, 0, none⟩)]).run Try.prog W = .ok (.enter 42 #[.pointer (some ⟨B, 0, none⟩)]) W := fun W => by kernel_rfl

set_option maxRecDepth 100000 in
theorem chk4_c {w : World} {B : Nat} {s : Sp} {p : Pl} (h : SpAt w s p) (hb : w.heap[B]? = some (.cells (spC s p) 27 (0, 0))) (h4 : s.tasks.length ≤ 4) :
    Calls Try.prog 44 #[.pointer (some ⟨B, 0, none⟩)] w fun e w' => e = .returned (.int .i64 (tasksSay s.tasks)) ∧ Kept w w' := by
  have H := Lib.hid h
  have hr := checkTasks_c h.tasks (by rw [← h.tasks.len]; exact h4)
  obtain ⟨V, hV⟩ : ∃ V, V = tasksSay s.tasks := ⟨_, rfl⟩
  rw [← hV] at hr ⊢
  clear hV h4
  clear h
  obtain ⟨po, pn, pc, uo, tn, tc⟩ := p
  unfold spC at hb
  try simp only [] at hr
  obtain ⟨⟨a0, a1, a2, a3, a4, a5⟩, _⟩ := box6 hb
  clear hb
  go_enter Try.func44, Try.ntmps44
  go_wp2_with (go_at_call 45; (with_reducible refine (hr).mono ?_); rintro e w1 ⟨rfl, k1⟩)
  go_ret
  exact ⟨rfl, k1⟩
theorem chk4_runs (B : Nat) : ∀ W, (callFunc 44 #[.pointer (some ⟨B, 0, none⟩)]).run Try.prog W = .ok (.enter 44 #[.pointer (some ⟨B, 0, none⟩)]) W := fun W => by kernel_rfl

/-- The closures of Check. -/
def chkCl (B : Nat) (cp : Array Value) : List Cl := [⟨62, cp⟩, ⟨38, #[.pointer (some ⟨B, 0, none⟩)]⟩, ⟨40, #[.pointer (some ⟨B, 0, none⟩)]⟩, ⟨42, #[.pointer (some ⟨B, 0, none⟩)]⟩, ⟨44, #[.pointer (some ⟨B, 0, none⟩)]⟩]
theorem chk_clos {w W : World} {B : Nat} {s : Sp} {p : Pl} {cp : Array Value} (h : SpAt w s p) (hb : w.heap[B]? = some (.cells (spC s p) 27 (0, 0))) (hc : Clo w ⟨62, cp⟩ (inS s.id 0 2147483648)) (k : Kept w W) :
    ∀ (j : Nat) (c : Cl), (chkCl B cp)[j]? = some c → ∃ r, [inS s.id 0 2147483648, resSays s, chk s.ports, numS s.tasks.length, tasksSay s.tasks][j]? = some r ∧ ((∀ (i : Nat) (q : Int), i < j → [inS s.id 0 2147483648, resSays s, chk s.ports, numS s.tasks.length, tasksSay s.tasks][i]? = some q → q = 0) → Clo W c r) := by
  intro j c hj
  match j, hj with
  | 0, hj => cases hj; exact ⟨_, rfl, fun _ => hc.kept k⟩
  | 1, hj => cases hj; exact ⟨_, rfl, fun _ => ⟨chk1_runs B, fun X K => chk1_c (h.kept (k.trans K)) ((k.trans K).block hb)⟩⟩
  | 2, hj => cases hj; exact ⟨_, rfl, fun _ => ⟨chk2_runs B, fun X K => chk2_c (h.kept (k.trans K)) ((k.trans K).block hb)⟩⟩
  | 3, hj => cases hj; exact ⟨_, rfl, fun _ => ⟨chk3_runs B, fun X K => chk3_c (h.kept (k.trans K)) ((k.trans K).block hb)⟩⟩
  | 4, hj =>
    cases hj
    refine ⟨_, rfl, fun hz => ⟨chk4_runs B, fun X K => chk4_c (h.kept (k.trans K)) ((k.trans K).block hb) ?_⟩⟩
    have := hz 3 _ (by omega) rfl
    unfold numS at this
    split at this
    · omega
    · split at this <;> omega
  | j + 5, hj => simp [chkCl] at hj
theorem lit5 (w : World) (a b c d e : Cl) : AtE elC (w.alloc (.cells #[.func (.func a.G) #[] a.cap, .func (.func b.G) #[] b.cap, .func (.func c.G) #[] c.cap, .func (.func d.G) #[] d.cap, .func (.func e.G) #[] e.cap] 68)) (some ⟨w.heap.size, 0, none⟩) 5 5 [a, b, c, d, e] :=
  (NewE.lit elC_fine (B := 0) w (Nat.zero_le _) [a, b, c, d, e] (by simp [maxLen])).at elC_fine
theorem chk_lit (w : World) (B : Nat) (cp : Array Value) : AtE elC (w.alloc (.cells #[.func (.func 62) #[] cp, .func (.func 38) #[] #[.pointer (some ⟨B, 0, none⟩)], .func (.func 40) #[] #[.pointer (some ⟨B, 0, none⟩)], .func (.func 42) #[] #[.pointer (some ⟨B, 0, none⟩)], .func (.func 44) #[] #[.pointer (some ⟨B, 0, none⟩)]] 68)) (some ⟨w.heap.size, 0, none⟩) 5 5 (chkCl B cp) := lit5 w ⟨62, cp⟩ ⟨38, #[.pointer (some ⟨B, 0, none⟩)]⟩ ⟨40, #[.pointer (some ⟨B, 0, none⟩)]⟩ ⟨42, #[.pointer (some ⟨B, 0, none⟩)]⟩ ⟨44, #[.pointer (some ⟨B, 0, none⟩)]⟩
set_option maxHeartbeats 1000000 in
set_option maxRecDepth 100000 in
theorem scheck_c {w : World} {s : Sp} {p : Pl} (h : SpAt w s p) : Calls Try.prog 14 #[.agg (spC s p)] w fun e w' => e = .returned (.int .i64 (spSays s)) ∧ Kept w w' := by
  have hmf : ∀ (fn : Fn) (first cap : Array Value) (w : World), (Instr.makeFunc fn first cap).run Try.prog w = .ok (.func fn first cap) w := fun _ _ _ _ => rfl
  obtain ⟨V, hV⟩ : ∃ V, V = spSays s := ⟨_, rfl⟩
  have HV := Lib.hid (hV.trans (spSays_first s).symm)
  rw [← hV]
  clear hV
  have O := Lib.hid ((Own.nil w).box (spC s p) 27)
  have H := Lib.hid h
  clear h
  obtain ⟨⟨a0, _, _, _, _, _⟩, _⟩ := box6 (O.out.boxed 0 rfl)
  obtain ⟨po, pn, pc, uo, tn, tc⟩ := p
  unfold spC at O a0 ⊢
  go_enter Try.func14, Try.ntmps14
  go_wp2_with (first
    | (go_at_call 37; (with_reducible refine (within_c s.id 0 2147483648 _).mono ?_); rintro e w1 ⟨cp, rfl, hc, k1⟩; have O1 := Lib.hid (O.out.later k1); have C1 := Lib.hid hc; clear hc k1; have kT := Lib.hid ((Kept.refl w1).alloc (.cells #[.func (.func 62) #[] cp, .func (.func 38) #[] #[.pointer (some ⟨w.heap.size, 0, none⟩)], .func (.func 40) #[] #[.pointer (some ⟨w.heap.size, 0, none⟩)], .func (.func 42) #[] #[.pointer (some ⟨w.heap.size, 0, none⟩)], .func (.func 44) #[] #[.pointer (some ⟨w.heap.size, 0, none⟩)]] 68)); have sT := Lib.hid (show AtE elC (w1.alloc (.cells #[.func (.func 62) #[] cp, .func (.func 38) #[] #[.pointer (some ⟨w.heap.size, 0, none⟩)], .func (.func 40) #[] #[.pointer (some ⟨w.heap.size, 0, none⟩)], .func (.func 42) #[] #[.pointer (some ⟨w.heap.size, 0, none⟩)], .func (.func 44) #[] #[.pointer (some ⟨w.heap.size, 0, none⟩)]] 68)) (some ⟨w1.heap.size, 0, none⟩) 5 5 (chkCl w.heap.size cp) from chk_lit w1 w.heap.size cp))
    | (go_at_call 36; (with_reducible refine (first_c sT.out (chk_clos (p := ⟨po, pn, pc, uo, tn, tc⟩) (H.out.kept O1.out.kept) (O1.out.boxed 0 rfl) C1.out kT.out) rfl).mono ?_); rintro e w2 ⟨rfl, k2⟩; rw [← HV.out]))
  go_ret
  exact ⟨rfl, (O1.out.kept.trans kT.out).trans k2⟩
end Go.Proofs.YtngojgocplmedaaR.Ls
