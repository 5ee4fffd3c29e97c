/-
  Closures that answer a number (package spec, layer 13): within, first.
-/
import Derived.Test.YtngojgocplmedaaRZd
import Derived.WalkSmall
namespace Go.Proofs.YtngojgocplmedaaR.Ls
open Go.RowKit Go.Proofs.YtngojgocplmedaaR.Mem Go.Proofs.YtngojgocplmedaaR.Bx Go.Proofs.YtngojgocplmedaaR.In Go.Proofs.YtngojgocplmedaaR.Sp Go.ChangeShapes Go.WideShapes Go.ChangeAt
set_option linter.unusedVariables false

/-- A closure: its function, and what it has captured. -/
structure Cl where
  G : Nat
  cap : Array Value
def Cl.v (c : Cl) : Value := .func (.func c.G) #[] c.cap
def elC : El Cl where
  T := 68
  S := 73
  k := 1
  bytes := 8
  zero := .nilFunc
  cs c := [.func (.func c.G) #[] c.cap]
theorem elC_fine : elC.fine where
  under := Try.underlying73
  el := by kernel_rfl
  info := by kernel_rfl
  size := fun _ => by kernel_rfl
  zc := by kernel_rfl
  pos := by decide
  few := by decide
  len := fun _ => rfl
  one := fun x u hu => by
    simp only [elC, List.mem_singleton] at hu
    subst hu; rfl
/-- In w and every later world the closure c answers r, and keeps everything. -/
structure Clo (w : World) (c : Cl) (r : Int) : Prop where
  runs : ∀ W, (callFunc c.G c.cap).run Try.prog W = .ok (.enter c.G c.cap) W
  says : ∀ W, Kept w W → Calls Try.prog c.G c.cap W fun e w' => e = .returned (.int .i64 r) ∧ Kept W w'
theorem Clo.kept {w w' : World} {c : Cl} {r : Int} (h : Clo w c r) (k : Kept w w') : Clo w' c r := ⟨h.runs, fun W K => h.says W (k.trans K)⟩
def firstV : List Int → Int
  | [] => 0
  | r :: l => if r = 0 then firstV l else r
theorem firstV_at {rs : List Int} {j : Nat} {r : Int} (h : rs[j]? = some r) : firstV (rs.drop j) = if r = 0 then firstV (rs.drop (j + 1)) else r := by
  have hj := (List.getElem?_eq_some_iff.1 h).1
  rw [List.drop_eq_getElem_cons hj, (List.getElem?_eq_some_iff.1 h).2]; rfl
set_option maxRecDepth 100000 in
theorem first_c {w : World} {ao : Option Addr} {n cap : Nat} {vs : List Cl} {rs : List Int} (h : AtE elC w ao n cap vs) (hc : ∀ (j : Nat) (c : Cl), vs[j]? = some c → ∃ r, rs[j]? = some r ∧ ((∀ (i : Nat) (q : Int), i < j → rs[i]? = some q → q = 0) → Clo w c r)) (hl : rs.length = n) : Calls Try.prog 36 #[.slice ao n cap] w fun e w' => e = .returned (.int .i64 (firstV rs)) ∧ Kept w w' := by
  have hn := h.n62
  unfold maxLen at hn
  have H := Lib.hid (And.intro h hc)
  have HL := Lib.hid hl
  clear h hc hl
  go_enter Try.func36, Try.ntmps36
  go_wp2
  go_loopw [8] (fun i wr => ∃ j : Nat, j ≤ n ∧ i = .int .i64 j ∧ Kept w wr ∧ firstV rs = firstV (rs.drop j) ∧ ∀ (i : Nat) (q : Int), i < j → rs[i]? = some q → q = 0) (fun i _ => n - (RowKit.intOf i).toNat)
  case atStart => exact ⟨0, Nat.zero_le _, rfl, Kept.refl _, rfl, fun i q h => absurd h (Nat.not_lt_zero _)⟩
  case round =>
    obtain ⟨j, hj, rfl, hk, hv, hz⟩ := hrel
    have HZ := Lib.hid (And.intro hz trivial)
    clear hz
    have HV := Lib.hid hv
    have HK := Lib.hid hk
    clear hv
    by_cases hlt : j < n
    · obtain ⟨⟨G, cp⟩, g, o, hx, rfl, hg, hcell⟩ := (H.out.1.kept hk).get hlt
      obtain ⟨r, hr, hclo⟩ := H.out.2 j _ hx
      replace hclo := hclo HZ.out.1
      have c0 : wr.cell? ⟨g, o + j, none⟩ = some (.func (.func G) #[] cp) := by
        have := hcell 0 _ rfl
        simpa [elC] using this
      have hrun := hclo.runs
      have hsay := Lib.hid (hclo.says wr hk)
      have HF := Lib.hid (firstV_at hr)
      have HR := Lib.hid hr
      clear hx hr hcell hclo hk
      simp only [] at hrun
      by_cases h0 : r = 0
      · have q0 : (r != 0) = false := by simp [h0]
        have Z := Lib.hid h0
        clear h0
        go_wp2_with (refine hsay.out.mono ?_; rintro e w1 ⟨rfl, k1⟩)
        go_roundw
        case rel => exact ⟨j + 1, by omega, by go_num, HK.out.trans k1, by rw [HV.out, HF.out, if_pos Z.out], fun i q hi hq => by
          by_cases e : i = j
          · subst e; rw [HR.out] at hq; cases hq; exact Z.out
          · exact HZ.out.1 i q (by omega) hq⟩
        case measure => simp [RowKit.intOf]; omega
      · have q0 : (r != 0) = true := by simp [h0]
        have Z := Lib.hid h0
        clear h0
        go_wp2_with (refine hsay.out.mono ?_; rintro e w1 ⟨rfl, k1⟩)
        go_ret
        exact ⟨by rw [HV.out, HF.out, if_neg Z.out]; rfl, HK.out.trans k1⟩
    · obtain rfl : j = n := by omega
      go_wp2
      go_ret
      exact ⟨by rw [HV.out, List.drop_of_length_le (by rw [HL.out]; exact Nat.le_refl _)]; rfl, hk⟩
/-- What a check of a number from lo to hi answers. -/
def inS (n lo hi : Int) : Int := if n < lo ∨ hi < n then 3 else 0
set_option maxRecDepth 100000 in
theorem within1_c {w : World} {a b c : Addr} {n lo hi : Int} (ha : w.cell? a = some (.int .i64 n)) (hb : w.cell? b = some (.int .i64 lo)) (hc : w.cell? c = some (.int .i64 hi)) :
    Calls Try.prog 62 #[.pointer (some a), .pointer (some b), .pointer (some c)] w fun e w' => e = .returned (.int .i64 (inS n lo hi)) ∧ Kept w w' := by
  by_cases h1 : n < lo
  · have F := Lib.hid (show inS n lo hi = 3 from if_pos (.inl h1))
    go_enter Try.func62, Try.ntmps62
    go_wp2
    go_ret
    exact ⟨by rw [F.out]; rfl, Kept.refl _⟩
  · by_cases h2 : hi < n
    · have F := Lib.hid (show inS n lo hi = 3 from if_pos (.inr h2))
      go_enter Try.func62, Try.ntmps62
      go_wp2
      go_ret
      exact ⟨by rw [F.out]; rfl, Kept.refl _⟩
    · have F := Lib.hid (show inS n lo hi = 0 from if_neg (by omega))
      go_enter Try.func62, Try.ntmps62
      go_wp2
      go_ret
      exact ⟨by rw [F.out]; rfl, Kept.refl _⟩
def withinCl (B : Nat) : Cl := ⟨62, #[.pointer (some ⟨B, 0, none⟩), .pointer (some ⟨B + 1, 0, none⟩), .pointer (some ⟨B + 2, 0, none⟩)]⟩
/-- The world behind a call of within. -/
def withinW (w : World) (n lo hi : Int) : World := ((w.alloc (.cells #[.int .i64 n] 3)).alloc (.cells #[.int .i64 lo] 3)).alloc (.cells #[.int .i64 hi] 3)
set_option maxRecDepth 100000 in
theorem within_x (n lo hi : Int) (w : World) : Calls Try.prog 37 #[.int .i64 n, .int .i64 lo, .int .i64 hi] w fun e w' => e = .returned (.func (.func (withinCl w.heap.size).G) #[] (withinCl w.heap.size).cap) ∧ w' = withinW w n lo hi := by
  have hmf : ∀ (fn : Fn) (first cap : Array Value) (w : World), (Instr.makeFunc fn first cap).run Try.prog w = .ok (.func fn first cap) w := fun _ _ _ _ => rfl
  go_enter Try.func37, Try.ntmps37
  go_wp2
  go_ret
  exact ⟨rfl, rfl⟩
theorem within_runs (B : Nat) : ∀ W, (callFunc (withinCl B).G (withinCl B).cap).run Try.prog W = .ok (.enter (withinCl B).G (withinCl B).cap) W := fun W => by kernel_rfl
theorem withinW_kept (w : World) (n lo hi : Int) : Kept w (withinW w n lo hi) := (((Kept.refl w).alloc _).alloc _).alloc _
theorem box1 {y : World} {F : Nat} {T : TypeId} {a : Value} (h : y.heap[F]? = some (.cells #[a] T (0, 0))) : y.cell? ⟨F, 0, none⟩ = some a := cell_of_row _ _ _ _ _ _ h
theorem within_clo {w : World} {B : Nat} {n lo hi : Int} (h0 : w.heap[B]? = some (.cells #[.int .i64 n] 3 (0, 0))) (h1 : w.heap[B + 1]? = some (.cells #[.int .i64 lo] 3 (0, 0))) (h2 : w.heap[B + 2]? = some (.cells #[.int .i64 hi] 3 (0, 0))) : Clo w (withinCl B) (inS n lo hi) :=
  ⟨within_runs B, fun W K => within1_c (box1 (K.block h0)) (box1 (K.block h1)) (box1 (K.block h2))⟩
theorem withinW_own {w0 w : World} {L : List As} (h : Mem.Own w0 L w) (n lo hi : Int) : Mem.Own w0 (boxA (w.heap.size + 2) #[.int .i64 hi] 3 :: boxA (w.heap.size + 1) #[.int .i64 lo] 3 :: boxA w.heap.size #[.int .i64 n] 3 :: L) (withinW w n lo hi) := by
  have k := ((h.box #[.int .i64 n] 3).box #[.int .i64 lo] 3).box #[.int .i64 hi] 3
  have e1 : (w.alloc (.cells #[.int .i64 n] 3)).heap.size = w.heap.size + 1 := by simp
  have e2 : ((w.alloc (.cells #[.int .i64 n] 3)).alloc (.cells #[.int .i64 lo] 3)).heap.size = w.heap.size + 2 := by simp
  rw [e1, e2] at k
  exact k
/-- A call of within, its boxes in view. -/
theorem within_e (n lo hi : Int) (w : World) : Calls Try.prog 37 #[.int .i64 n, .int .i64 lo, .int .i64 hi] w fun e w' => ∃ C : Nat, e = .returned (.func (.func 62) #[] #[.pointer (some ⟨C, 0, none⟩), .pointer (some ⟨C + 1, 0, none⟩), .pointer (some ⟨C + 2, 0, none⟩)]) ∧ Kept w w' ∧ ∀ (w0 : World) (L : List As), Mem.Own w0 L w → Mem.Own w0 (boxA (C + 2) #[.int .i64 hi] 3 :: boxA (C + 1) #[.int .i64 lo] 3 :: boxA C #[.int .i64 n] 3 :: L) w' :=
  (within_x n lo hi w).mono fun e w' ⟨he, hw⟩ => by
    subst hw
    exact ⟨w.heap.size, he, withinW_kept _ _ _ _, fun w0 L o => withinW_own o n lo hi⟩
/-- A call of within: a closure that answers. -/
theorem within_c (n lo hi : Int) (w : World) : Calls Try.prog 37 #[.int .i64 n, .int .i64 lo, .int .i64 hi] w fun e w' => ∃ cp, e = .returned (.func (.func 62) #[] cp) ∧ Clo w' ⟨62, cp⟩ (inS n lo hi) ∧ Kept w w' :=
  (within_x n lo hi w).mono fun e w' ⟨he, hw⟩ => by
    subst hw
    have o := withinW_own (Own.nil w) n lo hi
    exact ⟨_, he, within_clo (o.boxed 2 rfl) (o.boxed 1 rfl) (o.boxed 0 rfl), withinW_kept _ _ _ _⟩
end Go.Proofs.YtngojgocplmedaaR.Ls
