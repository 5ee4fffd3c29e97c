/-
  Delays (package delay, layer 11): policies, and the contracts of the program's Check and After. (A range over a function and a goto in one body.)
-/
import Derived.Test.YthhmfebnnkcmmaaYb
import Derived.Test.YthhmfebnnkcmmaaVb
import Derived.Test.YthhmfebnnkcmmaaUb
import Derived.RangeFuncNested
import Derived.RangeFuncBound
import Derived.RangeFuncCalls
import Derived.RangeFuncLeaves
import Derived.Shelf.Abstract
import Derived.Shelf.RegionOpen
import Derived.WalkKit
import Derived.OwnWalkIn
import Derived.TacticsInMore
import Derived.LoopNIn
import Derived.LoopIn
import Derived.WalkMore
import Derived.ScopeJumps
namespace Go.Proofs.Ythhmfebnnkcmmaa.De
open Go.RowKit Go.Shelf Go.Proofs.Ythhmfebnnkcmmaa.Mem Go.Proofs.Ythhmfebnnkcmmaa.Bx Go.ChangeShapes Go.WideShapes Go.ChangeAt
set_option linter.unusedVariables false
attribute [local go_sem] Oper.semAt_some

/-- A policy. -/
structure Pol where
  al : Bool
  lim : Int
  win : Int
  bas : Int
  most : Int
def Pol.c (p : Pol) : Array Value := #[.bool p.al, .int .i64 p.lim, .int .i64 p.win, .int .i64 p.bas, .int .i64 p.most]
/-- A policy is valid. -/
def Pol.good (p : Pol) : Prop := (1 ≤ p.lim ∧ p.lim ≤ 8) ∧ (1 ≤ p.win ∧ p.win ≤ 1099511627776) ∧ (1 ≤ p.most ∧ p.most ≤ 1099511627776) ∧ (1 ≤ p.bas ∧ p.bas ≤ p.most)
instance (p : Pol) : Decidable p.good := inferInstanceAs (Decidable (_ ∧ _ ∧ _ ∧ _))
def Pol.says (p : Pol) : Int := if p.good then 0 else 3
theorem Pol.ok {p : Pol} (h : p.good) : p.says = 0 := if_pos h
theorem Pol.bad {p : Pol} (h : ¬ p.good) : p.says = 3 := if_neg h
/-- The delay, and the error, behind n starts. -/
def Pol.delay (p : Pol) (n : Int) : Int := if p.good ∧ 0 ≤ n then after p.bas p.most n.toNat else 0
def Pol.err (p : Pol) (n : Int) : Int := if p.good ∧ 0 ≤ n then 0 else 3

/-! ### The program -/
def inside (n m : Int) : Bool := decide (1 ≤ n) && decide (n ≤ m)
set_option maxRecDepth 100000 in
theorem within_c (n m : Int) (w : World) : Calls Try.prog 15 #[.int .i64 n, .int .i64 m] w fun e w' => e = .returned (.bool (inside n m)) ∧ w' = w := by
  go_enter Try.func15, Try.ntmps15
  by_cases h : 1 ≤ n
  · go_wp2
    go_ret
    exact ⟨by unfold inside; simp [h], rfl⟩
  · go_wp2
    go_ret
    exact ⟨by unfold inside; rw [decide_eq_false (p := 1 ≤ n) (by omega)]; rfl, rfl⟩
theorem good_inside (p : Pol) : p.good ↔ inside p.lim 8 = true ∧ inside p.win 1099511627776 = true ∧ inside p.most 1099511627776 = true ∧ inside p.bas p.most = true := by
  unfold Pol.good inside; simp
set_option maxRecDepth 100000 in
theorem check_c (p : Pol) (w : World) : Calls Try.prog 10 #[.agg #[.bool p.al, .int .i64 p.lim, .int .i64 p.win, .int .i64 p.bas, .int .i64 p.most]] w fun e w' => e = .returned (.int .i64 p.says) ∧ Kept w w' := by
  have hg := good_inside p
  obtain ⟨al, lim, win, bas, most⟩ := p
  have c1 := within_c lim 8
  have c2 := within_c win 1099511627776
  have c3 := within_c most 1099511627776
  have c4 := within_c bas most
  simp only [] at hg ⊢
  generalize inside lim 8 = q1 at *
  generalize inside win 1099511627776 = q2 at *
  generalize inside most 1099511627776 = q3 at *
  generalize inside bas most = q4 at *
  have kb : Kept w (w.alloc (.cells #[.bool al, .int .i64 lim, .int .i64 win, .int .i64 bas, .int .i64 most] 23)) := (Kept.refl w).alloc _
  have HG := Lib.hid (And.intro hg kb)
  clear hg kb
  go_enter Try.func10, Try.ntmps10
  cases q1
  · go_wp2_with (go_at_call 15; first | (with_reducible refine (c1 _).mono ?_; rintro e w' ⟨rfl, rfl⟩))
    go_ret
    exact ⟨by rw [Pol.bad (by rw [HG.out.1]; simp)]; rfl, HG.out.2⟩
  · cases q2
    · go_wp2_with (go_at_call 15; first | (with_reducible refine (c1 _).mono ?_; rintro e w' ⟨rfl, rfl⟩) | (with_reducible refine (c2 _).mono ?_; rintro e w' ⟨rfl, rfl⟩))
      go_ret
      exact ⟨by rw [Pol.bad (by rw [HG.out.1]; simp)]; rfl, HG.out.2⟩
    · cases q3
      · go_wp2_with (go_at_call 15; first | (with_reducible refine (c1 _).mono ?_; rintro e w' ⟨rfl, rfl⟩) | (with_reducible refine (c2 _).mono ?_; rintro e w' ⟨rfl, rfl⟩) | (with_reducible refine (c3 _).mono ?_; rintro e w' ⟨rfl, rfl⟩))
        go_ret
        exact ⟨by rw [Pol.bad (by rw [HG.out.1]; simp)]; rfl, HG.out.2⟩
      · cases q4
        · go_wp2_with (go_at_call 15; first | (with_reducible refine (c1 _).mono ?_; rintro e w' ⟨rfl, rfl⟩) | (with_reducible refine (c2 _).mono ?_; rintro e w' ⟨rfl, rfl⟩) | (with_reducible refine (c3 _).mono ?_; rintro e w' ⟨rfl, rfl⟩) | (with_reducible refine (c4 _).mono ?_; rintro e w' ⟨rfl, rfl⟩))
          go_ret
          exact ⟨by rw [Pol.bad (by rw [HG.out.1]; simp)]; rfl, HG.out.2⟩
        · go_wp2_with (go_at_call 15; first | (with_reducible refine (c1 _).mono ?_; rintro e w' ⟨rfl, rfl⟩) | (with_reducible refine (c2 _).mono ?_; rintro e w' ⟨rfl, rfl⟩) | (with_reducible refine (c3 _).mono ?_; rintro e w' ⟨rfl, rfl⟩) | (with_reducible refine (c4 _).mono ?_; rintro e w' ⟨rfl, rfl⟩))
          go_ret
          exact ⟨by rw [Pol.ok (by rw [HG.out.1]; simp)]; rfl, HG.out.2⟩
theorem doublings_c (F : Fence) (n : Nat) (hF : F.fn 14) (hro : F.round = none) (p : Pol) (w : World) :
    CallsIn F n Try.prog 14 #[.agg #[.bool p.al, .int .i64 p.lim, .int .i64 p.win, .int .i64 p.bas, .int .i64 p.most]] w fun e w' => e = .returned (.func (.func 16) #[] #[.pointer (some ⟨w.heap.size, 0, none⟩)]) ∧ w' = w.alloc (.cells #[.bool p.al, .int .i64 p.lim, .int .i64 p.win, .int .i64 p.bas, .int .i64 p.most] 23) := by
  refine callsIn_of_wp Try.func14 rfl hF ?_ hro
  simp only [Try.ntmps14, List.size_toArray, List.length_cons, List.length_nil, Nat.reduceAdd, Nat.reduceSub, Array.replicate_succ, Array.replicate_zero, List.push_toArray, List.append_toArray, List.nil_append, List.cons_append]
  gi_wp2
  go_ret
  exact ⟨rfl, rfl⟩

/-! ### The numbers that are yielded -/
def its (b m : Int) (k : Nat) : List Int := (List.range k).map (it b m)
theorem its_succ (b m : Int) (k : Nat) : its b m (k + 1) = its b m k ++ [it b m k] := by simp [its, List.range_succ]
theorem its_length (b m : Int) (k : Nat) : (its b m k).length = k := by simp [its]
theorem it_few {b m : Int} (h1 : 1 ≤ b) (h2 : b ≤ m) (hm : m ≤ 1099511627776) {k : Nat} (h : it b m k < m) : k < 40 := by
  by_cases e : k < 40
  · exact e
  · have := it_end h1 h2 hm (k := k) (by omega); omega
theorem its_last (b m : Int) (k : Nat) : (its b m (k + 1)).getLast?.getD 0 = it b m k := by rw [its_succ]; simp
def encD (x : Int) : Array Value := #[.int .i64 x]
/-- The block B lies as it lay. -/
def Same (B : Nat) (W W' : World) : Prop := W'.heap[B]? = W.heap[B]?
set_option maxRecDepth 100000 in
set_option maxHeartbeats 2000000 in
theorem yields_c (F : Fence) (n : Nat) (hF : F.fn 16) (hro : F.round = none) (hn : 1 ≤ n) (p : Pol) (h1 : 1 ≤ p.bas) (h2 : p.bas ≤ p.most) (hm : p.most ≤ 1099511627776) (B : Nat) (w : World)
    (hb : w.heap[B]? = some (.cells #[.bool p.al, .int .i64 p.lim, .int .i64 p.win, .int .i64 p.bas, .int .i64 p.most] 23 (0, 0))) :
    SeqStopsK F n Try.prog 16 #[.pointer (some ⟨B, 0, none⟩)] encD (Same B) (fun xs => ∃ k, xs = its p.bas p.most (k + 1) ∧ it p.bas p.most k = p.most) (fun xs => ∃ k, xs = its p.bas p.most (k + 1)) 41 w := by
  intro l J Jx W hW hJ hJx hY h0
  have hB : B < w.heap.size := lt_of_block hb
  have hbW : W.heap[B]? = some (.cells #[.bool p.al, .int .i64 p.lim, .int .i64 p.win, .int .i64 p.bas, .int .i64 p.most] 23 (0, 0)) := (Below.block hW B hB).trans hb
  have HY := Lib.hid hY
  clear hY hW hb hJ hJx
  obtain ⟨al, lim, win, bas, most⟩ := p
  simp only [] at h1 h2 hm hbW ⊢
  have c3 : W.cell? ⟨B, 3, none⟩ = some (.int .i64 bas) := cell_of_row _ _ _ _ _ _ hbW
  refine callsIn_of_wp Try.func16 rfl hF ?_ hro
  simp only [Try.ntmps16, List.size_toArray, List.length_cons, List.length_nil, Nat.reduceAdd, Nat.reduceSub, Array.replicate_succ, Array.replicate_zero, List.push_toArray, List.append_toArray, List.nil_append, List.cons_append]
  gi_wp2
  gi_loopw [3] (fun x wr => ∃ k : Nat, x = .int .i64 (it bas most k) ∧ k < 41 ∧ wr.heap[B]? = some (.cells #[.bool al, .int .i64 lim, .int .i64 win, .int .i64 bas, .int .i64 most] 23 (0, 0)) ∧ J (its bas most k) wr) (fun x _ => (most - intOf x).toNat)
  case atStart => exact ⟨0, rfl, by omega, hbW, h0⟩
  case round =>
    clear hbW c3 h0
    obtain ⟨k, rfl, hk, hbr, hJr⟩ := hrel
    have hbd := it_bounds h1 h2 k
    have hsu := it_succ bas most k
    have hfew := @it_few bas most h1 h2 hm k
    obtain ⟨fn, tmps, assign, body, hy, hR⟩ := HY.out (its bas most k) (it bas most k) wr hJr (by rw [its_length]; exact hk)
    rw [← its_succ] at hR
    have hits : its bas most (k + 1) = its bas most (k + 1) := rfl
    obtain ⟨x, hx⟩ : ∃ x, x = it bas most k := ⟨_, rfl⟩
    dsimp only [encD] at hy
    rw [← hx] at hbd hsu hfew hy ⊢
    have Hx := Lib.hid hx
    clear hx
    by_cases hlt : x < most
    · gi_wp2
      refine hR.mono ?_
      rintro e W3 (⟨rfl, hJ3, hk3⟩ | ⟨rfl, hJx3⟩)
      · have hb3 : W3.heap[B]? = some (.cells #[.bool al, .int .i64 lim, .int .i64 win, .int .i64 bas, .int .i64 most] 23 (0, 0)) := Eq.trans hk3 hbr
        have c4 : W3.cell? ⟨B, 4, none⟩ = some (.int .i64 most) := cell_of_row _ _ _ _ _ _ hb3
        gi_wp2
        refine ⟨⟨k + 1, by rw [hsu, Int.min_def]; congr 1; split <;> split <;> omega, by have := hfew hlt; omega, hb3, hJ3⟩, ?_⟩
        simp only [intOf]
        split <;> omega
      · gi_wp2
        go_end0
        exact ⟨⟨_, rfl⟩, .inr ⟨_, ⟨k, rfl⟩, hJx3⟩⟩
    · gi_wp2
      refine hR.mono ?_
      rintro e W3 (⟨rfl, hJ3, hk3⟩ | ⟨rfl, hJx3⟩)
      · have hb3 : W3.heap[B]? = some (.cells #[.bool al, .int .i64 lim, .int .i64 win, .int .i64 bas, .int .i64 most] 23 (0, 0)) := Eq.trans hk3 hbr
        have c4 : W3.cell? ⟨B, 4, none⟩ = some (.int .i64 most) := cell_of_row _ _ _ _ _ _ hb3
        gi_wp2
        go_end0
        exact ⟨⟨_, rfl⟩, .inl ⟨_, ⟨k, rfl, by rw [← Hx.out]; omega⟩, hJ3⟩⟩
      · gi_wp2
        go_end0
        exact ⟨⟨_, rfl⟩, .inr ⟨_, ⟨k, rfl⟩, hJx3⟩⟩

/-! ### After -/
/-- A block of cells, as the law of a range over a function asks it: it stays whatever else is laid. -/
theorem block_from {β : Type} (B A : Nat) (o : β → Obj) (ho : ∀ s, (o s).isCells = true) : OwnFrom B (fun s W => W.heap[A]? = some (o s)) := by
  intro s W W' row hs hg hr
  refine (hg.block _ (lt_of_block hs) ?_).trans hs
  intro e
  obtain ⟨_, o', h1, h2⟩ := hr _ e.symm
  rw [hs] at h1
  injection h1 with h1
  rw [← h1, ho] at h2
  exact absurd h2 (by simp)
theorem box5 {y : World} {F : Nat} {T : TypeId} {a b c d e : Value} (h : y.heap[F]? = some (.cells #[a, b, c, d, e] T (0, 0))) :
    (y.cell? ⟨F, 0, none⟩ = some a ∧ y.cell? ⟨F, 1, none⟩ = some b ∧ y.cell? ⟨F, 2, none⟩ = some c ∧ y.cell? ⟨F, 3, none⟩ = some d ∧ y.cell? ⟨F, 4, none⟩ = some e) ∧ ∀ i, y.frozen? ⟨F, i, none⟩ = false :=
  ⟨⟨cell_of_row _ _ _ _ _ _ h, cell_of_row _ _ _ _ _ _ h, cell_of_row _ _ _ _ _ _ h, cell_of_row _ _ _ _ _ _ h, cell_of_row _ _ _ _ _ _ h⟩, fun i => frozen_of_row y F i _ _ h⟩
theorem box1 {y : World} {F : Nat} {T : TypeId} {a : Value} (h : y.heap[F]? = some (.cells #[a] T (0, 0))) : y.cell? ⟨F, 0, none⟩ = some a ∧ y.frozen? ⟨F, 0, none⟩ = false :=
  ⟨cell_of_row _ _ _ _ _ _ h, frozen_of_row y F 0 _ _ h⟩
theorem start_own (w : World) (c : Array Value) (T : TypeId) (x : Value) (U : TypeId) : Mem.Own w [boxA (w.heap.size + 1) #[x] U, boxA w.heap.size c T] ((w.alloc (.cells c T)).alloc (.cells #[x] U)) := by
  have h := ((Mem.Own.nil w).box c T).box #[x] U
  have e : (w.alloc (.cells c T)).heap.size = w.heap.size + 1 := by simp
  rw [e] at h
  exact h
set_option maxRecDepth 100000 in
set_option maxHeartbeats 4000000 in
/-- A valid policy, a number of starts. -/
theorem after_good (p : Pol) (h : p.good) (n : Nat) (hn : n < 9223372036854775808) (w : World) :
    Calls Try.prog 8 #[.agg #[.bool p.al, .int .i64 p.lim, .int .i64 p.win, .int .i64 p.bas, .int .i64 p.most], .int .i64 (n : Int)] w fun e w' => e = .returned (.tuple #[.int .i64 (after p.bas p.most n), .int .i64 0]) ∧ Kept w w' := by
  have hchk : ∀ w, Calls Try.prog 10 #[.agg #[.bool p.al, .int .i64 p.lim, .int .i64 p.win, .int .i64 p.bas, .int .i64 p.most]] w fun e w' => e = .returned (.int .i64 0) ∧ Kept w w' := fun w => by
    have := check_c p w; rwa [Pol.ok h] at this
  have hdbl := fun w => doublings_c Fence.wide 3 trivial rfl p w
  have h0 := start_own w #[.bool p.al, .int .i64 p.lim, .int .i64 p.win, .int .i64 p.bas, .int .i64 p.most] 23 (.int .i64 (n : Int)) 3
  obtain ⟨g1, ⟨g2, _⟩, ⟨_, g3⟩, g4, g5⟩ := h
  obtain ⟨al, lim, win, bas, most⟩ := p
  simp only [] at g1 g2 g3 g4 g5 h0 hchk hdbl ⊢
  obtain ⟨⟨a0, a1, a2, a3, a4⟩, _⟩ := box5 (h0.boxed 1 rfl)
  refine (callsIn_wide (n := 4)).1 ?_
  refine callsIn_of_wp_marks Try.func8 rfl trivial ?_ rfl
  simp only [Try.ntmps8, List.size_toArray, List.length_cons, List.length_nil, Nat.reduceAdd, Nat.reduceSub, Array.replicate_succ, Array.replicate_zero, List.push_toArray, List.append_toArray, List.nil_append, List.cons_append]
  gi_wp2
  refine wpIn_wide.2 (wp_scope_straight ?_)
  refine (wpIn_wide (n := 4)).1 ?_
  gi_wp2_with (first
    | (refine ⟨trivial, ?_⟩; gi_at_call 10; refine (callsIn_wide.2 (hchk _)).mono ?_; rintro e w1 ⟨rfl, k1⟩; have h1 := (h0.later k1).box #[.int .i64 0] 3; obtain ⟨c0, _⟩ := box1 (h1.boxed 1 rfl); obtain ⟨⟨b0, b1, b2, b3, b4⟩, _⟩ := box5 (h1.boxed 2 rfl))
    | (refine ⟨trivial, ?_⟩; gi_at_call 14; refine (hdbl _).mono ?_; rintro e w2 ⟨rfl, rfl⟩))
  have hbB := heap_alloc_new (w1.alloc (.cells #[.int .i64 0] 3)) (.cells #[.bool al, .int .i64 lim, .int .i64 win, .int .i64 bas, .int .i64 most] 23)
  have h2 := h1.later ((Kept.refl _).alloc (.cells #[.bool al, .int .i64 lim, .int .i64 win, .int .i64 bas, .int .i64 most] 23))
  have sz := k1.size
  simp only [World.size_alloc] at hbB sz
  obtain ⟨W0, hW0⟩ : ∃ W0, W0 = (w1.alloc (.cells #[.int .i64 0] 3)).alloc (.cells #[.bool al, .int .i64 lim, .int .i64 win, .int .i64 bas, .int .i64 most] 23) := ⟨_, rfl⟩
  have s0 : W0.heap.size = w1.heap.size + 2 := by rw [hW0]; simp
  rw [← hW0] at h2 hbB ⊢
  clear hW0 h1 h0 hchk hdbl k1 a0 a1 a2 a3 a4 b0 b1 b2 b3 b4 c0
  have hE := h2.boxed 0 rfl
  have hN := h2.boxed 1 rfl
  have hk := h2.kept
  clear h2
  refine Rf.ranged (w := W0) (gf := 16) (lb := #[.pointer (some ⟨w1.heap.size + 1, 0, none⟩)]) rfl (by omega) rfl trivial (enters_of Try.func16 (by kernel_rfl) rfl)
    (yields_c Fence.wide 3 trivial rfl (by omega) ⟨al, lim, win, bas, most⟩ g4 g5 g3 (w1.heap.size + 1) W0 hbB) (fun _ => rfl) (fun h k => Eq.trans k h) (fun W l o hl => World.putObj_heap_other (by omega)) (Below.refl _ _)
    (fun s W => s.length ≤ n - 1 ∧ W.heap[w1.heap.size]? = some (.cells #[.int .i64 (s.getLast?.getD 0)] 3 (0, 0)) ∧ W.heap[w.heap.size + 1]? = some (.cells #[.int .i64 ((n - s.length : Nat) : Int)] 3 (0, 0)) ∧ Kept w W)
    (fun s x W => s.length ≤ n - 1 ∧ W.heap[w1.heap.size]? = some (.cells #[.int .i64 x] 3 (0, 0)) ∧ W.heap[w.heap.size + 1]? = some (.cells #[.int .i64 ((n - s.length : Nat) : Int)] 3 (0, 0)) ∧ Kept w W)
    (fun c s W => c = .exit 0 ∧ s.length = n - 1 + 1 ∧ W.heap[w1.heap.size]? = some (.cells #[.int .i64 (s.getLast?.getD 0)] 3 (0, 0)) ∧ Kept w W)
    ?oI ?oIm ?oIx ?start
    (fun x => { tmps := #[.agg #[.bool al, .int .i64 lim, .int .i64 win, .int .i64 bas, .int .i64 most], .int .i64 (n : Int), .pointer (some ⟨w.heap.size, 0, none⟩), .pointer (some ⟨w.heap.size + 1, 0, none⟩), .int .i64 0, .int .i64 0, .pointer (some ⟨w1.heap.size, 0, none⟩), .int .i64 0, .agg #[.bool al, .int .i64 lim, .int .i64 win, .int .i64 bas, .int .i64 most], .int .i64 0, .int .i64 0, .bool false, .int .i64 (n : Int), .bool (decide ((n : Int) < 0)), .agg #[.bool al, .int .i64 lim, .int .i64 win, .int .i64 bas, .int .i64 most], .func (.func 16) #[] #[.pointer (some ⟨w1.heap.size + 1, 0, none⟩)], .int .i64 x, undef, undef, undef, undef, undef, undef], defers := [] }) ?assign ?body ?done ?stop
  case oI =>
    rintro s A A' row ⟨j1, j2, j3, j4⟩ hg hr
    exact ⟨j1, block_from _ _ (fun _ : Unit => _) (fun _ => rfl) () A A' row j2 hg hr, block_from _ _ (fun _ : Unit => _) (fun _ => rfl) () A A' row j3 hg hr, ownFrom_below (Nat.le_refl _) (by omega) () A A' row j4 hg hr⟩
  case oIm =>
    rintro x s A A' row ⟨j1, j2, j3, j4⟩ hg hr
    exact ⟨j1, block_from _ _ (fun _ : Unit => _) (fun _ => rfl) () A A' row j2 hg hr, block_from _ _ (fun _ : Unit => _) (fun _ => rfl) () A A' row j3 hg hr, ownFrom_below (Nat.le_refl _) (by omega) () A A' row j4 hg hr⟩
  case oIx =>
    rintro c s A A' row ⟨j1, j2, j3, j4⟩ hg hr
    exact ⟨j1, j2, block_from _ _ (fun _ : Unit => _) (fun _ => rfl) () A A' row j3 hg hr, ownFrom_below (Nat.le_refl _) (by omega) () A A' row j4 hg hr⟩
  case start => exact ⟨by simp, hE, hN, hk⟩
  case assign =>
    rintro l s x W K ⟨i1, i2, i3, i4⟩ hK
    obtain ⟨c1, f1⟩ := box1 i2
    simp only [encD]
    gi_wp2
    exact hK _ (KeepsOthers.setCell _ _ _) (heap_setCell_other _ _ _ _ (by simp)) ⟨i1, heap_setCell_same W _ 0 _ _ _ i2, (heap_setCell_other _ _ _ _ (show w.heap.size + 1 ≠ w1.heap.size by omega)).trans i3, Below.setCell (p := ⟨w1.heap.size, 0, none⟩) i4 (by show w.heap.size ≤ w1.heap.size; omega) _⟩
  case body =>
    rintro l s x W ⟨i1, i2, i3, i4⟩ _
    obtain ⟨c1, f1⟩ := box1 i3
    by_cases hlt : n - s.length ≤ 1
    · gi_wp2
      exact ⟨KeepsOthers.refl _, rfl, by simp; omega, by simpa using i2, i4⟩
    · gi_wp2
      refine ⟨KeepsOthers.setCell _ _ _, heap_setCell_other _ _ _ _ (show w1.heap.size + 1 ≠ w.heap.size + 1 by omega), by simp; omega, ?_, ?_, Below.setCell (p := ⟨w.heap.size + 1, 0, none⟩) i4 (by show w.heap.size ≤ w.heap.size + 1; omega) _⟩
      · rw [heap_setCell_other _ _ _ _ (show w1.heap.size ≠ w.heap.size + 1 by omega)]; simpa using i2
      · have := heap_setCell_same W (w.heap.size + 1) 0 _ _ (.int .i64 (((n - s.length : Nat) : Int) - 1)) i3
        rw [this]
        rw [show ((n - (s ++ [x]).length : Nat) : Int) = ((n - s.length : Nat) : Int) - 1 by rw [List.length_append]; simp; omega]
        rfl
  case done =>
    rintro D xs W hD ⟨k, rfl, hkm⟩ ⟨i1, i2, i3, i4⟩ hd
    obtain ⟨c1, f1⟩ := box1 i2
    rw [its_length] at i1
    gi_wp2
    refine ⟨by simp, .inl ⟨_, _, rfl, run_takeDeferred hd, ?_⟩⟩
    refine ⟨_, results_tmp2 rfl _ _ _, ?_, ?_⟩
    · show Ending.returned (.tuple #[.int .i64 ((its bas most (k + 1)).getLast?.getD 0), .int .i64 0]) = _
      rw [its_last, hkm]
      unfold after
      rw [it_top g4 g5 hkm (by omega)]
    · exact Below.trans i4 (belowK_b (w := w) (Nat.le_refl _) W D _ _ (by omega) hd rfl rfl)
  case stop =>
    rintro D c xs W hD ⟨k, rfl⟩ ⟨rfl, i1, i2, i4⟩ hd
    obtain ⟨c1, f1⟩ := box1 i2
    rw [its_length] at i1
    obtain rfl : k = n - 1 := by omega
    clear i1
    gi_wp2
    refine ⟨by simp, .inl ⟨_, _, rfl, run_takeDeferred hd, ?_⟩⟩
    refine ⟨_, results_tmp2 rfl _ _ _, ?_, ?_⟩
    · show Ending.returned (.tuple #[.int .i64 ((its bas most (n - 1 + 1)).getLast?.getD 0), .int .i64 0]) = _
      rw [its_last]
      rfl
    · exact Below.trans i4 (belowK_b (w := w) (Nat.le_refl _) W D _ _ (by omega) hd rfl rfl)
set_option maxRecDepth 100000 in
set_option maxHeartbeats 4000000 in
theorem after_bad (p : Pol) (n : Int) (h : ¬ p.good) (w : World) :
    Calls Try.prog 8 #[.agg #[.bool p.al, .int .i64 p.lim, .int .i64 p.win, .int .i64 p.bas, .int .i64 p.most], .int .i64 n] w fun e w' => e = .returned (.tuple #[.int .i64 0, .int .i64 3]) ∧ Kept w w' := by
  have hchk : ∀ w, Calls Try.prog 10 #[.agg #[.bool p.al, .int .i64 p.lim, .int .i64 p.win, .int .i64 p.bas, .int .i64 p.most]] w fun e w' => e = .returned (.int .i64 3) ∧ Kept w w' := fun w => by
    have := check_c p w; rwa [Pol.bad h] at this
  have h0 := start_own w #[.bool p.al, .int .i64 p.lim, .int .i64 p.win, .int .i64 p.bas, .int .i64 p.most] 23 (.int .i64 n) 3
  clear h
  obtain ⟨al, lim, win, bas, most⟩ := p
  simp only [] at h0 hchk ⊢
  obtain ⟨⟨a0, a1, a2, a3, a4⟩, _⟩ := box5 (h0.boxed 1 rfl)
  go_enter Try.func8, Try.ntmps8
  go_wp2
  refine wp_scope_jumps 0 (fun a w' => ∃ E : Nat, a = { tmps := #[.agg #[.bool al, .int .i64 lim, .int .i64 win, .int .i64 bas, .int .i64 most], .int .i64 n, .pointer (some ⟨w.heap.size, 0, none⟩), .pointer (some ⟨w.heap.size + 1, 0, none⟩), .int .i64 0, .int .i64 0, .pointer (some ⟨E, 0, none⟩), .int .i64 3, .agg #[.bool al, .int .i64 lim, .int .i64 win, .int .i64 bas, .int .i64 most], .int .i64 3, .int .i64 3, .bool true, undef, undef, undef, undef, undef, undef, undef, undef, undef, undef, undef], defers := [] } ∧ Kept w w') (fun _ _ => 0) rfl ?first ?pass
  case first =>
    go_wp2_with (go_at_call 10; refine (hchk _).mono ?_; rintro e w1 ⟨rfl, k1⟩; have h1 := (h0.later k1).box #[.int .i64 0] 3)
    go_step3
    exact ⟨rfl, _, rfl, h1.kept⟩
  case pass =>
    rintro a w' ⟨E, rfl, hk⟩
    clear h0 hchk a0 a1 a2 a3 a4
    go_wp2
    simp only [Exit.jump]
    go_ret2
    exact ⟨rfl, hk⟩
set_option maxRecDepth 100000 in
set_option maxHeartbeats 4000000 in
theorem after_less (p : Pol) (n : Int) (h : p.good) (hn : n < 0) (w : World) :
    Calls Try.prog 8 #[.agg #[.bool p.al, .int .i64 p.lim, .int .i64 p.win, .int .i64 p.bas, .int .i64 p.most], .int .i64 n] w fun e w' => e = .returned (.tuple #[.int .i64 0, .int .i64 3]) ∧ Kept w w' := by
  have hchk : ∀ w, Calls Try.prog 10 #[.agg #[.bool p.al, .int .i64 p.lim, .int .i64 p.win, .int .i64 p.bas, .int .i64 p.most]] w fun e w' => e = .returned (.int .i64 0) ∧ Kept w w' := fun w => by
    have := check_c p w; rwa [Pol.ok h] at this
  have h0 := start_own w #[.bool p.al, .int .i64 p.lim, .int .i64 p.win, .int .i64 p.bas, .int .i64 p.most] 23 (.int .i64 n) 3
  clear h
  obtain ⟨al, lim, win, bas, most⟩ := p
  simp only [] at h0 hchk ⊢
  obtain ⟨⟨a0, a1, a2, a3, a4⟩, _⟩ := box5 (h0.boxed 1 rfl)
  go_enter Try.func8, Try.ntmps8
  go_wp2
  refine wp_scope_jumps 0 (fun a w' => ∃ E : Nat, a = { tmps := #[.agg #[.bool al, .int .i64 lim, .int .i64 win, .int .i64 bas, .int .i64 most], .int .i64 n, .pointer (some ⟨w.heap.size, 0, none⟩), .pointer (some ⟨w.heap.size + 1, 0, none⟩), .int .i64 0, .int .i64 0, .pointer (some ⟨E, 0, none⟩), .int .i64 3, .agg #[.bool al, .int .i64 lim, .int .i64 win, .int .i64 bas, .int .i64 most], .int .i64 0, .int .i64 0, .bool false, .int .i64 n, .bool true, undef, undef, undef, undef, undef, undef, undef, undef, undef], defers := [] } ∧ Kept w w') (fun _ _ => 0) rfl ?first ?pass
  case first =>
    go_wp2_with (go_at_call 10; refine (hchk _).mono ?_; rintro e w1 ⟨rfl, k1⟩; have h1 := (h0.later k1).box #[.int .i64 0] 3; obtain ⟨c0, _⟩ := box1 (h1.boxed 1 rfl))
    go_step3
    exact ⟨rfl, _, rfl, h1.kept⟩
  case pass =>
    rintro a w' ⟨E, rfl, hk⟩
    clear h0 hchk a0 a1 a2 a3 a4
    go_wp2
    simp only [Exit.jump]
    go_ret2
    exact ⟨rfl, hk⟩
/-- **After.** -/
theorem after_c (p : Pol) (n : Int) (hn : n ≤ 9223372036854775807) (w : World) :
    Calls Try.prog 8 #[.agg #[.bool p.al, .int .i64 p.lim, .int .i64 p.win, .int .i64 p.bas, .int .i64 p.most], .int .i64 n] w fun e w' => e = .returned (.tuple #[.int .i64 (p.delay n), .int .i64 (p.err n)]) ∧ Kept w w' := by
  by_cases h : p.good
  · by_cases h0 : 0 ≤ n
    · obtain ⟨m, rfl⟩ := Int.eq_ofNat_of_zero_le h0
      have := after_good p h m (by omega) w
      rwa [show p.delay (m : Int) = after p.bas p.most m by unfold Pol.delay; rw [if_pos ⟨h, h0⟩]; rfl, show p.err (m : Int) = 0 by unfold Pol.err; rw [if_pos ⟨h, h0⟩]]
    · have := after_less p n h (by omega) w
      rwa [show p.delay n = 0 by unfold Pol.delay; rw [if_neg (fun k => h0 k.2)], show p.err n = 3 by unfold Pol.err; rw [if_neg (fun k => h0 k.2)]]
  · have := after_bad p n h w
    rwa [show p.delay n = 0 by unfold Pol.delay; rw [if_neg (fun k => h k.1)], show p.err n = 3 by unfold Pol.err; rw [if_neg (fun k => h k.1)]]
end Go.Proofs.Ythhmfebnnkcmmaa.De
