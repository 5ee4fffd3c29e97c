/-
  Arguments opened (an amount), the slice of amounts read, amounts compared; the chapter's examples (awake).
-/
import Derived.Test.YtdendciedodffaaVe
import Derived.Test.YtdendciedodffaaVg
namespace Go.Proofs.Ytdendciedodffaa.Re
open Go.RowKit Go.Proofs.Ytdendciedodffaa.Mem Go.Proofs.Ytdendciedodffaa.Bx Go.ChangeShapes Go.WideShapes Go.ChangeAt
section
variable {H : Type} {enc : TypeId × Value → H} {W : World} {v : Value} {d : DataW H} {p : List MemPlace} {r : Reach} {b0 : Nat}
theorem res_fields : fieldsOf Try.prog 23 = some [(3, 0), (3, 1), (3, 2)] := by kernel_rfl
theorem res_cells : Try.prog.cellsOf 23 = 3 := by kernel_rfl
theorem cells_int : Try.prog.cellsOf 3 = 1 := by kernel_rfl
theorem res_of {base : Nat} {sp : Nat → Bool} {held : Bool} {n : Nat} {cs : List Value} {y : DataW H × List MemPlace} (h : DataW.trod enc Try.prog W base sp held n 23 cs = some y) : ∃ f : Am, f.ok ∧ cs = [.int .i64 f.c, .int .i64 f.m, .int .i64 f.d] := by
  obtain ⟨m, hl, hq⟩ := trod_fields res_fields h
  rw [res_cells] at hl
  match cs, hl with
  | [c0, c1, c2], _ =>
    obtain ⟨y0, h0⟩ := hq 0 _ rfl
    rw [cells_int] at h0
    obtain ⟨y1, h1⟩ := hq 1 _ rfl
    rw [cells_int] at h1
    obtain ⟨y2, h2⟩ := hq 2 _ rfl
    rw [cells_int] at h2
    obtain ⟨v0, e0, _, w0⟩ := DataW.trod_int Try.underlying3 h0
    have b0 := bounds_i64 w0
    obtain rfl : c0 = .int .i64 v0 := by simpa using e0
    obtain ⟨v1, e1, _, w1⟩ := DataW.trod_int Try.underlying3 h1
    have b1 := bounds_i64 w1
    obtain rfl : c1 = .int .i64 v1 := by simpa using e1
    obtain ⟨v2, e2, _, w2⟩ := DataW.trod_int Try.underlying3 h2
    have b2 := bounds_i64 w2
    obtain rfl : c2 = .int .i64 v2 := by simpa using e2
    exact ⟨⟨v0, v1, v2⟩, ⟨b0, b1, b2⟩, rfl⟩
theorem open_res (hv : Value.okWide Try.prog W r b0 23 v) (h : DataW.Trod enc Try.prog W 0 (fun _ => true) true 23 v d p) : ∃ f : Am, f.ok ∧ v = .agg #[.int .i64 f.c, .int .i64 f.m, .int .i64 f.d] := by
  obtain ⟨cs, rfl, _⟩ := okWide_struct Try.underlying23 hv
  obtain ⟨fuel, hf⟩ := h
  obtain ⟨f, hc, e⟩ := res_of hf
  have e' : cs = #[.int .i64 f.c, .int .i64 f.m, .int .i64 f.d] := by
    have : (Value.agg cs).cells = cs := by simp [Value.cells]
    rw [this] at e
    exact Array.toList_inj.1 e
  exact ⟨f, hc, by rw [e']⟩
end
def Rz.am (x : Rz) : Am := ⟨x.c, x.m, x.d⟩
theorem amx_of {w : World} {ao : Option Addr} {len : Nat} {X : Nat → Rz} (h : 0 < len → ∃ b off, ao = some ⟨b, off, none⟩ ∧ b < w.heap.size ∧ ∀ i, i < len → (X i).at b (off + i * 3) w) : Amx w ao len (fun i => (X i).am) := fun j hj => by
  obtain ⟨b, off, e, hb, hx⟩ := h (by omega)
  exact ⟨b, off, e, hb, (hx j hj).cc, (hx j hj).cm, (hx j hj).cd⟩

/-! ### Amounts compared -/
def sameR (a b c a' b' c' : Int) : Bool := a == a' && (b == b' && c == c')
theorem eqlR (a b c a' b' c' : Int) (w : World) :
    (binOp .eql 23 (.agg #[.int .i64 a, .int .i64 b, .int .i64 c]) (.agg #[.int .i64 a', .int .i64 b', .int .i64 c'])).run Try.prog w = .ok (.bool (sameR a b c a' b' c')) w := by
  unfold sameR
  simp [go_sem, Try.underlying23]
  (repeat' split) <;> simp_all
theorem neqR (a b c a' b' c' : Int) (w : World) :
    (binOp .neq 23 (.agg #[.int .i64 a, .int .i64 b, .int .i64 c]) (.agg #[.int .i64 a', .int .i64 b', .int .i64 c'])).run Try.prog w = .ok (.bool (!sameR a b c a' b' c')) w := by
  unfold sameR
  simp [go_sem, Try.underlying23]
  (repeat' split) <;> simp_all
theorem eql_same (a b c : Int) (w : World) :
    (binOp .eql 23 (.agg #[.int .i64 a, .int .i64 b, .int .i64 c]) (.agg #[.int .i64 a, .int .i64 b, .int .i64 c])).run Try.prog w = .ok (.bool true) w := by
  rw [eqlR, show sameR a b c a b c = true by simp [sameR]]
theorem neq_same (a b c : Int) (w : World) :
    (binOp .neq 23 (.agg #[.int .i64 a, .int .i64 b, .int .i64 c]) (.agg #[.int .i64 a, .int .i64 b, .int .i64 c])).run Try.prog w = .ok (.bool false) w := by
  rw [neqR, show sameR a b c a b c = true by simp [sameR]]; rfl

/-! ### The chapter's examples -/
theorem ex_add (w : World) : Calls Try.prog 9 #[.agg #[.int .i64 1, .int .i64 2, .int .i64 3], .agg #[.int .i64 4, .int .i64 5, .int .i64 6]] w fun e w' => e = .returned (.tuple #[.agg #[.int .i64 5, .int .i64 7, .int .i64 9], .bool true]) ∧ Kept w w' := by
  have h := add_c ⟨1, 2, 3⟩ ⟨4, 5, 6⟩ w
  rw [show adds ⟨1, 2, 3⟩ ⟨4, 5, 6⟩ = (⟨5, 7, 9⟩, true) by decide] at h
  exact h
theorem ex_sub (w : World) : Calls Try.prog 15 #[.agg #[.int .i64 4, .int .i64 5, .int .i64 6], .agg #[.int .i64 1, .int .i64 2, .int .i64 3]] w fun e w' => e = .returned (.tuple #[.agg #[.int .i64 3, .int .i64 3, .int .i64 3], .bool true]) ∧ Kept w w' := by
  have h := sub_c ⟨4, 5, 6⟩ ⟨1, 2, 3⟩ w
  rw [show subs ⟨4, 5, 6⟩ ⟨1, 2, 3⟩ = (⟨3, 3, 3⟩, true) by decide] at h
  exact h
theorem ex_no (w : World) : Calls Try.prog 15 #[.agg #[.int .i64 1, .int .i64 2, .int .i64 3], .agg #[.int .i64 1, .int .i64 3, .int .i64 3]] w fun e w' => e = .returned (.tuple #[.agg #[.int .i64 0, .int .i64 0, .int .i64 0], .bool false]) ∧ Kept w w' := by
  have h := sub_c ⟨1, 2, 3⟩ ⟨1, 3, 3⟩ w
  rw [show subs ⟨1, 2, 3⟩ ⟨1, 3, 3⟩ = (⟨0, 0, 0⟩, false) by decide] at h
  exact h
theorem ex_over (w : World) : Calls Try.prog 9 #[.agg #[.int .i64 1099511627776, .int .i64 0, .int .i64 0], .agg #[.int .i64 1, .int .i64 0, .int .i64 0]] w fun e w' => e = .returned (.tuple #[.agg #[.int .i64 0, .int .i64 0, .int .i64 0], .bool false]) ∧ Kept w w' := by
  have h := add_c ⟨1099511627776, 0, 0⟩ ⟨1, 0, 0⟩ w
  rw [show adds ⟨1099511627776, 0, 0⟩ ⟨1, 0, 0⟩ = (⟨0, 0, 0⟩, false) by decide] at h
  exact h
theorem ex_fits (w : World) : Calls Try.prog 13 #[.agg #[.int .i64 1, .int .i64 2, .int .i64 3], .agg #[.int .i64 4, .int .i64 5, .int .i64 6]] w fun e w' => e = .returned (.bool true) ∧ Kept w w' := by
  have h := fits_c ⟨1, 2, 3⟩ ⟨4, 5, 6⟩ w
  rw [show Am.fits ⟨1, 2, 3⟩ ⟨4, 5, 6⟩ = true by decide] at h
  exact h
theorem ex_fits2 (w : World) : Calls Try.prog 13 #[.agg #[.int .i64 0, .int .i64 0, .int .i64 7], .agg #[.int .i64 4, .int .i64 5, .int .i64 6]] w fun e w' => e = .returned (.bool false) ∧ Kept w w' := by
  have h := fits_c ⟨0, 0, 7⟩ ⟨4, 5, 6⟩ w
  rw [show Am.fits ⟨0, 0, 7⟩ ⟨4, 5, 6⟩ = false by decide] at h
  exact h
theorem ex_check (w : World) : Calls Try.prog 11 #[.agg #[.int .i64 0, .int .i64 (-1), .int .i64 0]] w fun e w' => e = .returned (.int .i64 3) ∧ Kept w w' := by
  have h := check_c ⟨0, -1, 0⟩ w
  rw [show Am.says ⟨0, -1, 0⟩ = 3 by decide] at h
  exact h
def exX (i : Nat) : Am := if i = 1 then ⟨4, 5, 6⟩ else ⟨1, 2, 3⟩
theorem ex_sum (w : World) (B : Nat) (T : TypeId) (h : w.heap[B]? = some (.cells #[.int .i64 1, .int .i64 2, .int .i64 3, .int .i64 4, .int .i64 5, .int .i64 6, .int .i64 1, .int .i64 2, .int .i64 3] T (0, 0))) :
    Calls Try.prog 18 #[.slice (some ⟨B, 0, none⟩) 3 3] w fun e w' => e = .returned (.tuple #[.agg #[.int .i64 6, .int .i64 9, .int .i64 12], .bool true]) ∧ Kept w w' := by
  have hb : B < w.heap.size := lt_of_block h
  have hX : Amx w (some ⟨B, 0, none⟩) 3 exX := fun j hj => by
    refine ⟨B, 0, rfl, hb, ?_⟩
    match j, hj with
    | 0, _ => exact ⟨cell_of_row _ _ _ _ _ _ h, cell_of_row _ _ _ _ _ _ h, cell_of_row _ _ _ _ _ _ h⟩
    | 1, _ => exact ⟨cell_of_row _ _ _ _ _ _ h, cell_of_row _ _ _ _ _ _ h, cell_of_row _ _ _ _ _ _ h⟩
    | 2, _ => exact ⟨cell_of_row _ _ _ _ _ _ h, cell_of_row _ _ _ _ _ _ h, cell_of_row _ _ _ _ _ _ h⟩
  have h := sum_c (some ⟨B, 0, none⟩) 3 3 exX (by decide) w hX
  rw [show sumN exX 3 = (⟨6, 9, 12⟩, true) by decide] at h
  exact h
theorem nine (w : World) (c N : Array Value) (T : TypeId) : ((w.alloc (.cells c T)).alloc (.cells N T)).heap[w.heap.size + 1]? = some (.cells N T (0, 0)) := by
  have h := heap_alloc_new (w.alloc (.cells c T)) (.cells N T)
  have e : (w.alloc (.cells c T)).heap.size = w.heap.size + 1 := by simp
  rw [e] at h
  exact h
set_option maxHeartbeats 4000000 in
set_option maxRecDepth 100000 in
theorem awake_c (w : World) : Calls Try.prog 17 #[] w fun e w' => e = .returned (.bool true) ∧ Kept w w' := by
  have q0 := eql_same 5 7 9
  have q1 := eql_same 3 3 3
  have q2 := eql_same 6 9 12
  go_enter Try.func17, Try.ntmps17
  have h0 := own2 w #[.int .i64 1, .int .i64 2, .int .i64 3] #[.int .i64 4, .int .i64 5, .int .i64 6] 23
  go_wp2_with (first
    | (go_at_call 9; first
      | ((with_reducible refine (ex_add _).mono ?_); rintro e w1 ⟨rfl, k1⟩; have h1 := (h0.later k1).box #[.int .i64 5, .int .i64 7, .int .i64 9] 23; obtain ⟨⟨a0, a1, a2⟩, _⟩ := box3 (h1.boxed 1 rfl); obtain ⟨⟨b0, b1, b2⟩, _⟩ := box3 (h1.boxed 2 rfl))
      | ((with_reducible refine (ex_over _).mono ?_); rintro e w4 ⟨rfl, k4⟩; have h4 := (h3.later k4).box #[.int .i64 0, .int .i64 0, .int .i64 0] 23; obtain ⟨⟨g0, g1, g2⟩, _⟩ := box3 (h4.boxed 4 rfl); obtain ⟨⟨g3, g4, g5⟩, _⟩ := box3 (h4.boxed 5 rfl)))
    | (go_at_call 15; first
      | ((with_reducible refine (ex_sub _).mono ?_); rintro e w2 ⟨rfl, k2⟩; have h2 := (h1.later k2).box #[.int .i64 3, .int .i64 3, .int .i64 3] 23; obtain ⟨⟨c0, c1, c2⟩, _⟩ := box3 (h2.boxed 3 rfl))
      | ((with_reducible refine (ex_no _).mono ?_); rintro e w3 ⟨rfl, k3⟩; have h3 := (h2.later k3).box #[.int .i64 0, .int .i64 0, .int .i64 0] 23))
    | (go_at_call 18; (with_reducible refine (ex_sum _ _ _ (nine _ _ _ _)).mono ?_); rintro e w5 ⟨rfl, k5⟩; have h5 := ((h4.alloc _).later k5).box #[.int .i64 6, .int .i64 9, .int .i64 12] 23; obtain ⟨⟨i0, i1, i2⟩, _⟩ := box3 (h5.boxed 4 rfl); obtain ⟨⟨j0, j1, j2⟩, _⟩ := box3 (h5.boxed 3 rfl); obtain ⟨⟨l0, l1, l2⟩, _⟩ := box3 (h5.boxed 5 rfl); obtain ⟨⟨m0, m1, m2⟩, _⟩ := box3 (h5.boxed 6 rfl))
    | (go_at_call 13; first
      | ((with_reducible refine (ex_fits _).mono ?_); rintro e w6 ⟨rfl, k6⟩; have h6 := h5.later k6; obtain ⟨⟨m3, m4, m5⟩, _⟩ := box3 (h6.boxed 5 rfl))
      | ((with_reducible refine (ex_fits2 _).mono ?_); rintro e w7 ⟨rfl, k7⟩; have h7 := h6.later k7))
    | (go_at_call 11; (with_reducible refine (ex_check _).mono ?_); rintro e w8 ⟨rfl, k8⟩; have h8 := h7.later k8))
  go_ret
  exact ⟨rfl, h8.kept⟩
end Go.Proofs.Ytdendciedodffaa.Re
