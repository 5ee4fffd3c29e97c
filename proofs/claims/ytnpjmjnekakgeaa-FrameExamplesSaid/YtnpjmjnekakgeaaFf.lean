/-
  What the calls of package frame do that read a sector: fields.
-/
import Derived.Test.YtnpjmjnekakgeaaFe
namespace Go.Proofs.Ytnpjmjnekakgeaa.Fk
open Go.RowKit Go.Proofs.Ytnpjmjnekakgeaa.Mem Go.Proofs.Ytnpjmjnekakgeaa.Pk

/-- The six fields, as a block's cells. -/
def fcells (b l p q : Int) (k : Int) (d : ByteArray) : Array Value := #[.int .i64 b, .int .i64 l, .int .i64 p, .int .i64 q, .int .u8 k, .string d]
/-- In the midst of fields: the result's block R, the cursor C before r, the frame F; below the first world as it was. -/
structure Fs (w : World) (R C F : Nat) (r : List UInt8) (b l p q k : Int) (d : ByteArray) (W : World) : Prop where
  rc : w.heap.size ≤ R ∧ R < C ∧ C < F
  bel : Below w.heap.size w W
  hR : W.heap[R]? = some (.cells (fcells 0 0 0 0 0 ⟨#[]⟩) 23 (0, 0))
  hC : Cur C r W
  hF : W.heap[F]? = some (.cells (fcells b l p q k d) 23 (0, 0))
theorem Fs.call {w : World} {R C F : Nat} {r r' : List UInt8} {b l p q k : Int} {d : ByteArray} {W W' : World} (h : Fs w R C F r b l p q k d W) (hc : Cur C r' W') (hb : But C W W') : Fs w R C F r' b l p q k d W' :=
  ⟨h.rc, h.bel.trans (hb.below (by have := h.rc; omega) h.bel.size), hb.at h.hR (by have := h.rc; omega), hc, hb.at h.hF (by have := h.rc; omega)⟩
theorem set_block {W : World} {F i : Nat} {cs : Array Value} {T : TypeId} {v : Value} (h : W.heap[F]? = some (.cells cs T (0, 0))) : (W.setCell ⟨F, i, none⟩ v).heap[F]? = some (.cells (cs.setIfInBounds i v) T (0, 0)) := heap_setCell_same _ _ _ _ _ _ h
theorem six {W : World} {R : Nat} {T : TypeId} {b0 l0 p0 q0 k0 b l p q k : Int} {d0 d : ByteArray} (h : W.heap[R]? = some (.cells (fcells b0 l0 p0 q0 k0 d0) T (0, 0))) :
    ((((((W.setCell ⟨R, 0, none⟩ (.int .i64 b)).setCell ⟨R, 1, none⟩ (.int .i64 l)).setCell ⟨R, 2, none⟩ (.int .i64 p)).setCell ⟨R, 3, none⟩ (.int .i64 q)).setCell ⟨R, 4, none⟩ (.int .u8 k)).setCell ⟨R, 5, none⟩ (.string d)).heap[R]? = some (.cells (fcells b l p q k d) T (0, 0)) :=
  set_block (set_block (set_block (set_block (set_block (set_block h)))))
theorem six_below {w W : World} {n R : Nat} {b l p q k : Int} {d : ByteArray} (h : Below n w W) (hn : n ≤ R) :
    Below n w ((((((W.setCell ⟨R, 0, none⟩ (.int .i64 b)).setCell ⟨R, 1, none⟩ (.int .i64 l)).setCell ⟨R, 2, none⟩ (.int .i64 p)).setCell ⟨R, 3, none⟩ (.int .i64 q)).setCell ⟨R, 4, none⟩ (.int .u8 k)).setCell ⟨R, 5, none⟩ (.string d)) :=
  (((((h.setCell hn _).setCell hn _).setCell hn _).setCell hn _).setCell hn _).setCell hn _
theorem six_cells {y : World} {F : Nat} {T : TypeId} {b l p q k : Int} {d : ByteArray} (h : y.heap[F]? = some (.cells (fcells b l p q k d) T (0, 0))) :
    y.cell? ⟨F, 0, none⟩ = some (.int .i64 b) ∧ y.cell? ⟨F, 1, none⟩ = some (.int .i64 l) ∧ y.cell? ⟨F, 2, none⟩ = some (.int .i64 p) ∧ y.cell? ⟨F, 3, none⟩ = some (.int .i64 q) ∧ y.cell? ⟨F, 4, none⟩ = some (.int .u8 k) ∧ y.cell? ⟨F, 5, none⟩ = some (.string d) :=
  ⟨cell_of_row _ _ _ _ _ _ h, cell_of_row _ _ _ _ _ _ h, cell_of_row _ _ _ _ _ _ h, cell_of_row _ _ _ _ _ _ h, cell_of_row _ _ _ _ _ _ h, cell_of_row _ _ _ _ _ _ h⟩
theorem Fs.base {w : World} {R C F : Nat} {r : List UInt8} {b l p q k : Int} {d : ByteArray} {W : World} (h : Fs w R C F r b l p q k d W) (i : Nat) (v : Value) :
    Below w.heap.size w (W.setCell ⟨F, i, none⟩ v) ∧ (W.setCell ⟨F, i, none⟩ v).heap[R]? = some (.cells (fcells 0 0 0 0 0 ⟨#[]⟩) 23 (0, 0)) ∧ Cur C r (W.setCell ⟨F, i, none⟩ v) := by
  have := h.rc
  refine ⟨h.bel.setCell (by show w.heap.size ≤ F; omega) _, ?_, ?_⟩
  · rw [heap_setCell_other _ _ _ _ (by show R ≠ F; omega)]; exact h.hR
  · unfold Cur; rw [heap_setCell_other _ _ _ _ (by show C ≠ F; omega)]; exact h.hC
theorem Fs.s0 {w : World} {R C F : Nat} {r : List UInt8} {b l p q k : Int} {d : ByteArray} {W : World} (h : Fs w R C F r b l p q k d W) (v : Int) : Fs w R C F r v l p q k d (W.setCell ⟨F, 0, none⟩ (.int .i64 v)) :=
  ⟨h.rc, (h.base 0 _).1, (h.base 0 _).2.1, (h.base 0 _).2.2, set_block h.hF⟩
theorem Fs.s1 {w : World} {R C F : Nat} {r : List UInt8} {b l p q k : Int} {d : ByteArray} {W : World} (h : Fs w R C F r b l p q k d W) (v : Int) : Fs w R C F r b v p q k d (W.setCell ⟨F, 1, none⟩ (.int .i64 v)) :=
  ⟨h.rc, (h.base 1 _).1, (h.base 1 _).2.1, (h.base 1 _).2.2, set_block h.hF⟩
theorem Fs.s2 {w : World} {R C F : Nat} {r : List UInt8} {b l p q k : Int} {d : ByteArray} {W : World} (h : Fs w R C F r b l p q k d W) (v : Int) : Fs w R C F r b l v q k d (W.setCell ⟨F, 2, none⟩ (.int .i64 v)) :=
  ⟨h.rc, (h.base 2 _).1, (h.base 2 _).2.1, (h.base 2 _).2.2, set_block h.hF⟩
theorem Fs.s3 {w : World} {R C F : Nat} {r : List UInt8} {b l p q k : Int} {d : ByteArray} {W : World} (h : Fs w R C F r b l p q k d W) (v : Int) : Fs w R C F r b l p v k d (W.setCell ⟨F, 3, none⟩ (.int .i64 v)) :=
  ⟨h.rc, (h.base 3 _).1, (h.base 3 _).2.1, (h.base 3 _).2.2, set_block h.hF⟩
theorem Fs.s4 {w : World} {R C F : Nat} {r : List UInt8} {b l p q k : Int} {d : ByteArray} {W : World} (h : Fs w R C F r b l p q k d W) (v : Int) : Fs w R C F r b l p q v d (W.setCell ⟨F, 4, none⟩ (.int .u8 v)) :=
  ⟨h.rc, (h.base 4 _).1, (h.base 4 _).2.1, (h.base 4 _).2.2, set_block h.hF⟩
theorem Fs.s5 {w : World} {R C F : Nat} {r : List UInt8} {b l p q k : Int} {d : ByteArray} {W : World} (h : Fs w R C F r b l p q k d W) (v : ByteArray) : Fs w R C F r b l p q k v (W.setCell ⟨F, 5, none⟩ (.string v)) :=
  ⟨h.rc, (h.base 5 _).1, (h.base 5 _).2.1, (h.base 5 _).2.2, set_block h.hF⟩
/-- The cells that loads and stores ask for. -/
theorem Fs.cells {w : World} {R C F : Nat} {r : List UInt8} {b l p q k : Int} {d : ByteArray} {W : World} (h : Fs w R C F r b l p q k d W) :
    (W.cell? ⟨F, 0, none⟩ = some (.int .i64 b) ∧ W.cell? ⟨F, 1, none⟩ = some (.int .i64 l) ∧ W.cell? ⟨F, 2, none⟩ = some (.int .i64 p) ∧ W.cell? ⟨F, 3, none⟩ = some (.int .i64 q) ∧ W.cell? ⟨F, 4, none⟩ = some (.int .u8 k) ∧ W.cell? ⟨F, 5, none⟩ = some (.string d)) ∧
    ∀ i, W.frozen? ⟨F, i, none⟩ = false :=
  ⟨⟨cell_of_row _ _ _ _ _ _ h.hF, cell_of_row _ _ _ _ _ _ h.hF, cell_of_row _ _ _ _ _ _ h.hF, cell_of_row _ _ _ _ _ _ h.hF, cell_of_row _ _ _ _ _ _ h.hF, cell_of_row _ _ _ _ _ _ h.hF⟩, fun _ => frozen_of_row _ _ _ _ _ h.hF⟩
theorem Fs.rcells {w : World} {R C F : Nat} {r : List UInt8} {b l p q k : Int} {d : ByteArray} {W : World} (h : Fs w R C F r b l p q k d W) :
    (W.cell? ⟨R, 0, none⟩ = some (.int .i64 0) ∧ W.cell? ⟨R, 1, none⟩ = some (.int .i64 0) ∧ W.cell? ⟨R, 2, none⟩ = some (.int .i64 0) ∧ W.cell? ⟨R, 3, none⟩ = some (.int .i64 0) ∧ W.cell? ⟨R, 4, none⟩ = some (.int .u8 0) ∧ W.cell? ⟨R, 5, none⟩ = some (.string ⟨#[]⟩)) ∧
    ∀ i, W.frozen? ⟨R, i, none⟩ = false :=
  ⟨⟨cell_of_row _ _ _ _ _ _ h.hR, cell_of_row _ _ _ _ _ _ h.hR, cell_of_row _ _ _ _ _ _ h.hR, cell_of_row _ _ _ _ _ _ h.hR, cell_of_row _ _ _ _ _ _ h.hR, cell_of_row _ _ _ _ _ _ h.hR⟩, fun _ => frozen_of_row _ _ _ _ _ h.hR⟩
theorem Fs.start (w : World) (s : List UInt8) :
    Fs w w.heap.size (w.heap.size + 1) (w.heap.size + 1 + 1) s 0 0 0 0 0 ⟨#[]⟩ (((w.alloc (.cells (fcells 0 0 0 0 0 ⟨#[]⟩) 23)).alloc (.cells #[.string (str s)] 58)).alloc (.cells (fcells 0 0 0 0 0 ⟨#[]⟩) 23)) := by
  refine ⟨by omega, (((Kept.refl w).alloc _).alloc _).alloc _, ?_, ?_, ?_⟩
  · exact (((Kept.refl _).alloc _).alloc _).at (MapKept.heap_alloc w _).1
  · have := ((Kept.refl _).alloc (.cells (fcells 0 0 0 0 0 ⟨#[]⟩) 23)).at (MapKept.heap_alloc (w.alloc (.cells (fcells 0 0 0 0 0 ⟨#[]⟩) 23)) (.cells #[.string (str s)] 58)).1
    simpa [Cur] using this
  · have := (MapKept.heap_alloc ((w.alloc (.cells (fcells 0 0 0 0 0 ⟨#[]⟩) 23)).alloc (.cells #[.string (str s)] 58)) (.cells (fcells 0 0 0 0 0 ⟨#[]⟩) 23)).1
    simpa using this

set_option maxHeartbeats 4000000 in
set_option maxRecDepth 100000 in
theorem fields_c (s : ByteArray) (w : World) :
    Calls Try.prog 23 #[.string s] w fun e w' => e = .returned (.agg #[.int .i64 (flds s).boot, .int .i64 (flds s).lsn, .int .i64 (flds s).part, .int .i64 (flds s).parts, .int .u8 (flds s).kind, .string (flds s).data]) ∧ Kept w w' := by
  have h0 := Fs.start w s.data.toList
  rw [str_list s] at h0
  have c1 : ∀ C (W : World), Cur C s.data.toList W → Calls Try.prog 33 #[.pointer (some ⟨C, 0, none⟩), .int .i64 4] W fun e w' => e = .returned (.int .i64 (val (s.data.toList.take 4))) ∧ Cur C (s.data.toList.drop 4) w' ∧ But C W w' := fun C W h => number_c C s.data.toList 4 (by decide) W h
  have c2 : ∀ C (W : World), Cur C (l1 s) W → Calls Try.prog 33 #[.pointer (some ⟨C, 0, none⟩), .int .i64 6] W fun e w' => e = .returned (.int .i64 (val ((l1 s).take 6))) ∧ Cur C ((l1 s).drop 6) w' ∧ But C W w' := fun C W h => number_c C (l1 s) 6 (by decide) W h
  have c3 : ∀ C (W : World), Cur C (l2 s) W → Calls Try.prog 33 #[.pointer (some ⟨C, 0, none⟩), .int .i64 1] W fun e w' => e = .returned (.int .i64 (val ((l2 s).take 1))) ∧ Cur C ((l2 s).drop 1) w' ∧ But C W w' := fun C W h => number_c C (l2 s) 1 (by decide) W h
  have c4 : ∀ C (W : World), Cur C (l3 s) W → Calls Try.prog 33 #[.pointer (some ⟨C, 0, none⟩), .int .i64 1] W fun e w' => e = .returned (.int .i64 (val ((l3 s).take 1))) ∧ Cur C ((l3 s).drop 1) w' ∧ But C W w' := fun C W h => number_c C (l3 s) 1 (by decide) W h
  have c5 : ∀ C (W : World), Cur C (l4 s) W → Calls Try.prog 33 #[.pointer (some ⟨C, 0, none⟩), .int .i64 1] W fun e w' => e = .returned (.int .i64 (val ((l4 s).take 1))) ∧ Cur C ((l4 s).drop 1) w' ∧ But C W w' := fun C W h => number_c C (l4 s) 1 (by decide) W h
  have c6 : ∀ C (W : World), Cur C (l5 s) W → Calls Try.prog 33 #[.pointer (some ⟨C, 0, none⟩), .int .i64 1] W fun e w' => e = .returned (.int .i64 (val ((l5 s).take 1))) ∧ Cur C ((l5 s).drop 1) w' ∧ But C W w' := fun C W h => number_c C (l5 s) 1 (by decide) W h
  have c7 : ∀ C (W : World), Cur C (l6 s) W → Calls Try.prog 34 #[.pointer (some ⟨C, 0, none⟩), .int .i64 4] W fun e w' => e = .returned (.string (str ((l6 s).take 4))) ∧ Cur C ((l6 s).drop 4) w' ∧ But C W w' := fun C W h => text_c C (l6 s) 4 W h
  have c8 := fun C (W : World) (h : Cur C (l7 s) W) => text_c C (l7 s) (val ((l5 s).take 1)) W h
  have b5 : val ((l4 s).take 1) < 256 := val_short
  have b6 : val ((l5 s).take 1) < 256 := val_short
  unfold flds
  dsimp only
  have e1 : s.data.toList.drop 4 = l1 s := rfl
  have e2 : (l1 s).drop 6 = l2 s := rfl
  have e3 : (l2 s).drop 1 = l3 s := rfl
  have e4 : (l3 s).drop 1 = l4 s := rfl
  have e5 : (l4 s).drop 1 = l5 s := rfl
  have e6 : (l5 s).drop 1 = l6 s := rfl
  have e7 : (l6 s).drop 4 = l7 s := rfl
  rw [e1] at c1; rw [e2] at c2; rw [e3] at c3; rw [e4] at c4; rw [e5] at c5; rw [e6] at c6; rw [e7] at c7
  generalize (l7 s).drop (val ((l5 s).take 1)) = a8 at c8
  generalize hd : str ((l7 s).take (val ((l5 s).take 1))) = d at c8
  generalize val ((l5 s).take 1) = z at *
  generalize str ((l6 s).take 4) = dx at c7
  generalize val ((l4 s).take 1) = v5 at *
  generalize val ((l3 s).take 1) = v4 at *
  generalize val ((l2 s).take 1) = v3 at *
  generalize val ((l1 s).take 6) = v2 at *
  generalize val (s.data.toList.take 4) = v1 at *
  generalize l7 s = a7 at *
  generalize l6 s = a6 at *
  generalize l5 s = a5 at *
  generalize l4 s = a4 at *
  generalize l3 s = a3 at *
  generalize l2 s = a2 at *
  generalize l1 s = a1 at *
  generalize s.data.toList = a0 at *
  clear e1 e2 e3 e4 e5 e6 e7 hd
  unfold fcells at h0
  obtain ⟨x, hx⟩ : ∃ x, x = (((w.alloc (.cells #[.int .i64 0, .int .i64 0, .int .i64 0, .int .i64 0, .int .u8 0, .string ⟨#[]⟩] 23)).alloc (.cells #[.string s] 58)).alloc (.cells #[.int .i64 0, .int .i64 0, .int .i64 0, .int .i64 0, .int .u8 0, .string ⟨#[]⟩] 23)) := ⟨_, rfl⟩
  rw [← hx] at h0
  go_enter Try.func23, Try.ntmps23
  go_wp2_with fail
  rw [← hx]
  clear hx
  go_wp2_with (first
    | (go_at_call 33; (with_reducible refine (c1 _ _ h0.hC).mono ?_); rintro e u1 ⟨rfl, k1, b1⟩; have g1 := h0.call k1 b1; obtain ⟨⟨_, _, _, _, _, _⟩, _⟩ := g1.cells; have h1 := g1.s0 v1)
    | (go_at_call 33; (with_reducible refine (c2 _ _ h1.hC).mono ?_); rintro e u2 ⟨rfl, k2, b2⟩; have g2 := h1.call k2 b2; obtain ⟨⟨_, _, _, _, _, _⟩, _⟩ := g2.cells; have h2 := g2.s1 v2)
    | (go_at_call 33; (with_reducible refine (c3 _ _ h2.hC).mono ?_); rintro e u3 ⟨rfl, k3, b3⟩; have g3 := h2.call k3 b3; obtain ⟨⟨_, _, _, _, _, _⟩, _⟩ := g3.cells; have h3 := g3.s2 v3)
    | (go_at_call 33; (with_reducible refine (c4 _ _ h3.hC).mono ?_); rintro e u4 ⟨rfl, k4, b4⟩; have g4 := h3.call k4 b4; obtain ⟨⟨_, _, _, _, _, _⟩, _⟩ := g4.cells; have h4 := g4.s3 v4)
    | (go_at_call 33; (with_reducible refine (c5 _ _ h4.hC).mono ?_); rintro e u5 ⟨rfl, k5, b5⟩; have g5 := h4.call k5 b5; obtain ⟨⟨_, _, _, _, _, _⟩, _⟩ := g5.cells; have h5 := g5.s4 v5)
    | (go_at_call 33; (with_reducible refine (c6 _ _ h5.hC).mono ?_); rintro e u6 ⟨rfl, k6, b6⟩; have g6 := h5.call k6 b6; obtain ⟨⟨_, _, _, _, _, _⟩, _⟩ := g6.cells)
    | (go_at_call 34; (with_reducible refine (c7 _ _ g6.hC).mono ?_); rintro e u7 ⟨rfl, k7, b7⟩; have g7 := g6.call k7 b7; obtain ⟨⟨_, _, _, _, _, _⟩, _⟩ := g7.cells)
    | (go_at_call 34; (with_reducible refine (c8 _ _ g7.hC).mono ?_); rintro e u8 ⟨rfl, k8, b8⟩; have g8 := g7.call k8 b8; obtain ⟨⟨_, _, _, _, _, _⟩, _⟩ := g8.cells; have h8 := g8.s5 d; obtain ⟨⟨_, _, _, _, _, _⟩, _⟩ := h8.cells; obtain ⟨⟨_, _, _, _, _, _⟩, _⟩ := h8.rcells))
  have hb := h8.bel
  have hy := six (b := v1) (l := v2) (p := v3) (q := v4) (k := v5) (d := d) h8.hR
  have ky := six_below (b := v1) (l := v2) (p := v3) (q := v4) (k := v5) (d := d) hb (Nat.le_refl _)
  generalize (((((((u8.setCell ⟨w.heap.size + 1 + 1, 5, none⟩ (.string d)).setCell ⟨w.heap.size, 0, none⟩ (.int .i64 v1)).setCell ⟨w.heap.size, 1, none⟩ (.int .i64 v2)).setCell ⟨w.heap.size, 2, none⟩ (.int .i64 v3)).setCell ⟨w.heap.size, 3, none⟩ (.int .i64 v4)).setCell ⟨w.heap.size, 4, none⟩ (.int .u8 v5)).setCell ⟨w.heap.size, 5, none⟩ (.string d)) = y at hy ky ⊢
  obtain ⟨c0, c1, c2, c3, c4, c5⟩ := six_cells hy
  exact bodyPost_ret (v := .agg #[.int .i64 v1, .int .i64 v2, .int .i64 v3, .int .i64 v4, .int .u8 v5, .string d]) (by simp [results, Try.results23, go_sem, c0, c1, c2, c3, c4, c5]) rfl ⟨rfl, ky⟩
end Go.Proofs.Ytnpjmjnekakgeaa.Fk
