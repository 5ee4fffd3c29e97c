/-
  What the calls of package slots do that read a header's sector: the literal of fields, fields, Decode.
-/
import Derived.Test.YtckbhjjflpobbaaGreatKa
namespace Go.Proofs.YtckbhjjflpobbaaGreat.Hk
open Go.RowKit Go.Proofs.YtckbhjjflpobbaaGreat.Mem Go.Proofs.YtckbhjjflpobbaaGreat.Pk
open Go.Proofs.YtckbhjjflpobbaaGreat.Fk (set_block uf_str val_short)

/-- Block B is the string that is left. -/
def Cur (B : Nat) (l : List UInt8) (w : World) : Prop := w.heap[B]? = some (.cells #[.string (str l)] 9 (0, 0))
theorem Cur.kept {B : Nat} {r : List UInt8} {w w' : World} (h : Cur B r w) (k : Kept w w') : Cur B r w' := k.at h
theorem take_str (l : List UInt8) (n : Nat) : (str l).extract 0 n = str (l.take n) := by
  apply str_inj
  rw [Lib.extract_data, list_str, list_str]; simp
theorem drop_str (l : List UInt8) (n : Nat) : (str l).extract n (str l).size = str (l.drop n) := by
  apply str_inj
  rw [Lib.extract_data, list_str, list_str, size_str, List.take_of_length_le (by rw [List.length_drop]; omega)]

set_option maxRecDepth 100000 in
theorem number_c (B : Nat) (l : List UInt8) (n : Nat) (hn : n ≤ 6) (hl : n ≤ l.length) (h80 : l.length ≤ 80) (w : World) (h : Cur B l w) :
    Calls Tryz.prog 120 #[.int .i64 n, .pointer (some ⟨B, 0, none⟩)] w fun e w' => e = .returned (.int .i64 (val (l.take n))) ∧ Cur B (l.drop n) w' ∧ But B w w' := by
  have cu := unfixed_any (str (l.take n))
  rw [uf_str l n (by omega)] at cu
  have hv : val (l.take n) < 281474976710656 := Nat.lt_of_lt_of_le (val_short (l := l) (k := n)) (Nat.pow_le_pow_right (n := 256) (by decide) hn)
  unfold Cur at h ⊢
  rw [← drop_str l n]
  have et := take_str l n
  generalize str (l.take n) = t at cu et
  generalize ufE t = E at cu
  generalize val (l.take n) = v at cu hv ⊢
  have hs : (str l).size = l.length := size_str l
  generalize str l = s at h hs et ⊢
  have n0 : (0 : Int) ≤ (n : Int) := by omega
  have n1 : (n : Int) ≤ (s.size : Int) := by omega
  have n2 : (s.size : Int) ≤ 80 := by omega
  have c := cell_of_one h
  have f := free_of_one h
  have H := Lib.hid h
  clear h hs hl h80 hn
  go_enter Tryz.func120, Tryz.ntmps120
  go_wp2_with (go_at_call 121; (with_reducible refine (cu _).mono ?_); rintro e u2 ⟨rfl, k2⟩; have h2 := k2.at H.out; have c2 := cell_of_one h2; have f2 := free_of_one h2)
  go_ret
  exact ⟨rfl, one_setCell h2, (k2.but _).trans (But.set B 0 _ _)⟩

/-- In the midst of fields: the string's block C, the result's block R, the header F; below the first world as it was. -/
structure Hs (w : World) (C R F : Nat) (r : List UInt8) (q b a f n : Int) (W : World) : Prop where
  rc : w.heap.size ≤ C ∧ C < R ∧ R < F
  bel : Below w.heap.size w W
  hC : Cur C r W
  hR : W.heap[R]? = some (.cells (hcells 0 0 0 0 0) 136 (0, 0))
  hF : W.heap[F]? = some (.cells (hcells q b a f n) 136 (0, 0))
theorem Hs.call {w : World} {C R F : Nat} {r r' : List UInt8} {q b a f n : Int} {W W' : World} (h : Hs w C R F r q b a f n W) (hc : Cur C r' W') (hb : But C W W') : Hs w C R F r' q b a f n W' :=
  ⟨h.rc, h.bel.trans (hb.below h.rc.1 h.bel.size), hc, hb.at h.hR (by have := h.rc; omega), hb.at h.hF (by have := h.rc; omega)⟩
theorem five {W : World} {R : Nat} {T : TypeId} {q0 b0 a0 f0 n0 q b a f n : Int} (h : W.heap[R]? = some (.cells (hcells q0 b0 a0 f0 n0) T (0, 0))) :
    (((((W.setCell ⟨R, 0, none⟩ (.int .i64 q)).setCell ⟨R, 1, none⟩ (.int .i64 b)).setCell ⟨R, 2, none⟩ (.int .i64 a)).setCell ⟨R, 3, none⟩ (.int .i64 f)).setCell ⟨R, 4, none⟩ (.int .i64 n)).heap[R]? = some (.cells (hcells q b a f n) T (0, 0)) :=
  set_block (set_block (set_block (set_block (set_block h))))
theorem five_below {w W : World} {m R : Nat} {q b a f n : Int} (h : Below m w W) (hn : m ≤ R) :
    Below m w (((((W.setCell ⟨R, 0, none⟩ (.int .i64 q)).setCell ⟨R, 1, none⟩ (.int .i64 b)).setCell ⟨R, 2, none⟩ (.int .i64 a)).setCell ⟨R, 3, none⟩ (.int .i64 f)).setCell ⟨R, 4, none⟩ (.int .i64 n)) :=
  ((((h.setCell hn _).setCell hn _).setCell hn _).setCell hn _).setCell hn _
theorem five_but (W : World) (R : Nat) (q b a f n : Int) :
    But R W (((((W.setCell ⟨R, 0, none⟩ (.int .i64 q)).setCell ⟨R, 1, none⟩ (.int .i64 b)).setCell ⟨R, 2, none⟩ (.int .i64 a)).setCell ⟨R, 3, none⟩ (.int .i64 f)).setCell ⟨R, 4, none⟩ (.int .i64 n)) :=
  ((((But.set R 0 W _).trans (But.set R 1 _ _)).trans (But.set R 2 _ _)).trans (But.set R 3 _ _)).trans (But.set R 4 _ _)
theorem hblock {y : World} {F : Nat} {T : TypeId} {q b a f n : Int} (h : y.heap[F]? = some (.cells (hcells q b a f n) T (0, 0))) :
    (y.cell? ⟨F, 0, none⟩ = some (.int .i64 q) ∧ y.cell? ⟨F, 1, none⟩ = some (.int .i64 b) ∧ y.cell? ⟨F, 2, none⟩ = some (.int .i64 a) ∧ y.cell? ⟨F, 3, none⟩ = some (.int .i64 f) ∧ y.cell? ⟨F, 4, none⟩ = some (.int .i64 n)) ∧ ∀ i, y.frozen? ⟨F, i, none⟩ = false :=
  ⟨⟨cell_of_row _ _ _ _ _ _ h, cell_of_row _ _ _ _ _ _ h, cell_of_row _ _ _ _ _ _ h, cell_of_row _ _ _ _ _ _ h, cell_of_row _ _ _ _ _ _ h⟩, fun i => frozen_of_row y F i _ _ h⟩
theorem Hs.base {w : World} {C R F : Nat} {r : List UInt8} {q b a f n : Int} {W : World} (h : Hs w C R F r q b a f n W) (i : Nat) (v : Value) :
    Below w.heap.size w (W.setCell ⟨F, i, none⟩ v) ∧ Cur C r (W.setCell ⟨F, i, none⟩ v) ∧ (W.setCell ⟨F, i, none⟩ v).heap[R]? = some (.cells (hcells 0 0 0 0 0) 136 (0, 0)) := by
  have := h.rc
  refine ⟨h.bel.setCell (by show w.heap.size ≤ F; omega) _, ?_, ?_⟩
  · unfold Cur; rw [heap_setCell_other _ _ _ _ (by show C ≠ F; omega)]; exact h.hC
  · rw [heap_setCell_other _ _ _ _ (by show R ≠ F; omega)]; exact h.hR
theorem Hs.s0 {w : World} {C R F : Nat} {r : List UInt8} {q b a f n : Int} {W : World} (h : Hs w C R F r q b a f n W) (v : Int) : Hs w C R F r v b a f n (W.setCell ⟨F, 0, none⟩ (.int .i64 v)) :=
  ⟨h.rc, (h.base 0 _).1, (h.base 0 _).2.1, (h.base 0 _).2.2, set_block h.hF⟩
theorem Hs.s1 {w : World} {C R F : Nat} {r : List UInt8} {q b a f n : Int} {W : World} (h : Hs w C R F r q b a f n W) (v : Int) : Hs w C R F r q v a f n (W.setCell ⟨F, 1, none⟩ (.int .i64 v)) :=
  ⟨h.rc, (h.base 1 _).1, (h.base 1 _).2.1, (h.base 1 _).2.2, set_block h.hF⟩
theorem Hs.s2 {w : World} {C R F : Nat} {r : List UInt8} {q b a f n : Int} {W : World} (h : Hs w C R F r q b a f n W) (v : Int) : Hs w C R F r q b v f n (W.setCell ⟨F, 2, none⟩ (.int .i64 v)) :=
  ⟨h.rc, (h.base 2 _).1, (h.base 2 _).2.1, (h.base 2 _).2.2, set_block h.hF⟩
theorem Hs.s3 {w : World} {C R F : Nat} {r : List UInt8} {q b a f n : Int} {W : World} (h : Hs w C R F r q b a f n W) (v : Int) : Hs w C R F r q b a v n (W.setCell ⟨F, 3, none⟩ (.int .i64 v)) :=
  ⟨h.rc, (h.base 3 _).1, (h.base 3 _).2.1, (h.base 3 _).2.2, set_block h.hF⟩
theorem Hs.s4 {w : World} {C R F : Nat} {r : List UInt8} {q b a f n : Int} {W : World} (h : Hs w C R F r q b a f n W) (v : Int) : Hs w C R F r q b a f v (W.setCell ⟨F, 4, none⟩ (.int .i64 v)) :=
  ⟨h.rc, (h.base 4 _).1, (h.base 4 _).2.1, (h.base 4 _).2.2, set_block h.hF⟩
theorem Hs.start (w : World) (s : ByteArray) :
    Hs w w.heap.size (w.heap.size + 1) (w.heap.size + 1 + 1) s.data.toList 0 0 0 0 0 (((w.alloc (.cells #[.string s] 9)).alloc (.cells #[.int .i64 0, .int .i64 0, .int .i64 0, .int .i64 0, .int .i64 0] 136)).alloc (.cells #[.int .i64 0, .int .i64 0, .int .i64 0, .int .i64 0, .int .i64 0] 136)) := by
  refine ⟨by omega, (((Kept.refl w).alloc _).alloc _).alloc _, ?_, ?_, ?_⟩
  · unfold Cur; rw [str_list]; exact (((Kept.refl _).alloc _).alloc _).at (MapKept.heap_alloc w _).1
  · have := ((Kept.refl _).alloc (.cells (hcells 0 0 0 0 0) 136)).at (MapKept.heap_alloc (w.alloc (.cells #[.string s] 9)) (.cells (hcells 0 0 0 0 0) 136)).1
    simpa [hcells] using this
  · have := (MapKept.heap_alloc ((w.alloc (.cells #[.string s] 9)).alloc (.cells (hcells 0 0 0 0 0) 136)) (.cells (hcells 0 0 0 0 0) 136)).1
    simpa [hcells] using this

set_option maxHeartbeats 4000000 in
set_option maxRecDepth 100000 in
/-- fields. -/
theorem fields_c (s : ByteArray) (hs : s.size = 80) (w : World) :
    Calls Tryz.prog 105 #[.string s] w fun e w' => e = .returned (.agg #[.int .i64 (flds s).seq, .int .i64 (flds s).boot, .int .i64 (flds s).area, .int .i64 (flds s).first, .int .i64 (flds s).snaps]) ∧ Kept w w' := by
  have hmf : ∀ (fn : Fn) (first cap : Array Value) (w : World), (Instr.makeFunc fn first cap).run Tryz.prog w = .ok (.func fn first cap) w := fun _ _ _ _ => rfl
  have h0 := Hs.start w s
  have hl : s.data.toList.length = 80 := (size_list s).trans hs
  have l1 : (m1 s).length = 74 := by unfold m1; rw [List.length_drop, hl]
  have l2 : (m2 s).length = 70 := by unfold m2; rw [List.length_drop, l1]
  have l3 : (m3 s).length = 69 := by unfold m3; rw [List.length_drop, l2]
  have l4 : (m4 s).length = 63 := by unfold m4; rw [List.length_drop, l3]
  have c1 : ∀ C (W : World), Cur C s.data.toList W → Calls Tryz.prog 120 #[.int .i64 6, .pointer (some ⟨C, 0, none⟩)] W fun e w' => e = .returned (.int .i64 (val (s.data.toList.take 6))) ∧ Cur C (s.data.toList.drop 6) w' ∧ But C W w' := fun C W h => number_c C s.data.toList 6 (by decide) (by omega) (by omega) W h
  have c2 : ∀ C (W : World), Cur C (m1 s) W → Calls Tryz.prog 120 #[.int .i64 4, .pointer (some ⟨C, 0, none⟩)] W fun e w' => e = .returned (.int .i64 (val ((m1 s).take 4))) ∧ Cur C ((m1 s).drop 4) w' ∧ But C W w' := fun C W h => number_c C (m1 s) 4 (by decide) (by omega) (by omega) W h
  have c3 : ∀ C (W : World), Cur C (m2 s) W → Calls Tryz.prog 120 #[.int .i64 1, .pointer (some ⟨C, 0, none⟩)] W fun e w' => e = .returned (.int .i64 (val ((m2 s).take 1))) ∧ Cur C ((m2 s).drop 1) w' ∧ But C W w' := fun C W h => number_c C (m2 s) 1 (by decide) (by omega) (by omega) W h
  have c4 : ∀ C (W : World), Cur C (m3 s) W → Calls Tryz.prog 120 #[.int .i64 6, .pointer (some ⟨C, 0, none⟩)] W fun e w' => e = .returned (.int .i64 (val ((m3 s).take 6))) ∧ Cur C ((m3 s).drop 6) w' ∧ But C W w' := fun C W h => number_c C (m3 s) 6 (by decide) (by omega) (by omega) W h
  have c5 : ∀ C (W : World), Cur C (m4 s) W → Calls Tryz.prog 120 #[.int .i64 2, .pointer (some ⟨C, 0, none⟩)] W fun e w' => e = .returned (.int .i64 (val ((m4 s).take 2))) ∧ Cur C ((m4 s).drop 2) w' ∧ But C W w' := fun C W h => number_c C (m4 s) 2 (by decide) (by omega) (by omega) W h
  unfold flds
  dsimp only
  have e1 : s.data.toList.drop 6 = m1 s := rfl
  have e2 : (m1 s).drop 4 = m2 s := rfl
  have e3 : (m2 s).drop 1 = m3 s := rfl
  have e4 : (m3 s).drop 6 = m4 s := rfl
  rw [e1] at c1; rw [e2] at c2; rw [e3] at c3; rw [e4] at c4
  clear hl l1 l2 l3 l4 hs
  generalize (m4 s).drop 2 = a5 at c5
  generalize val ((m4 s).take 2) = v5 at *
  generalize val ((m3 s).take 6) = v4 at *
  generalize val ((m2 s).take 1) = v3 at *
  generalize val ((m1 s).take 4) = v2 at *
  generalize val (s.data.toList.take 6) = v1 at *
  generalize m4 s = a4 at *
  generalize m3 s = a3 at *
  generalize m2 s = a2 at *
  generalize m1 s = a1 at *
  generalize s.data.toList = a0 at *
  clear e1 e2 e3 e4
  obtain ⟨x, hx⟩ : ∃ x, x = (((w.alloc (.cells #[.string s] 9)).alloc (.cells #[.int .i64 0, .int .i64 0, .int .i64 0, .int .i64 0, .int .i64 0] 136)).alloc (.cells #[.int .i64 0, .int .i64 0, .int .i64 0, .int .i64 0, .int .i64 0] 136)) := ⟨_, rfl⟩
  rw [← hx] at h0
  go_enter Tryz.func105, Tryz.ntmps105
  go_wp2_with fail
  rw [← hx]
  clear hx
  go_wp2_with (first
    | (go_at_call 120; (with_reducible refine (c1 _ _ h0.hC).mono ?_); rintro e u1 ⟨rfl, k1, b1⟩; have g1 := h0.call k1 b1; obtain ⟨⟨_, _, _, _, _⟩, _⟩ := hblock g1.hF; have h1 := g1.s0 v1)
    | (go_at_call 120; (with_reducible refine (c2 _ _ h1.hC).mono ?_); rintro e u2 ⟨rfl, k2, b2⟩; have g2 := h1.call k2 b2; obtain ⟨⟨_, _, _, _, _⟩, _⟩ := hblock g2.hF; have h2 := g2.s1 v2)
    | (go_at_call 120; (with_reducible refine (c3 _ _ h2.hC).mono ?_); rintro e u3 ⟨rfl, k3, b3⟩; have g3 := h2.call k3 b3; obtain ⟨⟨_, _, _, _, _⟩, _⟩ := hblock g3.hF; have h3 := g3.s2 v3)
    | (go_at_call 120; (with_reducible refine (c4 _ _ h3.hC).mono ?_); rintro e u4 ⟨rfl, k4, b4⟩; have g4 := h3.call k4 b4; obtain ⟨⟨_, _, _, _, _⟩, _⟩ := hblock g4.hF; have h4 := g4.s3 v4)
    | (go_at_call 120; (with_reducible refine (c5 _ _ h4.hC).mono ?_); rintro e u5 ⟨rfl, k5, b5⟩; have g5 := h4.call k5 b5; obtain ⟨⟨_, _, _, _, _⟩, _⟩ := hblock g5.hF; have h5 := g5.s4 v5; obtain ⟨⟨_, _, _, _, _⟩, _⟩ := hblock h5.hF; obtain ⟨⟨_, _, _, _, _⟩, _⟩ := hblock h5.hR))
  have hb := h5.bel
  have hy := five (q := v1) (b := v2) (a := v3) (f := v4) (n := v5) h5.hR
  have ky := five_below (q := v1) (b := v2) (a := v3) (f := v4) (n := v5) hb (by have := h5.rc; omega : w.heap.size ≤ w.heap.size + 1)
  generalize ((((((u5.setCell ⟨w.heap.size + 1 + 1, 4, none⟩ (.int .i64 v5)).setCell ⟨w.heap.size + 1, 0, none⟩ (.int .i64 v1)).setCell ⟨w.heap.size + 1, 1, none⟩ (.int .i64 v2)).setCell ⟨w.heap.size + 1, 2, none⟩ (.int .i64 v3)).setCell ⟨w.heap.size + 1, 3, none⟩ (.int .i64 v4)).setCell ⟨w.heap.size + 1, 4, none⟩ (.int .i64 v5)) = y at hy ky ⊢
  obtain ⟨⟨c0, c1, c2, c3, c4⟩, _⟩ := hblock hy
  exact bodyPost_ret (v := .agg #[.int .i64 v1, .int .i64 v2, .int .i64 v3, .int .i64 v4, .int .i64 v5]) (by simp [results, Tryz.results105, go_sem, c0, c1, c2, c3, c4]) rfl ⟨rfl, ky⟩

/-! Decode. -/
theorem dec_size {s : ByteArray} {c : Hd} (h : dec s = some c) : s.size = 80 := by
  obtain ⟨g, e⟩ := dec_some h
  rw [e, size_str, sec_len]
theorem dec_nil {s : ByteArray} (h : dec s = none) : decF s = Hd.nil ∧ decE s = 12 := by unfold decF decE; rw [h]; exact ⟨rfl, rfl⟩
theorem dec_yes {s : ByteArray} (h : (flds s).ok = true) (h2 : str (flds s).sec = s) : decF s = flds s ∧ decE s = 0 := by
  have e : dec s = some (flds s) := by unfold dec; rw [if_pos ⟨h, by rw [Hd.enc_good ((flds s).ok_iff.mp h)]; exact h2⟩]
  unfold decF decE; rw [e]; exact ⟨rfl, rfl⟩
set_option maxHeartbeats 4000000 in
set_option maxRecDepth 100000 in
theorem decode_g (q b a f n : Int) (s : ByteArray) (w : World) (t : ByteArray) (V T : Bool) (hs : ((s.size : Int) != 80) = false) (ht : V = true → (!t.toList == s.toList) = T)
    (cf : ∀ w, Calls Tryz.prog 105 #[.string s] w fun e w' => e = .returned (.agg #[.int .i64 q, .int .i64 b, .int .i64 a, .int .i64 f, .int .i64 n]) ∧ Kept w w')
    (cv : ∀ w, Calls Tryz.prog 101 #[.agg #[.int .i64 q, .int .i64 b, .int .i64 a, .int .i64 f, .int .i64 n]] w fun e w' => e = .returned (.bool V) ∧ Kept w w')
    (ce : V = true → ∀ w, Calls Tryz.prog 102 #[.agg #[.int .i64 q, .int .i64 b, .int .i64 a, .int .i64 f, .int .i64 n]] w fun e w' => e = .returned (.string t) ∧ Kept w w') :
    Calls Tryz.prog 92 #[.string s] w fun e w' => e = .returned (if V = true ∧ T = false then .tuple #[.agg #[.int .i64 q, .int .i64 b, .int .i64 a, .int .i64 f, .int .i64 n], .int .i64 0] else .tuple #[.agg #[.int .i64 0, .int .i64 0, .int .i64 0, .int .i64 0, .int .i64 0], .int .i64 12]) ∧ Kept w w' := by
  have hx1 : Kept w (w.alloc (.cells #[.int .i64 0, .int .i64 0, .int .i64 0, .int .i64 0, .int .i64 0] 74)) := (Kept.refl w).alloc _
  have hR0 := (MapKept.heap_alloc w (.cells (hcells 0 0 0 0 0) 74)).1
  have good : ∀ u : World, u.heap[w.heap.size]? = some (.cells (hcells 0 0 0 0 0) 74 (0, 0)) → Kept w u → ∀ q b a f n : Int, (u.heap[w.heap.size]? = some (.cells (hcells 0 0 0 0 0) 74 (0, 0))) ∧ True := fun u h _ _ _ _ _ _ => ⟨h, trivial⟩
  clear good
  cases V with
  | false =>
    clear ce ht
    rw [if_neg (by simp)]
    go_enter Tryz.func92, Tryz.ntmps92
    go_wp2_with (first
      | (go_at_call 105; (with_reducible refine (cf _).mono ?_); rintro e u1 ⟨rfl, k1⟩; have hb := Box.start u1 136 q b a f n; have hR1 := (k1.alloc (.cells #[.int .i64 q, .int .i64 b, .int .i64 a, .int .i64 f, .int .i64 n] 136)).at hR0; obtain ⟨_, a0, a1, a2, a3, a4⟩ := hb)
      | (go_at_call 101; (with_reducible refine (cv _).mono ?_); rintro e u2 ⟨rfl, k2⟩; have hR2 := k2.at hR1; obtain ⟨⟨r0, r1, r2, r3, r4⟩, fz⟩ := hblock hR2))
    have hy := five (q := 0) (b := 0) (a := 0) (f := 0) (n := 0) hR2
    have ky := five_below (q := 0) (b := 0) (a := 0) (f := 0) (n := 0) (((hx1.trans k1).alloc _).trans k2) (Nat.le_refl w.heap.size)
    clear r0 r1 r2 r3 r4 hR2 k2 fz
    generalize (((((u2.setCell ⟨w.heap.size, 0, none⟩ (.int .i64 0)).setCell ⟨w.heap.size, 1, none⟩ (.int .i64 0)).setCell ⟨w.heap.size, 2, none⟩ (.int .i64 0)).setCell ⟨w.heap.size, 3, none⟩ (.int .i64 0)).setCell ⟨w.heap.size, 4, none⟩ (.int .i64 0)) = y at hy ky ⊢
    obtain ⟨⟨c0, c1, c2, c3, c4⟩, _⟩ := hblock hy
    exact bodyPost_ret (v := .tuple #[.agg #[.int .i64 0, .int .i64 0, .int .i64 0, .int .i64 0, .int .i64 0], .int .i64 12]) (by simp [results, Tryz.results92, go_sem, c0, c1, c2, c3, c4]) rfl ⟨rfl, ky⟩
  | true =>
    replace ce := ce rfl
    replace ht := ht rfl
    cases T with
    | true =>
      rw [if_neg (by simp)]
      go_enter Tryz.func92, Tryz.ntmps92
      go_wp2_with (first
        | (go_at_call 105; (with_reducible refine (cf _).mono ?_); rintro e u1 ⟨rfl, k1⟩; have hb := Box.start u1 136 q b a f n; have hR1 := (k1.alloc (.cells #[.int .i64 q, .int .i64 b, .int .i64 a, .int .i64 f, .int .i64 n] 136)).at hR0; obtain ⟨_, a0, a1, a2, a3, a4⟩ := hb)
        | (go_at_call 101; (with_reducible refine (cv _).mono ?_); rintro e u2 ⟨rfl, k2⟩; have hR2 := k2.at hR1; have hb2 := Box.kept (Box.start u1 136 q b a f n) k2; obtain ⟨_, c0, c1, c2, c3, c4⟩ := hb2)
        | (go_at_call 102; (with_reducible refine (ce _).mono ?_); rintro e u3 ⟨rfl, k3⟩; have hR3 := k3.at hR2; obtain ⟨⟨r0, r1, r2, r3, r4⟩, fz⟩ := hblock hR3))
      have hy := five (q := 0) (b := 0) (a := 0) (f := 0) (n := 0) hR3
      have ky := five_below (q := 0) (b := 0) (a := 0) (f := 0) (n := 0) ((((hx1.trans k1).alloc _).trans k2).trans k3) (Nat.le_refl w.heap.size)
      clear r0 r1 r2 r3 r4 hR3 k3 fz c0 c1 c2 c3 c4
      generalize (((((u3.setCell ⟨w.heap.size, 0, none⟩ (.int .i64 0)).setCell ⟨w.heap.size, 1, none⟩ (.int .i64 0)).setCell ⟨w.heap.size, 2, none⟩ (.int .i64 0)).setCell ⟨w.heap.size, 3, none⟩ (.int .i64 0)).setCell ⟨w.heap.size, 4, none⟩ (.int .i64 0)) = y at hy ky ⊢
      obtain ⟨⟨c0, c1, c2, c3, c4⟩, _⟩ := hblock hy
      exact bodyPost_ret (v := .tuple #[.agg #[.int .i64 0, .int .i64 0, .int .i64 0, .int .i64 0, .int .i64 0], .int .i64 12]) (by simp [results, Tryz.results92, go_sem, c0, c1, c2, c3, c4]) rfl ⟨rfl, ky⟩
    | false =>
      rw [if_pos ⟨rfl, rfl⟩]
      go_enter Tryz.func92, Tryz.ntmps92
      go_wp2_with (first
        | (go_at_call 105; (with_reducible refine (cf _).mono ?_); rintro e u1 ⟨rfl, k1⟩; have hb := Box.start u1 136 q b a f n; have hR1 := (k1.alloc (.cells #[.int .i64 q, .int .i64 b, .int .i64 a, .int .i64 f, .int .i64 n] 136)).at hR0; obtain ⟨_, a0, a1, a2, a3, a4⟩ := hb)
        | (go_at_call 101; (with_reducible refine (cv _).mono ?_); rintro e u2 ⟨rfl, k2⟩; have hR2 := k2.at hR1; have hb2 := Box.kept (Box.start u1 136 q b a f n) k2; obtain ⟨_, c0, c1, c2, c3, c4⟩ := hb2)
        | (go_at_call 102; (with_reducible refine (ce _).mono ?_); rintro e u3 ⟨rfl, k3⟩; have hR3 := k3.at hR2; have hb3 := Box.kept (Box.start u1 136 q b a f n) (k2.trans k3); obtain ⟨_, d0, d1, d2, d3, d4⟩ := hb3; obtain ⟨⟨r0, r1, r2, r3, r4⟩, fz⟩ := hblock hR3))
      have hy := five (q := q) (b := b) (a := a) (f := f) (n := n) hR3
      have ky := five_below (q := q) (b := b) (a := a) (f := f) (n := n) ((((hx1.trans k1).alloc _).trans k2).trans k3) (Nat.le_refl w.heap.size)
      clear r0 r1 r2 r3 r4 hR3 k3 fz c0 c1 c2 c3 c4
      generalize (((((u3.setCell ⟨w.heap.size, 0, none⟩ (.int .i64 q)).setCell ⟨w.heap.size, 1, none⟩ (.int .i64 b)).setCell ⟨w.heap.size, 2, none⟩ (.int .i64 a)).setCell ⟨w.heap.size, 3, none⟩ (.int .i64 f)).setCell ⟨w.heap.size, 4, none⟩ (.int .i64 n)) = y at hy ky ⊢
      obtain ⟨⟨c0, c1, c2, c3, c4⟩, _⟩ := hblock hy
      exact bodyPost_ret (v := .tuple #[.agg #[.int .i64 q, .int .i64 b, .int .i64 a, .int .i64 f, .int .i64 n], .int .i64 0]) (by simp [results, Tryz.results92, go_sem, c0, c1, c2, c3, c4]) rfl ⟨rfl, ky⟩
set_option maxRecDepth 100000 in
theorem decode_long (s : ByteArray) (w : World) (hs : ((s.size : Int) != 80) = true) :
    Calls Tryz.prog 92 #[.string s] w fun e w' => e = .returned (.tuple #[.agg #[.int .i64 0, .int .i64 0, .int .i64 0, .int .i64 0, .int .i64 0], .int .i64 12]) ∧ Kept w w' := by
  have hx1 : Kept w (w.alloc (.cells #[.int .i64 0, .int .i64 0, .int .i64 0, .int .i64 0, .int .i64 0] 74)) := (Kept.refl w).alloc _
  have hR0 := (MapKept.heap_alloc w (.cells (hcells 0 0 0 0 0) 74)).1
  obtain ⟨x, hx⟩ : ∃ x, x = w.alloc (.cells #[.int .i64 0, .int .i64 0, .int .i64 0, .int .i64 0, .int .i64 0] 74) := ⟨_, rfl⟩
  have hR : x.heap[w.heap.size]? = some (.cells (hcells 0 0 0 0 0) 74 (0, 0)) := by rw [hx]; exact hR0
  rw [← hx] at hx1
  obtain ⟨⟨r0, r1, r2, r3, r4⟩, _⟩ := hblock hR
  go_enter Tryz.func92, Tryz.ntmps92
  go_wp2_with fail
  rw [← hx]
  clear hx hR0
  exact bodyPost_ret (v := .tuple #[.agg #[.int .i64 0, .int .i64 0, .int .i64 0, .int .i64 0, .int .i64 0], .int .i64 12]) (by simp [results, Tryz.results92, go_sem, r0, r1, r2, r3, r4]) rfl ⟨rfl, hx1⟩
/-- Decode. -/
theorem decode_c (s : ByteArray) (w : World) :
    Calls Tryz.prog 92 #[.string s] w fun e w' => e = .returned (.tuple #[.agg #[.int .i64 (decF s).seq, .int .i64 (decF s).boot, .int .i64 (decF s).area, .int .i64 (decF s).first, .int .i64 (decF s).snaps], .int .i64 (decE s)]) ∧ Kept w w' := by
  by_cases hs : s.size = 80
  · have t1 : ((s.size : Int) != 80) = false := by rw [hs]; rfl
    by_cases ho : (flds s).ok = true
    · have hg := (flds s).ok_iff.mp ho
      by_cases he : str (flds s).sec = s
      · obtain ⟨e1, e2⟩ := dec_yes ho he
        have := decode_g _ _ _ _ _ s w s true false t1 (fun _ => by simp) (fields_c s hs) (fun w => ho ▸ valid_c (flds s) w) (fun _ w => by have := sector_c (flds s) hg w; rwa [he] at this)
        rw [if_pos ⟨rfl, rfl⟩] at this
        rw [e1, e2]; exact this
      · have hd : dec s = none := by unfold dec; rw [if_neg (fun h => he (by rw [← Hd.enc_good hg]; exact h.2))]
        have := decode_g _ _ _ _ _ s w (str (flds s).sec) true true t1 (fun _ => by
          simp only [Bool.not_eq_true', beq_eq_false_iff_ne, ne_eq]
          intro h
          exact he (str_inj (by rw [← Lib.toList_data, ← Lib.toList_data]; exact h))) (fields_c s hs) (fun w => ho ▸ valid_c (flds s) w) (fun _ => sector_c (flds s) hg)
        rw [if_neg (by simp)] at this
        rw [(dec_nil hd).1, (dec_nil hd).2]; exact this
    · have ho' : (flds s).ok = false := by simpa using ho
      have hd : dec s = none := by unfold dec; rw [if_neg (fun h => ho h.1)]
      have := decode_g _ _ _ _ _ s w s false false t1 (fun h => by cases h) (fields_c s hs) (fun w => ho' ▸ valid_c (flds s) w) (fun h => by cases h)
      rw [if_neg (by simp)] at this
      rw [(dec_nil hd).1, (dec_nil hd).2]; exact this
  · have hd : dec s = none := by
      cases h : dec s with
      | none => rfl
      | some c => exact absurd (dec_size h) hs
    rw [(dec_nil hd).1, (dec_nil hd).2]
    exact decode_long s w (by simp only [bne_iff_ne, ne_eq]; omega)
end Go.Proofs.YtckbhjjflpobbaaGreat.Hk
