/-
  The program's reader (package spec, layer 13): number, upTo, task; a panic where it is not there.
-/
import Derived.Test.YtngojgocplmedaaRNa
import Derived.Test.YtngojgocplmedaaRZm
import Derived.WalkSmall
namespace Go.Proofs.YtngojgocplmedaaR.Ls
open Go.RowKit Go.Proofs.YtngojgocplmedaaR.Mem Go.Proofs.YtngojgocplmedaaR.Bx Go.Proofs.YtngojgocplmedaaR.In Go.Proofs.YtngojgocplmedaaR.Sp Go.Proofs.YtngojgocplmedaaR.Nr Go.Proofs.YtngojgocplmedaaR.Pk Go.ChangeShapes Go.WideShapes Go.ChangeAt
set_option linter.unusedVariables false

/-- The program's reader's box. -/
def pdA (G : Nat) (s : ByteArray) : As := boxA G #[.string s] 79
/-- The panic that ends the reading. -/
def PAN : Ending := .panicked [{ v := .iface 29 (.int .i64 4), recovered := false }]
theorem asInt_isI {n : Nat} (h : n < 18446744073709551616) : isI (asInt n) := by unfold isI asInt; split <;> omega
theorem wrap_asInt {n : Nat} (h : n < 18446744073709551616) : IntKind.i64.wrap (n : Int) = asInt n := by
  rw [IntKind.wrap_i64]
  unfold asInt
  split <;> omega
/-- A number, or the panic. -/
def NumP (w0 : World) (L : List As) (i G : Nat) (s : ByteArray) (e : Ending) (w' : World) : Prop :=
  (∃ (n : Nat) (t : ByteArray), n < 18446744073709551616 ∧ uv s = some (n, t) ∧ e = .returned (.int .i64 (asInt n)) ∧ Mem.Own w0 (L.set i (pdA G t)) w') ∨ (uv s = none ∧ e = PAN ∧ Kept w0 w')
set_option maxRecDepth 100000 in
theorem number_c {w0 w : World} {L : List As} {G i : Nat} {s : ByteArray} (h : Mem.Own w0 L w) (hi : L[i]? = some (pdA G s)) :
    Calls Try.prog 67 #[.pointer (some ⟨G, 0, none⟩)] w fun e w' => NumP w0 L i G s e w' := by
  have hb := h.boxed i hi
  have c0 : w.cell? ⟨G, 0, none⟩ = some (.string s) := cell_of_row _ _ _ _ _ _ hb
  have f0 : w.frozen? ⟨G, 0, none⟩ = false := frozen_of_row w G 0 _ _ hb
  have H := Lib.hid (And.intro h hi)
  clear h hi hb
  rcases hv : uv s with _ | ⟨n, t⟩
  · have hu := unvar_none hv
    have HV := Lib.hid hv
    clear hv
    go_enter Try.func67, Try.ntmps67
    go_wp2_with (go_at_call 76; (with_reducible refine (hu _).mono ?_); rintro e w1 ⟨rfl, k1⟩)
    exact ⟨rfl, .inr ⟨HV.out, rfl, H.out.1.kept.trans k1⟩⟩
  · have hn := (uv_some hv).1
    have hw := wrap_asInt hn
    have hu := unvar_some hv
    have HV := Lib.hid (And.intro hv hn)
    clear hv hn
    go_enter Try.func67, Try.ntmps67
    go_wp2_with (go_at_call 76; (with_reducible refine (hu _).mono ?_); rintro e w1 ⟨rfl, k1⟩; have O1 := Lib.hid (H.out.1.later k1); have f1 : w1.frozen? ⟨G, 0, none⟩ = false := frozen_of_row w1 G 0 _ _ (O1.out.boxed i H.out.2); have c1 : w1.cell? ⟨G, 0, none⟩ = some (.string s) := cell_of_row _ _ _ _ _ _ (O1.out.boxed i H.out.2))
    go_ret
    exact .inl ⟨n, t, HV.out.2, HV.out.1, rfl, O1.out.boxset i H.out.2 0 (.string t)⟩
/-- A number more, or the panic: then no specification's bytes begin these. -/
def NumQ (w0 : World) (L : List As) (i G : Nat) (s0 : ByteArray) (l : List Int) (e : Ending) (w' : World) : Prop :=
  (∃ (x : Int) (t : ByteArray), e = .returned (.int .i64 x) ∧ isI x ∧ PTrk s0 (l ++ [x]) t ∧ Mem.Own w0 (L.set i (pdA G t)) w') ∨ (e = PAN ∧ NoRead s0 ∧ Kept w0 w')
theorem number_q {w0 w : World} {L : List As} {G i : Nat} {s0 s : ByteArray} {l : List Int} (h : Mem.Own w0 L w) (hi : L[i]? = some (pdA G s)) (ht : PTrk s0 l s) (hr : Room l) :
    Calls Try.prog 67 #[.pointer (some ⟨G, 0, none⟩)] w fun e w' => NumQ w0 L i G s0 l e w' :=
  (number_c h hi).mono fun e w' hp => by
    rcases hp with ⟨n, t, hn, hu, he, ho⟩ | ⟨hu, he, hk⟩
    · exact .inl ⟨_, t, he, asInt_isI hn, ht.num hr hu hn, ho⟩
    · exact .inr ⟨he, ht.none hr hu, hk⟩
/-- A number from 0 to most, or the panic. -/
def UpQ (w0 : World) (L : List As) (i G : Nat) (s0 : ByteArray) (l : List Int) (most : Int) (e : Ending) (w' : World) : Prop :=
  (∃ (x : Int) (t : ByteArray), e = .returned (.int .i64 x) ∧ (0 ≤ x ∧ x ≤ most) ∧ PTrk s0 (l ++ [x]) t ∧ Mem.Own w0 (L.set i (pdA G t)) w') ∨ (e = PAN ∧ NoRead s0 ∧ Kept w0 w')
set_option maxRecDepth 100000 in
theorem upTo_q {w0 w : World} {L : List As} {G i : Nat} {s0 s : ByteArray} {l : List Int} (most : Int) (h : Mem.Own w0 L w) (hi : L[i]? = some (pdA G s)) (ht : PTrk s0 l s) (hr : Room l) (hbig : ∀ x t, PTrk s0 (l ++ [x]) t → (x < 0 ∨ most < x) → NoRead s0) :
    Calls Try.prog 68 #[.pointer (some ⟨G, 0, none⟩), .int .i64 most] w fun e w' => UpQ w0 L i G s0 l most e w' := by
  have hnum := number_q h hi ht hr
  have HB := Lib.hid (And.intro hbig trivial)
  clear h hi ht hr hbig
  go_enter Try.func68, Try.ntmps68
  go_upto_region 2 with (go_at_call 67; (with_reducible refine hnum.mono ?_); rintro e w1 (⟨x, t, rfl, hx, hT, hO⟩ | ⟨rfl, hN, hk⟩); rotate_left; exact ⟨rfl, .inr ⟨rfl, hN, hk⟩⟩)
  have HT := Lib.hid (And.intro hT hO)
  clear hT hO hnum
  by_cases h0 : x < 0
  · go_wp2
    exact ⟨rfl, .inr ⟨rfl, HB.out.1 x t HT.out.1 (.inl h0), HT.out.2.kept⟩⟩
  · by_cases h1 : most < x
    · go_wp2
      exact ⟨rfl, .inr ⟨rfl, HB.out.1 x t HT.out.1 (.inr h1), HT.out.2.kept⟩⟩
    · go_wp2
      go_ret
      exact .inl ⟨x, t, rfl, ⟨by omega, by omega⟩, HT.out.1, HT.out.2⟩
/-! ### A task -/
/-- A task's numbers more, or the panic. -/
def TaskQ (w0 : World) (L : List As) (i G : Nat) (s0 : ByteArray) (b : List Int) (ts : List Tsk) (e : Ending) (w' : World) : Prop :=
  (∃ (T : Tsk) (t : ByteArray), e = .returned (.agg #[.bool T.always, .int .i64 T.lim, .int .i64 T.win, .int .i64 T.bas, .int .i64 T.most, .int .i64 T.prb]) ∧ PTrk s0 (b ++ irows (ts ++ [T])) t ∧ Mem.Own w0 (L.set i (pdA G t)) w') ∨ (e = PAN ∧ NoRead s0 ∧ Kept w0 w')
def headI (x0 x1 x2 x3 : Int) (n : Nat) (ps : List Int) (m : Nat) : List Int := [x0, x1, x2, x3, (n : Int)] ++ ps ++ [(m : Int)]
theorem room_i {x0 x1 x2 x3 : Int} {n m : Nat} {ps rs : List Int} {ts : List Tsk} (h : ps.length = n) (ht : ts.length < m) (hr : rs.length < 6) : Room (headI x0 x1 x2 x3 n ps m ++ (irows ts ++ rs)) :=
  room_t h (by rw [List.length_append, irows_len]; omega)
theorem join_i (b r : List Int) (x y : Int) : b ++ (r ++ [x]) ++ [y] = b ++ (r ++ [x, y]) := by simp
theorem set_same {L : List As} {i : Nat} {a : As} (h : L[i]? = some a) : L.set i a = L := by
  refine List.ext_getElem? fun j => ?_
  rw [List.getElem?_set]
  split
  · rename_i e; subst e
    rw [if_pos (List.getElem?_eq_some_iff.1 h).1, h]
  · rfl
theorem number_r {w0 w : World} {X : As} {L : List As} {G i : Nat} {s0 s : ByteArray} {x0 x1 x2 x3 : Int} {n m : Nat} {ps rs : List Int} {ts : List Tsk} (h : Mem.Own w0 (X :: L.set i (pdA G s)) w) (hi : i < L.length) (ht : PTrk s0 (headI x0 x1 x2 x3 n ps m ++ (irows ts ++ rs)) s) (hp : ps.length = n) (hm : ts.length < m) (hr : rs.length < 6) :
    Calls Try.prog 67 #[.pointer (some ⟨G, 0, none⟩)] w fun e w' => (∃ (x : Int) (t : ByteArray), e = .returned (.int .i64 x) ∧ PTrk s0 (headI x0 x1 x2 x3 n ps m ++ (irows ts ++ (rs ++ [x]))) t ∧ Mem.Own w0 (X :: L.set i (pdA G t)) w') ∨ (e = PAN ∧ NoRead s0 ∧ Kept w0 w') :=
  (number_q (i := i + 1) h (by simp [hi]) ht (room_i hp hm hr)).mono fun e w' hq => by
    rcases hq with ⟨x, t, he, _, hT, hO⟩ | hq
    · refine .inl ⟨x, t, he, by rw [← List.append_assoc (irows ts), ← List.append_assoc]; exact hT, ?_⟩
      have e : (X :: L.set i (pdA G s)).set (i + 1) (pdA G t) = X :: L.set i (pdA G t) := by simp
      rw [e] at hO; exact hO
    · exact .inr hq
theorem upTo_r {w0 w : World} {X : As} {L : List As} {G i : Nat} {s0 s : ByteArray} {x0 x1 x2 x3 : Int} {n m : Nat} {ps : List Int} {ts : List Tsk} (h : Mem.Own w0 (X :: L.set i (pdA G s)) w) (hi : i < L.length) (ht : PTrk s0 (headI x0 x1 x2 x3 n ps m ++ irows ts) s) (hp : ps.length = n) (hm : ts.length < m) :
    Calls Try.prog 68 #[.pointer (some ⟨G, 0, none⟩), .int .i64 1] w fun e w' => (∃ (x : Int) (t : ByteArray), e = .returned (.int .i64 x) ∧ (0 ≤ x ∧ x ≤ 1) ∧ PTrk s0 (headI x0 x1 x2 x3 n ps m ++ (irows ts ++ [x])) t ∧ Mem.Own w0 (X :: L.set i (pdA G t)) w') ∨ (e = PAN ∧ NoRead s0 ∧ Kept w0 w') :=
  (upTo_q (i := i + 1) 1 h (by simp [hi]) ht (by have := room_i (x0 := x0) (x1 := x1) (x2 := x2) (x3 := x3) (rs := []) hp hm (by simp); simpa using this) (fun x t hx hb => no_always (by rw [List.append_assoc] at hx; exact hx) hp hb)).mono fun e w' hq => by
    rcases hq with ⟨x, t, he, hx, hT, hO⟩ | hq
    · refine .inl ⟨x, t, he, hx, by rw [← List.append_assoc]; exact hT, ?_⟩
      have e : (X :: L.set i (pdA G s)).set (i + 1) (pdA G t) = X :: L.set i (pdA G t) := by simp
      rw [e] at hO; exact hO
    · exact .inr hq
def zeroTA (B : Nat) : As := boxA B #[.bool false, .int .i64 0, .int .i64 0, .int .i64 0, .int .i64 0, .int .i64 0] 37
theorem task_end {w0 w : World} {L : List As} {B i G : Nat} {s0 t : ByteArray} {x0 x1 x2 x3 a y1 y2 y3 y4 y5 : Int} {n m : Nat} {ps : List Int} {ts : List Tsk} (h : Mem.Own w0 (zeroTA B :: L.set i (pdA G t)) w) (ha : 0 ≤ a ∧ a ≤ 1) (ht : PTrk s0 (headI x0 x1 x2 x3 n ps m ++ (irows ts ++ ([a] ++ [y1] ++ [y2] ++ [y3] ++ [y4] ++ [y5]))) t) :
    TaskQ w0 L i G s0 (headI x0 x1 x2 x3 n ps m) ts (.returned (.agg #[.bool (a == 1), .int .i64 y1, .int .i64 y2, .int .i64 y3, .int .i64 y4, .int .i64 y5])) ((((((w.setCell ⟨B, 0, none⟩ (.bool (a == 1))).setCell ⟨B, 1, none⟩ (.int .i64 y1)).setCell ⟨B, 2, none⟩ (.int .i64 y2)).setCell ⟨B, 3, none⟩ (.int .i64 y3)).setCell ⟨B, 4, none⟩ (.int .i64 y4)).setCell ⟨B, 5, none⟩ (.int .i64 y5)) := by
  refine .inl ⟨⟨a == 1, y1, y2, y3, y4, y5⟩, t, rfl, ?_, ?_⟩
  · rw [irows_snoc]
    have e : (if (a == 1) = true then (1 : Int) else 0) = a := by rcases (by omega : a = 0 ∨ a = 1) with rfl | rfl <;> rfl
    unfold Tsk.ints
    simp only [e]
    exact ht
  · exact ((((((h.boxset 0 rfl 0 (.bool (a == 1))).boxset 0 rfl 1 (.int .i64 y1)).boxset 0 rfl 2 (.int .i64 y2)).boxset 0 rfl 3 (.int .i64 y3)).boxset 0 rfl 4 (.int .i64 y4)).boxset 0 rfl 5 (.int .i64 y5)).tail
set_option maxHeartbeats 2000000 in
set_option maxRecDepth 100000 in
theorem task_q {w0 w : World} {L : List As} {G i : Nat} {s0 s : ByteArray} {x0 x1 x2 x3 : Int} {n m : Nat} {ps : List Int} {ts : List Tsk} (h : Mem.Own w0 L w) (hi : L[i]? = some (pdA G s)) (ht : PTrk s0 (headI x0 x1 x2 x3 n ps m ++ irows ts) s) (hp : ps.length = n) (hm : ts.length < m) :
    Calls Try.prog 69 #[.pointer (some ⟨G, 0, none⟩)] w fun e w' => TaskQ w0 L i G s0 (headI x0 x1 x2 x3 n ps m) ts e w' := by
  have O0 := Lib.hid (show Mem.Own w0 (zeroTA w.heap.size :: L.set i (pdA G s)) _ from (set_same hi).symm ▸ h.box #[.bool false, .int .i64 0, .int .i64 0, .int .i64 0, .int .i64 0, .int .i64 0] 37)
  have hl := (List.getElem?_eq_some_iff.1 hi).1
  have H := Lib.hid (And.intro hl (And.intro ht (And.intro hp hm)))
  clear h hi ht hp hm hl
  go_enter Try.func69, Try.ntmps69
  go_wp2_with (first
    | (go_at_call 68; ((with_reducible refine (upTo_r O0.out H.out.1 H.out.2.1 H.out.2.2.1 H.out.2.2.2).mono ?_); rintro e w0' (⟨a, t0, rfl, ha, hT, hO⟩ | ⟨rfl, hN, hk⟩); rotate_left; exact ⟨rfl, .inr ⟨rfl, hN, hk⟩⟩; have T0 := Lib.hid hT; have P0 := Lib.hid hO; have HA := Lib.hid ha; clear hT hO ha))
    | (go_at_call 67; first
      | ((with_reducible refine (number_r (rs := [a] ++ [y1] ++ [y2] ++ [y3] ++ [y4]) P4.out H.out.1 T4.out H.out.2.2.1 H.out.2.2.2 (by simp)).mono ?_); rintro e u5 (⟨y5, t5, rfl, hT, hO⟩ | ⟨rfl, hN, hk⟩); rotate_left; exact ⟨rfl, .inr ⟨rfl, hN, hk⟩⟩; obtain ⟨⟨b0, b1, b2, b3, b4, b5⟩, bf⟩ := box6 (hO.boxed 0 rfl); have f0 := bf 0; have f1 := bf 1; have f2 := bf 2; have f3 := bf 3; have f4 := bf 4; have f5 := bf 5; clear bf; have T5 := Lib.hid hT; have P5 := Lib.hid hO; clear hT hO)
      | ((with_reducible refine (number_r (rs := [a] ++ [y1] ++ [y2] ++ [y3]) P3.out H.out.1 T3.out H.out.2.2.1 H.out.2.2.2 (by simp)).mono ?_); rintro e u4 (⟨y4, t4, rfl, hT, hO⟩ | ⟨rfl, hN, hk⟩); rotate_left; exact ⟨rfl, .inr ⟨rfl, hN, hk⟩⟩; have T4 := Lib.hid hT; have P4 := Lib.hid hO; clear hT hO)
      | ((with_reducible refine (number_r (rs := [a] ++ [y1] ++ [y2]) P2.out H.out.1 T2.out H.out.2.2.1 H.out.2.2.2 (by simp)).mono ?_); rintro e u3 (⟨y3, t3, rfl, hT, hO⟩ | ⟨rfl, hN, hk⟩); rotate_left; exact ⟨rfl, .inr ⟨rfl, hN, hk⟩⟩; have T3 := Lib.hid hT; have P3 := Lib.hid hO; clear hT hO)
      | ((with_reducible refine (number_r (rs := [a] ++ [y1]) P1.out H.out.1 T1.out H.out.2.2.1 H.out.2.2.2 (by simp)).mono ?_); rintro e u2 (⟨y2, t2, rfl, hT, hO⟩ | ⟨rfl, hN, hk⟩); rotate_left; exact ⟨rfl, .inr ⟨rfl, hN, hk⟩⟩; have T2 := Lib.hid hT; have P2 := Lib.hid hO; clear hT hO)
      | ((with_reducible refine (number_r (rs := [a]) P0.out H.out.1 T0.out H.out.2.2.1 H.out.2.2.2 (by simp)).mono ?_); rintro e u1 (⟨y1, t1, rfl, hT, hO⟩ | ⟨rfl, hN, hk⟩); rotate_left; exact ⟨rfl, .inr ⟨rfl, hN, hk⟩⟩; have T1 := Lib.hid hT; have P1 := Lib.hid hO; clear hT hO)))
  refine bodyPost_ret (v := .agg #[.bool (a == 1), .int .i64 y1, .int .i64 y2, .int .i64 y3, .int .i64 y4, .int .i64 y5]) (by simp [results, Try.results69, go_sem, b0, b1, b2, b3, b4, b5]) rfl ?_
  exact task_end P5.out HA.out T5.out
end Go.Proofs.YtngojgocplmedaaR.Ls
