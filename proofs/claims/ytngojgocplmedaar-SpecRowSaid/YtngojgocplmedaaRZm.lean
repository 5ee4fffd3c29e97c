/-
  The specification's reader of specifications (layer 13): Reader.Spec.
-/
import Derived.Test.YtngojgocplmedaaRZl
import Derived.Test.YtngojgocplmedaaRZk
import Derived.Deep.RegionLaw
import Derived.Deep.RegionHeld3
import Derived.RegionTactic
import Derived.Deep.CutRange
import Derived.Deep.CutBlock
namespace Go.Proofs.YtngojgocplmedaaR.Ls
open Go.RowKit Go.Proofs.YtngojgocplmedaaR.Mem Go.Proofs.YtngojgocplmedaaR.Bx Go.Proofs.YtngojgocplmedaaR.In Go.Proofs.YtngojgocplmedaaR.Sp Go.Proofs.YtngojgocplmedaaR.Nr Go.Proofs.YtngojgocplmedaaR.Pk Go.ChangeShapes Go.WideShapes Go.ChangeAt
set_option linter.unusedVariables false

/-- The reader's box. -/
def rdA (G : Nat) (s : ByteArray) (b : Bool) : As := boxA G #[.string s, .bool b] 82
/-- A specification's box. -/
def bxA (B : Nat) (x0 x1 x2 x3 : Int) (p t : Value) : As := boxA B #[.int .i64 x0, .int .i64 x1, .int .i64 x2, .int .i64 x3, p, t] 27
theorem rd_cells {w0 w : World} {L : List As} {G : Nat} {s : ByteArray} {b : Bool} (h : Mem.Own w0 L w) (i : Nat) (hi : L[i]? = some (rdA G s b)) :
    w.cell? ⟨G, 0, none⟩ = some (.string s) ∧ w.cell? ⟨G, 1, none⟩ = some (.bool b) ∧ w.frozen? ⟨G, 1, none⟩ = false := by
  obtain ⟨⟨c0, c1⟩, f⟩ := box2 (h.boxed i hi)
  exact ⟨c0, c1, f 1⟩
theorem bx_cells {w0 w : World} {L : List As} {B : Nat} {x0 x1 x2 x3 : Int} {p t : Value} (h : Mem.Own w0 L w) (i : Nat) (hi : L[i]? = some (bxA B x0 x1 x2 x3 p t)) :
    (w.cell? ⟨B, 0, none⟩ = some (.int .i64 x0) ∧ w.cell? ⟨B, 1, none⟩ = some (.int .i64 x1) ∧ w.cell? ⟨B, 2, none⟩ = some (.int .i64 x2) ∧ w.cell? ⟨B, 3, none⟩ = some (.int .i64 x3) ∧ w.cell? ⟨B, 4, none⟩ = some p ∧ w.cell? ⟨B, 5, none⟩ = some t) ∧ ∀ i, w.frozen? ⟨B, i, none⟩ = false := box6 (h.boxed i hi)
theorem rnum_r {w0 w : World} {L : List As} {G i : Nat} {s : ByteArray} {b : Bool} (h : Mem.Own w0 L w) (hi : L[i]? = some (rdA G s b)) :
    Calls Try.prog 70 #[.pointer (some ⟨G, 0, none⟩)] w fun e w' => ∃ x t c, e = .returned (.int .i64 x) ∧ NumR s b x t c ∧ Mem.Own w0 (L.set i (rdA G t c)) w' := rnum_c h hi
theorem reads_head {s0 s : ByteArray} {k : Nat} (hk : k < 5) {l : List Nat} {b : Bool} : b = false → ∀ y u, SpRead s0 y u → l = y.nums.take k → k + 1 ≤ y.nums.length := fun _ y _ _ _ => room5 y hk
theorem grown_off {S : Nat → Prop} {a w w' : World} {row : Option Nat} (h : Off S a w) (k : w.grownBy w' row) (hr : ∀ g, row = some g → S g ∨ a.heap.size ≤ g) : Off S a w' :=
  ⟨k.os.trans h.os, k.tape.trans h.tape, k.output.trans h.output, Nat.le_trans h.size k.size, fun i hi hs =>
    (k.block i (Nat.lt_of_lt_of_le hi h.size) fun e => (hr i e.symm).elim hs fun h2 => absurd hi (Nat.not_lt.2 h2)).trans (h.block i hi hs)⟩
theorem own_appended {w0 w wa w1 : World} {L : List As} (h : Mem.Own w0 L w) (i : Nat) {e : TypeId} {size n n' : Nat} {v v' : Value} {xs xs' : List Value} (hi : L[i]? = some (rowA e size v n xs)) (ka : Kept w wa)
    (hrow : w1.ownsRow 0 e size v' n' xs') (hg : wa.grownBy w1 v.ownBlock) (hl : v'.ownBlock = v.ownBlock ∨ v'.ownBlock = some wa.heap.size) : Mem.Own w0 (L.set i (rowA e size v' n' xs')) w1 := by
  obtain ⟨S, hp, hs, back⟩ := h.open i hi
  refine back _ _ (grown_off (ka.off S) hg fun g hg' => .inl (hp.2 g hg')) ⟨hrow, fun g hg' => ?_⟩
  rcases hl with e | e
  · exact .inl (hp.2 g (by rw [← e]; exact hg'))
  · have := (hrow.lt g hg').2
    rw [e] at hg'
    obtain rfl : wa.heap.size = g := Option.some.inj hg'
    exact .inr ⟨ka.size, this⟩
def elI : El Int where
  T := 3
  S := 24
  k := 1
  bytes := 8
  zero := .int .i64 0
  cs x := [.int .i64 x]
theorem elI_fine : elI.fine where
  under := Try.underlying24
  el := by kernel_rfl
  info := by kernel_rfl
  size := fun _ => by kernel_rfl
  zc := by kernel_rfl
  pos := by decide
  few := by decide
  len := fun _ => rfl
  one := fun x u hu => by
    simp only [elI, List.mem_singleton] at hu
    subst hu; rfl
theorem elI_flat (l : List Int) : l.flatMap elI.cs = l.map encZ := by
  induction l with
  | nil => rfl
  | cons x l ih => rw [List.flatMap_cons, ih, List.map_cons]; rfl
section
variable {α : Type} {E : El α}
/-- An element more at the end of a row of the call's own, at a step of a region that draws its order. -/
theorem step_own (hE : E.fine) {w0 w wa : World} {L : List As} (i : Nat) {ao bo : Option Addr} {n cap c : Nat} {l : List α} {x : α} {ops : Array Oper} {o : Oper} {a : Act} {K : Act → World → Prop} {Q : Exit → Act → World → Prop} {F : Prop}
    (h : Mem.Own w0 L w) (hi : L[i]? = some (rowA E.T E.k (.slice ao n cap) n (l.flatMap E.cs))) (hl : l.length = n) (ka : Kept w wa) (s : AtE E wa bo 1 c [x]) (hb : n + 1 ≤ 1000000)
    (hgd : o.guard = none) (p q : Operand) (ho : o.op = .call { callee := .builtin .append, args := #[p, q], argTypes := #[E.S, E.S] }) (hp : a.eval p = .slice ao n cap) (hq : a.eval q = .slice bo 1 c)
    (hK : ∀ ao' cap' w', Mem.Own w0 (L.set i (rowA E.T E.k (.slice ao' (n + 1) cap') (n + 1) ((l ++ [x]).flatMap E.cs))) w' → K (a.put o.dst (.slice ao' (n + 1) cap')) w') :
    if Region.wanted o (yielded ops a.tmps) = true then Oper.wp Try.prog o a wa K Q else F := by
  have hw : Region.wanted o (yielded ops a.tmps) = true := by simp [Region.wanted, hgd]
  rw [if_pos hw]
  obtain ⟨ao', cap', w', hrun, hnew, hg, hloc⟩ := run_appE hE (B := 0) ⟨hl, (h.later ka).row i hi⟩ s (Nat.zero_le _) hb o.type
  unfold Oper.wp execOp
  simp only [ho, resolve, invoke, builtin, Sem.run_bind, Sem.run_pure, Result.andThen_ok, List.map_toArray, List.map_cons, List.map_nil, hp, hq, hrun]
  exact hK ao' cap' w' (own_appended h i hi ka hnew.2 hg hloc)
/-- .. and in a plain region. -/
theorem list_own (hE : E.fine) {w0 w wa : World} {L : List As} (i : Nat) {ao bo : Option Addr} {n cap c : Nat} {l : List α} {x : α} {ops : Array Oper} {rest : List Oper} {o : Oper} {a : Act} {Q : Exit → Act → World → Prop}
    (h : Mem.Own w0 L w) (hi : L[i]? = some (rowA E.T E.k (.slice ao n cap) n (l.flatMap E.cs))) (hl : l.length = n) (ka : Kept w wa) (s : AtE E wa bo 1 c [x]) (hb : n + 1 ≤ 1000000)
    (hgd : o.guard = none) (p q : Operand) (ho : o.op = .call { callee := .builtin .append, args := #[p, q], argTypes := #[E.S, E.S] }) (hp : a.eval p = .slice ao n cap) (hq : a.eval q = .slice bo 1 c)
    (hK : ∀ ao' cap' w', Mem.Own w0 (L.set i (rowA E.T E.k (.slice ao' (n + 1) cap') (n + 1) ((l ++ [x]).flatMap E.cs))) w' → wpList Try.prog ops Q rest (a.put o.dst (.slice ao' (n + 1) cap')) w') : wpList Try.prog ops Q (o :: rest) a wa := by
  refine wpList_plain hgd fun K' hK' => ?_
  obtain ⟨ao', cap', w', hrun, hnew, hg, hloc⟩ := run_appE hE (B := 0) ⟨hl, (h.later ka).row i hi⟩ s (Nat.zero_le _) hb o.type
  unfold Oper.wp
  simp [execOp, ho, resolve, invoke, builtin, hp, hq, hrun, Result.andThen]
  exact hK' _ _ (hK _ _ _ (own_appended h i hi ka hnew.2 hg hloc))
end
theorem litT {w : World} {N : Nat} (hN : w.heap.size = N) (x : Tsk) : AtE elT (w.alloc (.cells #[.bool x.always, .int .i64 x.lim, .int .i64 x.win, .int .i64 x.bas, .int .i64 x.most, .int .i64 x.prb] 37)) (some ⟨N, 0, none⟩) 1 1 [x] := by
  subst hN
  exact (NewE.lit elT_fine (B := 0) w (Nat.zero_le _) [x] (by simp [maxLen])).at elT_fine
theorem litI (w : World) (x : Int) : AtE elI (w.alloc (.cells #[.int .i64 x] 3)) (some ⟨w.heap.size, 0, none⟩) 1 1 [x] :=
  (NewE.lit elI_fine (B := 0) w (Nat.zero_le _) [x] (by simp [maxLen])).at elI_fine
theorem trk5 {s0 t0 t1 t2 t3 t4 : ByteArray} {x0 x1 x2 x3 x4 : Int} {c0 c1 c2 c3 c4 : Bool} (n0 : NumR s0 false x0 t0 c0) (n1 : NumR t0 c0 x1 t1 c1) (n2 : NumR t1 c1 x2 t2 c2) (n3 : NumR t2 c2 x3 t3 c3) (n4 : NumR t3 c3 x4 t4 c4) :
    Trk s0 5 ([x0.toNat, x1.toNat, x2.toNat, x3.toNat] ++ [x4.toNat] ++ nats []) t4 c4 := by
  have h := ((((Trk.start s0).num n0 (fun _ y _ _ _ => room5 y (by omega))).num n1 (fun _ y _ _ _ => room5 y (by omega))).num n2 (fun _ y _ _ _ => room5 y (by omega))).num n3 (fun _ y _ _ _ => room5 y (by omega)) |>.num n4 (fun _ y _ _ _ => room5 y (by omega))
  simpa [nats] using h
/-- What reading a specification leaves behind: a specification and the reader's state; its flag says whether these bytes begin with a specification's, which is then the one that was read. -/
def RdPost (w0 : World) (G : Nat) (s0 : ByteArray) (e : Ending) (w' : World) : Prop := ∃ (S : Sp) (q : Pl) (t : ByteArray) (c : Bool), e = .returned (.agg (spC S q)) ∧ SpNew w0.heap.size w' S q ∧ Mem.Own w0 [rdA G t c] w' ∧ (c = false → SpRead s0 S t) ∧ (c = true → NoRead s0)
theorem row_base {w0 w : World} {L : List As} (h : Mem.Own w0 L w) (i : Nat) {e : TypeId} {size n : Nat} {v : Value} {xs : List Value} (hi : L[i]? = some (rowA e size v n xs)) : w.ownsRow w0.heap.size e size v n xs := by
  obtain ⟨S, hp, hs⟩ := h.see i hi
  refine ⟨hp.1.1, ?_⟩
  rcases hp.1.2 with h2 | ⟨g, c, cur, e', hb, r⟩
  · exact .inl h2
  · exact .inr ⟨g, c, cur, e', (hs g (hp.2 g (by rw [e']; rfl))).1, r⟩
theorem sp_own {w0 w : World} {L : List As} {x0 x1 x2 x3 : Int} {ps : List Int} {ts : List Tsk} {po uo : Option Addr} {j pc i tc : Nat} (h : Mem.Own w0 L w) (a b : Nat) (ha : L[a]? = some (rowA 3 1 (.slice po j pc) j (ps.flatMap elI.cs)))
    (hb : L[b]? = some (rowA 37 6 (.slice uo i tc) i (ts.flatMap elT.cs))) (hfit : ∀ p ∈ ps, 0 ≤ p ∧ p ≤ 4611686018427387904) (hts : ts.length = i) : SpNew w0.heap.size w ⟨x0, x1, x2, x3, ps, ts⟩ ⟨po, j, pc, uo, i, tc⟩ := by
  have r1 := row_base h a ha
  have r2 := row_base h b hb
  rw [elI_flat] at r1
  exact ⟨⟨r1, fun p hp => by have := hfit p hp; unfold isI; omega⟩, ⟨hts, r2⟩⟩
theorem rread_end {w0 W1 : World} {B3 B2 G : Nat} {x0 x1 x2 x3 : Int} {ps : List Int} {ts : List Tsk} {po uo : Option Addr} {j pc i tc : Nat} {s0 t : ByteArray} {f : Bool} (O : Mem.Own w0 [bxA B3 x0 x1 x2 x3 (.slice po j pc) (.slice uo i tc), bxA B2 0 0 0 0 (.slice none 0 0) (.slice none 0 0), rdA G t f, rowA 3 1 (.slice po j pc) j (ps.flatMap elI.cs), rowA 37 6 (.slice uo i tc) i (ts.flatMap elT.cs)] W1)
    (hfit : ∀ p ∈ ps, 0 ≤ p ∧ p ≤ 4611686018427387904) (hts : ts.length = i) (hr : (f = false → SpRead s0 ⟨x0, x1, x2, x3, ps, ts⟩ t) ∧ (f = true → NoRead s0)) :
    RdPost w0 G s0 (.returned (.agg #[.int .i64 x0, .int .i64 x1, .int .i64 x2, .int .i64 x3, .slice po j pc, .slice uo i tc])) ((((((W1.setCell ⟨B2, 0, none⟩ (.int .i64 x0)).setCell ⟨B2, 1, none⟩ (.int .i64 x1)).setCell ⟨B2, 2, none⟩ (.int .i64 x2)).setCell ⟨B2, 3, none⟩ (.int .i64 x3)).setCell ⟨B2, 4, none⟩ (.slice po j pc)).setCell ⟨B2, 5, none⟩ (.slice uo i tc)) := by
  have o1 := O.boxset 1 rfl 0 (.int .i64 x0)
  have o2 := o1.boxset 1 rfl 1 (.int .i64 x1)
  have o3 := o2.boxset 1 rfl 2 (.int .i64 x2)
  have o4 := o3.boxset 1 rfl 3 (.int .i64 x3)
  have o5 := o4.boxset 1 rfl 4 (.slice po j pc)
  have o6 := o5.boxset 1 rfl 5 (.slice uo i tc)
  refine ⟨⟨x0, x1, x2, x3, ps, ts⟩, ⟨po, j, pc, uo, i, tc⟩, t, f, rfl, sp_own o6 3 4 rfl rfl hfit hts, ?_, hr.1, hr.2⟩
  refine o6.pick (fun _ => 2) (fun a b ha hb _ => by simp at ha hb; omega) (fun a x hx => ?_)
  match a, hx with
  | 0, hx => exact hx
theorem nums_eq {x0 x1 x2 x3 x4 m : Int} {ps : List Int} {ts : List Tsk} (h1 : (ps.length : Int) = x4) (h2 : (ts.length : Int) = m) : [x0.toNat, x1.toNat, x2.toNat, x3.toNat] ++ [x4.toNat] ++ nats ps ++ [m.toNat] ++ rows ts = (⟨x0, x1, x2, x3, ps, ts⟩ : Sp).nums := by
  subst h1
  subst h2
  simp [Sp.nums, Sp.head]
set_option maxHeartbeats 4000000 in
set_option maxRecDepth 100000 in
theorem rread_c {w0 w : World} {G : Nat} {s0 : ByteArray} (h : Mem.Own w0 [rdA G s0 false] w) :
    Calls Try.prog 55 #[.pointer (some ⟨G, 0, none⟩)] w fun e w' => RdPost w0 G s0 e w' := by
  have O0 := Lib.hid (show Mem.Own w0 [bxA w.heap.size 0 0 0 0 (.slice none 0 0) (.slice none 0 0), rdA G s0 false] (w.alloc (.cells #[.int .i64 0, .int .i64 0, .int .i64 0, .int .i64 0, .slice none 0 0, .slice none 0 0] 27)) from h.box _ _)
  obtain ⟨B2, hB2⟩ : ∃ B, B = w.heap.size := ⟨_, rfl⟩
  clear h
  go_enter Try.func55, Try.ntmps55
  go_upto_region 6 with (first
    | (go_at_call 70; first
      | ((with_reducible refine (rnum_r (i := 2) O4.out rfl).mono ?_); rintro e w5 ⟨x4, t4, c4, rfl, N4, o⟩; have O5 := Lib.hid o; have M4 := Lib.hid N4; obtain ⟨r0, r1, rf⟩ := rd_cells o 2 rfl; clear o N4)
      | ((with_reducible refine (rnum_r (i := 2) O3.out rfl).mono ?_); rintro e w4 ⟨x3, t3, c3, rfl, N3, o⟩; obtain ⟨⟨_, _, _, b3, _, _⟩, f3⟩ := bx_cells o 0 rfl; have f3 := f3 3; have O4 := Lib.hid (o.boxset 0 rfl 3 (.int .i64 x3)); have M3 := Lib.hid N3; clear o N3)
      | ((with_reducible refine (rnum_r (i := 2) O2.out rfl).mono ?_); rintro e w3 ⟨x2, t2, c2, rfl, N2, o⟩; obtain ⟨⟨_, _, b2, _, _, _⟩, f2⟩ := bx_cells o 0 rfl; have f2 := f2 2; have O3 := Lib.hid (o.boxset 0 rfl 2 (.int .i64 x2)); have M2 := Lib.hid N2; clear o N2)
      | ((with_reducible refine (rnum_r (i := 2) O1.out rfl).mono ?_); rintro e w2 ⟨x1, t1, c1, rfl, N1, o⟩; obtain ⟨⟨_, b1, _, _, _, _⟩, f1⟩ := bx_cells o 0 rfl; have f1 := f1 1; have O2 := Lib.hid (o.boxset 0 rfl 1 (.int .i64 x1)); have M1 := Lib.hid N1; clear o N1)
      | ((with_reducible refine (rnum_r (i := 1) O0.out rfl).mono ?_); rintro e w1 ⟨x0, t0, c0, rfl, N0, o⟩; have O1 := Lib.hid (o.box #[.int .i64 x0, .int .i64 0, .int .i64 0, .int .i64 0, .slice none 0 0, .slice none 0 0] 27); have M0 := Lib.hid N0; clear o N0)))
  have T5 := Lib.hid (trk5 M0.out M1.out M2.out M3.out M4.out)
  have X5 := Lib.hid (show Mem.Own w0 [bxA w1.heap.size x0 x1 x2 x3 (.slice none 0 0) (.slice none 0 0), bxA w.heap.size 0 0 0 0 (.slice none 0 0) (.slice none 0 0), rdA G t4 c4] w5 from O5.out)
  have F5 := Lib.hid (And.intro M0.out.fit (And.intro M1.out.fit (And.intro M2.out.fit (And.intro M3.out.fit M4.out.fit))))
  clear M0 M1 M2 M3 M4 O0 O1 O2 O3 O4 O5 b1 b2 b3 f1 f2 f3
  go_cut [4] from 26 to 36 (fun v4 wx => v4 = .int .i64 x4 ∧ ∃ c, (c = false → x4 ≤ 8) ∧ Trk s0 5 ([x0.toNat, x1.toNat, x2.toNat, x3.toNat] ++ [x4.toNat] ++ nats []) t4 c ∧ Mem.Own w0 [bxA w1.heap.size x0 x1 x2 x3 (.slice none 0 0) (.slice none 0 0), bxA w.heap.size 0 0 0 0 (.slice none 0 0) (.slice none 0 0), rdA G t4 c] wx)
  case first =>
    have H1 := Lib.hid (fun v => X5.out.boxset 2 rfl 1 v)
    cases c4 with
    | true =>
      go_wp2_with fail
      go_meet
      exact ⟨rfl, true, by simp, T5.out, H1.out _⟩
    | false =>
      by_cases h8 : 8 < x4
      · go_wp2_with fail
        go_meet
        exact ⟨rfl, true, by simp, T5.out.flag (q := true) (fun _ _ => big_ports T5.out rfl rfl (by omega)), H1.out _⟩
      · go_wp2_with fail
        go_meet
        exact ⟨rfl, false, fun _ => by omega, T5.out, H1.out _⟩
  case rest =>
    clear X5 T5 r0 r1 rf
    obtain ⟨rfl, c, hc8, hT, hO⟩ := hcut
    have hO' := hO.newRow 3 1
    have C0 := Lib.hid (And.intro hT hO')
    have C8 := Lib.hid hc8
    clear hT hO hO' hc8
    go_upto_block 0 with fail
    go_cut [5] from 37 to 55 (fun v5 wx => ∃ (j pc : Nat) (ps : List Int) (po : Option Addr) (t : ByteArray) (c : Bool), v5 = .int .i64 j ∧ ps.length = j ∧ j ≤ 8 ∧ (c = false → (j : Int) = x4) ∧ (∀ p ∈ ps, 0 ≤ p ∧ p ≤ 4611686018427387904) ∧ Trk s0 (5 + j) ([x0.toNat, x1.toNat, x2.toNat, x3.toNat] ++ [x4.toNat] ++ nats ps) t c ∧ Mem.Own w0 [bxA w1.heap.size x0 x1 x2 x3 (.slice po j pc) (.slice none 0 0), bxA w.heap.size 0 0 0 0 (.slice none 0 0) (.slice none 0 0), rdA G t c, rowA 3 1 (.slice po j pc) j (ps.flatMap elI.cs)] wx)
    case first =>
      go_wp2_with fail
      go_loopw [5] (fun i wr => ∃ (j pc : Nat) (ps : List Int) (po : Option Addr) (t : ByteArray) (c : Bool), i = .int .i64 j ∧ ps.length = j ∧ j ≤ 8 ∧ (c = false → (j : Int) ≤ x4 ∧ x4 ≤ 8) ∧ (∀ p ∈ ps, 0 ≤ p ∧ p ≤ 4611686018427387904) ∧ Trk s0 (5 + j) ([x0.toNat, x1.toNat, x2.toNat, x3.toNat] ++ [x4.toNat] ++ nats ps) t c ∧ Mem.Own w0 [bxA w1.heap.size x0 x1 x2 x3 (.slice po j pc) (.slice none 0 0), bxA w.heap.size 0 0 0 0 (.slice none 0 0) (.slice none 0 0), rdA G t c, rowA 3 1 (.slice po j pc) j (ps.flatMap elI.cs)] wr) (fun i _ => 9 - (RowKit.intOf i).toNat)
      case atStart => exact ⟨0, 0, [], none, _, c, rfl, rfl, by omega, fun e => ⟨by have := F5.out.2.2.2.2.1; omega, C8.out e⟩, by simp, C0.out.1, C0.out.2⟩
      case round =>
        obtain ⟨j, pc, ps, po, t, c, rfl, hps, hj8, hc8, hfit, hT, hO⟩ := hrel
        obtain ⟨e0, e1, _⟩ := rd_cells hO 2 rfl
        have R := Lib.hid (And.intro hps (And.intro hc8 (And.intro hfit (And.intro hT hO))))
        clear hps hc8 hfit hT hO
        by_cases hlt : (j : Int) < x4
        · cases c with
          | true =>
            go_wp2_with fail
            go_meet
            exact ⟨j, pc, ps, po, t, true, rfl, R.out.1, hj8, by simp, R.out.2.2.1, R.out.2.2.2.1, R.out.2.2.2.2⟩
          | false =>
            have h88 := R.out.2.1 rfl
            have H88 := Lib.hid h88.2
            have hj9 : j + 1 ≤ 8 := by omega
            obtain ⟨⟨_, _, _, _, d4, _⟩, _⟩ := bx_cells R.out.2.2.2.2 0 rfl
            obtain ⟨⟨_, _, _, _, d4', _⟩, _⟩ := bx_cells R.out.2.2.2.2.drew 0 rfl
            clear h88
            go_wp2_with fail
            go_region_law (first
              | (go_simp; go_at_call 70; (with_reducible refine (rnum_r (i := 2) R.out.2.2.2.2.drew rfl).mono ?_); rintro e u1 ⟨y, t', c', rfl, N, o⟩; have O1 := Lib.hid o; have NN := Lib.hid N; obtain ⟨⟨_, _, _, _, g4, _⟩, _⟩ := bx_cells o 0 rfl; have s1 := Lib.hid (litI u1 y); have k1 := Lib.hid ((Kept.refl u1).alloc (.cells #[.int .i64 y] 3)); obtain ⟨⟨_, _, _, _, g4', _⟩, _⟩ := bx_cells (o.later k1.out) 0 rfl; clear o N)
              | (refine step_own elI_fine 3 O1.out rfl R.out.1 k1.out s1.out (by omega) rfl _ _ rfl rfl rfl ?_; intro ao' cap' u2 o2; have O2 := Lib.hid o2; obtain ⟨⟨_, _, _, _, i4, _⟩, if4⟩ := bx_cells o2 0 rfl; have if4 := if4 4; clear o2))
            all_goals
              go_wp2_with fail
              go_roundw
              case rel =>
                refine ⟨j + 1, cap', ps ++ [y], ao', t', c', by go_num, by simp [R.out.1], hj9, fun _ => ⟨by omega, H88.out⟩, fun p hp => ?_, ?_, ?_⟩
                · rcases List.mem_append.1 hp with hp | hp
                  · exact R.out.2.2.1 p hp
                  · obtain rfl := List.mem_singleton.1 hp; exact NN.out.fit
                · have h := R.out.2.2.2.1.num NN.out (fun _ z u _ e => room_ports e rfl (by omega))
                  have e : nats (ps ++ [y]) = nats ps ++ [y.toNat] := by simp [nats]
                  rw [e, ← List.append_assoc]; exact h
                · have h := O2.out.boxset 0 rfl 4 (.slice ao' (j + 1) cap')
                  exact h
              case measure => simp [RowKit.intOf]; omega
        · go_wp2_with fail
          go_meet
          exact ⟨j, pc, ps, po, t, c, rfl, R.out.1, hj8, fun e => by have := R.out.2.1 e; omega, R.out.2.2.1, R.out.2.2.2.1, R.out.2.2.2.2⟩
    case rest =>
      obtain ⟨j, pc, ps, po, t, c, rfl, hps, hj8, hjx, hfit, hT, hO⟩ := hcut
      have R := Lib.hid (And.intro hps (And.intro hjx (And.intro hfit (And.intro hT hO))))
      clear hps hjx hfit hT hO C0 C8
      go_upto_region 12 with (go_at_call 70; (with_reducible refine (rnum_r (i := 2) R.out.2.2.2.2 rfl).mono ?_); rintro e u1 ⟨m, t6, c6, rfl, N, o⟩; have O6 := Lib.hid o; have N6 := Lib.hid N; obtain ⟨r0, r1, rf⟩ := rd_cells o 2 rfl; clear o N)
      have T6 := Lib.hid (show Trk s0 (5 + j + 1) ([x0.toNat, x1.toNat, x2.toNat, x3.toNat] ++ [x4.toNat] ++ nats ps ++ [m.toNat] ++ rows []) t6 c6 from by
        have h := R.out.2.2.2.1.num N6.out (fun hb _ u _ e => room_ports e rfl (by have := R.out.2.1 hb; omega))
        simpa [rows] using h)
      have J6 := Lib.hid (show c6 = false → (j : Int) = x4 from fun e => R.out.2.1 (N6.out.before e))
      have F6 := Lib.hid N6.out.fit
      have G6 := Lib.hid (And.intro R.out.1 (And.intro R.out.2.2.1 hj8))
      clear N6 R hj8
      go_cut [4] from 58 to 68 (fun v4 wx => v4 = .int .i64 m ∧ ∃ c, (c = false → (j : Int) = x4 ∧ m ≤ 4) ∧ Trk s0 (5 + j + 1) ([x0.toNat, x1.toNat, x2.toNat, x3.toNat] ++ [x4.toNat] ++ nats ps ++ [m.toNat] ++ rows []) t6 c ∧ Mem.Own w0 [bxA w1.heap.size x0 x1 x2 x3 (.slice po j pc) (.slice none 0 0), bxA w.heap.size 0 0 0 0 (.slice none 0 0) (.slice none 0 0), rdA G t6 c, rowA 3 1 (.slice po j pc) j (ps.flatMap elI.cs)] wx)
      case first =>
        have H1 := Lib.hid (fun v => O6.out.boxset 2 rfl 1 v)
        cases c6 with
        | true =>
          go_wp2_with fail
          go_meet
          exact ⟨rfl, true, by simp, T6.out, H1.out _⟩
        | false =>
          have j6 := J6.out rfl
          have hp6 : (nats ps).length = x4.toNat := by have := G6.out.1; simp [nats]; omega
          have P6 := Lib.hid (And.intro j6 hp6)
          clear j6 hp6
          by_cases h4 : 4 < m
          · go_wp2_with fail
            go_meet
            exact ⟨rfl, true, by simp, T6.out.flag (q := true) (fun _ _ => big_tasks T6.out rfl rfl P6.out.2 (by omega)), H1.out _⟩
          · go_wp2_with fail
            go_meet
            exact ⟨rfl, false, fun _ => ⟨P6.out.1, by omega⟩, T6.out, H1.out _⟩
      case rest =>
        clear T6 J6 O6 r0 r1 rf
        obtain ⟨rfl, c, hc4, hT, hO⟩ := hcut
        have hO' := hO.newRow 37 6
        have C0 := Lib.hid (And.intro hT hO')
        have C4 := Lib.hid hc4
        clear hT hO hO' hc4
        go_upto_block 2 with fail
        go_cut [6] from 69 to 123 (fun v6 wx => ∃ (i tc : Nat) (ts : List Tsk) (uo : Option Addr) (t : ByteArray) (c : Bool), v6 = .int .i64 i ∧ ts.length = i ∧ i ≤ 4 ∧ (c = false → (j : Int) = x4 ∧ (i : Int) = m) ∧ (∀ x ∈ ts, Tsk.nn x) ∧ Trk s0 (5 + j + 1 + 6 * i) ([x0.toNat, x1.toNat, x2.toNat, x3.toNat] ++ [x4.toNat] ++ nats ps ++ [m.toNat] ++ rows ts) t c ∧ Mem.Own w0 [bxA w1.heap.size x0 x1 x2 x3 (.slice po j pc) (.slice uo i tc), bxA w.heap.size 0 0 0 0 (.slice none 0 0) (.slice none 0 0), rdA G t c, rowA 3 1 (.slice po j pc) j (ps.flatMap elI.cs), rowA 37 6 (.slice uo i tc) i (ts.flatMap elT.cs)] wx)
        case first =>
          go_wp2_with fail
          go_loopw [6] (fun k wr => ∃ (i tc : Nat) (ts : List Tsk) (uo : Option Addr) (t : ByteArray) (c : Bool), k = .int .i64 i ∧ ts.length = i ∧ i ≤ 4 ∧ (c = false → (j : Int) = x4 ∧ (i : Int) ≤ m ∧ m ≤ 4) ∧ (∀ x ∈ ts, Tsk.nn x) ∧ Trk s0 (5 + j + 1 + 6 * i) ([x0.toNat, x1.toNat, x2.toNat, x3.toNat] ++ [x4.toNat] ++ nats ps ++ [m.toNat] ++ rows ts) t c ∧ Mem.Own w0 [bxA w1.heap.size x0 x1 x2 x3 (.slice po j pc) (.slice uo i tc), bxA w.heap.size 0 0 0 0 (.slice none 0 0) (.slice none 0 0), rdA G t c, rowA 3 1 (.slice po j pc) j (ps.flatMap elI.cs), rowA 37 6 (.slice uo i tc) i (ts.flatMap elT.cs)] wr) (fun k _ => 5 - (RowKit.intOf k).toNat)
          case atStart => exact ⟨0, 0, [], none, _, c, rfl, rfl, by omega, fun e => ⟨(C4.out e).1, by have := F6.out; omega, (C4.out e).2⟩, by simp, C0.out.1, C0.out.2⟩
          case round =>
            obtain ⟨i, tc, ts, uo, t, c, rfl, hts, hi4, hc4, hnn, hT, hO⟩ := hrel
            obtain ⟨e0, e1, _⟩ := rd_cells hO 2 rfl
            have R := Lib.hid (And.intro hts (And.intro hc4 (And.intro hnn (And.intro hT hO))))
            clear hts hc4 hnn hT hO C0 C4
            by_cases hlt : (i : Int) < m
            · cases c with
              | true =>
                go_wp2_with fail
                go_meet
                exact ⟨i, tc, ts, uo, t, true, rfl, R.out.1, hi4, by simp, R.out.2.2.1, R.out.2.2.2.1, R.out.2.2.2.2⟩
              | false =>
                have h88 := R.out.2.1 rfl
                have H88 := Lib.hid (And.intro h88 (by omega : i + 1 ≤ 4))
                clear h88
                have B0 := Lib.hid (R.out.2.2.2.2.box #[.bool false, .int .i64 0, .int .i64 0, .int .i64 0, .int .i64 0, .int .i64 0] 37)
                have hplen : (nats ps).length = x4.toNat := by have := G6.out.1; have := H88.out.1.1; simp [nats]; omega
                have HP := Lib.hid hplen
                have hk6 : 5 + j + 1 + 6 * i + 6 ≤ 6 + x4.toNat + 6 * m.toNat := by have := H88.out.1.1; omega
                have HK := Lib.hid hk6
                clear hplen hk6
                go_upto_region 18 with (go_at_call 70; (with_reducible refine (rnum_r (i := 3) B0.out rfl).mono ?_); rintro e v1 ⟨a, t7, c7, rfl, N, o⟩; have B1 := Lib.hid o; have N7 := Lib.hid N; obtain ⟨r0, r1, rf⟩ := rd_cells o 3 rfl; clear o N)
                have T7 := Lib.hid (R.out.2.2.2.1.more N7.out rfl (fun _ => HP.out) (fun _ => by have := HK.out; omega))
                have F7 := Lib.hid N7.out.fit
                go_cut [8] from 82 to 94 (fun v8 wx => v8 = .int .i64 a ∧ ∃ c', (c' = false → a ≤ 1) ∧ Trk s0 (5 + j + 1 + 6 * i + 1) ([x0.toNat, x1.toNat, x2.toNat, x3.toNat] ++ [x4.toNat] ++ nats ps ++ [m.toNat] ++ (rows ts ++ [a.toNat])) t7 c' ∧ Mem.Own w0 [boxA wr.heap.size #[.bool false, .int .i64 0, .int .i64 0, .int .i64 0, .int .i64 0, .int .i64 0] 37, bxA w1.heap.size x0 x1 x2 x3 (.slice po j pc) (.slice uo i tc), bxA w.heap.size 0 0 0 0 (.slice none 0 0) (.slice none 0 0), rdA G t7 c', rowA 3 1 (.slice po j pc) j (ps.flatMap elI.cs), rowA 37 6 (.slice uo i tc) i (ts.flatMap elT.cs)] wx)
                case first =>
                  have H1 := Lib.hid (fun v => B1.out.boxset 3 rfl 1 v)
                  cases c7 with
                  | true =>
                    go_wp2_with fail
                    go_meet
                    exact ⟨rfl, true, by simp, T7.out, H1.out _⟩
                  | false =>
                    by_cases ha : 1 < a
                    · go_wp2_with fail
                      go_meet
                      exact ⟨rfl, true, by simp, T7.out.flag (q := true) (fun _ _ => big_always T7.out rfl rfl HP.out (by omega)), H1.out _⟩
                    · go_wp2_with fail
                      go_meet
                      exact ⟨rfl, false, fun _ => by omega, T7.out, H1.out _⟩
                case rest =>
                  clear T7 N7 B1 B0 r0 r1 rf
                  obtain ⟨rfl, c', hca, hT, hO⟩ := hcut
                  obtain ⟨⟨q0, _, _, _, _, _⟩, f0⟩ := box6 (hO.boxed 0 rfl)
                  have f0 := f0 0
                  have Q0 := Lib.hid (hO.boxset 0 rfl 0 (.bool (a == 1)))
                  have T7 := Lib.hid (And.intro hca hT)
                  clear hca hT hO
                  go_wp2_with (first
                    | (at_builtin; refine list_own elT_fine 5 Q5.out rfl R.out.1 kT.out sT.out (by omega) rfl _ _ rfl rfl rfl ?_; intro ao' cap' u9 o9; have Q6 := Lib.hid o9; obtain ⟨⟨_, _, _, _, _, z9⟩, zf⟩ := bx_cells o9 1 rfl; have zf := zf 5; clear o9)
                    | (go_at_call 70; first
                      | ((with_reducible refine (rnum_r (i := 3) Q4.out rfl).mono ?_); rintro e v5 ⟨y5, s5, d5, rfl, N, o⟩; have M5 := Lib.hid N; obtain ⟨⟨a0, a1, a2, a3, a4, a5⟩, af⟩ := box6 (o.boxed 0 rfl); have f5 := af 5; clear af; have Q5 := Lib.hid (o.boxset 0 rfl 5 (.int .i64 y5)); obtain ⟨⟨_, _, _, _, _, z5⟩, _⟩ := bx_cells Q5.out 1 rfl; have sT := Lib.hid (litT (w := v5.setCell ⟨wr.heap.size, 5, none⟩ (.int .i64 y5)) (N := v5.heap.size) (by simp [World.setCell]) ⟨a == 1, y1, y2, y3, y4, y5⟩); have kT := Lib.hid ((Kept.refl (v5.setCell ⟨wr.heap.size, 5, none⟩ (.int .i64 y5))).alloc (.cells #[.bool (a == 1), .int .i64 y1, .int .i64 y2, .int .i64 y3, .int .i64 y4, .int .i64 y5] 37)); clear o N)
                      | ((with_reducible refine (rnum_r (i := 3) Q3.out rfl).mono ?_); rintro e v4 ⟨y4, s4, d4, rfl, N, o⟩; have M4 := Lib.hid N; obtain ⟨⟨a0, a1, a2, a3, a4, a5⟩, af⟩ := box6 (o.boxed 0 rfl); have q4 := a4; have f4 := af 4; clear a0 a1 a2 a3 a4 a5 af; have Q4 := Lib.hid (o.boxset 0 rfl 4 (.int .i64 y4)); clear o N)
                      | ((with_reducible refine (rnum_r (i := 3) Q2.out rfl).mono ?_); rintro e v3 ⟨y3, s3, d3, rfl, N, o⟩; have M3 := Lib.hid N; obtain ⟨⟨a0, a1, a2, a3, a4, a5⟩, af⟩ := box6 (o.boxed 0 rfl); have q3 := a3; have f3 := af 3; clear a0 a1 a2 a3 a4 a5 af; have Q3 := Lib.hid (o.boxset 0 rfl 3 (.int .i64 y3)); clear o N)
                      | ((with_reducible refine (rnum_r (i := 3) Q1.out rfl).mono ?_); rintro e v2 ⟨y2, s2, d2, rfl, N, o⟩; have M2 := Lib.hid N; obtain ⟨⟨a0, a1, a2, a3, a4, a5⟩, af⟩ := box6 (o.boxed 0 rfl); have q2 := a2; have f2 := af 2; clear a0 a1 a2 a3 a4 a5 af; have Q2 := Lib.hid (o.boxset 0 rfl 2 (.int .i64 y2)); clear o N)
                      | ((with_reducible refine (rnum_r (i := 3) Q0.out rfl).mono ?_); rintro e v1 ⟨y1, s1, d1, rfl, N, o⟩; have M1 := Lib.hid N; obtain ⟨⟨a0, a1, a2, a3, a4, a5⟩, af⟩ := box6 (o.boxed 0 rfl); have q1 := a1; have f1 := af 1; clear a0 a1 a2 a3 a4 a5 af; have Q1 := Lib.hid (o.boxset 0 rfl 1 (.int .i64 y1)); clear o N)))
                  go_roundw
                  case rel =>
                    refine ⟨i + 1, cap', ts ++ [⟨a == 1, y1, y2, y3, y4, y5⟩], ao', s5, d5, by go_num, by simp [R.out.1], H88.out.2, fun _ => ⟨H88.out.1.1, by omega, H88.out.1.2.2⟩, fun x hx => ?_, ?_, ?_⟩
                    · rcases List.mem_append.1 hx with hx | hx
                      · exact R.out.2.2.1 x hx
                      · obtain rfl := List.mem_singleton.1 hx
                        exact ⟨M1.out.fit.1, M2.out.fit.1, M3.out.fit.1, M4.out.fit.1, M5.out.fit.1⟩
                    · have h := Trk.task T7.out.2 M1.out M2.out M3.out M4.out M5.out rfl (fun _ => HP.out) (fun _ => HK.out) T7.out.1 F7.out.1
                      exact h
                    · have h := (Q6.out.boxset 1 rfl 5 (.slice ao' (i + 1) cap')).tail
                      exact h
                  case measure => simp [RowKit.intOf]; omega
            · go_wp2_with fail
              go_meet
              exact ⟨i, tc, ts, uo, t, c, rfl, R.out.1, hi4, fun e => by have := R.out.2.1 e; omega, R.out.2.2.1, R.out.2.2.2.1, R.out.2.2.2.2⟩
        case rest =>
          obtain ⟨i, tc, ts, uo, t, c, rfl, hts, hi4, hc4, hnn, hT, hO⟩ := hcut
          have HT := Lib.hid (show Trk s0 (5 + j + 1 + 6 * i) (⟨x0, x1, x2, x3, ps, ts⟩ : Sp).nums t c from hT.relist fun e => nums_eq (by have := hc4 e; have := G6.out.1; omega) (by have := hc4 e; omega))
          have HN := Lib.hid (show SpNn ⟨x0, x1, x2, x3, ps, ts⟩ from ⟨F5.out.1.1, F5.out.2.1.1, F5.out.2.2.1.1, F5.out.2.2.2.1.1, fun p hp => (G6.out.2.1 p hp).1, hnn⟩)
          have HD := Lib.hid (HT.out.done HN.out)
          have hchk := fun W (o : Mem.Own w0 [bxA w1.heap.size x0 x1 x2 x3 (.slice po j pc) (.slice uo i tc), bxA w.heap.size 0 0 0 0 (.slice none 0 0) (.slice none 0 0), rdA G t c, rowA 3 1 (.slice po j pc) j (ps.flatMap elI.cs), rowA 37 6 (.slice uo i tc) i (ts.flatMap elT.cs)] W) => rspec_c (sp_own (x0 := x0) (x1 := x1) (x2 := x2) (x3 := x3) o 3 4 rfl rfl G6.out.2.1 hts).at
          unfold spC at hchk
          obtain ⟨E, hE⟩ : ∃ E, E = spSays ⟨x0, x1, x2, x3, ps, ts⟩ := ⟨_, rfl⟩
          rw [← hE] at hchk HD
          have HO := Lib.hid hO
          have HX := Lib.hid hts
          obtain ⟨r0, r1, rf⟩ := rd_cells hO 2 rfl
          obtain ⟨⟨a0, a1, a2, a3, a4, a5⟩, _⟩ := bx_cells hO 0 rfl
          have hc1 := hchk _ hO
          clear hts hc4 hnn hT hO C0 C4 hE HT HN
          cases c with
          | true =>
            have O8 := Lib.hid (show Mem.Own w0 [bxA w1.heap.size x0 x1 x2 x3 (.slice po j pc) (.slice uo i tc), bxA w.heap.size 0 0 0 0 (.slice none 0 0) (.slice none 0 0), rdA G t true, rowA 3 1 (.slice po j pc) j (ps.flatMap elI.cs), rowA 37 6 (.slice uo i tc) i (ts.flatMap elT.cs)] (wc.setCell ⟨G, 1, none⟩ (.bool true)) from HO.out.boxset 2 rfl 1 (.bool true))
            obtain ⟨⟨d0, d1, d2, d3, d4, d5⟩, _⟩ := bx_cells O8.out 0 rfl
            obtain ⟨⟨b0, b1, b2, b3, b4, b5⟩, bf⟩ := bx_cells O8.out 1 rfl
            have y0 := bf 0
            have y1 := bf 1
            have y2 := bf 2
            have y3 := bf 3
            have y4 := bf 4
            have y5 := bf 5
            clear bf
            go_wp2_with fail
            refine bodyPost_ret (v := .agg #[.int .i64 x0, .int .i64 x1, .int .i64 x2, .int .i64 x3, .slice po j pc, .slice uo i tc]) (by simp [results, Try.results55, go_sem, b0, b1, b2, b3, b4, b5]) rfl ?_
            exact rread_end O8.out G6.out.2.1 HX.out ⟨by simp, HD.out.2⟩
          | false =>
            rcases hq : (E != 0) with _ | _
            all_goals
              rw [hq] at HD
              go_wp2_with (go_at_call 15; (with_reducible refine hc1.mono ?_); rintro e w8 ⟨rfl, k8⟩; have O7 := Lib.hid (HO.out.later k8); obtain ⟨g0, g1, gf⟩ := rd_cells O7.out 2 rfl; have O8 := Lib.hid (fun v => O7.out.boxset 2 rfl 1 (.bool v)); obtain ⟨⟨_, _, _, _, _, _⟩, _⟩ := bx_cells (O8.out true) 0 rfl; obtain ⟨⟨_, _, _, _, _, _⟩, _⟩ := bx_cells (O8.out false) 0 rfl; obtain ⟨⟨b0, b1, b2, b3, b4, b5⟩, bt⟩ := bx_cells (O8.out true) 1 rfl; obtain ⟨⟨c0', c1', c2', c3', c4', c5'⟩, bf⟩ := bx_cells (O8.out false) 1 rfl; have := bt 0; have := bt 1; have := bt 2; have := bt 3; have := bt 4; have := bt 5; have := bf 0; have := bf 1; have := bf 2; have := bf 3; have := bf 4; have := bf 5; clear bf bt)
              refine bodyPost_ret (v := .agg #[.int .i64 x0, .int .i64 x1, .int .i64 x2, .int .i64 x3, .slice po j pc, .slice uo i tc]) (by simp [results, Try.results55, go_sem, b0, b1, b2, b3, b4, b5, c0', c1', c2', c3', c4', c5']) rfl ?_
              exact rread_end (O8.out _) G6.out.2.1 HX.out HD.out
end Go.Proofs.YtngojgocplmedaaR.Ls
