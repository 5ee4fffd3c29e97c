/-
  The program's reader of specifications (package spec, layer 13): spec.
-/
import Derived.Test.YtngojgocplmedaaRNg
import Derived.Deep.RegionLaw
import Derived.Deep.CutRange
import Derived.Deep.CutBlock
namespace Go.Proofs.YtngojgocplmedaaR.Ls
open Go.RowKit Go.Proofs.YtngojgocplmedaaR.Mem Go.Proofs.YtngojgocplmedaaR.Bx Go.Proofs.YtngojgocplmedaaR.In Go.Proofs.YtngojgocplmedaaR.Sp Go.Proofs.YtngojgocplmedaaR.Nr Go.Proofs.YtngojgocplmedaaR.Pk Go.ChangeShapes Go.WideShapes Go.ChangeAt
set_option linter.unusedVariables false

/-- What the reading of a specification comes to. -/
def RdQ (w0 : World) (G : Nat) (s0 : ByteArray) (e : Ending) (w' : World) : Prop :=
  (∃ (S : Sp) (q : Pl) (t : ByteArray), e = .returned (.agg (spC S q)) ∧ SpNew w0.heap.size w' S q ∧ Mem.Own w0 [pdA G t] w' ∧ PTrk s0 (Sp.ints S) t) ∨ (e = PAN ∧ NoRead s0 ∧ Kept w0 w')
theorem rd_end {w0 W1 : World} {B3 B2 G : Nat} {x0 x1 x2 x3 : Int} {n m : Nat} {ps : List Int} {ts : List Tsk} {po uo : Option Addr} {pc tc : Nat} {s0 t : ByteArray} (O : Mem.Own w0 [bxA B3 x0 x1 x2 x3 (.slice po n pc) (.slice uo m tc), bxA B2 0 0 0 0 (.slice none 0 0) (.slice none 0 0), pdA G t, rowA 3 1 (.slice po n pc) n (ps.flatMap elI.cs), rowA 37 6 (.slice uo m tc) m (ts.flatMap elT.cs)] W1)
    (hfit : ∀ p ∈ ps, isI p) (hps : ps.length = n) (hts : ts.length = m) (hT : PTrk s0 (headI x0 x1 x2 x3 n ps m ++ irows ts) t) :
    RdQ w0 G s0 (.returned (.agg #[.int .i64 x0, .int .i64 x1, .int .i64 x2, .int .i64 x3, .slice po n pc, .slice uo m tc])) ((((((W1.setCell ⟨B2, 0, none⟩ (.int .i64 x0)).setCell ⟨B2, 1, none⟩ (.int .i64 x1)).setCell ⟨B2, 2, none⟩ (.int .i64 x2)).setCell ⟨B2, 3, none⟩ (.int .i64 x3)).setCell ⟨B2, 4, none⟩ (.slice po n pc)).setCell ⟨B2, 5, none⟩ (.slice uo m tc)) := by
  have o1 := O.boxset 1 rfl 0 (.int .i64 x0)
  have o2 := o1.boxset 1 rfl 1 (.int .i64 x1)
  have o3 := o2.boxset 1 rfl 2 (.int .i64 x2)
  have o4 := o3.boxset 1 rfl 3 (.int .i64 x3)
  have o5 := o4.boxset 1 rfl 4 (.slice po n pc)
  have o6 := o5.boxset 1 rfl 5 (.slice uo m tc)
  have r1 := row_base o6 3 rfl
  have r2 := row_base o6 4 rfl
  rw [elI_flat] at r1
  refine .inl ⟨⟨x0, x1, x2, x3, ps, ts⟩, ⟨po, n, pc, uo, m, tc⟩, t, rfl, ⟨⟨r1, hfit⟩, ⟨hts, r2⟩⟩, ?_, ?_⟩
  · refine o6.pick (fun _ => 2) (fun a b ha hb _ => by simp at ha hb; omega) (fun a x hx => ?_)
    match a, hx with
    | 0, hx => exact hx
  · subst hps; subst hts; exact hT
theorem num_head {w0 w : World} {X : As} {G : Nat} {s0 s : ByteArray} {l : List Int} (h : Mem.Own w0 [X, pdA G s] w) (ht : PTrk s0 l s) (hl : l.length < 5) :
    Calls Try.prog 67 #[.pointer (some ⟨G, 0, none⟩)] w fun e w' => (∃ (x : Int) (t : ByteArray), e = .returned (.int .i64 x) ∧ PTrk s0 (l ++ [x]) t ∧ Mem.Own w0 [X, pdA G t] w') ∨ (e = PAN ∧ NoRead s0 ∧ Kept w0 w') :=
  (number_q (i := 1) h rfl ht (room_head hl)).mono fun e w' hq => by
    rcases hq with ⟨x, t, he, _, hT, hO⟩ | hq
    · exact .inl ⟨x, t, he, hT, hO⟩
    · exact .inr hq
theorem up_ports {w0 w : World} {X Y : As} {G : Nat} {s0 s : ByteArray} {x0 x1 x2 x3 : Int} (h : Mem.Own w0 [X, Y, pdA G s] w) (ht : PTrk s0 [x0, x1, x2, x3] s) :
    Calls Try.prog 68 #[.pointer (some ⟨G, 0, none⟩), .int .i64 8] w fun e w' => (∃ (n : Nat) (t : ByteArray), e = .returned (.int .i64 (n : Int)) ∧ n ≤ 8 ∧ PTrk s0 ([x0, x1, x2, x3, (n : Int)] ++ []) t ∧ Mem.Own w0 [X, Y, pdA G t] w') ∨ (e = PAN ∧ NoRead s0 ∧ Kept w0 w') :=
  (upTo_q (i := 2) 8 h rfl ht (room_head (by simp)) (fun x t hx hb => no_ports hx hb)).mono fun e w' hq => by
    rcases hq with ⟨x, t, he, hx, hT, hO⟩ | hq
    · obtain ⟨n, rfl⟩ := Int.eq_ofNat_of_zero_le hx.1
      exact .inl ⟨n, t, he, by omega, hT, hO⟩
    · exact .inr hq
theorem up_tasks {w0 w : World} {X Y Z : As} {G n : Nat} {s0 s : ByteArray} {x0 x1 x2 x3 : Int} {ps : List Int} (h : Mem.Own w0 [X, Y, pdA G s, Z] w) (ht : PTrk s0 ([x0, x1, x2, x3, (n : Int)] ++ ps) s) (hp : ps.length = n) :
    Calls Try.prog 68 #[.pointer (some ⟨G, 0, none⟩), .int .i64 4] w fun e w' => (∃ (m : Nat) (t : ByteArray), e = .returned (.int .i64 (m : Int)) ∧ m ≤ 4 ∧ PTrk s0 (headI x0 x1 x2 x3 n ps m ++ irows []) t ∧ Mem.Own w0 [X, Y, pdA G t, Z] w') ∨ (e = PAN ∧ NoRead s0 ∧ Kept w0 w') :=
  (upTo_q (i := 2) 4 h rfl ht (room_n hp) (fun x t hx hb => no_tasks hx hp hb)).mono fun e w' hq => by
    rcases hq with ⟨x, t, he, hx, hT, hO⟩ | hq
    · obtain ⟨m, rfl⟩ := Int.eq_ofNat_of_zero_le hx.1
      exact .inl ⟨m, t, he, by omega, by simpa [headI, irows] using hT, hO⟩
    · exact .inr hq
theorem num_port {w0 w : World} {X Y Z : As} {G n : Nat} {s0 s : ByteArray} {x0 x1 x2 x3 : Int} {ps : List Int} (h : Mem.Own w0 [X, Y, pdA G s, Z] w) (ht : PTrk s0 ([x0, x1, x2, x3, (n : Int)] ++ ps) s) (hp : ps.length < n) :
    Calls Try.prog 67 #[.pointer (some ⟨G, 0, none⟩)] w fun e w' => (∃ (x : Int) (t : ByteArray), e = .returned (.int .i64 x) ∧ isI x ∧ PTrk s0 ([x0, x1, x2, x3, (n : Int)] ++ (ps ++ [x])) t ∧ Mem.Own w0 [X, Y, pdA G t, Z] w') ∨ (e = PAN ∧ NoRead s0 ∧ Kept w0 w') :=
  (number_q (i := 2) h rfl ht (room_p hp)).mono fun e w' hq => by
    rcases hq with ⟨x, t, he, hx, hT, hO⟩ | hq
    · exact .inl ⟨x, t, he, hx, by rw [← List.append_assoc]; exact hT, hO⟩
    · exact .inr hq
theorem one_task {w0 w : World} {X Y Z V : As} {G n m : Nat} {s0 s : ByteArray} {x0 x1 x2 x3 : Int} {ps : List Int} {ts : List Tsk} (h : Mem.Own w0 [X, Y, pdA G s, Z, V] w) (ht : PTrk s0 (headI x0 x1 x2 x3 n ps m ++ irows ts) s) (hp : ps.length = n) (hm : ts.length < m) :
    Calls Try.prog 69 #[.pointer (some ⟨G, 0, none⟩)] w fun e w' => (∃ (T : Tsk) (t : ByteArray), e = .returned (.agg #[.bool T.always, .int .i64 T.lim, .int .i64 T.win, .int .i64 T.bas, .int .i64 T.most, .int .i64 T.prb]) ∧ PTrk s0 (headI x0 x1 x2 x3 n ps m ++ irows (ts ++ [T])) t ∧ Mem.Own w0 [X, Y, pdA G t, Z, V] w') ∨ (e = PAN ∧ NoRead s0 ∧ Kept w0 w') :=
  (task_q (i := 2) h rfl ht hp hm).mono fun e w' hq => by
    rcases hq with ⟨T, t, he, hT, hO⟩ | hq
    · exact .inl ⟨T, t, he, hT, hO⟩
    · exact .inr hq
set_option maxHeartbeats 4000000 in
set_option maxRecDepth 100000 in
theorem spec_q {w0 w : World} {G : Nat} {s0 : ByteArray} (h : Mem.Own w0 [pdA G s0] w) :
    Calls Try.prog 54 #[.pointer (some ⟨G, 0, none⟩)] w fun e w' => RdQ w0 G s0 e w' := by
  have O0 := Lib.hid (show Mem.Own w0 [bxA w.heap.size 0 0 0 0 (.slice none 0 0) (.slice none 0 0), pdA G s0] (w.alloc (.cells #[.int .i64 0, .int .i64 0, .int .i64 0, .int .i64 0, .slice none 0 0, .slice none 0 0] 27)) from h.box _ _)
  clear h
  go_enter Try.func54, Try.ntmps54
  go_wp2_with (first
    | (go_at_call 68; ((with_reducible refine (up_ports P4.out T4.out).mono ?_); rintro e w5 (⟨n, t5, rfl, hn, hT, hO⟩ | ⟨rfl, hN, hk⟩); rotate_left; exact ⟨rfl, .inr ⟨rfl, hN, hk⟩⟩; have T5 := Lib.hid hT; have P5 := Lib.hid hO; clear hT hO))
    | (go_at_call 67; first
      | ((with_reducible refine (num_head (l := [x0, x1, x2]) P3.out T3.out (by simp)).mono ?_); rintro e w4 (⟨x3, t4, rfl, hT, hO⟩ | ⟨rfl, hN, hk⟩); rotate_left; exact ⟨rfl, .inr ⟨rfl, hN, hk⟩⟩; have T4 := Lib.hid (show PTrk s0 [x0, x1, x2, x3] t4 from hT); have P4 := Lib.hid (show Mem.Own w0 [bxA w4.heap.size x0 x1 x2 x3 (.slice none 0 0) (.slice none 0 0), bxA w.heap.size 0 0 0 0 (.slice none 0 0) (.slice none 0 0), pdA G t4] _ from hO.box #[.int .i64 x0, .int .i64 x1, .int .i64 x2, .int .i64 x3, .slice none 0 0, .slice none 0 0] 27); clear hT hO)
      | ((with_reducible refine (num_head (l := [x0, x1]) P2.out T2.out (by simp)).mono ?_); rintro e w3 (⟨x2, t3, rfl, hT, hO⟩ | ⟨rfl, hN, hk⟩); rotate_left; exact ⟨rfl, .inr ⟨rfl, hN, hk⟩⟩; have T3 := Lib.hid (show PTrk s0 [x0, x1, x2] t3 from hT); have P3 := Lib.hid hO; clear hT hO)
      | ((with_reducible refine (num_head (l := [x0]) P1.out T1.out (by simp)).mono ?_); rintro e w2 (⟨x1, t2, rfl, hT, hO⟩ | ⟨rfl, hN, hk⟩); rotate_left; exact ⟨rfl, .inr ⟨rfl, hN, hk⟩⟩; have T2 := Lib.hid (show PTrk s0 [x0, x1] t2 from hT); have P2 := Lib.hid hO; clear hT hO)
      | ((with_reducible refine (num_head (l := []) O0.out (PTrk.start s0) (by simp)).mono ?_); rintro e w1 (⟨x0, t1, rfl, hT, hO⟩ | ⟨rfl, hN, hk⟩); rotate_left; exact ⟨rfl, .inr ⟨rfl, hN, hk⟩⟩; have T1 := Lib.hid (show PTrk s0 [x0] t1 from hT); have P1 := Lib.hid hO; clear hT hO)))
  have P6 := Lib.hid (show Mem.Own w0 [bxA w4.heap.size x0 x1 x2 x3 (.slice none 0 0) (.slice none 0 0), bxA w.heap.size 0 0 0 0 (.slice none 0 0) (.slice none 0 0), pdA G t5, rowA 3 1 (.slice none 0 0) 0 [].flatten] w5 from P5.out.newRow _ _)
  go_loopw [16] (fun i wr => ∃ (j pc : Nat) (ps : List Int) (po : Option Addr) (t : ByteArray), i = .int .i64 j ∧ ps.length = j ∧ j ≤ n ∧ (∀ p ∈ ps, isI p) ∧ PTrk s0 ([x0, x1, x2, x3, (n : Int)] ++ ps) t ∧ Mem.Own w0 [bxA w4.heap.size x0 x1 x2 x3 (.slice po j pc) (.slice none 0 0), bxA w.heap.size 0 0 0 0 (.slice none 0 0) (.slice none 0 0), pdA G t, rowA 3 1 (.slice po j pc) j (ps.flatMap elI.cs)] wr) (fun i _ => n - (RowKit.intOf i).toNat)
  case atStart => exact ⟨0, 0, [], none, t5, rfl, rfl, Nat.zero_le _, by simp, T5.out, P6.out⟩
  case round =>
    clear P6
    obtain ⟨j, pc, ps, po, t, rfl, hps, hj, hfit, hT, hO⟩ := hrel
    have R := Lib.hid (And.intro hps (And.intro hfit (And.intro hT hO)))
    clear hps hfit hT hO
    by_cases hlt : j < n
    · obtain ⟨⟨_, _, _, _, d4, _⟩, _⟩ := bx_cells R.out.2.2.2 0 rfl
      obtain ⟨⟨_, _, _, _, d4', _⟩, _⟩ := bx_cells R.out.2.2.2.drew 0 rfl
      have hnum := Lib.hid (num_port R.out.2.2.2.drew R.out.2.2.1 (by rw [R.out.1]; exact hlt))
      go_wp2_with fail
      go_region_law (first
        | (go_simp; go_at_call 67; ((with_reducible refine hnum.out.mono ?_); rintro e u1 (⟨y, t', rfl, hy, hT, o⟩ | ⟨rfl, hN, hk⟩); rotate_left; exact ⟨rfl, .inr ⟨rfl, hN, hk⟩⟩; have O1 := Lib.hid o; have T1' := Lib.hid hT; have Y1 := Lib.hid hy; obtain ⟨⟨_, _, _, _, g4, _⟩, _⟩ := bx_cells o 0 rfl; have s1 := Lib.hid (litI u1 y); have k1 := Lib.hid ((Kept.refl u1).alloc (.cells #[.int .i64 y] 3)); obtain ⟨⟨_, _, _, _, g4', _⟩, _⟩ := bx_cells (o.later k1.out) 0 rfl; clear o hT hy))
        | (refine step_own elI_fine 3 O1.out rfl R.out.1 k1.out s1.out (by omega) rfl _ _ rfl rfl rfl ?_; intro ao' cap' u2 o2; have O2 := Lib.hid o2; obtain ⟨⟨_, _, _, _, i4, _⟩, if4⟩ := bx_cells o2 0 rfl; have if4 := if4 4; clear o2))
      all_goals
        go_wp2_with fail
        go_roundw
        case rel =>
          refine ⟨j + 1, cap', ps ++ [y], ao', t', by go_num, by simp [R.out.1], hlt, fun p hp => ?_, T1'.out, ?_⟩
          · rcases List.mem_append.1 hp with hp | hp
            · exact R.out.2.1 p hp
            · obtain rfl := List.mem_singleton.1 hp; exact Y1.out
          · have h := O2.out.boxset 0 rfl 4 (.slice ao' (j + 1) cap')
            exact h
        case measure => simp [RowKit.intOf]; omega
    · obtain rfl : j = n := by omega
      have j4 := hn
      clear T1 T2 T3 T4 T5 P1 P2 P3 P4 P5 O0 hlt
      go_wp2_with (go_at_call 68; ((with_reducible refine (up_tasks R.out.2.2.2 R.out.2.2.1 R.out.1).mono ?_); rintro e w6 (⟨m, t6, rfl, hm, hT, hO⟩ | ⟨rfl, hN, hk⟩); rotate_left; exact ⟨rfl, .inr ⟨rfl, hN, hk⟩⟩; have T6 := Lib.hid hT; have P6 := Lib.hid (hO.newRow 37 6); clear hT hO))
      go_loopw [28] (fun i wr => ∃ (k tc : Nat) (ts : List Tsk) (uo : Option Addr) (t : ByteArray), i = .int .i64 k ∧ ts.length = k ∧ k ≤ m ∧ PTrk s0 (headI x0 x1 x2 x3 j ps m ++ irows ts) t ∧ Mem.Own w0 [bxA w4.heap.size x0 x1 x2 x3 (.slice po j pc) (.slice uo k tc), bxA w.heap.size 0 0 0 0 (.slice none 0 0) (.slice none 0 0), pdA G t, rowA 3 1 (.slice po j pc) j (ps.flatMap elI.cs), rowA 37 6 (.slice uo k tc) k (ts.flatMap elT.cs)] wr) (fun i _ => m - (RowKit.intOf i).toNat)
      case atStart => exact ⟨0, 0, [], none, t6, rfl, rfl, Nat.zero_le _, T6.out, P6.out⟩
      case round =>
        clear P6
        obtain ⟨k, tc, ts, uo, t, rfl, hts, hk, hT, hO⟩ := hrel
        have Q := Lib.hid (And.intro hts (And.intro hT hO))
        clear hts hT hO
        by_cases hlt : k < m
        · obtain ⟨⟨_, _, _, _, _, d5⟩, _⟩ := bx_cells Q.out.2.2 0 rfl
          obtain ⟨⟨_, _, _, _, _, d5'⟩, _⟩ := bx_cells Q.out.2.2.drew 0 rfl
          have htask := Lib.hid (one_task Q.out.2.2.drew Q.out.2.1 R.out.1 (by rw [Q.out.1]; exact hlt))
          go_wp2_with fail
          go_region_law (first
            | (go_simp; go_at_call 69; ((with_reducible refine htask.out.mono ?_); rintro e u1 (⟨⟨al, y1, y2, y3, y4, y5⟩, t', rfl, hT, o⟩ | ⟨rfl, hN, hk⟩); rotate_left; exact ⟨rfl, .inr ⟨rfl, hN, hk⟩⟩; have O1 := Lib.hid o; have T1' := Lib.hid hT; obtain ⟨⟨_, _, _, _, _, g5⟩, _⟩ := bx_cells o 0 rfl; have s1 := Lib.hid (litT (w := u1) rfl ⟨al, y1, y2, y3, y4, y5⟩); have k1 := Lib.hid ((Kept.refl u1).alloc (.cells #[.bool al, .int .i64 y1, .int .i64 y2, .int .i64 y3, .int .i64 y4, .int .i64 y5] 37)); obtain ⟨⟨_, _, _, _, _, g5'⟩, _⟩ := bx_cells (o.later k1.out) 0 rfl; clear o hT))
            | (refine step_own elT_fine 4 O1.out rfl Q.out.1 k1.out s1.out (by omega) rfl _ _ rfl rfl rfl ?_; intro ao' cap' u2 o2; have O2 := Lib.hid o2; obtain ⟨⟨_, _, _, _, _, i5⟩, if5⟩ := bx_cells o2 0 rfl; have if5 := if5 5; clear o2))
          all_goals
            go_wp2_with fail
            go_roundw
            case rel =>
              refine ⟨k + 1, cap', ts ++ [⟨al, y1, y2, y3, y4, y5⟩], ao', t', by go_num, by simp [Q.out.1], hlt, T1'.out, ?_⟩
              have h := O2.out.boxset 0 rfl 5 (.slice ao' (k + 1) cap')
              exact h
            case measure => simp [RowKit.intOf]; omega
        · obtain rfl : k = m := by omega
          obtain ⟨⟨b0, b1, b2, b3, b4, b5⟩, bf⟩ := bx_cells Q.out.2.2 1 rfl
          have f0 := bf 0
          have f1 := bf 1
          have f2 := bf 2
          have f3 := bf 3
          have f4 := bf 4
          have f5 := bf 5
          clear bf
          obtain ⟨⟨c0, c1, c2, c3, c4, c5⟩, _⟩ := bx_cells Q.out.2.2 0 rfl
          go_wp2_with fail
          refine bodyPost_ret (v := .agg #[.int .i64 x0, .int .i64 x1, .int .i64 x2, .int .i64 x3, .slice po j pc, .slice uo k tc]) (by simp [results, Try.results54, go_sem, b0, b1, b2, b3, b4, b5]) rfl ?_
          exact rd_end Q.out.2.2 R.out.2.1 R.out.1 Q.out.1 Q.out.2.1
end Go.Proofs.YtngojgocplmedaaR.Ls
