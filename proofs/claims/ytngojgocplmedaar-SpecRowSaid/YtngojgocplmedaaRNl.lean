/-
  The bytes of a specification as the program writes them (package spec's Encode, layer 13): a builder.
-/
import Derived.Test.YtngojgocplmedaaRNk
import Derived.Test.YtngojgocplmedaaRNd
import Derived.Test.YtngojgocplmedaaRSb
import Derived.Test.YtngojgocplmedaaRZs
namespace Go.Proofs.YtngojgocplmedaaR.Ls
open Go.RowKit Go.Proofs.YtngojgocplmedaaR.Mem Go.Proofs.YtngojgocplmedaaR.Bx Go.Proofs.YtngojgocplmedaaR.In Go.Proofs.YtngojgocplmedaaR.Sp Go.Proofs.YtngojgocplmedaaR.Nr Go.Proofs.YtngojgocplmedaaR.Pk Go.ChangeShapes Go.WideShapes Go.ChangeAt
set_option linter.unusedVariables false

/-- A builder of the call's own, in the block b. -/
abbrev Bld (b : Nat) (l : List Nat) (w : World) : Prop := Lib.IsBuilderF 55 5 b b (Lib.strCells (encs l)) w
theorem Bld.kept {b : Nat} {l : List Nat} {w w' : World} (h : Bld b l w) (k : Kept w w') : Bld b l w' := by
  have key : ∀ p, Lib.BuilderAtF 55 5 b b p (Lib.strCells (encs l)) w → Lib.BuilderAtF 55 5 b b p (Lib.strCells (encs l)) w' := by
    rintro p ⟨hB, v, hb, hown, hne⟩
    refine ⟨hB, v, k.block hb, ⟨hown.1, ?_⟩, hne⟩
    rcases hown.2 with h2 | ⟨g, cap, cur, fz, e, hbg, hg, r⟩
    · exact .inl h2
    · exact .inr ⟨g, cap, cur, fz, e, hbg, k.block hg, r⟩
  exact h.elim (fun x => .inl (key _ x)) (fun x => .inr (key _ x))
theorem Bld.lt {b : Nat} {l : List Nat} {w : World} (h : Bld b l w) : b < w.heap.size := h.elim (fun x => x.lt) (fun x => x.lt)
theorem Bld.fresh (w : World) : Bld w.heap.size [] (w.alloc (.cells #[.pointer none, .slice none 0 0] 55)) := Lib.IsBuilderF.of (Lib.fresh_isBuilder 55 5 w)
theorem bld_snoc (l : List Nat) (n : Nat) : Lib.strCells (encs (l ++ [n])) = Lib.strCells (encs l) ++ Lib.strCells (str (num n)) := by
  rw [encs_append, Lib.strCells_eq, Lib.strCells_eq, Lib.strCells_eq, ← Lib.byteCells_append]
  congr 1
  simp [encs]
theorem bld_len (l : List Nat) : (Lib.strCells (encs l)).length ≤ 9 * l.length := by
  rw [Lib.strCells_length]
  induction l with
  | nil => simp [encs]
  | cons n l ih =>
    have := (num_len n).2
    rw [encs, ByteArray.size_append, List.length_cons]
    have e : (str (num n)).size = (num n).length := by simp [str, ByteArray.size]
    omega
theorem _root_.Go.Proofs.YtngojgocplmedaaR.Mem.Kept.trans' {u w w' : World} {B : Nat} (h : Kept u w) (k : Below B w w') (hB : u.heap.size ≤ B) : Kept u w' := Below.trans h (Below.mono k hB)
/-- Numbers in memory stay where only bytes are written. -/
theorem new_others {B b : Nat} {w w' : World} {ao : Option Addr} {n cap : Nat} {l : List Int} (h : New B w ao n cap l) (k : Lib.OthersKept 5 (some b) w w') (hb : b < B) : New B w' ao n cap l := by
  refine ⟨⟨h.row.1, ?_⟩, h.fit⟩
  rcases h.row.2 with h2 | ⟨g, c, cur, e, hg, hh, r⟩
  · exact .inl h2
  · refine .inr ⟨g, c, cur, e, hg, k g _ hh (fun e => ?_) (fun c fz e => ?_), r⟩
    · have := Option.some.inj e; omega
    · injection e with _ e2 _
      revert e2; decide
theorem ints_cast {s : Sp} (g : s.good) : Sp.ints s = s.nums.map (fun n : Nat => (n : Int)) := by
  have h := off62_no.1 (good_ints g)
  rw [← ints_nums]
  unfold nats
  rw [List.map_map]
  refine (List.map_id' _).symm.trans (List.map_congr_left fun x hx => ?_)
  have := (h x hx).1
  show x = ((x.toNat : Nat) : Int)
  omega
theorem nums_fit {s : Sp} (g : s.good) {n : Nat} (hn : n ∈ s.nums) : n ≤ 4611686018427387904 := by
  have h := off62_no.1 (good_ints g) (n : Int) (by rw [ints_cast g]; exact List.mem_map.2 ⟨n, hn, rfl⟩)
  omega
set_option maxHeartbeats 2000000 in
set_option maxRecDepth 100000 in
theorem senc_c {w : World} {s : Sp} {p : Pl} (h : SpAt w s p) : Calls Try.prog 10 #[.agg (spC s p)] w fun e w' => e = .returned (.tuple #[.string (encV s), .int .i64 (spSays s)]) ∧ Kept w w' := by
  have hchk : ∀ W, Kept w W → Calls Try.prog 14 #[.agg (spC s p)] W fun e w' => e = .returned (.int .i64 (spSays s)) ∧ Kept W w' := fun W k => scheck_c (h.kept k)
  have hnum : s.good → ∀ W, Kept w W → Calls Try.prog 26 #[.agg (spC s p)] W fun e w' => ∃ bo N c, e = .returned (.slice bo N c) ∧ New W.heap.size w' bo N c (Sp.ints s) ∧ Kept W w' := fun g W k => numbers_c (h.kept k) g
  have hV : encV s = if spSays s = 0 then s.bytes else ⟨#[]⟩ := rfl
  have hG := (sp_say s).1
  obtain ⟨V, hS⟩ : ∃ V, V = spSays s := ⟨_, rfl⟩
  rw [← hS] at hV hG
  rw [← hS]
  simp only [← hS] at hchk
  have HV := Lib.hid hV
  have OB := Lib.hid ((Own.nil w).box (spC s p) 27)
  have KB := Lib.hid ((Kept.refl w).alloc (.cells (spC s p) 27))
  clear hS hV h
  obtain ⟨po, pn, pc, ro, tn, tc⟩ := p
  unfold spC at hchk hnum OB KB ⊢
  simp only [] at hchk hnum OB KB ⊢
  have hc1 := Lib.hid (hchk _ KB.out)
  have HN := Lib.hid (And.intro hnum hG)
  clear hchk hnum hG
  obtain ⟨⟨a0, a1, a2, a3, a4, a5⟩, _⟩ := box6 (OB.out.boxed 0 rfl)
  by_cases hz : V = 0
  · have g := HN.out.2 hz
    have n0 : (V != 0) = false := by simp [hz]
    have HZ := Lib.hid hz
    have HM := Lib.hid (HN.out.1 g)
    have G := Lib.hid g
    clear hz g HN
    go_enter Try.func10, Try.ntmps10
    go_wp2_with (first
      | (go_at_call 14; (with_reducible refine hc1.out.mono ?_); rintro e w1 ⟨rfl, k1⟩; have K1 := Lib.hid k1; have B1 := Lib.hid (Bld.fresh w1); have O1 := Lib.hid ((OB.out.later k1).alloc (.cells #[.pointer none, .slice none 0 0] 55)); obtain ⟨⟨c0, c1, c2, c3, c4, c5⟩, _⟩ := box6 (O1.out.boxed 0 rfl); clear k1)
      | (go_at_call 26; (with_reducible refine (HM.out _ O1.out.kept).mono ?_); rintro e w2 ⟨bo, N, c, rfl, hnew, k2⟩; have K2 := Lib.hid (O1.out.kept.trans k2); have B2 := Lib.hid (Bld.kept B1.out k2); have N2 := Lib.hid hnew; clear hnew k2))
    clear c0 c1 c2 c3 c4 c5 a0 a1 a2 a3 a4 a5
    have hlen : s.nums.length = N := by have := N2.out.len; rw [ints_cast G.out, List.length_map] at this; exact this
    have hN38 : N ≤ 38 := by
      rw [← hlen, nums_len]
      have := G.out.few
      have := G.out.most
      omega
    have hb1 : w.heap.size + 1 ≤ w1.heap.size := by have := K1.out.size; simpa using this
    have HL := Lib.hid hlen
    have HB1 := Lib.hid (show w.heap.size ≤ w1.heap.size by omega)
    clear hlen hb1
    go_loopw [16] (fun i wr => ∃ j : Nat, j ≤ N ∧ i = .int .i64 j ∧ Bld w1.heap.size (s.nums.take j) wr ∧ New (w1.heap.size + 1) wr bo N c (Sp.ints s) ∧ Kept w wr) (fun i _ => N - (RowKit.intOf i).toNat)
    case atStart => exact ⟨0, Nat.zero_le _, rfl, B2.out, by have := N2.out; simpa using this, K2.out⟩
    case round =>
      obtain ⟨j, hj, rfl, hB, hnew, hk⟩ := hrel
      have R := Lib.hid (And.intro hB (And.intro hnew hk))
      clear hB hnew hk
      by_cases hlt : j < N
      · obtain ⟨x, g, o, hx, _, rfl, hg, hc⟩ := R.out.2.1.at.get hlt
        have hx' : ∃ n : Nat, s.nums[j]? = some n ∧ x = (n : Int) := by
          rw [ints_cast G.out, List.getElem?_map] at hx
          obtain ⟨n, hn, rfl⟩ := Option.map_eq_some_iff.1 hx
          exact ⟨n, hn, rfl⟩
        obtain ⟨n, hn, rfl⟩ := hx'
        have hfit := nums_fit G.out (List.mem_of_getElem? hn)
        have hw : IntKind.u64.wrap (n : Int) = (n : Int) := by rw [IntKind.wrap_u64]; omega
        have hU : U64 n := by unfold U64; omega
        have hv := var_any n hU
        have HN := Lib.hid hn
        have hbl := bld_len (s.nums.take j)
        have htk : (s.nums.take j).length ≤ j := List.length_take_le _ _
        have hs9 : (str (num n)).size ≤ 9 := by have := (num_len n).2; simpa [str, ByteArray.size] using this
        have HW := Lib.hid (show (Lib.strCells (encs (s.nums.take j))).length + (str (num n)).size ≤ 140737488355328 by omega)
        clear hx hn hfit hU hbl htk hs9
        go_wp2_with (first
          | (go_at_call 28; (with_reducible refine (hv _).mono ?_); rintro e u1 ⟨rfl, k1⟩; have B1' := Lib.hid (Bld.kept R.out.1 k1); have R1 := Lib.hid (And.intro (R.out.2.1.kept k1) (R.out.2.2.trans k1)); clear k1)
          | (go_at_call 27; (with_reducible refine (Sb.write_c w1.heap.size w1.heap.size (Lib.strCells (encs (s.nums.take j))) (str (num n)) _ B1'.out HW.out (Nat.le_of_lt (Bld.lt B1'.out))).mono ?_); rintro e u2 ⟨rfl, hb, hbel, ho⟩; have B2' := Lib.hid hb; have R2 := Lib.hid (And.intro (new_others R1.out.1 ho (Nat.lt_succ_self _)) (R1.out.2.trans' hbel HB1.out)); clear hb hbel ho))
        go_roundw
        case rel =>
          refine ⟨j + 1, hlt, by go_num, ?_, R2.out.1, R2.out.2⟩
          have := B2'.out
          rw [← bld_snoc, ← List.take_succ_eq_snoc HN.out] at this
          exact .inr this
        case measure => simp [RowKit.intOf]; omega
      · obtain rfl : j = N := by omega
        have ht : s.nums.take j = s.nums := List.take_of_length_le (by rw [HL.out]; exact Nat.le_refl _)
        have hb := R.out.1
        rw [ht] at hb
        have HB := Lib.hid (show Lib.IsBuilderF 55 5 w1.heap.size w1.heap.size (Lib.byteCells (encs s.nums).data.toList) wr from hb)
        have HBl := Lib.hid (Nat.le_of_lt (Bld.lt hb))
        have HF := Lib.hid (show encV s = ⟨(encs s.nums).data.toList.toArray⟩ by rw [HV.out, if_pos HZ.out]; rfl)
        clear ht hb
        have Z := HZ.out
        subst Z
        go_wp2_with (go_at_call 29; (with_reducible refine (Sb.string_c w1.heap.size w1.heap.size (encs s.nums).data.toList _ HB.out HBl.out).mono ?_); rintro e u3 ⟨rfl, _, hbel, _⟩; have K3 := Lib.hid (R.out.2.2.trans' hbel HB1.out))
        go_ret2
        exact ⟨by rw [HF.out]; rfl, K3.out⟩
  · have n0 : (V != 0) = true := by simp [hz]
    have F := Lib.hid (show encV s = ⟨#[]⟩ by rw [HV.out, if_neg hz])
    clear hz
    go_enter Try.func10, Try.ntmps10
    go_wp2_with (go_at_call 14; (with_reducible refine hc1.out.mono ?_); rintro e w1 ⟨rfl, k1⟩)
    go_ret2
    exact ⟨by rw [F.out]; rfl, OB.out.kept.trans k1⟩
end Go.Proofs.YtngojgocplmedaaR.Ls
