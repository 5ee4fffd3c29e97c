/-
  Package journal: the closure of collect.
-/
import Derived.Test.YtckbhjjflpobbaaGreatJb
import Derived.BigRegion
namespace Go.Proofs.YtckbhjjflpobbaaGreat.Jk
open Go Go.RowKit Go.ChangeShapes Go.WideShapes Go.ChangeAt Go.Proofs.YtckbhjjflpobbaaGreat.Mem Go.Proofs.YtckbhjjflpobbaaGreat.Pk Go.Proofs.YtckbhjjflpobbaaGreat.Fk Go.Proofs.YtckbhjjflpobbaaGreat.Dz Go.Proofs.YtckbhjjflpobbaaGreat.Fz Go.Proofs.YtckbhjjflpobbaaGreat.Rc
open Go.Proofs.YtckbhjjflpobbaaGreat.Hk (Hd saves loads o_save o_load hblock)

set_option maxRecDepth 100000 in
set_option maxHeartbeats 4000000 in
theorem o_add {w0 w : World} {L : List As} (h : Mem.Own w0 L w) (i b c d : Nat) (hib : i ≠ b) (hid : i ≠ d) (hbd : b ≠ d) {v : Value} {n : Nat} {xs : List Value} (hi : L[i]? = some (rowA 9 1 v n xs)) (hn : n < 4294967296)
    {B1 B5 J D : Nat} {bo : Int} {j : Jw} (hb : L[b]? = some (boxA B5 #[.int .i64 bo] 3)) (hc : L[c]? = some (boxA B1 #[.pointer (some ⟨J, 0, none⟩)] 28)) (hd : L[d]? = some (jA J D j)) (boot lsn part : Int) (p : Nat) (kind : Nat) (dat : ByteArray) (hp : p ≤ 65536) (hu : j.used ≤ 65536) :
    Calls Tryz.prog 74 #[v, .agg #[.int .i64 boot, .int .i64 lsn, .int .i64 part, .int .i64 (p : Int), .int .u8 (kind : Int), .string dat], .pointer (some ⟨B1, 0, none⟩), .pointer (some ⟨B5, 0, none⟩)] w fun e w' =>
      ∃ v', e = .returned v' ∧ Mem.Own w0 (((L.set d (jA J D { j with n := lsn, used := j.used + p })).set b (boxA B5 #[.int .i64 boot] 3)).set i (rowA 9 1 v' (n + 1) (xs ++ [.string dat]))) w' := by
  obtain ⟨i0, hif, hz0, hz1, hz2⟩ := info_parts string_info'
  have hJ := own_j h d hd
  obtain ⟨⟨c0, c1, c2, c3, c4, c5, c6, c7, c8, c9, c10, c11⟩, fz⟩ := jblock hJ
  have hB1 := h.boxed c hc
  have hB5 := h.boxed b hb
  have b10 : w.cell? ⟨B1, 0, none⟩ = some (.pointer (some ⟨J, 0, none⟩)) := cell_of_row _ _ _ _ _ _ hB1
  have b50 : w.cell? ⟨B5, 0, none⟩ = some (.int .i64 bo) := cell_of_row _ _ _ _ _ _ hB5
  have f50 : w.frozen? ⟨B5, 0, none⟩ = false := frozen_of_row w B5 0 _ _ hB5
  have l1 : B1 < w.heap.size := lt_of_block hB1
  have l5 : B5 < w.heap.size := lt_of_block hB5
  have lJ : J < w.heap.size := lt_of_block hJ
  have n1 : ¬ B1 = w.heap.size := by omega
  have n5 : ¬ B5 = w.heap.size := by omega
  have nJ : ¬ J = w.heap.size := by omega
  have nJ5 : ¬ J = B5 := fun e => by
    subst e
    have hJ' : w.heap[J]? = _ := hJ
    rw [hB5] at hJ'
    injection hJ' with e
    injection e with e1 e2
    exact absurd e2 (by decide)
  have nJ1 : ¬ J = B1 := fun e => by
    subst e
    have hJ' : w.heap[J]? = _ := hJ
    rw [hB1] at hJ'
    injection hJ' with e
    injection e with e1 e2
    exact absurd e2 (by decide)
  have n51 : ¬ B5 = B1 := fun e => by
    subst e
    rw [hB1] at hB5
    injection hB5 with e
    injection e with e1 e2
    exact absurd e2 (by decide)
  have nJ5' : ¬ B5 = J := fun e => nJ5 e.symm
  have nJ1' : ¬ B1 = J := fun e => nJ1 e.symm
  have n51' : ¬ B1 = B5 := fun e => n51 e.symm
  have e1 : (L.set d (jA J D { j with n := lsn }))[d]? = some (jA J D { j with n := lsn }) := List.getElem?_set_self (List.getElem?_eq_some_iff.1 hd).1
  have k1 := h.boxset d hd 9 (.int .i64 lsn)
  have k2 := k1.boxset d e1 10 (.int .i64 ((j.used : Int) + (p : Int)))
  rw [List.set_set] at k2
  have k2' : Mem.Own w0 (L.set d (jA J D { j with n := lsn, used := j.used + p })) _ := k2
  have e2 : (L.set d (jA J D { j with n := lsn, used := j.used + p }))[b]? = some (boxA B5 #[.int .i64 bo] 3) := by rw [List.getElem?_set_ne (fun e => hbd e.symm)]; exact hb
  have k3 : Mem.Own w0 ((L.set d (jA J D { j with n := lsn, used := j.used + p })).set b (boxA B5 #[.int .i64 boot] 3)) _ := k2'.boxset b e2 0 (.int .i64 boot)
  have e3 : ((L.set d (jA J D { j with n := lsn, used := j.used + p })).set b (boxA B5 #[.int .i64 boot] 3))[i]? = some (rowA 9 1 v n xs) := by rw [List.getElem?_set_ne (fun e => hib e.symm), List.getElem?_set_ne (fun e => hid e.symm)]; exact hi
  have hsz : (((w.setCell ⟨J, 9, none⟩ (.int .i64 lsn)).setCell ⟨J, 10, none⟩ (.int .i64 ((j.used : Int) + (p : Int)))).setCell ⟨B5, 0, none⟩ (.int .i64 boot)).heap.size = w.heap.size := by simp
  have H3 := Lib.hid (And.intro k3 (And.intro e3 hsz))
  clear hJ hB1 hB5 h e1 k1 k2 k2' e2 k3 e3 hsz
  go_enter Tryz.func74, Tryz.ntmps74
  go_wp2
  go_region
  generalize ((w.setCell ⟨J, 9, none⟩ (.int .i64 lsn)).setCell ⟨J, 10, none⟩ (.int .i64 ((j.used : Int) + (p : Int)))).setCell ⟨B5, 0, none⟩ (.int .i64 boot) = W3 at H3 ⊢
  rw [← H3.out.2.2]
  have hrow := H3.out.1.row i H3.out.2.1
  have hrow2 := ((hrow.alloc (.cells #[.int .i64 boot, .int .i64 lsn, .int .i64 part, .int .i64 (p : Int), .int .u8 (kind : Int), .string dat] 113)).alloc (.cells #[.string dat] 9))
  have HR := Lib.hid hrow2
  clear hrow hrow2
  go_wp2_with (at_builtin; refine wpList_append_own_at _ rfl _ _ 33 rfl 0 9 i0 (.string ByteArray.empty) 1 16 Tryz.underlying33 hif hz0 hz1 hz2 rfl (by decide) _ _ _ rfl HR.out ⟨W3.heap.size + 1, 0, none⟩ 1 1 [.string dat] rfl rfl (cell_one_later _ _ _ _) (by simp [Value.oneCell']) (by unfold maxLen; omega) (by omega) (Nat.zero_le _) ?_; intro v' w1 hown hgrow hnil hloc; have Hx := Lib.hid (And.intro hown (And.intro hgrow hloc)); clear hown hgrow hnil hloc)
  go_ret
  exact ⟨v', rfl, H3.out.1.appended i H3.out.2.1 (((Kept.refl W3).alloc _).alloc _).drew Hx.out.1 Hx.out.2.1 Hx.out.2.2⟩
end Go.Proofs.YtckbhjjflpobbaaGreat.Jk
