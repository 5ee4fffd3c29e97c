/-
  Package ports: Meet.
-/
import Derived.Test.YtemfnobfdmlfaaaWg
namespace Go.Proofs.Ytemfnobfdmlfaaa.In
open Go.RowKit Go.Maps Go.Proofs.Ytemfnobfdmlfaaa.Mem Go.Proofs.Ytemfnobfdmlfaaa.Po Go.ChangeShapes Go.WideShapes Go.ChangeAt

theorem inv_key : ∀ key kl, keyOf Try.prog 3 key = some kl → ∃ x : Int, key = Value.int .i64 x := fun key kl hk => by
  obtain ⟨x, rfl, _⟩ := Maps.keyOf_int_inv Try.underlying3 hk; exact ⟨x, rfl⟩
theorem inv_val : ∀ v y, plainElem (H := Unit) Try.prog 4 v = some y → ∃ c : Bool, v = Value.bool c := fun v y hv => by
  obtain ⟨q, rfl, _⟩ := bool_inv hv; exact ⟨q, rfl⟩
theorem isI_of {x : Int} (h : (Lit.int .i64 x).wf = true) : isI x := by
  have := bounds_i64 h
  unfold isI; omega
set_option maxHeartbeats 2000000 in
set_option maxRecDepth 100000 in
theorem meet_c {w : World} {ao bo : Option Addr} {n cap m c : Nat} {a b : List Int} (h : At w ao n cap a) (k : At w bo m c b) (hn : n ≤ 1000) (hm : m ≤ 1000) :
    Calls Try.prog 10 #[.slice ao n cap, .slice bo m c] w fun e w' => ∃ ro s d, e = .returned (.slice ro s d) ∧ New w.heap.size w' ro s d (meet a b) ∧ Kept w w' := by
  have HA := Lib.hid (Ats.one h)
  have ha : [a].flatten.length ≤ 100000 := by rw [flat1, h.len]; omega
  have hb : [b].flatten.length ≤ 100000 := by rw [flat1, k.len]; omega
  have HK := Lib.hid k
  have HL := Lib.hid (And.intro ha hb)
  clear h k ha hb
  go_enter Try.func10, Try.ntmps10
  go_wp2_with (first
    | (go_at_call 21; (with_reducible refine (gather_c HA.out HL.out.1).mono ?_); rintro e w1 ⟨B1, rfl, hB1, hs1, k1⟩; have HB := Ats.one (HK.out.kept (((Kept.refl w).alloc _).trans k1)); have HA := trivial)
    | (go_at_call 21; (with_reducible refine (gather_c HB HL.out.2).mono ?_); rintro e w2 ⟨B2, rfl, hB2, hs2, k2⟩; have k3 := (((Kept.refl w).alloc _).trans k1).trans (((Kept.refl w1).alloc _).trans k2); have hl1 := hs1.lt; have hs3 := hs1.kept (((Kept.refl w1).alloc _).trans k2); obtain ⟨D0, hown, hsays⟩ := hs3)
    | (at_range; refine wpList_range_own _ rfl _ 39 rfl 3 4 bs_law bs_map _ B1 100000 D0 rfl hown ?_; intro w3 hrg0 hg0 hs0))
  go_frame
  have hne12 : B1 ≠ B2 := by
    have : (w1.alloc (.cells #[.slice bo m c] 22)).heap.size = w1.heap.size + 1 := by simp
    omega
  have hw1 : w.heap.size ≤ B1 := Nat.le_trans ((Kept.refl w).alloc (.cells #[.slice ao n cap] 22)).size hB1
  have hl2 := hs2.lt
  have h23 : Kept w2 w3 := (Kept.refl w2).grown hg0 (fun g e => by cases e)
  have HR := Lib.hid (And.intro hne12 (And.intro hw1 (And.intro hl2 (And.intro k3.size (Nat.lt_of_lt_of_le hl1 (Nat.le_trans ((Kept.refl w1).alloc (.cells #[.slice bo m c] 22)).size k2.size))))))
  have hst : ∃ (left : Lit → Bool) (cnt : Nat) (D : DataW Unit), w3.ranges Try.prog 3 (plainElem Try.prog 4) B1 w2.heap.size 100000 D left cnt ∧ Says D (Mid a b left) ∧ Bs B2 100000 (fun x => x ∈ b) w3 ∧ Kept w w3 :=
    ⟨_, _, D0, hrg0, hsays.same (fun x => by
      rw [flat1]; unfold Mid
      constructor
      · exact fun hx => ⟨hx, .inr ((says_has hsays x).2 (by rw [flat1]; exact hx))⟩
      · exact fun hx => hx.1), (hs2.same (fun x => by rw [flat1])).kept h23, k3.trans h23⟩
  clear hB1 hs1 k1 HB HA hB2 hs2 k2 k3 hl1 hown hsays hrg0 hg0 hs0 hne12 hw1 hl2 h23
  go_loopw [7] (fun _ wr => ∃ (left : Lit → Bool) (cnt : Nat) (D : DataW Unit), wr.ranges Try.prog 3 (plainElem Try.prog 4) B1 w2.heap.size 100000 D left cnt ∧ Says D (Mid a b left) ∧ Bs B2 100000 (fun x => x ∈ b) wr ∧ Kept w wr) (fun _ wr => wr.rangeLeft B1 w2.heap.size)
  case atStart => exact hst
  case round =>
    clear hst
    obtain ⟨left, cnt, D, hrg, hsy, hb2, hk⟩ := hrel
    have HS := Lib.hid (And.intro hsy (And.intro hb2 hk))
    clear hsy hb2 hk
    go_wp2_with (first
      | (at_next; refine wpList_next_ranges _ rfl _ rfl 3 bs_law (plainElem Try.prog 4) (Value.int .i64) Value.bool inv_key inv_val B1 w2.heap.size 100000 D left cnt rfl hrg ?_ ?_))
    · intro _ hl0
      have hs9 : Bs B1 100000 (fun x => x ∈ meet a b) wr := ⟨D, hrg.owns, HS.out.1.same (fun x => by unfold Mid; rw [mem_meet, hl0]; simp)⟩
      go_wp2_with (go_at_call 22; (with_reducible refine (So.sorted_c hs9 (by decide) (fun x => Iff.rfl)).mono ?_); rintro e w9 ⟨ro, s, d, rfl, hnew, k9⟩)
      go_ret
      refine ⟨_, _, _, rfl, ?_, HS.out.2.2.trans k9⟩
      have e9 : srt (meet a b) = meet a b := asc_ext (asc_srt _) (asc_meet _ _) (fun x => mem_srt)
      rw [e9] at hnew
      exact hnew.base HS.out.2.2.size
    · intro x
      refine ⟨?_, ?_⟩
      all_goals
        intro kl yd yp w4 cnt4 hkey hlk hv hat hrg4 hlt4 hg4 hs4 hen
        obtain ⟨x', ex, rfl, hwf⟩ := Maps.keyOf_int_inv Try.underlying3 hkey
        obtain rfl : x = x' := by injection ex
        have hx := isI_of hwf
        have hb4 : Bs B2 100000 (fun x => x ∈ b) w4 := HS.out.2.1.grown hg4 (by have := HR.out.2.2.1; intro e; cases e; omega)
        have hk4 : Kept w w4 := HS.out.2.2.grown hg4 (fun g e => by cases e; exact HR.out.2.2.2.1)
        obtain ⟨f, hlook, hf⟩ := hb4.look hx
        have HT := Lib.hid (And.intro hlk (And.intro hb4 (And.intro hk4 (And.intro hf (And.intro hx (And.intro hrg hlt4))))))
        clear hkey hlk hv hat hg4 hs4 hb4 hk4 hf ex hwf hlt4
        cases f with
        | true =>
          clear hrg
          go_wp2_with fail
          go_roundw
          case rel => exact ⟨_, _, D, hrg4, HS.out.1.same (mid_keep (HT.out.2.2.2.1.1 rfl)), HT.out.2.1, HT.out.2.2.1⟩
          case measure => rw [hrg4.left_eq, HT.out.2.2.2.2.2.1.left_eq]; exact HT.out.2.2.2.2.2.2
        | false =>
          clear hrg
          have hxb : ¬ x ∈ b := fun h => by have := HT.out.2.2.2.1.2 h; cases this
          have HX := Lib.hid hxb
          clear hxb
          go_wp2_with (at_delete; refine wpList_delete_ranges _ rfl _ _ 39 3 rfl 4 bs_law bs_map _ B1 w2.heap.size 100000 D _ _ rfl hrg4 _ _ rfl (bs_key HT.out.2.2.2.2.1) ?_; intro w5 cnt5 hrg5 hle5 hturn5; go_frame)
          rw [Maps.strike_twice] at hrg5
          have h5 := hturn5.grown
          go_roundw
          case rel => exact ⟨_, _, _, hrg5, (says_del HS.out.1 x).same (mid_drop HX.out), HT.out.2.1.grown h5 (by have := HR.out.1; intro e; cases e; exact this rfl), HT.out.2.2.1.grown h5 (fun g e => by cases e; exact HR.out.2.1)⟩
          case measure => rw [hrg5.left_eq, HT.out.2.2.2.2.2.1.left_eq]; have := HT.out.2.2.2.2.2.2; omega
end Go.Proofs.Ytemfnobfdmlfaaa.In
