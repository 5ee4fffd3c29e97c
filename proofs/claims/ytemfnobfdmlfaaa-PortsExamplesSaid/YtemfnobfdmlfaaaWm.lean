/-
  PortsPairs, for any two lists and any number.
-/
import Derived.Test.YtemfnobfdmlfaaaWk
import Derived.BigRegion
import Derived.BigQuiet
namespace Go.Proofs.Ytemfnobfdmlfaaa.In
open Go.RowKit Go.Proofs.Ytemfnobfdmlfaaa.Mem Go.Proofs.Ytemfnobfdmlfaaa.Po Go.ChangeShapes Go.WideShapes Go.ChangeAt

/-- The slice's cells may be written: they lie in a block from B on. -/
def Free (B : Nat) (w : World) (ao : Option Addr) (n : Nat) : Prop := n = 0 ∨ ∃ g cs, ao = some ⟨g, 0, none⟩ ∧ B ≤ g ∧ w.heap[g]? = some (.cells cs 3 (0, 0)) ∧ n ≤ cs.size
theorem New.free {B : Nat} {w : World} {ao : Option Addr} {n cap : Nat} {l : List Int} (h : New B w ao n cap l) : Free B w ao n := by
  rcases h.row.2 with ⟨_, e0⟩ | ⟨g, c', cur, e, hb, hh, hc, _, hs, _⟩
  · exact .inl e0
  · cases e
    exact .inr ⟨g, cur, rfl, hb, hh, by omega⟩
theorem Free.kept {B : Nat} {w w' : World} {ao : Option Addr} {n : Nat} (h : Free B w ao n) (k : Kept w w') : Free B w' ao n := by
  rcases h with h | ⟨g, cs, e, hb, hh, hn⟩
  · exact .inl h
  · exact .inr ⟨g, cs, e, hb, k.block hh, hn⟩
theorem Free.get {B : Nat} {w : World} {ao : Option Addr} {n : Nat} (h : Free B w ao n) {k : Nat} (hk : k < n) : ∃ g v, ao = some ⟨g, 0, none⟩ ∧ w.cell? ⟨g, k, none⟩ = some v ∧ w.frozen? ⟨g, k, none⟩ = false ∧ ∀ u : World, u.heap.size ≤ B → Kept u w → ∀ x, Kept u (w.setCell ⟨g, k, none⟩ x) ∧ Free B (w.setCell ⟨g, k, none⟩ x) ao n := by
  rcases h with h | ⟨g, cs, e, hb, hh, hn⟩
  · omega
  · have hks : k < cs.size := by omega
    refine ⟨g, cs[k], e, ?_, frozen_of_row w g k cs _ hh, fun u hu hK x => ⟨Below.setCell hK (Nat.le_trans hu hb) x, .inr ⟨g, _, e, hb, heap_setCell_same w g k cs _ x hh, by simpa using hn⟩⟩⟩
    rw [cell_of_row w g k cs _ _ hh]; simp [hks]
theorem c_rmeet {w : World} {ao bo : Option Addr} {n cap m c : Nat} {a b : List Int} (h : At w ao n cap a) (k : At w bo m c b) (hn : n ≤ 1000) :
    Calls Try.prog 12 #[.slice ao n cap, .slice bo m c] w fun e w' => ∃ ro s d, e = .returned (.slice ro s d) ∧ At w' ro s d (meet a b) ∧ Kept w w' := rmeet_c h k hn
set_option maxHeartbeats 8000000 in
set_option maxRecDepth 100000 in
theorem pairs_core (w : World) (ao bo : Option Addr) (n cap m d : Nat) (a b : List Int) (port : Int) (hA : At w ao n cap a) (hB : At w bo m d b) :
    Calls Try.prog 3 #[.slice ao n cap, .slice bo m d, .int .i64 port] w fun e w' => e = .returned (.bool true) ∧ Kept w w' := by
  obtain ⟨M1, hm1, hn1, hM1⟩ := cut_of n 40
  obtain ⟨M2, hm2, hn2, hM2⟩ := cut_of m 40
  have e1 := sub_h ao n cap M1 (Nat.le_trans hn1 hA.le)
  have e2 := sub_h bo m d M2 (Nat.le_trans hn2 hB.le)
  have HA := Lib.hid (hA.head hn1)
  have HB := Lib.hid (hB.head hn2)
  generalize subA ao cap 0 = a1 at e1 HA
  generalize subA bo d 0 = a2 at e2 HB
  generalize a.take M1 = a at HA
  generalize b.take M2 = b at HB
  have f1 : min (n : Int) 40 = (M1 : Int) := hm1
  have f2 : min (m : Int) 40 = (M2 : Int) := hm2
  clear hm1 hm2 hA hB hn1 hn2
  have hN1 : M1 ≤ 1000 := by omega
  have hN2 : M2 ≤ 1000 := by omega
  go_enter Try.func3, Try.ntmps3
  go_wp2_with fail
  go_region
  have K0 : Kept w w.drew := (Kept.refl w).drew
  generalize w.drew = w0 at K0 ⊢
  clear e1 e2 f1 f2
  go_wp2_with (first
    | (go_at_call 9; (with_reducible refine (copy_c (HA.out.kept K0) (by omega)).mono ?_); rintro e w1 ⟨x, xc, rfl, hx, k1⟩; have K1 := K0.trans k1; clear K0)
    | (go_at_call 9; (with_reducible refine (copy_c (HB.out.kept K1) (by omega)).mono ?_); rintro e w2 ⟨y, yc, rfl, hy, k2⟩; have K2 := K1.trans k2))
  have HX := Lib.hid (And.intro (hx.at.kept k2) (And.intro hy.at K2))
  clear hx hy k1 k2 K1 K2
  go_loopw [9] (fun i wr => ∃ j : Nat, j ≤ 2 ∧ i = .int .i64 j ∧ Kept w2 wr) (fun i _ => 2 - (RowKit.intOf i).toNat)
  case atStart => exact ⟨0, by omega, rfl, Kept.refl _⟩
  case round =>
    obtain ⟨j, hj, rfl, hk⟩ := hrel
    have HK := Lib.hid hk
    clear hk
    by_cases hlt : j < 2
    · have n1 : decide ((j : Int) < 2) = true := decide_eq_true (by omega)
      go_wp2_with (first
        | (go_at_call 10; (with_reducible refine (meet_c (HX.out.1.kept HK.out) (HX.out.2.1.kept HK.out) hN1 hN2).mono ?_); rintro e w3 ⟨ro, s, dd, rfl, hr, k3⟩)
        | (go_at_call 12; (with_reducible refine (c_rmeet (HA.out.kept (HX.out.2.2.trans (HK.out.trans k3))) (HB.out.kept (HX.out.2.2.trans (HK.out.trans k3))) hN1).mono ?_); rintro e w4 ⟨ro4, s4, d4, rfl, hr4, k4⟩)
        | (go_at_call 11; (with_reducible refine (eq_c (hr.at.kept k4) hr4 rfl).mono ?_); rintro e w5 ⟨rfl, k5⟩))
      have hfree := Lib.hid ((hr.free.kept k4).kept k5)
      have hkk := Lib.hid ((k3.trans k4).trans k5)
      have hs62 := hr.at.n62
      unfold maxLen at hs62
      clear hr hr4 k3 k4 k5
      go_loopw [11] (fun i wq => ∃ k : Nat, k ≤ s ∧ i = .int .i64 k ∧ Kept wr wq ∧ Free wr.heap.size wq ro s) (fun i _ => s - (RowKit.intOf i).toNat)
      case atStart => exact ⟨0, Nat.zero_le _, rfl, hkk.out, hfree.out⟩
      case round =>
        clear hkk hfree
        obtain ⟨k, hk, rfl, hkq, hfr⟩ := hrel
        by_cases hlt2 : k < s
        · obtain ⟨g, v, rfl, hc, hz, hst⟩ := hfr.get hlt2
          have HS := Lib.hid (hst _ (Nat.le_refl _) hkq)
          clear hst hkq hfr
          go_wp2
          go_roundw
          case rel => exact ⟨k + 1, by omega, by go_num, (HS.out _).1, (HS.out _).2⟩
          case measure => simp [RowKit.intOf]; omega
        · obtain rfl : k = s := by omega
          have HS := Lib.hid hkq
          clear hkq hfr
          go_wp2
          go_roundw
          case rel => exact ⟨j + 1, by omega, by go_num, HK.out.trans HS.out⟩
          case measure => simp [RowKit.intOf]; omega
    · obtain rfl : j = 2 := by omega
      have n1 : ∀ z : Int, (z == z) = true := fun z => by simp
      have n2 : ∀ q : Bool, (q == q) = true := fun q => by cases q <;> rfl
      have n1c := n1 (chk a)
      have n2h := n2 (has a port)
      clear n1 n2
      go_wp2_with (first
        | (go_at_call 13; (with_reducible refine (check_c (HX.out.1.kept HK.out)).mono ?_); rintro e v1 ⟨rfl, k1⟩; have K1 := Lib.hid (HX.out.2.2.trans (HK.out.trans k1)); have L1 := Lib.hid (HK.out.trans k1); clear k1)
        | (go_at_call 14; (with_reducible refine (rcheck_c (HA.out.kept K1.out)).mono ?_); rintro e v2 ⟨rfl, k2⟩; have K2 := Lib.hid (K1.out.trans k2); have L2 := Lib.hid (L1.out.trans k2); clear k2)
        | (go_at_call 15; (with_reducible refine (has_c (HX.out.1.kept L2.out) port).mono ?_); rintro e v3 ⟨rfl, k3⟩; have K3 := Lib.hid (K2.out.trans k3); have L3 := Lib.hid (L2.out.trans k3); clear k3)
        | (go_at_call 16; (with_reducible refine (rhas_c (HA.out.kept K3.out) port).mono ?_); rintro e v4 ⟨rfl, k4⟩; have K4 := Lib.hid (K3.out.trans k4); have L4 := Lib.hid (L3.out.trans k4); clear k4)
        | (go_at_call 11; first
          | ((with_reducible refine (eq_c (HX.out.1.kept L4.out) (HA.out.kept K4.out) rfl).mono ?_); rintro e v5 ⟨rfl, k5⟩; have K5 := Lib.hid (K4.out.trans k5); have L5 := Lib.hid (L4.out.trans k5); clear k5)
          | ((with_reducible refine (eq_c (HX.out.2.1.kept L5.out) (HB.out.kept K5.out) rfl).mono ?_); rintro e v6 ⟨rfl, k6⟩; have K6 := Lib.hid (K5.out.trans k6); clear k6))
        | (go_at_call 17; (with_reducible refine (awake_c _).mono ?_); rintro e v7 ⟨rfl, k7⟩))
      go_ret
      exact ⟨rfl, K6.out.trans k7⟩
end Go.Proofs.Ytemfnobfdmlfaaa.In
