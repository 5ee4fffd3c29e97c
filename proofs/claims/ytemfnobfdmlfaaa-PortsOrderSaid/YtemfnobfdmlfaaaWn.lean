/-
  PortsOrder, for any three lists.
-/
import Derived.Test.YtemfnobfdmlfaaaWk
import Derived.BigRegion
import Derived.BigQuiet
namespace Go.Proofs.Ytemfnobfdmlfaaa.In
open Go.RowKit Go.Proofs.Ytemfnobfdmlfaaa.Mem Go.Proofs.Ytemfnobfdmlfaaa.Po Go.ChangeShapes Go.WideShapes Go.ChangeAt

theorem order_union (a b c : List Int) : union [a, b, c] = union [c, a.reverse, b] := union_congr fun x => by
  constructor
  · rintro ⟨l, hl, hx⟩
    simp at hl
    rcases hl with rfl | rfl | rfl
    · exact ⟨l.reverse, by simp, by simpa using hx⟩
    · exact ⟨l, by simp, hx⟩
    · exact ⟨l, by simp, hx⟩
  · rintro ⟨l, hl, hx⟩
    simp at hl
    rcases hl with rfl | rfl | rfl
    · exact ⟨l, by simp, hx⟩
    · exact ⟨a, by simp, by simpa using hx⟩
    · exact ⟨l, by simp, hx⟩
theorem order_meet (a b : List Int) : meet a b = meet b a.reverse := by
  rw [meet_comm]
  exact meet_congr (fun x => Iff.rfl) fun x => by simp
theorem back_step {l : List Int} {j : Nat} {x : Int} (h : l[j]? = some x) : (l.drop j).reverse = (l.drop (j + 1)).reverse ++ [x] := by
  rw [drop_cons h]; simp
set_option maxHeartbeats 8000000 in
set_option maxRecDepth 100000 in
theorem order_core (w : World) (ao bo co : Option Addr) (n cap m d p e : Nat) (a b c : List Int) (hA : At w ao n cap a) (hB : At w bo m d b) (hC : At w co p e c) :
    Calls Try.prog 7 #[.slice ao n cap, .slice bo m d, .slice co p e] w fun e w' => e = .returned (.bool true) ∧ Kept w w' := by
  obtain ⟨M1, hm1, hn1, hM1⟩ := cut_of n 20
  obtain ⟨M2, hm2, hn2, hM2⟩ := cut_of m 20
  obtain ⟨M3, hm3, hn3, hM3⟩ := cut_of p 20
  have e1 := sub_h ao n cap M1 (Nat.le_trans hn1 hA.le)
  have e2 := sub_h bo m d M2 (Nat.le_trans hn2 hB.le)
  have e3 := sub_h co p e M3 (Nat.le_trans hn3 hC.le)
  have HA0 := Lib.hid (hA.head hn1)
  have HB0 := Lib.hid (hB.head hn2)
  have HC0 := Lib.hid (hC.head hn3)
  generalize subA ao cap 0 = a1 at e1 HA0
  generalize subA bo d 0 = a2 at e2 HB0
  generalize subA co e 0 = a3 at e3 HC0
  generalize a.take M1 = a at HA0
  have f1 : min (n : Int) 20 = (M1 : Int) := hm1
  have f2 : min (m : Int) 20 = (M2 : Int) := hm2
  have f3 : min (p : Int) 20 = (M3 : Int) := hm3
  clear hm1 hm2 hm3
  clear hA hB hC hn1 hn2 hn3
  go_enter Try.func7, Try.ntmps7
  go_wp2_with fail
  go_region
  have K00 : Kept w w.drew := (Kept.refl w).drew
  generalize w.drew = w00 at K00 ⊢
  clear e1 e2 e3 f1 f2 f3
  obtain ⟨I, hI⟩ : ∃ I : Int, (M1 : Int) - 1 = I := ⟨_, rfl⟩
  have hI1 : I + 1 = (M1 : Int) := by omega
  go_wp2_with fail
  clear hI
  go_loopw [7, 8] (fun u i wr => ∃ (x : Int) (r s : Nat) (ro : Option Addr) (q : Nat), i = .int .i64 x ∧ x + 1 = (r : Int) ∧ s + r = M1 ∧ u = .slice ro s q ∧ New w00.heap.size wr ro s q ((a.drop r).reverse) ∧ Kept w00 wr) (fun _ i _ => (RowKit.intOf i + 1).toNat)
  case atStart => exact ⟨I, M1, 0, none, 0, rfl, hI1, by omega, rfl, by
    rw [List.drop_of_length_le (Nat.le_of_eq HA0.out.len)]; exact New.empty _ _, Kept.refl _⟩
  case round =>
    clear hI1
    obtain ⟨x, r, s, ro, q, rfl, hx, hs, rfl, hnew, hk⟩ := hrel
    by_cases h0 : 0 ≤ x
    · obtain ⟨j, rfl⟩ := Int.eq_ofNat_of_zero_le h0
      obtain rfl : r = j + 1 := by omega
      obtain ⟨y, g, o, hy, hf, rfl, hg, hc⟩ := (HA0.out.kept (K00.trans hk)).get (j := j) (by omega)
      obtain ⟨I', hI'⟩ : ∃ I' : Int, (j : Int) - 1 = I' := ⟨_, rfl⟩
      have hI2 := Lib.hid hI'
      have hjM : j < M1 := by omega
      have HS := Lib.hid (And.intro hnew (And.intro hk (And.intro hy hf)))
      clear hnew hk hy hf hx
      go_wp2_with (at_builtin; refine wpList_push HS.out.1 HS.out.2.2.2 HS.out.2.1.size rfl (by omega) rfl _ _ rfl rfl rfl ?_; intro ro2 q2 w2 m2 f2)
      go_roundw
      case rel => exact ⟨I', j, s + 1, ro2, q2, rfl, by have := hI2.out; omega, by omega, rfl, by rw [back_step HS.out.2.2.1]; exact m2, f2 _ (Nat.le_refl _) HS.out.2.1⟩
      case measure => simp [RowKit.intOf]; have := hI2.out; omega
    · obtain rfl : r = 0 := by omega
      obtain rfl : s = M1 := by omega
      have hD := hnew.at
      rw [List.drop_zero] at hD
      have HA := Lib.hid (HA0.out.kept (K00.trans hk))
      have HB := Lib.hid (HB0.out.kept (K00.trans hk))
      have HC := Lib.hid (HC0.out.kept (K00.trans hk))
      have HD := Lib.hid hD
      have HK := Lib.hid (K00.trans hk)
      have n1 : decide (0 ≤ x) = false := decide_eq_false h0
      have K0 := Kept.refl wr
      clear hnew hk hD HA0 HB0 HC0 K00 hx hs
      go_wp2_with (first
        | (go_at_call 18; (with_reducible refine (c_union3 (HA.out.kept K0) (HB.out.kept K0) (HC.out.kept K0) (by have := hM1; have := hM2; have := hM3; omega)).mono ?_); rintro e w1 ⟨o1, s1, d1, rfl, RU0, b1, k1⟩; have BU0 := Lib.hid b1; clear b1; have K1 := K0.trans k1)
        | (go_at_call 18; (with_reducible refine (c_union3 (HC.out.kept K1) (HD.out.kept K1) (HB.out.kept K1) (by have := hM1; have := hM2; have := hM3; have := BU0.out; omega)).mono ?_); rintro e w2 ⟨o2, s2, d2, rfl, RU1, b2, k2⟩; have BU1 := Lib.hid b2; clear b2; replace RU0 := RU0.kept k2; have K2 := K1.trans k2)
        | (go_at_call 11; (with_reducible refine (eq_c RU0 RU1 (order_union _ _ _)).mono ?_); rintro e w3 ⟨rfl, k3⟩; replace RU0 := RU0.kept k3; replace RU1 := RU1.kept k3; have K3 := K2.trans k3)
        | (go_at_call 18; (with_reducible refine (c_union2 (HA.out.kept K3) (HB.out.kept K3) (by have := hM1; have := hM2; have := hM3; have := BU0.out; have := BU1.out; omega)).mono ?_); rintro e w4 ⟨o4, s4, d4, rfl, RU2, b4, k4⟩; have BU2 := Lib.hid b4; clear b4; replace RU0 := RU0.kept k4; replace RU1 := RU1.kept k4; have K4 := K3.trans k4)
        | (go_at_call 18; (with_reducible refine (c_union2 RU2 (HC.out.kept K4) (by have := hM1; have := hM2; have := hM3; have := BU0.out; have := BU1.out; have := BU2.out; omega)).mono ?_); rintro e w5 ⟨o5, s5, d5, rfl, RU3, b5, k5⟩; have BU3 := Lib.hid b5; clear b5; replace RU0 := RU0.kept k5; replace RU1 := RU1.kept k5; replace RU2 := RU2.kept k5; have K5 := K4.trans k5)
        | (go_at_call 11; (with_reducible refine (eq_c RU0 RU3 (union_step _ _ _).symm).mono ?_); rintro e w6 ⟨rfl, k6⟩; replace RU0 := RU0.kept k6; replace RU1 := RU1.kept k6; replace RU2 := RU2.kept k6; replace RU3 := RU3.kept k6; have K6 := K5.trans k6)
        | (go_at_call 10; (with_reducible refine (c_meet (HA.out.kept K6) (HB.out.kept K6) (by have := hM1; have := hM2; have := hM3; have := BU0.out; have := BU1.out; have := BU2.out; have := BU3.out; omega) (by have := hM1; have := hM2; have := hM3; have := BU0.out; have := BU1.out; have := BU2.out; have := BU3.out; omega)).mono ?_); rintro e w7 ⟨o7, s7, d7, rfl, RM1, b7, k7⟩; have BM1 := Lib.hid b7; clear b7; replace RU0 := RU0.kept k7; replace RU1 := RU1.kept k7; replace RU2 := RU2.kept k7; replace RU3 := RU3.kept k7; have K7 := K6.trans k7)
        | (go_at_call 10; (with_reducible refine (c_meet (HB.out.kept K7) (HD.out.kept K7) (by have := hM1; have := hM2; have := hM3; have := BU0.out; have := BU1.out; have := BU2.out; have := BU3.out; have := BM1.out; omega) (by have := hM1; have := hM2; have := hM3; have := BU0.out; have := BU1.out; have := BU2.out; have := BU3.out; have := BM1.out; omega)).mono ?_); rintro e w8 ⟨o8, s8, d8, rfl, RM2, b8, k8⟩; have BM2 := Lib.hid b8; clear b8; replace RU0 := RU0.kept k8; replace RU1 := RU1.kept k8; replace RU2 := RU2.kept k8; replace RU3 := RU3.kept k8; replace RM1 := RM1.kept k8; have K8 := K7.trans k8)
        | (go_at_call 11; (with_reducible refine (eq_c RM1 RM2 (order_meet _ _)).mono ?_); rintro e w9 ⟨rfl, k9⟩; replace RU0 := RU0.kept k9; replace RU1 := RU1.kept k9; replace RU2 := RU2.kept k9; replace RU3 := RU3.kept k9; replace RM1 := RM1.kept k9; replace RM2 := RM2.kept k9; have K9 := K8.trans k9)
        | (go_at_call 10; (with_reducible refine (c_meet (HA.out.kept K9) (HA.out.kept K9) (by have := hM1; have := hM2; have := hM3; have := BU0.out; have := BU1.out; have := BU2.out; have := BU3.out; have := BM1.out; have := BM2.out; omega) (by have := hM1; have := hM2; have := hM3; have := BU0.out; have := BU1.out; have := BU2.out; have := BU3.out; have := BM1.out; have := BM2.out; omega)).mono ?_); rintro e w10 ⟨o10, s10, d10, rfl, RM3, b10, k10⟩; have BM3 := Lib.hid b10; clear b10; replace RU0 := RU0.kept k10; replace RU1 := RU1.kept k10; replace RU2 := RU2.kept k10; replace RU3 := RU3.kept k10; replace RM1 := RM1.kept k10; replace RM2 := RM2.kept k10; have K10 := K9.trans k10)
        | (go_at_call 18; (with_reducible refine (c_union1 (HA.out.kept K10) (by have := hM1; have := hM2; have := hM3; have := BU0.out; have := BU1.out; have := BU2.out; have := BU3.out; have := BM1.out; have := BM2.out; have := BM3.out; omega)).mono ?_); rintro e w11 ⟨o11, s11, d11, rfl, RU4, b11, k11⟩; have BU4 := Lib.hid b11; clear b11; replace RU0 := RU0.kept k11; replace RU1 := RU1.kept k11; replace RU2 := RU2.kept k11; replace RU3 := RU3.kept k11; replace RM1 := RM1.kept k11; replace RM2 := RM2.kept k11; replace RM3 := RM3.kept k11; have K11 := K10.trans k11)
        | (go_at_call 11; (with_reducible refine (eq_c RM3 RU4 (meet_self _)).mono ?_); rintro e w12 ⟨rfl, k12⟩; replace RU0 := RU0.kept k12; replace RU1 := RU1.kept k12; replace RU2 := RU2.kept k12; replace RU3 := RU3.kept k12; replace RM1 := RM1.kept k12; replace RM2 := RM2.kept k12; replace RM3 := RM3.kept k12; replace RU4 := RU4.kept k12; have K12 := K11.trans k12)
        | (go_at_call 18; (with_reducible refine (c_union2 (HA.out.kept K12) (HA.out.kept K12) (by have := hM1; have := hM2; have := hM3; have := BU0.out; have := BU1.out; have := BU2.out; have := BU3.out; have := BM1.out; have := BM2.out; have := BM3.out; have := BU4.out; omega)).mono ?_); rintro e w13 ⟨o13, s13, d13, rfl, RU5, b13, k13⟩; have BU5 := Lib.hid b13; clear b13; replace RU0 := RU0.kept k13; replace RU1 := RU1.kept k13; replace RU2 := RU2.kept k13; replace RU3 := RU3.kept k13; replace RM1 := RM1.kept k13; replace RM2 := RM2.kept k13; replace RM3 := RM3.kept k13; replace RU4 := RU4.kept k13; have K13 := K12.trans k13)
        | (go_at_call 18; (with_reducible refine (c_union1 (HA.out.kept K13) (by have := hM1; have := hM2; have := hM3; have := BU0.out; have := BU1.out; have := BU2.out; have := BU3.out; have := BM1.out; have := BM2.out; have := BM3.out; have := BU4.out; have := BU5.out; omega)).mono ?_); rintro e w14 ⟨o14, s14, d14, rfl, RU6, b14, k14⟩; have BU6 := Lib.hid b14; clear b14; replace RU0 := RU0.kept k14; replace RU1 := RU1.kept k14; replace RU2 := RU2.kept k14; replace RU3 := RU3.kept k14; replace RM1 := RM1.kept k14; replace RM2 := RM2.kept k14; replace RM3 := RM3.kept k14; replace RU4 := RU4.kept k14; replace RU5 := RU5.kept k14; have K14 := K13.trans k14)
        | (go_at_call 11; (with_reducible refine (eq_c RU5 RU6 (union_self _)).mono ?_); rintro e w15 ⟨rfl, k15⟩; replace RU0 := RU0.kept k15; replace RU1 := RU1.kept k15; replace RU2 := RU2.kept k15; replace RU3 := RU3.kept k15; replace RM1 := RM1.kept k15; replace RM2 := RM2.kept k15; replace RM3 := RM3.kept k15; replace RU4 := RU4.kept k15; replace RU5 := RU5.kept k15; replace RU6 := RU6.kept k15; have K15 := K14.trans k15)
        | (go_at_call 10; (with_reducible refine (c_meet (HA.out.kept K15) (HB.out.kept K15) (by have := hM1; have := hM2; have := hM3; have := BU0.out; have := BU1.out; have := BU2.out; have := BU3.out; have := BM1.out; have := BM2.out; have := BM3.out; have := BU4.out; have := BU5.out; have := BU6.out; omega) (by have := hM1; have := hM2; have := hM3; have := BU0.out; have := BU1.out; have := BU2.out; have := BU3.out; have := BM1.out; have := BM2.out; have := BM3.out; have := BU4.out; have := BU5.out; have := BU6.out; omega)).mono ?_); rintro e w16 ⟨o16, s16, d16, rfl, RM4, b16, k16⟩; have BM4 := Lib.hid b16; clear b16; replace RU0 := RU0.kept k16; replace RU1 := RU1.kept k16; replace RU2 := RU2.kept k16; replace RU3 := RU3.kept k16; replace RM1 := RM1.kept k16; replace RM2 := RM2.kept k16; replace RM3 := RM3.kept k16; replace RU4 := RU4.kept k16; replace RU5 := RU5.kept k16; replace RU6 := RU6.kept k16; have K16 := K15.trans k16)
        | (go_at_call 10; (with_reducible refine (c_meet RM4 (HC.out.kept K16) (by have := hM1; have := hM2; have := hM3; have := BU0.out; have := BU1.out; have := BU2.out; have := BU3.out; have := BM1.out; have := BM2.out; have := BM3.out; have := BU4.out; have := BU5.out; have := BU6.out; have := BM4.out; omega) (by have := hM1; have := hM2; have := hM3; have := BU0.out; have := BU1.out; have := BU2.out; have := BU3.out; have := BM1.out; have := BM2.out; have := BM3.out; have := BU4.out; have := BU5.out; have := BU6.out; have := BM4.out; omega)).mono ?_); rintro e w17 ⟨o17, s17, d17, rfl, RM5, b17, k17⟩; have BM5 := Lib.hid b17; clear b17; replace RU0 := RU0.kept k17; replace RU1 := RU1.kept k17; replace RU2 := RU2.kept k17; replace RU3 := RU3.kept k17; replace RM1 := RM1.kept k17; replace RM2 := RM2.kept k17; replace RM3 := RM3.kept k17; replace RU4 := RU4.kept k17; replace RU5 := RU5.kept k17; replace RU6 := RU6.kept k17; replace RM4 := RM4.kept k17; have K17 := K16.trans k17)
        | (go_at_call 10; (with_reducible refine (c_meet (HB.out.kept K17) (HC.out.kept K17) (by have := hM1; have := hM2; have := hM3; have := BU0.out; have := BU1.out; have := BU2.out; have := BU3.out; have := BM1.out; have := BM2.out; have := BM3.out; have := BU4.out; have := BU5.out; have := BU6.out; have := BM4.out; have := BM5.out; omega) (by have := hM1; have := hM2; have := hM3; have := BU0.out; have := BU1.out; have := BU2.out; have := BU3.out; have := BM1.out; have := BM2.out; have := BM3.out; have := BU4.out; have := BU5.out; have := BU6.out; have := BM4.out; have := BM5.out; omega)).mono ?_); rintro e w18 ⟨o18, s18, d18, rfl, RM6, b18, k18⟩; have BM6 := Lib.hid b18; clear b18; replace RU0 := RU0.kept k18; replace RU1 := RU1.kept k18; replace RU2 := RU2.kept k18; replace RU3 := RU3.kept k18; replace RM1 := RM1.kept k18; replace RM2 := RM2.kept k18; replace RM3 := RM3.kept k18; replace RU4 := RU4.kept k18; replace RU5 := RU5.kept k18; replace RU6 := RU6.kept k18; replace RM4 := RM4.kept k18; replace RM5 := RM5.kept k18; have K18 := K17.trans k18)
        | (go_at_call 10; (with_reducible refine (c_meet (HA.out.kept K18) RM6 (by have := hM1; have := hM2; have := hM3; have := BU0.out; have := BU1.out; have := BU2.out; have := BU3.out; have := BM1.out; have := BM2.out; have := BM3.out; have := BU4.out; have := BU5.out; have := BU6.out; have := BM4.out; have := BM5.out; have := BM6.out; omega) (by have := hM1; have := hM2; have := hM3; have := BU0.out; have := BU1.out; have := BU2.out; have := BU3.out; have := BM1.out; have := BM2.out; have := BM3.out; have := BU4.out; have := BU5.out; have := BU6.out; have := BM4.out; have := BM5.out; have := BM6.out; omega)).mono ?_); rintro e w19 ⟨o19, s19, d19, rfl, RM7, b19, k19⟩; have BM7 := Lib.hid b19; clear b19; replace RU0 := RU0.kept k19; replace RU1 := RU1.kept k19; replace RU2 := RU2.kept k19; replace RU3 := RU3.kept k19; replace RM1 := RM1.kept k19; replace RM2 := RM2.kept k19; replace RM3 := RM3.kept k19; replace RU4 := RU4.kept k19; replace RU5 := RU5.kept k19; replace RU6 := RU6.kept k19; replace RM4 := RM4.kept k19; replace RM5 := RM5.kept k19; replace RM6 := RM6.kept k19; have K19 := K18.trans k19)
        | (go_at_call 11; (with_reducible refine (eq_c RM5 RM7 (meet_assoc _ _ _)).mono ?_); rintro e w20 ⟨rfl, k20⟩; replace RU0 := RU0.kept k20; replace RU1 := RU1.kept k20; replace RU2 := RU2.kept k20; replace RU3 := RU3.kept k20; replace RM1 := RM1.kept k20; replace RM2 := RM2.kept k20; replace RM3 := RM3.kept k20; replace RU4 := RU4.kept k20; replace RU5 := RU5.kept k20; replace RU6 := RU6.kept k20; replace RM4 := RM4.kept k20; replace RM5 := RM5.kept k20; replace RM6 := RM6.kept k20; replace RM7 := RM7.kept k20; have K20 := K19.trans k20)
        | (go_at_call 17; (with_reducible refine (awake_c _).mono ?_); rintro e w21 ⟨rfl, k21⟩; replace RU0 := RU0.kept k21; replace RU1 := RU1.kept k21; replace RU2 := RU2.kept k21; replace RU3 := RU3.kept k21; replace RM1 := RM1.kept k21; replace RM2 := RM2.kept k21; replace RM3 := RM3.kept k21; replace RU4 := RU4.kept k21; replace RU5 := RU5.kept k21; replace RU6 := RU6.kept k21; replace RM4 := RM4.kept k21; replace RM5 := RM5.kept k21; replace RM6 := RM6.kept k21; replace RM7 := RM7.kept k21; have K21 := K20.trans k21))
      go_ret
      exact ⟨rfl, HK.out.trans K21⟩
end Go.Proofs.Ytemfnobfdmlfaaa.In
