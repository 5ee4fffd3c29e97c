/-
  PortsSets, for any two lists and any number.
-/
import Derived.Test.YtemfnobfdmlfaaaWk
import Derived.BigRegion
import Derived.BigQuiet
namespace Go.Proofs.Ytemfnobfdmlfaaa.In
open Go.RowKit Go.Proofs.Ytemfnobfdmlfaaa.Mem Go.Proofs.Ytemfnobfdmlfaaa.Po Go.ChangeShapes Go.WideShapes Go.ChangeAt

set_option linter.unusedVariables false
/-! ### Has, which turns nothing at all -/
set_option maxRecDepth 100000 in
theorem index_s {w : World} {ao : Option Addr} {n cap : Nat} {l : List Int} (h : At w ao n cap l) (x : Int) : Calls Try.prog 27 #[.slice ao n cap, .int .i64 x] w fun e w' => ∃ r : Int, e = .returned (.int .i64 r) ∧ decide (0 ≤ r) = has l x ∧ w' = w := by
  have hn := h.n62
  unfold maxLen at hn
  have H := Lib.hid h
  clear h
  go_enter Try.func27, Try.ntmps27
  go_wp2
  go_loopw [8] (fun i wr => ∃ j : Nat, j ≤ n ∧ i = .int .i64 j ∧ wr = w ∧ ¬ x ∈ l.take j) (fun i _ => n - (RowKit.intOf i).toNat)
  case atStart => exact ⟨0, Nat.zero_le _, rfl, rfl, by simp⟩
  case round =>
    obtain ⟨j, hj, rfl, hw, hno⟩ := hrel
    obtain rfl : w = wr := hw.symm
    have HN := Lib.hid hno
    clear hno hw
    by_cases hlt : j < n
    · obtain ⟨y, g, o, hx, _, rfl, hg, hc⟩ := H.out.get hlt
      by_cases hxy : x = y
      · subst hxy
        have HX := Lib.hid hx
        clear hx
        go_wp2
        go_ret
        refine ⟨_, rfl, ?_, rfl⟩
        have e1 : has l x = true := decide_eq_true (List.mem_of_getElem? HX.out)
        rw [e1]; simp
      · have HX := Lib.hid (And.intro hx hxy)
        have n1 : (x == y) = false := by simpa using hxy
        clear hx hxy
        go_wp2
        go_roundw
        case rel => exact ⟨j + 1, by omega, by go_num, by first | rfl | trivial, has_take HN.out HX.out.1 (fun e => HX.out.2 e.symm)⟩
        case measure => simp [RowKit.intOf]; omega
    · obtain rfl : j = n := by omega
      go_wp2
      go_ret
      refine ⟨_, rfl, ?_, rfl⟩
      have e1 := HN.out
      rw [List.take_of_length_le (Nat.le_of_eq H.out.len)] at e1
      rw [show has l x = false from decide_eq_false e1]; simp
set_option maxRecDepth 100000 in
theorem contains_s {w : World} {ao : Option Addr} {n cap : Nat} {l : List Int} (h : At w ao n cap l) (x : Int) : Calls Try.prog 24 #[.slice ao n cap, .int .i64 x] w fun e w' => e = .returned (.bool (has l x)) ∧ w' = w := by
  have H := Lib.hid h
  clear h
  go_enter Try.func24, Try.ntmps24
  go_wp2_with (go_at_call 27; refine (index_s H.out x).mono ?_; rintro e w1 ⟨r, rfl, hr, k1⟩)
  go_ret
  exact ⟨by simp [← hr], by first | rfl | exact k1⟩
set_option maxRecDepth 100000 in
theorem has_s {w : World} {ao : Option Addr} {n cap : Nat} {l : List Int} (h : At w ao n cap l) (x : Int) : Calls Try.prog 15 #[.slice ao n cap, .int .i64 x] w fun e w' => e = .returned (.bool (has l x)) ∧ w' = w := by
  have H := Lib.hid h
  clear h
  go_enter Try.func15, Try.ntmps15
  go_wp2_with (go_at_call 24; refine (contains_s H.out x).mono ?_; rintro e w1 ⟨rfl, k1⟩)
  go_ret
  exact ⟨rfl, by first | rfl | exact k1⟩
theorem has_q {w : World} {ao : Option Addr} {n cap : Nat} {l : List Int} (h : At w ao n cap l) (x : Int) (k : Nat) : Calls Try.prog 15 #[.slice ao n cap, .int .i64 x] (w.drewN k) fun e w'' => e = .returned (.bool (has l x)) ∧ ∃ m, w'' = w.drewN m :=
  (has_s (h.kept ((Kept.refl w).drewN k)) x).mono fun e w' ⟨he, hw⟩ => ⟨he, k, hw⟩
set_option maxRecDepth 100000 in
/-- An ascending list is said to be ascending. -/
theorem asc_c {w : World} {ao : Option Addr} {n cap : Nat} {l : List Int} (h : At w ao n cap l) (hs : Asc l) : Calls Try.prog 20 #[.slice ao n cap] w fun e w' => e = .returned (.bool true) ∧ Kept w w' := by
  have hn := h.n62
  unfold maxLen at hn
  have H := Lib.hid (And.intro h hs)
  clear h hs
  go_enter Try.func20, Try.ntmps20
  go_wp2
  go_loopw [3] (fun i wr => ∃ j : Nat, i = .int .i64 ((j + 1 : Nat) : Int) ∧ j ≤ n ∧ Kept w wr) (fun i _ => n + 1 - (RowKit.intOf i).toNat)
  case atStart => exact ⟨0, rfl, Nat.zero_le _, Kept.refl _⟩
  case round =>
    obtain ⟨j, rfl, hj, hk⟩ := hrel
    by_cases hlt : j + 1 < n
    · obtain ⟨x, g, o, hx, _, rfl, hg, hc⟩ := (H.out.1.kept hk).get hlt
      obtain ⟨y, g2, o2, hy, _, e2, hg2, hc2⟩ := (H.out.1.kept hk).get (j := j) (by omega)
      cases e2
      have hyx : y < x := by
        have h1 := List.getElem?_eq_some_iff.1 hx
        have h2 := List.getElem?_eq_some_iff.1 hy
        obtain ⟨i1, e1⟩ := h1
        obtain ⟨i2, e2⟩ := h2
        have := List.pairwise_iff_getElem.1 H.out.2 j (j + 1) i2 i1 (by omega)
        rw [e1, e2] at this; exact this
      have n1 : decide (x ≤ y) = false := decide_eq_false (by omega)
      have n2 : ((j + 1 : Nat) : Int) - 1 = (j : Int) := by omega
      have n3 : j < n := by omega
      clear hx hy hyx
      go_wp2_with fail
      go_quiet (fail)
      go_wp2_with fail
      go_roundw
      case rel => exact ⟨j + 1, by go_num, by omega, hk.drewN nq⟩
      case measure => simp [RowKit.intOf]; omega
    · have n1 : decide (((j + 1 : Nat) : Int) < (n : Int)) = false := decide_eq_false (by omega)
      go_wp2
      go_ret
      exact ⟨rfl, hk⟩
theorem has_meet (a b : List Int) (x : Int) : has (meet a b) x = (has a x && has b x) := by
  unfold has
  rw [Bool.eq_iff_iff]; simp [mem_meet]
theorem has_union (a b : List Int) (x : Int) : has (union [a, b]) x = (has a x || has b x) := by
  unfold has
  rw [Bool.eq_iff_iff]; simp [mem_union2]
theorem sets_len {a b : List Int} (h : chk a = 0) (k : chk b = 0) : chk (meet a b) = 0 ∧ (meet a b).length + (union [a, b]).length = a.length + b.length :=
  ⟨(chk_set _).2 (meet_set ((chk_set a).1 h) ((chk_set b).1 k)), lengths ((chk_set a).1 h).2.1 ((chk_set b).1 k).2.1⟩
set_option maxHeartbeats 8000000 in
set_option maxRecDepth 100000 in
theorem sets_core (w : World) (ao bo : Option Addr) (n cap m d : Nat) (a b : List Int) (other : Int) (hA : At w ao n cap a) (hB : At w bo m d b) (hO : isI other) :
    Calls Try.prog 6 #[.slice ao n cap, .slice bo m d, .int .i64 other] w fun e w' => e = .returned (.bool true) ∧ Kept w w' := by
  obtain ⟨M1, hm1, hn1, hM1⟩ := cut_of n 30
  obtain ⟨M2, hm2, hn2, hM2⟩ := cut_of m 30
  have e1 := sub_h ao n cap M1 (Nat.le_trans hn1 hA.le)
  have e2 := sub_h bo m d M2 (Nat.le_trans hn2 hB.le)
  have HA := Lib.hid (hA.head hn1)
  have HB := Lib.hid (hB.head hn2)
  generalize subA ao cap 0 = a1 at e1 HA
  generalize subA bo d 0 = a2 at e2 HB
  generalize a.take M1 = a at HA
  generalize b.take M2 = b at HB
  have f1 : min (n : Int) 30 = (M1 : Int) := hm1
  have f2 : min (m : Int) 30 = (M2 : Int) := hm2
  clear hm1 hm2 hA hB hn1 hn2
  go_enter Try.func6, Try.ntmps6
  go_wp2_with fail
  go_region
  have K0 : Kept w w.drew := (Kept.refl w).drew
  generalize w.drew = w0 at K0 ⊢
  clear e1 e2 f1 f2
  have hml := meet_le_union a b
  go_wp2_with (first
    | (go_at_call 10; (with_reducible refine (c_meet (HA.out.kept K0) (HB.out.kept K0) (by omega) (by omega)).mono ?_); rintro e w1 ⟨o1, s1, d1, rfl, R1, b1, k1⟩; have K1 := K0.trans k1)
    | (go_at_call 18; (with_reducible refine (c_union2 (HA.out.kept K1) (HB.out.kept K1) (by omega)).mono ?_); rintro e w2 ⟨o2, s2, d2, rfl, R2, b2, k2⟩; have K2 := K1.trans k2; replace R1 := R1.kept k2; have hs12 : s1 ≤ s2 := by rw [← R1.len, ← R2.len]; exact hml)
    | (go_at_call 20; first
      | ((with_reducible refine (asc_c R1 (asc_meet _ _)).mono ?_); rintro e w3 ⟨rfl, k3⟩; have K3 := K2.trans k3; have R2' := R2.kept k3)
      | ((with_reducible refine (asc_c R2' (asc_union _)).mono ?_); rintro e w4 ⟨rfl, k4⟩; have K4 := Lib.hid (K3.trans k4); have R1'' := (R1.kept k3).kept k4; have R2'' := R2'.kept k4))
    | (at_builtin; refine wpList_app (N := 1 + M1) (New.lit (B := w4.heap.size) w4 (Nat.le_refl _) [other] (fun z hz => by simp at hz; subst hz; exact hO) (by simp [maxLen])) (HA.out.kept (K4.out.alloc _)) ((Kept.refl w4).alloc _).size rfl (by omega) rfl _ _ rfl rfl rfl ?_; intro o5 d5 w5 R5 g5 h5; have k5 := Lib.hid (h5 w4 (Nat.le_refl _) ((Kept.refl w4).alloc _)); clear g5 h5)
    | (at_builtin; refine wpList_app (N := 1 + M1 + M2) R5 (HB.out.kept (K4.out.trans k5.out)) k5.out.size rfl (by omega) rfl _ _ rfl rfl rfl ?_; intro o6 d6 w6 R6 g6 h6; have k6 := Lib.hid (h6 w4 (Nat.le_refl _) k5.out); clear g6 h6)
    | (at_builtin; refine wpList_app (N := 1 + M1 + M2 + s1) R6 (R1''.kept k6.out) k6.out.size rfl (by omega) rfl _ _ rfl rfl rfl ?_; intro o7 d7 w7 R7 g7 h7; have k7 := Lib.hid (h7 w4 (Nat.le_refl _) k6.out); clear g7 h7)
    | (at_builtin; refine wpList_app (N := 1 + M1 + M2 + s1 + s2) R7 (R2''.kept k7.out) k7.out.size rfl (by omega) rfl _ _ rfl rfl rfl ?_; intro o8 d8 w8 R8 g8 h8; have k8 := Lib.hid (h8 w4 (Nat.le_refl _) k7.out); clear g8 h8))
  have F := Lib.hid (And.intro (R1''.kept k8.out) (And.intro (R2''.kept k8.out) (And.intro R8.at (And.intro (K4.out.trans k8.out) hO))))
  have hN62 := R8.at.n62
  unfold maxLen at hN62
  have hl1 := F.out.1.len
  have hl2 := F.out.2.1.len
  have hlA := HA.out.len
  have hlB := HB.out.len
  have HLEN := Lib.hid (And.intro hl1 (And.intro hl2 (And.intro hlA hlB)))
  clear R1 R2 R1'' R2'' R2' R5 R6 R7 R8 k1 k2 k3 k4 k5 k6 k7 k8 K0 K1 K2 K3 K4 hml hl1 hl2 hlA hlB
  obtain ⟨N, hN⟩ : ∃ N, N = 1 + M1 + M2 + s1 + s2 := ⟨_, rfl⟩
  rw [← hN] at F hN62 ⊢
  clear hN
  generalize ([other] ++ a ++ b ++ meet a b ++ union [a, b]) = L at F
  go_loopw [10] (fun i wr => ∃ j : Nat, j ≤ N ∧ i = .int .i64 j ∧ Kept w8 wr) (fun i _ => N - (RowKit.intOf i).toNat)
  case atStart => exact ⟨0, Nat.zero_le _, rfl, Kept.refl _⟩
  case round =>
    obtain ⟨j, hj, rfl, hk⟩ := hrel
    by_cases hlt : j < N
    · obtain ⟨x, g, o, hx, hf, rfl, hg, hc⟩ := (F.out.2.2.1.kept hk).get hlt
      have hAr := HA.out.kept (F.out.2.2.2.1.trans hk)
      have hBr := HB.out.kept (F.out.2.2.2.1.trans hk)
      have qa := has_q hAr x
      have qb := has_q hBr x
      have HK := Lib.hid hk
      have hgN : ∀ k, (wr.drewN k).cell? ⟨g, o + j, none⟩ = some (.int .i64 x) := fun k => ((Kept.refl wr).drewN k).cell (p := ⟨g, _, none⟩) hg |>.trans hc
      obtain ⟨p, hp⟩ : ∃ p, p = has a x := ⟨_, rfl⟩
      obtain ⟨q, hq⟩ : ∃ q, q = has b x := ⟨_, rfl⟩
      rw [← hp] at qa
      rw [← hq] at qb
      have HM : has (meet a b) x = (p && q) := by rw [has_meet, hp, hq]
      have HU : has (union [a, b]) x = (p || q) := by rw [has_union, hp, hq]
      have H2 := Lib.hid (And.intro HM HU)
      clear hx hf hAr hBr hk hp hq HM HU
      have n1 : decide ((j : Int) < (N : Int)) = true := decide_eq_true (by omega)
      go_wp2_with fail
      go_quiet (first | (go_at_call 15; exact qa _) | (go_at_call 15; exact qb _))
      have hc2 := hgN nq
      have hkd := Lib.hid ((Kept.refl wr).drewN nq)
      clear hgN qa qb hc
      generalize wr.drewN nq = wz at hc2 hkd ⊢
      cases p <;> cases q <;> (
        go_wp2_with (go_at_call 15; first
          | ((with_reducible refine (has_c (F.out.1.kept (HK.out.trans hkd.out)) x).mono ?_); rintro e v1 ⟨rfl, q1⟩; rw [H2.out.1]; have hc3 := (q1.cell (p := ⟨g, _, none⟩) (Nat.lt_of_lt_of_le hg hkd.out.size)).trans hc2)
          | ((with_reducible refine (has_c ((F.out.2.1.kept (HK.out.trans hkd.out)).kept q1) x).mono ?_); rintro e v2 ⟨rfl, q2⟩; rw [H2.out.2]))
        go_roundw
        case rel => exact ⟨j + 1, by omega, by go_num, ((HK.out.trans hkd.out).trans q1).trans q2⟩
        case measure => simp [RowKit.intOf]; omega)
    · obtain rfl : j = N := by omega
      have HK := Lib.hid (F.out.2.2.2.1.trans hk)
      have HW := Lib.hid hk
      have n1 : decide ((j : Int) < (j : Int)) = false := decide_eq_false (by omega)
      obtain ⟨CA, hCA⟩ : ∃ q, q = chk a := ⟨_, rfl⟩
      obtain ⟨CB, hCB⟩ : ∃ q, q = chk b := ⟨_, rfl⟩
      have HCA := Lib.hid hCA
      have HCB := Lib.hid hCB
      clear hk hCA hCB
      by_cases h1 : CA = 0
      · by_cases h2 : CB = 0
        · subst h1 h2
          have HCM := Lib.hid (sets_len HCA.out.symm HCB.out.symm).1
          have hsum : s1 + s2 = M1 + M2 := by
            have h := (sets_len HCA.out.symm HCB.out.symm).2
            rw [HLEN.out.1, HLEN.out.2.1, HLEN.out.2.2.1, HLEN.out.2.2.2] at h
            exact h
          have n2 : ((s1 : Int) + (s2 : Int) != (M1 : Int) + (M2 : Int)) = false := by
            have : (s1 : Int) + (s2 : Int) = (M1 : Int) + (M2 : Int) := by omega
            simp [this]
          have n3 : ((0 : Int) == 0) = true := rfl
          have n4 : ((0 : Int) != 0) = false := rfl
          clear hsum
          go_wp2_with (first
            | (go_at_call 13; first
              | ((with_reducible refine (check_c (HA.out.kept HK.out)).mono ?_); rintro e v1 ⟨rfl, q1⟩; rw [← HCA.out]; have L1 := Lib.hid (HK.out.trans q1))
              | ((with_reducible refine (check_c (HB.out.kept L1.out)).mono ?_); rintro e v2 ⟨rfl, q2⟩; rw [← HCB.out]; have L2 := Lib.hid (L1.out.trans q2))
              | ((with_reducible refine (check_c (F.out.1.kept ((HW.out.trans q1).trans q2))).mono ?_); rintro e v3 ⟨rfl, q3⟩; rw [HCM.out]; have L3 := Lib.hid (L2.out.trans q3)))
            | (go_at_call 17; (with_reducible refine (awake_c _).mono ?_); rintro e v9 ⟨rfl, q9⟩))
          go_ret
          exact ⟨rfl, L3.out.trans q9⟩
        · subst h1
          have n2 : (CB == 0) = false := by simpa using h2
          have n3 : ((0 : Int) == 0) = true := rfl
          clear h2
          go_wp2_with (first
            | (go_at_call 13; first
              | ((with_reducible refine (check_c (HA.out.kept HK.out)).mono ?_); rintro e v1 ⟨rfl, q1⟩; rw [← HCA.out]; have L1 := Lib.hid (HK.out.trans q1))
              | ((with_reducible refine (check_c (HB.out.kept L1.out)).mono ?_); rintro e v2 ⟨rfl, q2⟩; rw [← HCB.out]; have L2 := Lib.hid (L1.out.trans q2)))
            | (go_at_call 17; (with_reducible refine (awake_c _).mono ?_); rintro e v9 ⟨rfl, q9⟩))
          go_ret
          exact ⟨rfl, L2.out.trans q9⟩
      · have n2 : (CA == 0) = false := by simpa using h1
        clear h1
        go_wp2_with (first
            | (go_at_call 13; first
              | ((with_reducible refine (check_c (HA.out.kept HK.out)).mono ?_); rintro e v1 ⟨rfl, q1⟩; rw [← HCA.out]; have L1 := Lib.hid (HK.out.trans q1)))
            | (go_at_call 17; (with_reducible refine (awake_c _).mono ?_); rintro e v9 ⟨rfl, q9⟩))
        go_ret
        exact ⟨rfl, L1.out.trans q9⟩
end Go.Proofs.Ytemfnobfdmlfaaa.In
