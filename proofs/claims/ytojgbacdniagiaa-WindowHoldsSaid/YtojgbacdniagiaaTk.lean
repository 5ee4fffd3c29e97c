/-
  WindowHolds (the stage's theorem), for any starts given by their distances.
-/
import Derived.Test.YtojgbacdniagiaaTi
import Derived.BigQuiet
import Derived.Deep.CutBlock
import Derived.Deep.CutRange
namespace Go.Proofs.Ytojgbacdniagiaa.Wi
open Go.RowKit Go.Proofs.Ytojgbacdniagiaa.Mem Go.Proofs.Ytojgbacdniagiaa.Bx Go.Proofs.Ytojgbacdniagiaa.In Go.ChangeShapes Go.WideShapes Go.ChangeAt
set_option linter.unusedVariables false

/-- What is known of the greatest number so far: no more than any bound of all intervals, and no less than those of the starts S. -/
structure Top (l S : List Int) (V : Int) (m : Nat) : Prop where
  le : ∀ K : Nat, Within l V K → m ≤ K
  ge : ∀ x ∈ S, cnt l V x ≤ m
theorem Top.more {l S : List Int} {V t : Int} {m C : Nat} (h : Top l S V m) (hC : C = cnt l V t) : Top l S V (max m C) :=
  ⟨fun K hK => Nat.max_le.2 ⟨h.le K hK, hC ▸ within_iff.1 hK t⟩, fun x hx => Nat.le_trans (h.ge x hx) (Nat.le_max_left _ _)⟩
theorem Top.start {l S : List Int} {V x : Int} {m C : Nat} (h : Top l S V m) (hC : C = cnt l V x) : Top l (S ++ [x]) V (max m C) :=
  ⟨(h.more hC).le, fun y hy => by
    rcases List.mem_append.1 hy with hy | hy
    · exact (h.more hC).ge y hy
    · rw [List.mem_singleton] at hy; subst hy; rw [← hC]; exact Nat.le_max_right _ _⟩
theorem Top.all {l : List Int} {V : Int} {m k : Nat} (h : Top l l V m) : m ≤ k ↔ Within l V k := ⟨fun hk x hx => Nat.le_trans (h.ge x hx) hk, fun hk => h.le k hk⟩
theorem Good.take {l : List Int} (h : Good l) (k : Nat) : Good (l.take k) := ⟨fun x hx => h.1 x (List.mem_of_mem_take hx), h.2.sublist (List.take_sublist _ _)⟩
theorem Good.drop {l : List Int} (h : Good l) (k : Nat) : Good (l.drop k) := ⟨fun x hx => h.1 x (List.mem_of_mem_drop hx), h.2.sublist (List.drop_sublist _ _)⟩
theorem holds_fact {l : List Int} (hg : Good l) {V T : Int} (h1 : 1 ≤ V) (h2 : V ≤ 200) (h3 : 0 ≤ T) (k : Nat) : ∃ q a b : Bool, Boo 14 l V T q ∧ Boo 14 (l.take k) V T a ∧ Boo 14 (l.drop k) V T b ∧
    (∀ N : Int, 1 ≤ N → N ≤ V → ∃ c : Bool, Boo 14 l N T c ∧ (q = true → c = true)) ∧ (q = true → a = true ∧ b = true) ∧ q = decide (Within l V T.toNat) := by
  refine ⟨_, _, _, boo_ok hg h1 (by omega) h3, boo_ok (hg.take k) h1 (by omega) h3, boo_ok (hg.drop k) h1 (by omega) h3, fun N hN hN' => ⟨_, boo_ok hg hN (by omega) h3, fun hq => ?_⟩, fun hq => ?_, rfl⟩
  · rw [decide_eq_true_eq] at hq ⊢
    exact within_narrow hq hN'
  · rw [decide_eq_true_eq] at hq
    rw [← List.take_append_drop k l] at hq
    exact ⟨decide_eq_true (within_front hq), decide_eq_true (within_back hq)⟩
set_option maxHeartbeats 8000000 in
set_option maxRecDepth 100000 in
theorem holds_core (w : World) (ao : Option Addr) (n cap : Nat) (g : List Int) (v limit cut : Int) (hA : At w ao n cap g) :
    Calls Try.prog 6 #[.slice ao n cap, .int .i64 v, .int .i64 limit, .int .i64 cut] w fun e w' => e = .returned (.bool true) ∧ Kept w w' := by
  obtain ⟨V, V1, V2, hV⟩ := mod_c v 200 (by omega) (by omega)
  obtain ⟨P, P1, P2, hP⟩ := mod_c limit 10 (by omega) (by omega)
  have haw := awake_c
  have hst := starts_c hA
  obtain ⟨T, hT⟩ : ∃ T, P - 1 = T := ⟨_, rfl⟩
  clear hA
  go_enter Try.func6, Try.ntmps6
  go_upto_region 3 with (first
    | (go_at_call 18; (with_reducible refine hst.mono ?_); rintro e w1 ⟨bo, c, l, rfl, hn, hg, hb, h40, k1⟩)
    | (go_at_call 19; first
      | ((with_reducible refine (hV _).mono ?_); rintro e w2 ⟨rfl, hw2⟩; obtain rfl := hw2)
      | ((with_reducible refine (hP _).mono ?_); rintro e w3 ⟨rfl, hw3⟩; obtain rfl := hw3)))
  clear hst hV hP
  obtain ⟨L, hL⟩ : ∃ L, L = l.length := ⟨_, rfl⟩
  rw [← hL] at hn h40 ⊢
  obtain ⟨R, R1, R2, hR⟩ := mod_c cut ((L : Int) + 1) (by omega) (by omega)
  obtain ⟨k, hk⟩ : ∃ k : Nat, R - 1 = (k : Int) := ⟨(R - 1).toNat, by omega⟩
  obtain ⟨q, a, b, b1, b2, b3, b4, hab, hq⟩ := holds_fact hg V1 V2 (T := T) (by omega) k
  obtain ⟨N, N1, N2, hN⟩ := mod_c (k : Int) V V1 (by omega)
  obtain ⟨cc, b5, hcc⟩ := b4 N N1 N2
  have HL := Lib.hid hn.at
  have HC := Lib.hid (And.intro @b1 (And.intro @b2 (And.intro @b3 @b5)))
  have HF := Lib.hid (And.intro hL (And.intro hg (And.intro hb (And.intro hab (And.intro hcc hq)))))
  have KK := Lib.hid k1
  have T0 : 0 ≤ T := by omega
  have hkL : k ≤ L := by omega
  clear b1 b2 b3 b4 b5 hab hq hcc hg hb hL hn k1
  go_wp2_with (go_at_call 14; (with_reducible refine (HC.out.1 HL.out).mono ?_); rintro e u1 ⟨rfl, k1⟩; replace KK := Lib.hid (KK.out.trans k1); replace HL := Lib.hid (HL.out.kept k1); clear k1)
  go_loopw [12, 13] (fun c i wr => ∃ j m : Nat, j ≤ L ∧ m ≤ 40 ∧ i = .int .i64 j ∧ c = .int .i64 m ∧ Top l (l.take j) V m ∧ Kept u1 wr) (fun _ i _ => L - (RowKit.intOf i).toNat)
  case atStart => exact ⟨0, 0, Nat.zero_le _, by omega, rfl, rfl, ⟨fun K _ => Nat.zero_le _, fun x hx => by simp at hx⟩, Kept.refl _⟩
  case round =>
    obtain ⟨j, m, hj, hm, rfl, rfl, htop, hk1⟩ := hrel
    have HT := Lib.hid htop
    have HK := Lib.hid hk1
    clear htop hk1
    by_cases hlt : j < L
    · have d1 : decide ((j : Int) < (L : Int)) = true := decide_eq_true (by omega)
      obtain ⟨x, g2, o2, hx, ⟨x1, x2⟩, rfl, hg2, hcx⟩ := (HL.out.kept HK.out).get hlt
      have hx0 := (HF.out.2.1.1 x (List.mem_of_getElem? hx)).1
      have hx4 := HF.out.2.2.1 x (List.mem_of_getElem? hx)
      have HX := Lib.hid (take_snoc hx)
      clear hx
      have j0 : (0 : Int) ≤ (j : Int) := by omega
      have j1 : (j : Int) < (L : Int) := by omega
      go_wp2
      go_quiet (fail)
      go_wp2
      have HW := Lib.hid (HK.out.drewN nq)
      have HQ0 := Lib.hid (Kept.refl (wr.drewN nq))
      generalize wr.drewN nq = wq at HW HQ0 ⊢
      go_loopw [12, 62] (fun c i wr2 => ∃ p m2 : Nat, p ≤ 3 ∧ m2 ≤ 40 ∧ i = .int .i64 p ∧ c = .int .i64 m2 ∧ Top l (if 0 < p then l.take j ++ [x] else l.take j) V m2 ∧ Kept wq wr2) (fun _ i _ => 3 - (RowKit.intOf i).toNat)
      case atStart => exact ⟨0, m, by omega, hm, rfl, rfl, HT.out, HQ0.out⟩
      case round =>
        obtain ⟨p, m2, hp, hm2, rfl, rfl, htop2, hkq⟩ := hrel
        have HT2 := Lib.hid htop2
        have HKQ := Lib.hid (HW.out.trans hkq)
        have HKQ2 := Lib.hid hkq
        clear htop2 hkq
        by_cases hl3 : p < 3
        · have d2 : decide ((p : Int) < 3) = true := decide_eq_true (by omega)
          have hx := three_index x (x + 1) (x + V - 1) p hl3
          obtain ⟨U, hU⟩ : ∃ U, U = three x (x + 1) (x + V - 1) p := ⟨_, rfl⟩
          have hU1 : 0 ≤ U ∧ U ≤ 5000 := by rw [hU]; unfold three; split; omega; split <;> omega
          rw [← hU] at hx
          have hcnt : Num 10 l V U _ := num_ok HF.out.2.1 V1 (by omega) hU1.1 (by omega)
          obtain ⟨C, hC⟩ : ∃ C, C = cnt l V U := ⟨_, rfl⟩
          have hC40 : C ≤ 40 := by rw [hC]; have := cnt_le l V U; have := HF.out.1; omega
          rw [← hC] at hcnt
          have HCN := Lib.hid (And.intro @hcnt trivial)
          have HTN : Hid (Top l (l.take j ++ [x]) V (max m2 C)) := Lib.hid (by
            have h2 := HT2.out
            by_cases h0 : 0 < p
            · rw [if_pos h0] at h2; exact h2.more hC
            · rw [if_neg h0] at h2
              obtain rfl : p = 0 := by omega
              exact h2.start (by rw [hC, hU]; rfl))
          clear hcnt hC hU hU1
          by_cases hmc : m2 < C
          · have hmc1 : (m2 : Int) < (C : Int) := by omega
            go_wp2_with (go_at_call 10; (with_reducible refine (HCN.out.1 (HL.out.kept HKQ.out)).mono ?_); rintro e u8 ⟨rfl, k8⟩; replace HKQ2 := Lib.hid (HKQ2.out.trans k8); clear k8)
            go_roundw
            case rel => exact ⟨p + 1, C, by omega, hC40, by go_num, rfl, by rw [if_pos (by omega)]; have := HTN.out; rwa [Nat.max_eq_right (by omega)] at this, HKQ2.out⟩
            case measure => simp [RowKit.intOf]; omega
          · have hmc1 : ¬ (m2 : Int) < (C : Int) := by omega
            have hmc2 : (C : Int) ≤ (m2 : Int) := by omega
            go_wp2_with (go_at_call 10; (with_reducible refine (HCN.out.1 (HL.out.kept HKQ.out)).mono ?_); rintro e u8 ⟨rfl, k8⟩; replace HKQ2 := Lib.hid (HKQ2.out.trans k8); clear k8)
            go_roundw
            case rel => exact ⟨p + 1, m2, by omega, hm2, by go_num, rfl, by rw [if_pos (by omega)]; have := HTN.out; rwa [Nat.max_eq_left (by omega)] at this, HKQ2.out⟩
            case measure => simp [RowKit.intOf]; omega
        · have d2 : decide ((p : Int) < 3) = false := decide_eq_false (by omega)
          go_wp2
          go_roundw
          case rel => exact ⟨j + 1, m2, by omega, hm2, by go_num, rfl, by rw [HX.out]; have := HT2.out; rwa [if_pos (by omega)] at this, HKQ.out⟩
          case measure => simp [RowKit.intOf]; omega
    · have d1 : decide ((j : Int) < (L : Int)) = false := decide_eq_false (by omega)
      obtain rfl : j = L := by omega
      have htop := HT.out
      rw [List.take_of_length_le (Nat.le_of_eq HF.out.1.symm)] at htop
      have d3 : decide ((m : Int) ≤ T) = q := by
        rw [HF.out.2.2.2.2.2, decide_eq_decide, ← htop.all]
        omega
      have d4 : (q != q) = false := by cases q <;> rfl
      clear htop
      have e1 := sub_h bo j c k (Nat.le_trans hkL HL.out.le)
      have e2 := sub_l bo j c k hkL
      have HA := Lib.hid ((HL.out.kept HK.out).head hkL)
      have HB := Lib.hid ((HL.out.kept HK.out).tail hkL)
      have HLL := Lib.hid (HL.out.kept HK.out)
      generalize subA bo c 0 = A1 at e1 HA
      generalize subA bo c k = A2 at e2 HB
      generalize j - k = n2 at e2 HB
      generalize c - k = c2 at e2 HB
      have KQ := Lib.hid (Kept.refl wr)
      have HAB := Lib.hid HF.out.2.2.2.1
      have HCC := Lib.hid HF.out.2.2.2.2.1
      have d5 : q = true → a = true ∧ b = true ∧ cc = true := fun h => ⟨(HAB.out h).1, (HAB.out h).2, HCC.out h⟩
      have hq : q = false ∨ (q = true ∧ a = true ∧ b = true ∧ cc = true) := by
        cases q
        · exact .inl rfl
        · exact .inr ⟨rfl, d5 rfl⟩
      clear d5
      rcases hq with rfl | ⟨rfl, rfl, rfl, rfl⟩
      all_goals
        go_wp2_with (first
          | (go_at_call 19; first
            | ((with_reducible refine (hR _).mono ?_); rintro e v1 ⟨rfl, hw1⟩; obtain rfl := hw1)
            | ((with_reducible refine (hN _).mono ?_); rintro e v2 ⟨rfl, hw2⟩; obtain rfl := hw2))
          | (go_at_call 14; first
            | ((with_reducible refine (HC.out.2.1 (HA.out.kept KQ.out)).mono ?_); rintro e v3 ⟨rfl, k3⟩; replace KQ := Lib.hid (KQ.out.trans k3); clear k3)
            | ((with_reducible refine (HC.out.2.2.1 (HB.out.kept KQ.out)).mono ?_); rintro e v4 ⟨rfl, k4⟩; replace KQ := Lib.hid (KQ.out.trans k4); clear k4)
            | ((with_reducible refine (HC.out.2.2.2 (HLL.out.kept KQ.out)).mono ?_); rintro e v5 ⟨rfl, k5⟩; replace KQ := Lib.hid (KQ.out.trans k5); clear k5))
          | (go_at_call 17; (with_reducible refine (haw _).mono ?_); rintro e v6 ⟨rfl, k6⟩; replace KQ := Lib.hid (KQ.out.trans k6); clear k6))
        go_ret
        exact ⟨rfl, KK.out.trans (HK.out.trans KQ.out)⟩
end Go.Proofs.Ytojgbacdniagiaa.Wi
