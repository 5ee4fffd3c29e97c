/-
  WindowMoves, for any starts given by their distances.
-/
import Derived.Test.YtojgbacdniagiaaTi
import Derived.Test.YtojgbacdniagiaaTz
import Derived.BigQuiet
import Derived.Deep.CutBlock
import Derived.Deep.CutRange
namespace Go.Proofs.Ytojgbacdniagiaa.Wi
open Go.RowKit Go.Proofs.Ytojgbacdniagiaa.Mem Go.Proofs.Ytojgbacdniagiaa.Bx Go.Proofs.Ytojgbacdniagiaa.In Go.ChangeShapes Go.WideShapes Go.ChangeAt
set_option linter.unusedVariables false

theorem Good.move {l : List Int} {d : Int} (h : Good l) (hb : ∀ x ∈ l, x ≤ 4000) (h0 : 0 ≤ d) (h1 : d ≤ 100000) : Good (l.map (· + d)) := by
  refine ⟨fun y hy => ?_, ?_⟩
  · obtain ⟨x, hx, rfl⟩ := List.mem_map.1 hy
    have := h.1 x hx
    have := hb x hx
    omega
  · exact List.pairwise_map.2 (h.2.imp fun hab => by omega)
theorem moves_fact {l : List Int} (hg : Good l) (hb : ∀ x ∈ l, x ≤ 4000) {V U Z t d : Int} (h1 : 1 ≤ V) (h2 : V ≤ 200) (h3 : 1 ≤ U) (h4 : U ≤ 200) (h5 : 0 ≤ Z) (ht : 200 ≤ t) (ht2 : t ≤ 3200) (hd : 0 ≤ d) (hd2 : d ≤ 99999) :
    ∃ (C C1 C2 : Nat) (q : Bool) (K : List Int) (s : Nat), Num 10 l V t C ∧ Num 10 (l.map (· + d)) V (t + d) C ∧ Boo 14 l V Z q ∧ Boo 14 (l.map (· + d)) V Z q ∧
      Lis 12 l V t K s ∧ Lis 12 (l.map (· + d)) V (t + d) (K.map (· + d)) s ∧ Num 10 l (V + U) t ((C1 : Int) + (C2 : Int)) ∧ Num 10 l U t C1 ∧ Num 10 l V (t - U) C2 ∧ s = K.length ∧ (∀ x ∈ K, 0 ≤ x ∧ x ≤ 4000) ∧ C1 ≤ l.length ∧ C2 ≤ l.length := by
  have hg2 := hg.move hb hd (by omega)
  refine ⟨cnt l V t, cnt l U t, cnt l V (t - U), _, keep V t l, (keep V t l).length, num_ok hg h1 (by omega) (by omega) (by omega), ?_, boo_ok hg h1 (by omega) h5, ?_, lis_ok hg h1 (by omega) (by omega) (by omega) rfl, ?_, ?_, num_ok hg h3 (by omega) (by omega) (by omega), num_ok hg h1 (by omega) (by omega) (by omega), rfl, ?_, cnt_le _ _ _, cnt_le _ _ _⟩
  · have this : Num 10 (l.map (· + d)) V (t + d) _ := num_ok (v := V) (t := t + d) hg2 h1 (by omega) (by omega) (by omega)
    rwa [cnt_move] at this
  · have this : Boo 14 (l.map (· + d)) V Z _ := boo_ok (v := V) (m := Z) hg2 h1 (by omega) h5
    rwa [decide_eq_decide.2 (within_move (l := l) (w := V) (d := d) (k := Z.toNat))] at this
  · have this : Lis 12 (l.map (· + d)) V (t + d) _ _ := lis_ok (v := V) (t := t + d) hg2 h1 (by omega) (by omega) (by omega) (keep_move V t d l)
    rwa [List.length_map] at this
  · have this : Num 10 l (V + U) t _ := num_ok (v := V + U) (t := t) hg (by omega) (by omega) (by omega) (by omega)
    rw [cnt_parts l (by omega) (by omega)] at this
    rwa [Int.natCast_add] at this
  · intro x hx
    rw [keep_drop hg.2] at hx
    have hx := List.mem_of_mem_drop hx
    exact ⟨(hg.1 x hx).1, hb x hx⟩
set_option maxHeartbeats 8000000 in
set_option maxRecDepth 100000 in
theorem moves_core (w : World) (ao : Option Addr) (n cap : Nat) (g : List Int) (vu : Duo) (tick move : Int) (hA : At w ao n cap g) :
    Calls Try.prog 8 #[.slice ao n cap, .agg #[.int .i64 vu.x, .int .i64 vu.y], .int .i64 tick, .int .i64 move] w fun e w' => e = .returned (.bool true) ∧ Kept w w' := by
  obtain ⟨x0, x1⟩ := vu
  obtain ⟨V, V1, V2, hV⟩ := mod_c x0 200 (by omega) (by omega)
  obtain ⟨U, U1, U2, hU⟩ := mod_c x1 200 (by omega) (by omega)
  obtain ⟨P, P1, P2, hP⟩ := mod_c tick 3001 (by omega) (by omega)
  obtain ⟨B, B1, B2, hB⟩ := mod_c move 100000 (by omega) (by omega)
  have haw := awake_c
  have h0 := (Mem.Own.nil w).box #[.int .i64 x0, .int .i64 x1] 38
  have hst := starts_c (hA.kept h0.kept)
  simp only []
  clear hA
  go_enter Try.func8, Try.ntmps8
  go_upto_region 2 with (go_at_call 18; (with_reducible refine hst.mono ?_); rintro e w1 ⟨bo, c, l, rfl, hn, hg, hb, h40, k1⟩; have h1 := h0.later k1)
  obtain ⟨⟨a0, a1⟩, _⟩ := box2 (h1.boxed 0 rfl)
  replace hn := hn.base (show w.heap.size ≤ (w.alloc (.cells #[.int .i64 x0, .int .i64 x1] 38)).heap.size by simp)
  have hK := h1.kept
  clear h0 h1 k1 hst
  obtain ⟨L, hL⟩ : ∃ L, L = l.length := ⟨_, rfl⟩
  rw [← hL] at hn h40 ⊢
  obtain ⟨t, ht⟩ : ∃ t, 199 + P = t := ⟨_, rfl⟩
  obtain ⟨d, hd⟩ : ∃ d, B - 1 = d := ⟨_, rfl⟩
  obtain ⟨Z, hZ, hZ0⟩ : ∃ Z : Int, U.tmod 10 = Z ∧ 0 ≤ Z := ⟨_, rfl, Int.tmod_nonneg _ (by omega)⟩
  obtain ⟨C, C1, C2, q, K, s, c1, c2, c3, c4, c5, c6, c7, c8, c9, hs, hKb, hC1, hC2⟩ := moves_fact hg hb V1 V2 U1 U2 hZ0 (t := t) (d := d) (by omega) (by omega) (by omega) (by omega)
  have HC := Lib.hid (And.intro @c1 (And.intro @c2 (And.intro @c3 (And.intro @c4 (And.intro @c5 (And.intro @c6 (And.intro @c7 (And.intro @c8 @c9))))))))
  have HF := Lib.hid (And.intro hg (And.intro hb (And.intro hs (And.intro hKb hL))))
  have HN := Lib.hid (And.intro hn hK)
  clear c1 c2 c3 c4 c5 c6 c7 c8 c9 hg hb hs hKb hL hn hK
  go_quiet (first | (go_at_call 19; first | with_reducible exact Calls.quiet_of_same (hV _) | with_reducible exact Calls.quiet_of_same (hU _) | with_reducible exact Calls.quiet_of_same (hP _) | with_reducible exact Calls.quiet_of_same (hB _)))
  have NQ := Lib.hid (And.intro (HN.out.1.kept ((Kept.refl w1).drewN nq)) (HN.out.2.drewN nq))
  generalize w1.drewN nq = w2 at NQ ⊢
  clear a0 a1 hV hU hP hB HN
  have hnil := New.empty w2.heap.size w2
  go_wp2
  go_loopw [14, 15] (fun c i wr => ∃ (j cp : Nat) (bo : Option Addr), j ≤ L ∧ i = .int .i64 j ∧ c = .slice bo j cp ∧ New w2.heap.size wr bo j cp ((l.take j).map (· + d)) ∧ Kept w2 wr) (fun _ i _ => L - (RowKit.intOf i).toNat)
  case atStart => exact ⟨0, 0, none, Nat.zero_le _, rfl, rfl, hnil, Kept.refl _⟩
  case round =>
    clear hnil
    obtain ⟨j, cp, bf, hj, rfl, rfl, hfar, hk2⟩ := hrel
    have hLL := HF.out.2.2.2.2
    by_cases hlt : j < L
    · have d1 : decide ((j : Int) < (L : Int)) = true := decide_eq_true (by omega)
      obtain ⟨x, b, o, hx, ⟨x1', x2'⟩, rfl, hbb, hcx⟩ := (NQ.out.1.at.kept hk2).get hlt
      have hx0 := (HF.out.1.1 x (List.mem_of_getElem? hx)).1
      have hx4 := HF.out.2.1 x (List.mem_of_getElem? hx)
      have HX := Lib.hid (take_snoc hx)
      have HFR := Lib.hid hfar
      have hs1 : isI (x + d) := ⟨by omega, by omega⟩
      have hL40 : L ≤ 40 := h40
      clear hx hfar hLL
      have j0 : (0 : Int) ≤ (j : Int) := by omega
      have j1 : (j : Int) < (L : Int) := by omega
      go_wp2_with (at_builtin; (refine wpList_app (N := j + 1) (HFR.out.kept ((Kept.refl _).alloc _)) (New.lit _ (Nat.zero_le _) [x + d] (fun y hy => by rw [List.mem_singleton] at hy; subst hy; exact hs1) (by simp [maxLen])).at (hk2.alloc _).size rfl (by omega) rfl _ _ rfl rfl rfl ?_; intro bo' c' w3 m3 g3 f3; have k3 := f3 w2 (Nat.le_refl _) (hk2.alloc _)))
      go_roundw
      case rel =>
        refine ⟨j + 1, c', bo', by omega, by go_num, rfl, ?_, k3⟩
        rw [HX.out, List.map_append]; exact m3
      case measure => simp [RowKit.intOf]; omega
    · have d1 : decide ((j : Int) < (L : Int)) = false := decide_eq_false (by omega)
      obtain rfl : j = L := by omega
      have hFull : (l.take j).map (· + d) = l.map (· + d) := by rw [List.take_of_length_le (Nat.le_of_eq hLL.symm)]
      rw [hFull] at hfar
      have HL := Lib.hid (NQ.out.1.at.kept hk2)
      have HR := Lib.hid hfar.at
      have K0 := Lib.hid (NQ.out.2.trans hk2)
      have KK := Lib.hid (Kept.refl wr)
      have hj4 : j ≤ 10000 := by omega
      have hC1' : (C1 : Int) ≤ 40 := by omega
      have hC2' : (C2 : Int) ≤ 40 := by omega
      have hU10 : U + V ≤ 400 := by omega
      clear hFull hfar hLL hk2 hC1 hC2
      go_wp2_with (first
        | (go_at_call 10; first
          | ((with_reducible refine (HC.out.1 (HL.out.kept KK.out)).mono ?_); rintro e u1 ⟨rfl, k1⟩; replace KK := Lib.hid (KK.out.trans k1); clear k1)
          | ((with_reducible refine (HC.out.2.1 (HR.out.kept KK.out)).mono ?_); rintro e u2 ⟨rfl, k2⟩; replace KK := Lib.hid (KK.out.trans k2); clear k2))
        | (go_at_call 14; first
          | ((with_reducible refine (HC.out.2.2.1 (HL.out.kept KK.out)).mono ?_); rintro e u3 ⟨rfl, k3⟩; replace KK := Lib.hid (KK.out.trans k3); clear k3)
          | ((with_reducible refine (HC.out.2.2.2.1 (HR.out.kept KK.out)).mono ?_); rintro e u4 ⟨rfl, k4⟩; replace KK := Lib.hid (KK.out.trans k4); clear k4))
        | (go_at_call 12; first
          | ((with_reducible refine (HC.out.2.2.2.2.1 (HL.out.kept KK.out) hj4).mono ?_); rintro e u5 ⟨r5, d5, rfl, h5, k5⟩; replace KK := Lib.hid (KK.out.trans k5); have H5 := Lib.hid h5; clear k5 h5)
          | ((with_reducible refine (HC.out.2.2.2.2.2.1 (HR.out.kept KK.out) hj4).mono ?_); rintro e u6 ⟨r6, d6, rfl, h6, k6⟩; replace KK := Lib.hid (KK.out.trans k6); have H6 := Lib.hid (And.intro h6 (H5.out.kept k6)); clear k6 h6)))
      have hb5 := (H6.out.2).n62
      unfold maxLen at hb5
      have HKK := Lib.hid (And.intro HF.out.2.2.1 HF.out.2.2.2.1)
      go_loopw [26] (fun i wr2 => ∃ k : Nat, k ≤ s ∧ i = .int .i64 k ∧ Kept u6 wr2) (fun i _ => s - (RowKit.intOf i).toNat)
      case atStart => exact ⟨0, Nat.zero_le _, rfl, Kept.refl _⟩
      case round =>
        obtain ⟨k, hk, rfl, hk6⟩ := hrel
        have HK6 := Lib.hid hk6
        clear hk6
        by_cases hlt3 : k < s
        · have d2 : decide ((k : Int) < (s : Int)) = true := decide_eq_true (by omega)
          obtain ⟨x, b1, o1, hx, ⟨xa, xb⟩, rfl, hb1, hcx⟩ := (H6.out.2.kept HK6.out).get hlt3
          obtain ⟨y, b2, o2, hy, _, rfl, hb2, hcy⟩ := (H6.out.1.kept HK6.out).get hlt3
          obtain rfl : y = x + d := by
            rw [List.getElem?_map, hx] at hy
            exact (Option.some.inj hy).symm
          have hxb := HKK.out.2 x (List.mem_of_getElem? hx)
          obtain ⟨xb0, xb4⟩ := hxb
          clear hx hy
          have j0 : (0 : Int) ≤ (k : Int) := by omega
          have j1 : (k : Int) < (s : Int) := by omega
          go_wp2
          go_quiet (fail)
          go_wp2
          go_roundw
          case rel => exact ⟨k + 1, by omega, by go_num, HK6.out.drewN _⟩
          case measure => simp [RowKit.intOf]; omega
        · have d2 : decide ((k : Int) < (s : Int)) = false := decide_eq_false (by omega)
          replace KK := Lib.hid (KK.out.trans HK6.out)
          go_wp2_with (first
            | (go_at_call 10; first
              | ((with_reducible refine (HC.out.2.2.2.2.2.2.1 (HL.out.kept KK.out)).mono ?_); rintro e u7 ⟨rfl, k7⟩; replace KK := Lib.hid (KK.out.trans k7); clear k7)
              | ((with_reducible refine (HC.out.2.2.2.2.2.2.2.1 (HL.out.kept KK.out)).mono ?_); rintro e u8 ⟨rfl, k8⟩; replace KK := Lib.hid (KK.out.trans k8); clear k8)
              | ((with_reducible refine (HC.out.2.2.2.2.2.2.2.2 (HL.out.kept KK.out)).mono ?_); rintro e u9 ⟨rfl, k9⟩; replace KK := Lib.hid (KK.out.trans k9); clear k9))
            | (go_at_call 17; (with_reducible refine (haw _).mono ?_); rintro e ua ⟨rfl, ka⟩; replace KK := Lib.hid (KK.out.trans ka); clear ka))
          go_ret
          exact ⟨rfl, K0.out.trans KK.out⟩
end Go.Proofs.Ytojgbacdniagiaa.Wi
