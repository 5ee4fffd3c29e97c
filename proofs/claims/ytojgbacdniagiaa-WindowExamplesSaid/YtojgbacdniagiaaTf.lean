/-
  WindowMatches, for any starts.
-/
import Derived.Test.YtojgbacdniagiaaTe
import Derived.BigQuiet
namespace Go.Proofs.Ytojgbacdniagiaa.Wi
open Go.RowKit Go.Proofs.Ytojgbacdniagiaa.Mem Go.Proofs.Ytojgbacdniagiaa.Bx Go.Proofs.Ytojgbacdniagiaa.In Go.ChangeShapes Go.WideShapes Go.ChangeAt
set_option linter.unusedVariables false

/-- The slice's cells may be written: they lie in a block from B on. -/
def Free (B : Nat) (w : World) (ao : Option Addr) (n : Nat) : Prop := n = 0 ∨ ∃ g cs, ao = some ⟨g, 0, none⟩ ∧ B ≤ g ∧ w.heap[g]? = some (.cells cs 3 (0, 0)) ∧ n ≤ cs.size
theorem New.free {B : Nat} {w : World} {ao : Option Addr} {n cap : Nat} {l : List Int} (h : New B w ao n cap l) : Free B w ao n := by
  rcases h.row.2 with ⟨_, e0⟩ | ⟨g, c', cur, e, hb, hh, hc, _, hs, _⟩
  · exact .inl e0
  · cases e
    exact .inr ⟨g, cur, rfl, hb, hh, by omega⟩
theorem Free.kept {B : Nat} {w w' : World} {ao : Option Addr} {n : Nat} (h : Free B w ao n) (k : Kept w w') : Free B w' ao n := by
  rcases h with h | ⟨g, cs, e, hb, hh, hn⟩
  · exact .inl h
  · exact .inr ⟨g, cs, e, hb, k.block hh, hn⟩
theorem Free.get {B : Nat} {w : World} {ao : Option Addr} {n : Nat} (h : Free B w ao n) {k : Nat} (hk : k < n) : ∃ g v, ao = some ⟨g, 0, none⟩ ∧ w.cell? ⟨g, k, none⟩ = some v ∧ w.frozen? ⟨g, k, none⟩ = false ∧ ∀ u : World, u.heap.size ≤ B → Kept u w → ∀ x, Kept u (w.setCell ⟨g, k, none⟩ x) ∧ Free B (w.setCell ⟨g, k, none⟩ x) ao n := by
  rcases h with h | ⟨g, cs, e, hb, hh, hn⟩
  · omega
  · have hks : k < cs.size := by omega
    refine ⟨g, cs[k], e, ?_, frozen_of_row w g k cs _ hh, fun u hu hK x => ⟨Below.setCell hK (Nat.le_trans hu hb) x, .inr ⟨g, _, e, hb, heap_setCell_same w g k cs _ x hh, by simpa using hn⟩⟩⟩
    rw [cell_of_row w g k cs _ _ hh]; simp [hks]
/-- Cut to at most N numbers. -/
theorem cut_of (n N : Nat) : ∃ M : Nat, min (n : Int) (N : Int) = (M : Int) ∧ M ≤ n ∧ M ≤ N := ⟨min n N, by omega, by omega, by omega⟩
set_option maxHeartbeats 8000000 in
set_option maxRecDepth 100000 in
theorem matches_core (w : World) (ao : Option Addr) (n cap : Nat) (l : List Int) (v t m : Int) (hA : At w ao n cap l) :
    Calls Try.prog 3 #[.slice ao n cap, .int .i64 v, .int .i64 t, .int .i64 m] w fun e w' => e = .returned (.bool true) ∧ Kept w w' := by
  obtain ⟨M, hm, hn1, hM⟩ := cut_of n 60
  have e1 := sub_h ao n cap M (Nat.le_trans hn1 hA.le)
  have HA := Lib.hid (hA.head hn1)
  generalize subA ao cap 0 = a1 at e1 HA
  generalize l.take M = l at HA
  have f1 : min (n : Int) 60 = (M : Int) := hm
  have f2 : (if 60 < (n : Int) then 60 else (n : Int)) = (M : Int) := by rw [← hm]; split <;> omega
  clear hm hA hn1
  have haw := awake_c
  obtain ⟨C, hC⟩ : ∃ C, C = countV l v t := ⟨_, rfl⟩
  obtain ⟨E, hE⟩ : ∃ E, E = errT l v t := ⟨_, rfl⟩
  obtain ⟨G, hG⟩ : ∃ G, G = errM l v m := ⟨_, rfl⟩
  obtain ⟨Q, hQ⟩ : ∃ Q, Q = withinV l v m := ⟨_, rfl⟩
  obtain ⟨K, hK⟩ : ∃ K, K = keepV l v t := ⟨_, rfl⟩
  have c1 : ∀ {u : World} {bo : Option Addr} {c : Nat}, At u bo M c l → Calls Try.prog 10 #[.slice bo M c, .int .i64 v, .int .i64 t] u fun e w' => e = .returned (.tuple #[.int .i64 C, .int .i64 E]) ∧ Kept u w' := fun h => by rw [hC, hE]; exact count_c h v t
  have c2 : ∀ {u : World} {bo : Option Addr} {c : Nat}, At u bo M c l → Calls Try.prog 11 #[.slice bo M c, .int .i64 v, .int .i64 t] u fun e w' => e = .returned (.tuple #[.int .i64 C, .int .i64 E]) ∧ Kept u w' := fun h => by rw [hC, hE]; exact rcount_c h v t
  have c3 : ∀ {u : World} {bo : Option Addr} {c : Nat}, At u bo M c l → Calls Try.prog 12 #[.slice bo M c, .int .i64 v, .int .i64 t] u fun e w' => ∃ ro s d, e = .returned (.tuple #[.slice ro s d, .int .i64 E]) ∧ New u.heap.size w' ro s d K ∧ Kept u w' := fun h => by rw [hK, hE]; exact keep_c h (by omega) v t
  have c4 : ∀ {u : World} {bo : Option Addr} {c : Nat}, At u bo M c l → Calls Try.prog 13 #[.slice bo M c, .int .i64 v, .int .i64 t] u fun e w' => ∃ ro s d, e = .returned (.tuple #[.slice ro s d, .int .i64 E]) ∧ At w' ro s d K ∧ Kept u w' := fun h => by rw [hK, hE]; exact (rkeep_c h (by omega) v t).mono fun e w' ⟨a, b, c, he, hn, hk⟩ => ⟨a, b, c, he, hn.at, hk⟩
  have c5 : ∀ {u : World} {bo : Option Addr} {c : Nat}, At u bo M c l → Calls Try.prog 14 #[.slice bo M c, .int .i64 v, .int .i64 m] u fun e w' => e = .returned (.tuple #[.bool Q, .int .i64 G]) ∧ Kept u w' := fun h => by rw [hQ, hG]; exact within_c h v m
  have c6 : ∀ {u : World} {bo : Option Addr} {c : Nat}, At u bo M c l → Calls Try.prog 15 #[.slice bo M c, .int .i64 v, .int .i64 m] u fun e w' => e = .returned (.tuple #[.bool Q, .int .i64 G]) ∧ Kept u w' := fun h => by rw [hQ, hG]; exact rwithin_c h v m
  have HC := Lib.hid (And.intro @c1 (And.intro @c2 (And.intro @c3 (And.intro @c4 (And.intro @c5 @c6)))))
  clear c1 c2 c3 c4 c5 c6 hC hE hG hQ hK
  have b1 : (C != C) = false := by simp
  have b2 : (E != E) = false := by simp
  have b3 : (G != G) = false := by simp
  have b4 : (Q != Q) = false := by cases Q <;> rfl
  go_enter Try.func3, Try.ntmps3
  go_wp2_with (go_at_call 9; (with_reducible refine (copy_c HA.out (by omega)).mono ?_); rintro e w1 ⟨x, xc, rfl, hx, k1⟩)
  have HX := Lib.hid (And.intro hx.at k1)
  clear hx k1 e1 f1 f2
  go_loopw [10] (fun i wr => ∃ j : Nat, j ≤ 2 ∧ i = .int .i64 j ∧ Kept w1 wr) (fun i _ => 2 - (RowKit.intOf i).toNat)
  case atStart => exact ⟨0, by omega, rfl, Kept.refl _⟩
  case round =>
    obtain ⟨j, hj, rfl, hk⟩ := hrel
    have HK := Lib.hid hk
    clear hk
    by_cases hlt : j < 2
    · have n1 : decide ((j : Int) < 2) = true := decide_eq_true (by omega)
      go_wp2_with (first
        | (go_at_call 10; (with_reducible refine (HC.out.1 (HX.out.1.kept HK.out)).mono ?_); rintro e u1 ⟨rfl, k1⟩; have K1 := Lib.hid (HK.out.trans k1); have J1 := Lib.hid k1; clear k1)
        | (go_at_call 11; (with_reducible refine (HC.out.2.1 (HA.out.kept (HX.out.2.trans K1.out))).mono ?_); rintro e u2 ⟨rfl, k2⟩; have K2 := Lib.hid (K1.out.trans k2); have J2 := Lib.hid (J1.out.trans k2); clear k2)
        | (go_at_call 12; (with_reducible refine (HC.out.2.2.1 (HX.out.1.kept K2.out)).mono ?_); rintro e u3 ⟨ro, s, dd, rfl, hr, k3⟩; have K3 := Lib.hid (K2.out.trans k3); have J3 := Lib.hid (J2.out.trans k3); have R3 := Lib.hid (hr.base J2.out.size); clear k3 hr)
        | (go_at_call 13; (with_reducible refine (HC.out.2.2.2.1 (HA.out.kept (HX.out.2.trans K3.out))).mono ?_); rintro e u4 ⟨ro4, s4, d4, rfl, hr4, k4⟩; have K4 := Lib.hid (K3.out.trans k4); have J4 := Lib.hid (J3.out.trans k4); have R4 := Lib.hid (And.intro hr4 (R3.out.kept k4)); clear k4 hr4)
        | (go_at_call 14; (with_reducible refine (HC.out.2.2.2.2.1 (HX.out.1.kept K4.out)).mono ?_); rintro e u5 ⟨rfl, k5⟩; have K5 := Lib.hid (K4.out.trans k5); have J5 := Lib.hid (J4.out.trans k5); have R5 := Lib.hid (And.intro (R4.out.1.kept k5) (R4.out.2.kept k5)); clear k5)
        | (go_at_call 15; (with_reducible refine (HC.out.2.2.2.2.2 (HA.out.kept (HX.out.2.trans K5.out))).mono ?_); rintro e u6 ⟨rfl, k6⟩; have K6 := Lib.hid (K5.out.trans k6); have J6 := Lib.hid (J5.out.trans k6); have R6 := Lib.hid (And.intro (R5.out.1.kept k6) (R5.out.2.kept k6)); clear k6)
        | (go_at_call 16; first
          | ((with_reducible refine (eq_c R6.out.2.at R6.out.1 rfl).mono ?_); rintro e u7 ⟨rfl, k7⟩; have K7 := Lib.hid (K6.out.trans k7); have J7 := Lib.hid (J6.out.trans k7); have R7 := Lib.hid (R6.out.2.kept k7); clear k7)
          | ((with_reducible refine (eq_c (HX.out.1.kept K7.out) (HA.out.kept (HX.out.2.trans K7.out)) rfl).mono ?_); rintro e u8 ⟨rfl, k8⟩; have J8 := Lib.hid (J7.out.trans k8); have R8 := Lib.hid (R7.out.kept k8); clear k8)))
      have hs62 := R8.out.at.n62
      unfold maxLen at hs62
      go_loopw [23] (fun i wq => ∃ k : Nat, k ≤ s ∧ i = .int .i64 k ∧ Kept wr wq ∧ Free wr.heap.size wq ro s) (fun i _ => s - (RowKit.intOf i).toNat)
      case atStart => exact ⟨0, Nat.zero_le _, rfl, J8.out, New.free R8.out⟩
      case round =>
        obtain ⟨k, hk, rfl, hkq, hfr⟩ := hrel
        by_cases hlt2 : k < s
        · obtain ⟨g, y, rfl, hc, hz, hst⟩ := hfr.get hlt2
          have HS := Lib.hid (hst _ (Nat.le_refl _) hkq)
          clear hst hkq hfr
          go_wp2
          go_roundw
          case rel => exact ⟨k + 1, by omega, by go_num, (HS.out _).1, (HS.out _).2⟩
          case measure => simp [RowKit.intOf]; omega
        · obtain rfl : k = s := by omega
          have HS := Lib.hid hkq
          clear hkq hfr
          go_wp2
          go_roundw
          case rel => exact ⟨j + 1, by omega, by go_num, HK.out.trans HS.out⟩
          case measure => simp [RowKit.intOf]; omega
    · obtain rfl : j = 2 := by omega
      go_wp2_with (go_at_call 17; (with_reducible refine (haw _).mono ?_); rintro e v7 ⟨rfl, k7⟩)
      go_ret
      exact ⟨rfl, HX.out.2.trans (HK.out.trans k7)⟩
end Go.Proofs.Ytojgbacdniagiaa.Wi
