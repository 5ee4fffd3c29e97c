/-
  Layer 12: the statements' own helpers mod and Starts.
-/
import Derived.Test.YtojgbacdniagiaaTb
namespace Go.Proofs.Ytojgbacdniagiaa.Wi
open Go.RowKit Go.Proofs.Ytojgbacdniagiaa.Mem Go.Proofs.Ytojgbacdniagiaa.Bx Go.Proofs.Ytojgbacdniagiaa.In Go.ChangeShapes Go.WideShapes Go.ChangeAt
set_option linter.unusedVariables false

set_option maxRecDepth 100000 in
theorem mod_c (n m : Int) (h : 1 ≤ m) (h' : m ≤ 1099511627776) : ∃ R : Int, 1 ≤ R ∧ R ≤ m ∧ ∀ w, Calls Try.prog 19 #[.int .i64 n, .int .i64 m] w fun e w' => e = .returned (.int .i64 R) ∧ w' = w := by
  obtain ⟨N, hN, hN'⟩ := red_eq n m h h'
  refine ⟨(N : Int) + 1, by omega, by omega, fun w => ?_⟩
  have h0 : ¬ m = 0 := by omega
  clear h
  go_enter Try.func19, Try.ntmps19
  go_wp2
  go_ret
  exact ⟨rfl, rfl⟩
set_option maxRecDepth 100000 in
set_option maxHeartbeats 4000000 in
theorem starts_c {w : World} {ao : Option Addr} {n cap : Nat} {g : List Int} (h : At w ao n cap g) : Calls Try.prog 18 #[.slice ao n cap] w fun e w' => ∃ (bo : Option Addr) (c : Nat) (l : List Int), e = .returned (.slice bo l.length c) ∧ New w.heap.size w' bo l.length c l ∧ Good l ∧ (∀ x ∈ l, x ≤ 4000) ∧ l.length ≤ 40 ∧ Kept w w' := by
  have hn := h.n62
  unfold maxLen at hn
  have H := Lib.hid h
  clear h
  have hnil := New.empty w.heap.size w
  go_enter Try.func18, Try.ntmps18
  go_wp2
  go_loopw [3, 4, 5] (fun c y i wr => ∃ (j cp : Nat) (z : Int) (bo : Option Addr) (l : List Int), j ≤ n ∧ j ≤ 40 ∧ i = .int .i64 j ∧ y = .int .i64 z ∧ c = .slice bo j cp ∧ (0 ≤ z ∧ z ≤ 1000 + 60 * (j : Int) ∧ (j = 0 → z = 0)) ∧ New w.heap.size wr bo j cp l ∧ Good l ∧ (∀ x ∈ l, x ≤ z) ∧ Kept w wr) (fun _ _ i _ => n - (RowKit.intOf i).toNat)
  case atStart => exact ⟨0, 0, 0, none, [], Nat.zero_le _, by omega, rfl, rfl, rfl, ⟨by omega, by omega, fun _ => rfl⟩, hnil, Good.nil, fun x hx => by simp at hx, Kept.refl _⟩
  case round =>
    clear hnil
    obtain ⟨j, cp, z, bo, l, hj, hj40, rfl, rfl, rfl, ⟨z0, z1, z00⟩, hnew, hg, hz, hk⟩ := hrel
    have HZ := Lib.hid (And.intro z1 z00)
    clear z00
    have HN := Lib.hid (And.intro hnew (And.intro hg hz))
    clear hnew hg hz
    by_cases hlt : j < n
    · by_cases hl2 : j < 40
      · have d1 : decide ((j : Int) < (n : Int)) = true := decide_eq_true (by omega)
        have d2 : decide ((j : Int) < 40) = true := decide_eq_true (by omega)
        obtain ⟨x, b, o, hx, ⟨x1, x2⟩, rfl, hb, hcx⟩ := (H.out.kept hk).get hlt
        clear hx
        have j0 : (0 : Int) ≤ (j : Int) := by omega
        have j1 : (j : Int) < (n : Int) := by omega
        have z2 : z ≤ 4000 := by omega
        clear z1
        obtain ⟨R, hR, hR'⟩ := red_eq x 60 (by omega) (by omega)
        obtain ⟨T, hT, hT'⟩ := red_eq x 1000 (by omega) (by omega)
        obtain ⟨q, hq⟩ : ∃ q, ((j : Int) == 0) = q := ⟨_, rfl⟩
        have HQ := Lib.hid (show q = true ↔ j = 0 by rw [← hq, beq_iff_eq]; omega)
        cases q
        · go_wp2_with (at_builtin; (refine wpList_app (N := j + 1) (HN.out.1.kept ((Kept.refl _).alloc _)) (New.lit wr (Nat.zero_le _) [z + (R : Int)] (fun y hy => by rw [List.mem_singleton] at hy; subst hy; constructor <;> omega) (by simp [maxLen])).at (hk.alloc _).size rfl (by omega) rfl _ _ rfl rfl rfl ?_; intro bo' c' w3 m3 g3 f3; have k3 := f3 w (Nat.le_refl _) (hk.alloc _)))
          exact ⟨⟨j + 1, c', z + (R : Int), bo', _, by omega, by omega, rfl, rfl, rfl, ⟨by omega, by have := HZ.out; omega, fun h => by omega⟩, m3, (HN.out.2.1.snoc HN.out.2.2 (by omega) (by omega) (by omega)).1, (HN.out.2.1.snoc HN.out.2.2 (by omega) (by omega) (by omega)).2, k3⟩, by simp [RowKit.intOf]; omega⟩
        · go_wp2_with (at_builtin; (refine wpList_app (N := j + 1) (HN.out.1.kept ((Kept.refl _).alloc _)) (New.lit wr (Nat.zero_le _) [z + (T : Int)] (fun y hy => by rw [List.mem_singleton] at hy; subst hy; constructor <;> omega) (by simp [maxLen])).at (hk.alloc _).size rfl (by omega) rfl _ _ rfl rfl rfl ?_; intro bo' c' w3 m3 g3 f3; have k3 := f3 w (Nat.le_refl _) (hk.alloc _)))
          exact ⟨⟨j + 1, c', z + (T : Int), bo', _, by omega, by omega, rfl, rfl, rfl, ⟨by omega, by have := HZ.out; have := HQ.out.1 rfl; omega, fun h => by omega⟩, m3, (HN.out.2.1.snoc HN.out.2.2 (by omega) (by omega) (by omega)).1, (HN.out.2.1.snoc HN.out.2.2 (by omega) (by omega) (by omega)).2, k3⟩, by simp [RowKit.intOf]; omega⟩
      · have d1 : decide ((j : Int) < (n : Int)) = true := decide_eq_true (by omega)
        have d2 : decide ((j : Int) < 40) = false := decide_eq_false (by omega)
        go_wp2
        go_ret
        have hl := HN.out.1.len
        subst hl
        exact ⟨bo, cp, l, rfl, HN.out.1, HN.out.2.1, fun x hx => by have := HN.out.2.2 x hx; have := HZ.out.1; omega, hj40, hk⟩
    · have d1 : decide ((j : Int) < (n : Int)) = false := decide_eq_false (by omega)
      go_wp2
      go_ret
      have hl := HN.out.1.len
      subst hl
      exact ⟨bo, cp, l, rfl, HN.out.1, HN.out.2.1, fun x hx => by have := HN.out.2.2 x hx; have := HZ.out.1; omega, hj40, hk⟩
end Go.Proofs.Ytojgbacdniagiaa.Wi
