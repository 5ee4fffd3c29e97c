/-
  WindowExamples.
-/
import Derived.Test.YtojgbacdniagiaaTf
import Derived.Deep.RegionHeld3
namespace Go.Proofs.Ytojgbacdniagiaa.Wi
open Go.RowKit Go.Proofs.Ytojgbacdniagiaa.Mem Go.Proofs.Ytojgbacdniagiaa.Bx Go.Proofs.Ytojgbacdniagiaa.In Go.ChangeShapes Go.WideShapes Go.ChangeAt
set_option linter.unusedVariables false

instance (l : List Int) : Decidable (Fit l) := inferInstanceAs (Decidable (∀ x ∈ l, isI x))
theorem size_alloc1 (w : World) (o : Obj) : (w.alloc o).heap.size = w.heap.size + 1 := by simp
/-- Lists written out, one after another. -/
def litW : World → List (List Int) → World
  | w, [] => w
  | w, l :: r => litW (w.alloc (.cells (l.map encZ).toArray 3)) r
theorem litW_kept : ∀ (ls : List (List Int)) (w : World), Kept w (litW w ls)
  | [], w => Kept.refl w
  | l :: r, w => ((Kept.refl w).alloc _).trans (litW_kept r _)
theorem litW_at : ∀ (ls : List (List Int)) (w : World), (∀ l ∈ ls, Fit l ∧ l.length ≤ 1000) → ∀ (i : Nat) (l : List Int), ls[i]? = some l → At (litW w ls) (some ⟨w.heap.size + i, 0, none⟩) l.length l.length l
  | [], w, _, i, l, h => by simp at h
  | x :: r, w, hf, 0, l, h => by
    obtain rfl : x = l := by simpa using h
    exact (lit_at w x (hf x (by simp)).1 (by have := (hf x (by simp)).2; unfold maxLen; omega)).kept (litW_kept r _)
  | x :: r, w, hf, i + 1, l, h => by
    have h1 := litW_at r (w.alloc (.cells (x.map encZ).toArray 3)) (fun l hl => hf l (by simp [hl])) i l (by simpa using h)
    rw [size_alloc1, show w.heap.size + 1 + i = w.heap.size + (i + 1) by omega] at h1
    exact h1
theorem litW_size : ∀ (ls : List (List Int)) (w : World), (litW w ls).heap.size = w.heap.size + ls.length
  | [], w => rfl
  | x :: r, w => by
    show (litW _ r).heap.size = _
    rw [litW_size r, size_alloc1, List.length_cons]; omega
def LS : List (List Int) := [[1, 5, 5, 9], [1, 5, 9], [1, 5], [0], [5, 1], [-1], [1099511627776], [1099511627777], [0, 1099511627776], [3, 3, 3, 3, 3, 3, 3, 3, 3]]
def litAll (w : World) : World := (litW w LS).alloc (.cells #[.slice none 0 0, .slice (some ⟨w.heap.size, 0, none⟩) 4 4, .slice (some ⟨w.heap.size + 1, 0, none⟩) 3 3, .slice (some ⟨w.heap.size + 2, 0, none⟩) 2 2, .slice (some ⟨w.heap.size + 3, 0, none⟩) 1 1, .slice (some ⟨w.heap.size + 4, 0, none⟩) 2 2, .slice (some ⟨w.heap.size + 5, 0, none⟩) 1 1, .slice (some ⟨w.heap.size + 6, 0, none⟩) 1 1, .slice (some ⟨w.heap.size + 7, 0, none⟩) 1 1, .slice (some ⟨w.heap.size + 8, 0, none⟩) 2 2, .slice (some ⟨w.heap.size + 9, 0, none⟩) 9 9] 22)
theorem ls_fit : ∀ l ∈ LS, Fit l ∧ l.length ≤ 1000 := by
  unfold LS
  intro l hl
  simp only [List.mem_cons, List.not_mem_nil, or_false] at hl
  rcases hl with rfl | rfl | rfl | rfl | rfl | rfl | rfl | rfl | rfl | rfl <;> exact ⟨by decide, by decide⟩
theorem litAll_ats (w : World) : Ats (litAll w) (some ⟨w.heap.size + 10, 0, none⟩) 11 11 ([] :: LS) := by
  have h := Ats.lit (litW w LS) [⟨none, 0, 0⟩, ⟨some ⟨w.heap.size, 0, none⟩, 4, 4⟩, ⟨some ⟨w.heap.size + 1, 0, none⟩, 3, 3⟩, ⟨some ⟨w.heap.size + 2, 0, none⟩, 2, 2⟩, ⟨some ⟨w.heap.size + 3, 0, none⟩, 1, 1⟩, ⟨some ⟨w.heap.size + 4, 0, none⟩, 2, 2⟩, ⟨some ⟨w.heap.size + 5, 0, none⟩, 1, 1⟩, ⟨some ⟨w.heap.size + 6, 0, none⟩, 1, 1⟩, ⟨some ⟨w.heap.size + 7, 0, none⟩, 1, 1⟩, ⟨some ⟨w.heap.size + 8, 0, none⟩, 2, 2⟩, ⟨some ⟨w.heap.size + 9, 0, none⟩, 9, 9⟩] ([] :: LS) rfl (by decide) (fun j s l hs hl => by
    match j, hs, hl with
    | 0, hs, hl => cases hs; cases hl; exact At.empty _
    | 1, hs, hl => cases hs; cases hl; exact litW_at LS w ls_fit 0 _ rfl
    | 2, hs, hl => cases hs; cases hl; exact litW_at LS w ls_fit 1 _ rfl
    | 3, hs, hl => cases hs; cases hl; exact litW_at LS w ls_fit 2 _ rfl
    | 4, hs, hl => cases hs; cases hl; exact litW_at LS w ls_fit 3 _ rfl
    | 5, hs, hl => cases hs; cases hl; exact litW_at LS w ls_fit 4 _ rfl
    | 6, hs, hl => cases hs; cases hl; exact litW_at LS w ls_fit 5 _ rfl
    | 7, hs, hl => cases hs; cases hl; exact litW_at LS w ls_fit 6 _ rfl
    | 8, hs, hl => cases hs; cases hl; exact litW_at LS w ls_fit 7 _ rfl
    | 9, hs, hl => cases hs; cases hl; exact litW_at LS w ls_fit 8 _ rfl
    | 10, hs, hl => cases hs; cases hl; exact litW_at LS w ls_fit 9 _ rfl
    | j + 11, hs, hl => simp at hs)
  rw [litW_size] at h
  exact h
theorem litAll_kept (w : World) : Kept w (litAll w) := (litW_kept _ _).trans ((Kept.refl _).alloc _)
def six (j : Nat) : Int := if j = 0 then -9223372036854775808 else if j = 1 then 1099511627775 else if j = 2 then 1099511627776 else if j = 3 then 1099511627777 else if j = 4 then 9223372036854775807 else 100
theorem six_index (j : Nat) (h : j < 6) (w : World) : (Instr.index 35 (.agg #[.int .i64 (-9223372036854775808), .int .i64 1099511627775, .int .i64 1099511627776, .int .i64 1099511627777, .int .i64 9223372036854775807, .int .i64 100]) (.int .i64 (j : Int))).run Try.prog w = .ok (.int .i64 (six j)) w := by
  match j, h with
  | 0, _ => rfl
  | 1, _ => rfl
  | 2, _ => rfl
  | 3, _ => rfl
  | 4, _ => rfl
  | 5, _ => rfl
set_option maxHeartbeats 8000000 in
set_option maxRecDepth 100000 in
theorem examples_core (w : World) : Calls Try.prog 4 #[] w fun e w' => e = .returned (.bool true) ∧ Kept w w' := by
  have HX := Lib.hid (And.intro (litAll_ats w) (litAll_kept w))
  go_enter Try.func4, Try.ntmps4
  go_wp2_with fail
  change Code.wp _ _ _ _ (litAll w)
  generalize litAll w = W0 at HX ⊢
  obtain ⟨B, hB⟩ : ∃ B, B = w.heap.size + 10 := ⟨_, rfl⟩
  rw [← hB] at HX ⊢
  clear hB
  go_loopw [2] (fun i wr => ∃ j : Nat, j ≤ 11 ∧ i = .int .i64 j ∧ Kept W0 wr) (fun i _ => 11 - (RowKit.intOf i).toNat)
  case atStart => exact ⟨0, Nat.zero_le _, rfl, Kept.refl _⟩
  case round =>
    obtain ⟨j, hj, rfl, hk⟩ := hrel
    have HK := Lib.hid hk
    clear hk
    by_cases hlt : j < 11
    · have n1 : decide ((j : Int) < 11) = true := decide_eq_true (by omega)
      obtain ⟨l, g, o, bo, m, c, hl, e1, hg, hc, hl2⟩ := HX.out.1.get hlt
      cases e1
      rw [Nat.zero_add] at hc
      have G := Lib.hid (fun (W : World) (h : Kept W0 W) => ((h.cell (p := ⟨B, _, none⟩) hg).trans hc : W.cell? ⟨B, j, none⟩ = some (.slice bo m c)))
      have HL := Lib.hid hl2
      have n3 : (j : Int) < 11 := by omega
      have n4 : (0 : Int) ≤ (j : Int) := by omega
      clear hl hc hl2 hg
      go_wp2_with fail
      have HK2 := Lib.hid HK.out
      clear HK
      go_loopw [3] (fun i wq => ∃ x : Int, -1 ≤ x ∧ x ≤ 12 ∧ i = .int .i64 x ∧ Kept W0 wq) (fun i _ => (12 - RowKit.intOf i).toNat)
      case atStart => exact ⟨-1, by omega, by omega, rfl, HK2.out⟩
      case round =>
        clear HK2
        obtain ⟨x, hx1, hx2, rfl, hkq⟩ := hrel
        have HK := Lib.hid hkq
        clear hkq
        by_cases hlt2 : x < 12
        · have n2 : decide (x < 12) = true := decide_eq_true (by omega)
          go_wp2_with fail
          have HK2 := Lib.hid HK.out
          clear HK
          go_loopw [4] (fun i wq => ∃ t : Int, -1 ≤ t ∧ t ≤ 14 ∧ i = .int .i64 t ∧ Kept W0 wq) (fun i _ => (14 - RowKit.intOf i).toNat)
          case atStart => exact ⟨-1, by omega, by omega, rfl, HK2.out⟩
          case round =>
            clear HK2
            obtain ⟨t, ht1, ht2, rfl, hkq⟩ := hrel
            have HK := Lib.hid hkq
            clear hkq
            by_cases hlt3 : t < 14
            · have n5 : decide (t < 14) = true := decide_eq_true (by omega)
              have S1 := G.out _ HK.out
              go_wp2_with (first
                | (go_at_call 3; first
                  | ((with_reducible refine (matches_core _ _ _ _ _ x t (x - 1) (HL.out.kept HK.out)).mono ?_); rintro e u1 ⟨rfl, k1⟩; have K1 := Lib.hid (HK.out.trans k1); have S2 := G.out _ K1.out; clear k1)
                  | ((with_reducible refine (matches_core _ _ _ _ _ x t _ (HL.out.kept K1.out)).mono ?_); rintro e u2 ⟨rfl, k2⟩; have K2 := Lib.hid (K1.out.trans k2); have S3 := G.out _ K2.out; clear k2)))
              go_roundw
              case rel => exact ⟨t + 1, by omega, by omega, by go_num, K2.out⟩
              case measure => simp [RowKit.intOf]; omega
            · obtain rfl : t = 14 := by omega
              go_wp2
              go_roundw
              case rel => exact ⟨x + 1, by omega, by omega, by go_num, HK.out⟩
              case measure => simp [RowKit.intOf]; omega
        · obtain rfl : x = 12 := by omega
          go_wp2_with fail
          have HK2 := Lib.hid HK.out
          clear HK
          go_loopw [55] (fun i wq => ∃ p : Nat, p ≤ 6 ∧ i = .int .i64 p ∧ Kept W0 wq) (fun i _ => 6 - (RowKit.intOf i).toNat)
          case atStart => exact ⟨0, by omega, rfl, HK2.out⟩
          case round =>
            clear HK2
            obtain ⟨p, hp, rfl, hkq⟩ := hrel
            have HK := Lib.hid hkq
            clear hkq
            by_cases hlt3 : p < 6
            · have n5 : decide ((p : Int) < 6) = true := decide_eq_true (by omega)
              have S1 := G.out _ HK.out
              have hx := six_index p hlt3
              generalize six p = U at hx
              go_wp2_with (first
                | (go_at_call 3; first
                  | ((with_reducible refine (matches_core _ _ _ _ _ U 5 1 (HL.out.kept HK.out)).mono ?_); rintro e u1 ⟨rfl, k1⟩; have K1 := Lib.hid (HK.out.trans k1); have S2 := G.out _ K1.out; clear k1)
                  | ((with_reducible refine (matches_core _ _ _ _ _ 5 U U (HL.out.kept K1.out)).mono ?_); rintro e u2 ⟨rfl, k2⟩; have K2 := Lib.hid (K1.out.trans k2); have S3 := G.out _ K2.out; clear k2)
                  | ((with_reducible refine (matches_core _ _ _ _ _ U U 2 (HL.out.kept K2.out)).mono ?_); rintro e u3 ⟨rfl, k3⟩; have K3 := Lib.hid (K2.out.trans k3); have S4 := G.out _ K3.out; clear k3)))
              go_roundw
              case rel => exact ⟨p + 1, by omega, by go_num, K3.out⟩
              case measure => simp [RowKit.intOf]; omega
            · obtain rfl : p = 6 := by omega
              go_wp2
              go_roundw
              case rel => exact ⟨j + 1, by omega, by go_num, HK.out⟩
              case measure => simp [RowKit.intOf]; omega
    · obtain rfl : j = 11 := by omega
      go_wp2_with (go_at_call 17; (with_reducible refine (awake_c _).mono ?_); rintro e v7 ⟨rfl, k7⟩)
      go_ret
      exact ⟨rfl, HX.out.2.trans (HK.out.trans k7)⟩
end Go.Proofs.Ytojgbacdniagiaa.Wi
