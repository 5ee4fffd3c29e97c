/-
  PortsExamples.
-/
import Derived.Test.YtemfnobfdmlfaaaWp
import Derived.Deep.RegionHeld3
namespace Go.Proofs.Ytemfnobfdmlfaaa.In
open Go.RowKit Go.Proofs.Ytemfnobfdmlfaaa.Mem Go.Proofs.Ytemfnobfdmlfaaa.Po Go.ChangeShapes Go.WideShapes Go.ChangeAt
set_option linter.unusedVariables false

/-- Lists written out, one after another. -/
def litW : World → List (List Int) → World
  | w, [] => w
  | w, l :: r => litW (w.alloc (.cells (l.map encZ).toArray 3)) r
theorem litW_kept : ∀ (ls : List (List Int)) (w : World), Kept w (litW w ls)
  | [], w => Kept.refl w
  | l :: r, w => ((Kept.refl w).alloc _).trans (litW_kept r _)
theorem litW_at : ∀ (ls : List (List Int)) (w : World), (∀ l ∈ ls, Fit l ∧ l.length ≤ 1000) → ∀ (i : Nat) (l : List Int), ls[i]? = some l → At (litW w ls) (some ⟨w.heap.size + i, 0, none⟩) l.length l.length l
  | [], w, _, i, l, h => by simp at h
  | x :: r, w, hf, 0, l, h => by
    obtain rfl : x = l := by simpa using h
    exact (lit_at w x (hf x (by simp)).1 (hf x (by simp)).2).kept (litW_kept r _)
  | x :: r, w, hf, i + 1, l, h => by
    have h1 := litW_at r (w.alloc (.cells (x.map encZ).toArray 3)) (fun l hl => hf l (by simp [hl])) i l (by simpa using h)
    rw [size_alloc1, show w.heap.size + 1 + i = w.heap.size + (i + 1) by omega] at h1
    exact h1
theorem litW_size : ∀ (ls : List (List Int)) (w : World), (litW w ls).heap.size = w.heap.size + ls.length
  | [], w => rfl
  | x :: r, w => by
    show (litW _ r).heap.size = _
    rw [litW_size r, size_alloc1, List.length_cons]; omega
def LS : List (List Int) := [[80], [80, 443], [443, 80], [80, 80], [0], [65535], [65536], [1, 65535], [-1, 2], [1, 2, 3, 4, 5, 6, 7, 8], [1, 2, 3, 4, 5, 6, 7, 8, 9], [9, 8, 7, 6, 5, 4, 3, 2, 1], [1, 0], [4611686018427387904, -9223372036854775808]]
def litAll (w : World) : World := (litW w LS).alloc (.cells #[.slice none 0 0, .slice (some ⟨w.heap.size, 0, none⟩) 1 1, .slice (some ⟨w.heap.size + 1, 0, none⟩) 2 2, .slice (some ⟨w.heap.size + 2, 0, none⟩) 2 2, .slice (some ⟨w.heap.size + 3, 0, none⟩) 2 2, .slice (some ⟨w.heap.size + 4, 0, none⟩) 1 1, .slice (some ⟨w.heap.size + 5, 0, none⟩) 1 1, .slice (some ⟨w.heap.size + 6, 0, none⟩) 1 1, .slice (some ⟨w.heap.size + 7, 0, none⟩) 2 2, .slice (some ⟨w.heap.size + 8, 0, none⟩) 2 2, .slice (some ⟨w.heap.size + 9, 0, none⟩) 8 8, .slice (some ⟨w.heap.size + 10, 0, none⟩) 9 9, .slice (some ⟨w.heap.size + 11, 0, none⟩) 9 9, .slice (some ⟨w.heap.size + 12, 0, none⟩) 2 2, .slice (some ⟨w.heap.size + 13, 0, none⟩) 2 2] 22)
theorem ls_fit : ∀ l ∈ LS, Fit l ∧ l.length ≤ 1000 := by
  unfold LS
  intro l hl
  simp only [List.mem_cons, List.not_mem_nil, or_false] at hl
  rcases hl with rfl | rfl | rfl | rfl | rfl | rfl | rfl | rfl | rfl | rfl | rfl | rfl | rfl | rfl <;> exact ⟨by decide, by decide⟩
theorem litAll_ats (w : World) : Ats (litAll w) (some ⟨w.heap.size + 14, 0, none⟩) 15 15 ([] :: LS) := by
  have h := Ats.lit (litW w LS) [⟨none, 0, 0⟩, ⟨some ⟨w.heap.size, 0, none⟩, 1, 1⟩, ⟨some ⟨w.heap.size + 1, 0, none⟩, 2, 2⟩, ⟨some ⟨w.heap.size + 2, 0, none⟩, 2, 2⟩, ⟨some ⟨w.heap.size + 3, 0, none⟩, 2, 2⟩, ⟨some ⟨w.heap.size + 4, 0, none⟩, 1, 1⟩, ⟨some ⟨w.heap.size + 5, 0, none⟩, 1, 1⟩, ⟨some ⟨w.heap.size + 6, 0, none⟩, 1, 1⟩, ⟨some ⟨w.heap.size + 7, 0, none⟩, 2, 2⟩, ⟨some ⟨w.heap.size + 8, 0, none⟩, 2, 2⟩, ⟨some ⟨w.heap.size + 9, 0, none⟩, 8, 8⟩, ⟨some ⟨w.heap.size + 10, 0, none⟩, 9, 9⟩, ⟨some ⟨w.heap.size + 11, 0, none⟩, 9, 9⟩, ⟨some ⟨w.heap.size + 12, 0, none⟩, 2, 2⟩, ⟨some ⟨w.heap.size + 13, 0, none⟩, 2, 2⟩] ([] :: LS) rfl (by decide) (fun j s l hs hl => by
    match j, hs, hl with
    | 0, hs, hl => cases hs; cases hl; exact At.empty _
    | 1, hs, hl => cases hs; cases hl; exact litW_at LS w ls_fit 0 _ rfl
    | 2, hs, hl => cases hs; cases hl; exact litW_at LS w ls_fit 1 _ rfl
    | 3, hs, hl => cases hs; cases hl; exact litW_at LS w ls_fit 2 _ rfl
    | 4, hs, hl => cases hs; cases hl; exact litW_at LS w ls_fit 3 _ rfl
    | 5, hs, hl => cases hs; cases hl; exact litW_at LS w ls_fit 4 _ rfl
    | 6, hs, hl => cases hs; cases hl; exact litW_at LS w ls_fit 5 _ rfl
    | 7, hs, hl => cases hs; cases hl; exact litW_at LS w ls_fit 6 _ rfl
    | 8, hs, hl => cases hs; cases hl; exact litW_at LS w ls_fit 7 _ rfl
    | 9, hs, hl => cases hs; cases hl; exact litW_at LS w ls_fit 8 _ rfl
    | 10, hs, hl => cases hs; cases hl; exact litW_at LS w ls_fit 9 _ rfl
    | 11, hs, hl => cases hs; cases hl; exact litW_at LS w ls_fit 10 _ rfl
    | 12, hs, hl => cases hs; cases hl; exact litW_at LS w ls_fit 11 _ rfl
    | 13, hs, hl => cases hs; cases hl; exact litW_at LS w ls_fit 12 _ rfl
    | 14, hs, hl => cases hs; cases hl; exact litW_at LS w ls_fit 13 _ rfl
    | j + 15, hs, hl => simp at hs)
  rw [litW_size] at h
  exact h
theorem litAll_kept (w : World) : Kept w (litAll w) := (litW_kept _ _).trans ((Kept.refl _).alloc _)
theorem at_unions {w : World} {a b : Option Addr} {n c m d : Nat} {k l : List Int} (h : At w a n c k) (h1 : At w b m d l) : Calls Try.prog 4 #[.slice (some ⟨w.heap.size, 0, none⟩) 3 3] (w.alloc (.cells #[.slice a n c, .slice none 0 0, .slice b m d] 22)) fun e w' => e = .returned (.bool true) ∧ Kept w w' :=
  (unions_core _ _ _ _ _ (Ats.three h (At.empty w) h1)).mono fun e w' ⟨he, hk⟩ => ⟨he, ((Kept.refl w).alloc _).trans hk⟩
set_option maxHeartbeats 8000000 in
set_option maxRecDepth 100000 in
theorem examples_core (w : World) : Calls Try.prog 5 #[] w fun e w' => e = .returned (.bool true) ∧ Kept w w' := by
  have HX := Lib.hid (And.intro (litAll_ats w) (litAll_kept w))
  go_enter Try.func5, Try.ntmps5
  go_wp2_with fail
  change Code.wp _ _ _ _ (litAll w)
  generalize litAll w = W0 at HX ⊢
  obtain ⟨B, hB⟩ : ∃ B, B = w.heap.size + 14 := ⟨_, rfl⟩
  rw [← hB] at HX ⊢
  clear hB
  go_loopw [2] (fun i wr => ∃ j : Nat, j ≤ 15 ∧ i = .int .i64 j ∧ Kept W0 wr) (fun i _ => 15 - (RowKit.intOf i).toNat)
  case atStart => exact ⟨0, Nat.zero_le _, rfl, Kept.refl _⟩
  case round =>
    obtain ⟨j, hj, rfl, hk⟩ := hrel
    have HK := Lib.hid hk
    clear hk
    by_cases hlt : j < 15
    · have n1 : decide ((j : Int) < 15) = true := decide_eq_true (by omega)
      go_wp2_with fail
      have HK2 := Lib.hid HK.out
      clear HK
      go_loopw [3] (fun i wq => ∃ k : Nat, k ≤ 15 ∧ i = .int .i64 k ∧ Kept W0 wq) (fun i _ => 15 - (RowKit.intOf i).toNat)
      case atStart => exact ⟨0, Nat.zero_le _, rfl, HK2.out⟩
      case round =>
        clear HK2
        obtain ⟨k, hk2, rfl, hkq⟩ := hrel
        have HK := Lib.hid hkq
        clear hkq
        by_cases hlt2 : k < 15
        · have n2 : decide ((k : Int) < 15) = true := decide_eq_true (by omega)
          obtain ⟨l, g, o, bo, m, c, hl, e1, hg, hc, hl2⟩ := HX.out.1.get hlt
          cases e1
          obtain ⟨l', g', o', bo', m', c', hl', e1, hg', hc', hl2'⟩ := HX.out.1.get hlt2
          cases e1
          rw [Nat.zero_add] at hc hc'
          have G := Lib.hid (fun (W : World) (h : Kept W0 W) => (And.intro ((h.cell (p := ⟨B, _, none⟩) hg).trans hc) ((h.cell (p := ⟨B, _, none⟩) hg).trans hc') : W.cell? ⟨B, j, none⟩ = some (.slice bo m c) ∧ W.cell? ⟨B, k, none⟩ = some (.slice bo' m' c')))
          have HL := Lib.hid (And.intro hl2 hl2')
          have S1 := G.out _ HK.out
          have S1' := G.out _ HK.out.drew
          have n3 : (j : Int) < 15 := by omega
          have n4 : (k : Int) < 15 := by omega
          clear hl hl' hc hc' hl2 hl2' hg hg'
          go_wp2_with fail
          go_region_held3 (fun W => W.cell? ⟨B, j, none⟩ = some (.slice bo m c) ∧ W.cell? ⟨B, k, none⟩ = some (.slice bo' m' c'))
            (first | with_reducible assumption | exact G.out _ (K2.out.alloc _))
            (first
              | (go_at_call 3; first
                | ((with_reducible refine (pairs_core _ _ _ _ _ _ _ _ _ 80 (HL.out.1.kept HK.out.drew) (HL.out.2.kept HK.out.drew)).mono ?_); rintro e u1 ⟨rfl, k1⟩; have K1 := Lib.hid (HK.out.drew.trans k1); have S2 := G.out _ K1.out; clear k1)
                | ((with_reducible refine (pairs_core _ _ _ _ _ _ _ _ _ 0 (HL.out.1.kept K1.out) (HL.out.2.kept K1.out)).mono ?_); rintro e u2 ⟨rfl, k2⟩; have K2 := Lib.hid (K1.out.trans k2); have S3 := G.out _ K2.out; clear k2))
              | (go_at_call 4; (with_reducible refine (at_unions (HL.out.1.kept K2.out) (HL.out.2.kept K2.out)).mono ?_); rintro e u3 ⟨rfl, k3⟩; have K3 := Lib.hid (K2.out.trans k3); have S4 := G.out _ K3.out; clear k3))
          all_goals
            go_wp2_with fail
            go_roundw
            case rel => exact ⟨k + 1, by omega, by go_num, K3.out⟩
            case measure => simp [RowKit.intOf]; omega
        · obtain rfl : k = 15 := by omega
          go_wp2
          go_roundw
          case rel => exact ⟨j + 1, by omega, by go_num, HK.out⟩
          case measure => simp [RowKit.intOf]; omega
    · obtain rfl : j = 15 := by omega
      go_wp2_with (first
        | (go_at_call 4; first
          | ((with_reducible refine (unions_core _ _ _ _ _ (Ats.empty wr)).mono ?_); rintro e u1 ⟨rfl, k1⟩)
          | ((with_reducible refine (unions_core _ _ _ _ _ (HX.out.1.kept (HK.out.trans k1))).mono ?_); rintro e u2 ⟨rfl, k2⟩))
        | (go_at_call 17; (with_reducible refine (awake_c _).mono ?_); rintro e v7 ⟨rfl, k7⟩))
      go_ret
      exact ⟨rfl, HX.out.2.trans (((HK.out.trans k1).trans k2).trans k7)⟩
end Go.Proofs.Ytemfnobfdmlfaaa.In
