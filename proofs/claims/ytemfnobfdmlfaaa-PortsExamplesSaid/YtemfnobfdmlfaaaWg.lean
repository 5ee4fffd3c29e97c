/-
  Package ports: gather, Meet, Union (contracts over lists that lie in memory).
-/
import Derived.Test.YtemfnobfdmlfaaaWd
import Derived.Test.YtemfnobfdmlfaaaWf
namespace Go.Proofs.Ytemfnobfdmlfaaa.In
open Go.RowKit Go.Maps Go.Proofs.Ytemfnobfdmlfaaa.Mem Go.Proofs.Ytemfnobfdmlfaaa.Po Go.ChangeShapes Go.WideShapes Go.ChangeAt

theorem mem_snoc {l : List Int} {x y : Int} : y ∈ l ++ [x] ↔ y ∈ l ∨ y = x := by simp
set_option maxRecDepth 100000 in
theorem gather_c {w : World} {ao : Option Addr} {n cap : Nat} {ls : List (List Int)} (h : Ats w ao n cap ls) (hn : ls.flatten.length ≤ 100000) :
    Calls Try.prog 21 #[.slice ao n cap] w fun e w' => ∃ B, e = .returned (.map (some B)) ∧ w.heap.size ≤ B ∧ Bs B 100000 (fun x => x ∈ ls.flatten) w' ∧ Kept w w' := by
  have hm := h.le
  have hm2 := h.max
  unfold maxLen at hm2
  have H := Lib.hid h
  have HN := Lib.hid hn
  clear h hn
  have hmm := @run_makeMap Try.prog
  have k0 : Kept w (w.alloc (.map #[] 0)) := (Kept.refl w).alloc _
  have b0 : Bs w.heap.size 0 (fun x => x ∈ ([] : List Int)) (w.alloc (.map #[] 0)) := (Bs.made w).same fun x => by simp
  obtain ⟨B, hB⟩ : ∃ B, B = w.heap.size := ⟨_, rfl⟩
  have HB := Lib.hid hB
  rw [← hB] at b0
  go_enter Try.func21, Try.ntmps21
  go_wp2
  rw [← hB]
  clear hB hmm
  go_loopw [11] (fun i wr => ∃ (j : Nat), j ≤ n ∧ i = .int .i64 j ∧ Bs B ((ls.take j).flatten.length) (fun x => x ∈ (ls.take j).flatten) wr ∧ Kept w wr) (fun i _ => n - (RowKit.intOf i).toNat)
  case atStart => exact ⟨0, Nat.zero_le _, rfl, by simpa using b0, k0⟩
  case round =>
    clear b0 k0
    obtain ⟨j, hj, rfl, hs, hk⟩ := hrel
    by_cases hlt : j < n
    · obtain ⟨l, g, o, bo, m, c, hl, rfl, hg, hc0, hl2⟩ := H.out.get hlt
      have hc := (hk.cell (p := ⟨g, _, none⟩) hg).trans hc0
      have hm3 := hl2.n62
      unfold maxLen at hm3
      have HLo := Lib.hid (And.intro hl hl2)
      have HLr := Lib.hid (And.intro hs hk)
      have hg1 : g < wr.heap.size := Nat.lt_of_lt_of_le hg hk.size
      clear hl hl2 hs hk hc0 hg
      have n1 : decide ((j : Int) < (n : Int)) = true := decide_eq_true (by omega)
      go_wp2
      clear hc
      go_loopw [17] (fun i wq => ∃ (k : Nat), k ≤ m ∧ i = .int .i64 k ∧ Bs B ((ls.take j).flatten ++ l.take k).length (fun x => x ∈ (ls.take j).flatten ++ l.take k) wq ∧ Kept w wq) (fun i _ => m - (RowKit.intOf i).toNat)
      case atStart => exact ⟨0, Nat.zero_le _, rfl, by simpa using HLr.out.1, HLr.out.2⟩
      case round =>
        clear HLr
        obtain ⟨k, hk, rfl, hs, hkq⟩ := hrel
        by_cases hlt2 : k < m
        · obtain ⟨x, g2, o2, hx, hf, rfl, hg2, hc2⟩ := (HLo.out.2.kept hkq).get hlt2
          have hlen : ((ls.take j).flatten ++ l.take k).length < maxLen := by
            have h3 := flat_le HLo.out.1 k
            have h4 := HN.out
            unfold maxLen
            omega
          obtain ⟨w', hrun, hst, hgr⟩ := hs.store hf hlen
          have HS := Lib.hid (And.intro hx (And.intro hst (And.intro hgr hkq)))
          clear hx hf hlen hst hgr hs hkq
          go_wp2
          go_roundw
          case rel => exact ⟨k + 1, by omega, by go_num, by
            have h1 := HS.out.2.1
            rw [flat_part HS.out.1]
            have h2 : ((ls.take j).flatten ++ l.take k).length + 1 = (((ls.take j).flatten ++ l.take k) ++ [x]).length := by simp only [List.length_append, List.length_cons, List.length_nil]
            rw [h2] at h1
            exact h1.same fun y => by rw [mem_snoc], HS.out.2.2.2.grown HS.out.2.2.1 (fun g e => by cases e; exact Nat.le_of_eq HB.out.symm)⟩
          case measure => simp [RowKit.intOf]; omega
        · obtain rfl : k = m := by omega
          have HS := Lib.hid (And.intro hs hkq)
          clear hs hkq
          go_wp2
          go_roundw
          case rel => exact ⟨j + 1, by omega, by go_num, by
            have h1 := HS.out.1
            rw [List.take_of_length_le (Nat.le_of_eq HLo.out.2.len), ← flat_step HLo.out.1] at h1
            exact h1, HS.out.2⟩
          case measure => simp [RowKit.intOf]; omega
    · obtain rfl : j = n := by omega
      have HS := Lib.hid (And.intro hs hk)
      clear hs hk
      go_wp2
      go_ret
      refine ⟨B, rfl, Nat.le_of_eq HB.out.symm, ?_, HS.out.2⟩
      obtain ⟨D, h1, h2⟩ := HS.out.1
      rw [List.take_of_length_le (Nat.le_of_eq H.out.len)] at h1 h2
      exact ⟨D, h1.mono HN.out, h2⟩
set_option maxRecDepth 100000 in
theorem union_c {w : World} {ao : Option Addr} {n cap : Nat} {ls : List (List Int)} (h : Ats w ao n cap ls) (hn : ls.flatten.length ≤ 100000) :
    Calls Try.prog 18 #[.slice ao n cap] w fun e w' => ∃ ro s d, e = .returned (.slice ro s d) ∧ New w.heap.size w' ro s d (union ls) ∧ Kept w w' := by
  have H := Lib.hid (And.intro h hn)
  clear h hn
  go_enter Try.func18, Try.ntmps18
  go_wp2_with (first
    | (go_at_call 21; (with_reducible refine (gather_c H.out.1 H.out.2).mono ?_); rintro e w1 ⟨B, rfl, hB, hs, k1⟩)
    | (go_at_call 22; (with_reducible refine (So.sorted_c hs (by decide) (fun x => Iff.rfl)).mono ?_); rintro e w2 ⟨ro, s, d, rfl, hnew, k2⟩))
  go_ret
  exact ⟨_, _, _, rfl, hnew.base k1.size, k1.trans k2⟩
/-! ### Meet -/
/-- What the map still has while the loop is under way. -/
def Mid (a b : List Int) (left : Lit → Bool) (x : Int) : Prop := x ∈ a ∧ (x ∈ b ∨ left (.int .i64 x) = true)
theorem mid_keep {a b : List Int} {left : Lit → Bool} {x : Int} (hx : x ∈ b) : ∀ y, Mid a b left y ↔ Mid a b (fun z => left z && !z.sameKey (.int .i64 x)) y := fun y => by
  unfold Mid
  by_cases e : y = x
  · subst e; simp [hx]
  · simp [Lit.sameKey, e]
theorem mid_drop {a b : List Int} {left : Lit → Bool} {x : Int} (hx : ¬ x ∈ b) : ∀ y, (Mid a b left y ∧ y ≠ x) ↔ Mid a b (fun z => left z && !z.sameKey (.int .i64 x)) y := fun y => by
  unfold Mid
  by_cases e : y = x
  · subst e; simp [hx, Lit.sameKey]
  · simp [Lit.sameKey, e]
theorem Says.same {D : DataW Unit} {S T : Int → Prop} (h : Says D S) (e : ∀ x, S x ↔ T x) : Says D T :=
  ⟨fun k hk => by obtain ⟨x, hx, hs, e1⟩ := h.1 k hk; exact ⟨x, hx, (e x).1 hs, e1⟩, fun x hx => h.2 x ((e x).2 hx)⟩
theorem flat1 (a : List Int) : [a].flatten = a := by simp
end Go.Proofs.Ytemfnobfdmlfaaa.In
