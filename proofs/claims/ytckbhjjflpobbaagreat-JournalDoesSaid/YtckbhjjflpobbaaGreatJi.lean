/-
  The statements' helpers about lists of strings: EqualStrings, CopyStrings; slices that are seen from all lists (Sees).
-/
import Derived.Test.YtckbhjjflpobbaaGreatJg
namespace Go.Proofs.YtckbhjjflpobbaaGreat.Jk
open Go Go.RowKit Go.ChangeShapes Go.WideShapes Go.ChangeAt Go.Proofs.YtckbhjjflpobbaaGreat.Mem Go.Proofs.YtckbhjjflpobbaaGreat.Pk Go.Proofs.YtckbhjjflpobbaaGreat.Fk Go.Proofs.YtckbhjjflpobbaaGreat.Dz Go.Proofs.YtckbhjjflpobbaaGreat.Fz Go.Proofs.YtckbhjjflpobbaaGreat.Rc
open Go.Proofs.YtckbhjjflpobbaaGreat.Hk (Hd saves loads o_save o_load hblock)

def eqS (n : Nat) (x : Nat → ByteArray) (m : Nat) (y : Nat → ByteArray) : Bool := decide (n = m) && allS x y n
theorem eqS_iff {n m : Nat} {x y : Nat → ByteArray} : eqS n x m y = true ↔ n = m ∧ ∀ i, i < n → x i = y i := by unfold eqS; rw [Bool.and_eq_true, decide_eq_true_iff, allS_iff]
theorem allS_false {x y : Nat → ByteArray} {n k : Nat} (hk : k < n) (h : x k ≠ y k) : allS x y n = false := by
  cases e : allS x y n with
  | false => rfl
  | true => exact absurd (allS_iff.mp e k hk) h
set_option maxRecDepth 100000 in
set_option maxHeartbeats 1000000 in
theorem equalsb_c (a1 a2 : Option Addr) (n m c1 c2 : Nat) (x y : Nat → ByteArray) (hn : n < 4294967296) (hm : m < 4294967296) (w : World) (h1 : SAo w a1 n x) (h2 : SAo w a2 m y) :
    Calls Tryz.prog 13 #[.slice a1 n c1, .slice a2 m c2] w fun e w' => e = .returned (.bool (eqS n x m y)) ∧ Kept w w' := by
  by_cases hnm : n = m
  · subst hnm
    have hq : ((n : Int) != (n : Int)) = false := by simp
    have he : eqS n x n y = allS x y n := by simp [eqS]
    rw [he]
    clear he
    go_enter Tryz.func13, Tryz.ntmps13
    go_wp2
    go_loopw [5] (fun i wr => ∃ k : Nat, k ≤ n ∧ i = .int .i64 k ∧ allS x y k = true ∧ ∃ m, wr = w.drewN m) (fun i _ => n - (intOf i).toNat)
    case atStart => exact ⟨0, by omega, rfl, rfl, 0, rfl⟩
    case round =>
      obtain ⟨k, hk, rfl, ha, m, rfl⟩ := hrel
      by_cases hlt : k < n
      · obtain ⟨g, o, rfl, x0⟩ := h1 k hlt
        obtain ⟨g2, o2, rfl, y0⟩ := h2 k hlt
        have hnx : x k = y k → allS x y (k + 1) = true := fun h => by rw [allS, ha, h]; simp
        have hny : x k ≠ y k → allS x y n = false := allS_false hlt
        have htl : ∀ {a b : ByteArray}, a ≠ b → (a.toList == b.toList) = false := fun h => toList_ne h
        obtain ⟨X, hX⟩ : ∃ X, X = x k := ⟨_, rfl⟩
        obtain ⟨Y, hY⟩ : ∃ Y, Y = y k := ⟨_, rfl⟩
        rw [← hX] at x0 hnx hny
        rw [← hY] at y0 hnx hny
        have HN := Lib.hid (And.intro hnx hny)
        clear hnx hny hX hY h1 h2 ha
        by_cases hxy : X = Y
        · subst hxy
          go_wp2
          go_region
          go_wp2
          go_roundw
          case rel => exact ⟨k + 1, by omega, by go_num, HN.out.1 (by trivial), m + 1, rfl⟩
          case measure => simp [intOf]; omega
        · have t1 := htl hxy
          have t2 : (!(X.toList == Y.toList)) = true := by rw [t1]; rfl
          have HX := Lib.hid hxy
          clear hxy
          go_wp2
          go_region
          go_wp2
          go_ret
          exact ⟨by rw [HN.out.2 HX.out]; rfl, ((Kept.refl w).drewN m).drew⟩
      · obtain rfl : k = n := by omega
        have hx : ¬ k < k := by omega
        go_wp2
        go_ret
        exact ⟨by rw [ha]; rfl, (Kept.refl w).drewN m⟩
  · have hq : ((n : Int) != (m : Int)) = true := by simp; omega
    have he : eqS n x m y = false := by simp [eqS, hnm]
    rw [he]
    clear he hnm
    go_enter Tryz.func13, Tryz.ntmps13
    go_wp2
    go_ret
    exact ⟨rfl, Kept.refl w⟩
/-- The slice v shows the strings x, whatever lies in front of the things A. -/
def Sees (w0 : World) (A : List As) (v : Value) (n : Nat) (x : Nat → ByteArray) : Prop := ∃ ao cap, v = .slice ao n cap ∧ (ao = none → n = 0 ∧ cap = 0) ∧ ∀ M W, Mem.Own w0 (M ++ A) W → SAo W ao n x
theorem Sees.more {w0 : World} {A : List As} {v : Value} {n : Nat} {x : Nat → ByteArray} (h : Sees w0 A v n x) (B : List As) : Sees w0 (B ++ A) v n x := by
  obtain ⟨ao, cap, e, h0, hs⟩ := h
  exact ⟨ao, cap, e, h0, fun M W hW => hs (M ++ B) W (by rw [List.append_assoc]; exact hW)⟩
theorem Sees.base {w0 : World} {A : List As} {ao : Option Addr} {n cap : Nat} {x : Nat → ByteArray} (h : SAo w0 ao n x) (h0 : ao = none → n = 0 ∧ cap = 0) : Sees w0 A (.slice ao n cap) n x := ⟨ao, cap, rfl, h0, fun _ _ hW => h.kept hW.kept⟩
theorem Sees.nil {w0 : World} {A : List As} {x : Nat → ByteArray} : Sees w0 A (.slice none 0 0) 0 x := ⟨none, 0, rfl, fun _ => ⟨rfl, rfl⟩, fun _ _ _ i hi => absurd hi (by omega)⟩
theorem Sees.row {w0 w : World} {L A : List As} {v : Value} {n : Nat} {x : Nat → ByteArray} (h : Mem.Own w0 (L ++ secA v n x :: A) w) : Sees w0 (secA v n x :: A) v n x := by
  have at_ : ∀ M : List As, (M ++ secA v n x :: A)[M.length]? = some (secA v n x) := fun M => by rw [List.getElem?_append_right (Nat.le_refl _), Nat.sub_self]; rfl
  have hr := h.row L.length (at_ L)
  rcases row_slice hr with rfl | ⟨g, cap, rfl⟩
  · have hn : n = 0 := by
      obtain ⟨ao, cap, e, _⟩ := row_read hr
      cases e; rfl
    subst hn
    exact Sees.nil
  · exact ⟨_, cap, rfl, (fun h => by cases h), fun M W hW => wide (own_strs hW M.length (at_ M))⟩
theorem Sees.same {w0 : World} {A : List As} {v : Value} {n : Nat} {x y : Nat → ByteArray} (h : Sees w0 A v n x) (e : ∀ i, i < n → x i = y i) : Sees w0 A v n y := by
  obtain ⟨ao, cap, e1, h0, hs⟩ := h
  refine ⟨ao, cap, e1, h0, fun M W hW i hi => ?_⟩
  obtain ⟨g, o, e2, c⟩ := hs M W hW i hi
  exact ⟨g, o, e2, by rw [← e i hi]; exact c⟩
theorem o_equals {w0 w : World} {M A : List As} (h : Mem.Own w0 (M ++ A) w) {v1 v2 : Value} {n m : Nat} {x y : Nat → ByteArray} (h1 : Sees w0 A v1 n x) (h2 : Sees w0 A v2 m y) (hn : n < 4294967296) (hm : m < 4294967296) :
    Calls Tryz.prog 13 #[v1, v2] w fun e w' => e = .returned (.bool (eqS n x m y)) ∧ Mem.Own w0 (M ++ A) w' := by
  obtain ⟨a1, c1, rfl, _, s1⟩ := h1
  obtain ⟨a2, c2, rfl, _, s2⟩ := h2
  exact (equalsb_c a1 a2 n m c1 c2 x y hn hm w (s1 M w h) (s2 M w h)).mono fun e w' ⟨he, hk⟩ => ⟨he, h.later hk⟩
set_option maxRecDepth 100000 in
set_option maxHeartbeats 1000000 in
theorem copys_c (ao : Option Addr) (n cap : Nat) (x : Nat → ByteArray) (hn : n < 4294967296) (w : World) (h : SAo w ao n x) (h0 : ao = none → n = 0 ∧ cap = 0) :
    Calls Tryz.prog 10 #[.slice ao n cap] w fun e w' => ∃ v, e = .returned v ∧ w'.ownsRow w.heap.size 9 1 v n (Rc.strs x n) ∧ Kept w w' := by
  obtain ⟨i0, hif, hz0, hz1, hz2⟩ := info_parts string_info'
  cases ao with
  | none =>
    obtain ⟨rfl, rfl⟩ := h0 rfl
    go_enter Tryz.func10, Tryz.ntmps10
    go_wp2_with (at_builtin; refine wpList_append_own_none rfl _ _ 33 rfl w.heap.size 9 i0 1 Tryz.underlying33 hif _ 0 [] rfl (World.ownsRow_nil _ _ _ _) rfl ?_)
    go_ret
    exact ⟨_, rfl, World.ownsRow_nil _ _ _ _, Kept.refl w⟩
  | some a =>
    have hcl : ∀ j u, (Rc.strs x n)[j]? = some u → w.cell? (a.add j) = some u := fun j u hj => by
      have hlt : j < n := by
        have := (List.getElem?_eq_some_iff.1 hj).1
        rwa [strs_length] at this
      obtain ⟨g, o, eg, c⟩ := h j hlt
      cases eg
      have e : (⟨g, o, none⟩ : Addr).add j = ⟨g, o + j, none⟩ := by rw [add_plain]
      rw [e, c]
      simpa [Rc.strs, hlt] using hj
    have hl : (Rc.strs x n).length = n * 1 := by rw [strs_length]; omega
    have h1 : ∀ u ∈ Rc.strs x n, u.oneCell' = true := fun u hu => by
      obtain ⟨p, _, rfl⟩ := List.mem_map.1 hu
      rfl
    have HC := Lib.hid (And.intro hcl (And.intro hl h1))
    clear hcl hl h1 h h0
    go_enter Tryz.func10, Tryz.ntmps10
    go_wp2_with (at_builtin; refine wpList_append_own_at _ rfl _ _ 33 rfl w.heap.size 9 i0 (.string ByteArray.empty) 1 16 Tryz.underlying33 hif hz0 hz1 hz2 rfl (by decide) _ 0 [] rfl (World.ownsRow_nil _ _ _ _) a n cap (Rc.strs x n) rfl HC.out.2.1 HC.out.1 HC.out.2.2 (by unfold maxLen; omega) (by omega) (Nat.le_refl _) ?_; intro v' w1 hown hgrow hnil hloc; have Hx := Lib.hid (And.intro hown hgrow); clear hown hgrow hnil hloc)
    go_ret
    refine ⟨_, rfl, by simpa using Hx.out.1, ?_⟩
    exact kept_grown (Kept.refl w) (World.ownsRow_nil w w.heap.size 9 1) (Nat.le_refl _) (Kept.refl w) Hx.out.2
theorem o_copys {w0 w : World} {M A : List As} (h : Mem.Own w0 (M ++ A) w) {v : Value} {n : Nat} {x : Nat → ByteArray} (h1 : Sees w0 A v n x) (hn : n < 4294967296) :
    Calls Tryz.prog 10 #[v] w fun e w' => ∃ v', e = .returned v' ∧ Mem.Own w0 (secA v' n x :: (M ++ A)) w' := by
  obtain ⟨a1, c1, rfl, h0, s1⟩ := h1
  exact (copys_c a1 n c1 x hn w (s1 M w h) h0).mono fun e w' ⟨v', he, hrow, hk⟩ => ⟨v', he, (h.push (b := secA _ _ _) hk ⟨ownsRow_mono hrow (Nat.zero_le _), fun g hg => .inr ⟨ownsRow_base hrow hg, (hrow.lt g hg).2⟩⟩).front⟩
end Go.Proofs.YtckbhjjflpobbaaGreat.Jk
