/-
  Slices compared: slices.Equal of frames (the program's), EqualStrings (the statements').
-/
import Derived.Test.YtckbhjjflpobbaaGreatGb
import Derived.Test.YtckbhjjflpobbaaGreatFb
import Derived.Test.YtckbhjjflpobbaaGreatRb
namespace Go.Proofs.YtckbhjjflpobbaaGreat.Rc
open Go Go.RowKit Go.ChangeShapes Go.WideShapes Go.ChangeAt Go.Proofs.YtckbhjjflpobbaaGreat.Mem Go.Proofs.YtckbhjjflpobbaaGreat.Pk Go.Proofs.YtckbhjjflpobbaaGreat.Fk

def sameF (a b : Fr) : Bool := same a.boot a.lsn a.part a.parts a.kind a.data b.boot b.lsn b.part b.parts b.kind b.data
theorem sameF_iff {a b : Fr} : sameF a b = true ↔ a = b := by cases a; cases b; exact same_iff
def allF (X Y : Nat → Fr) : Nat → Bool
  | 0 => true
  | k + 1 => allF X Y k && sameF (X k) (Y k)
theorem allF_iff {X Y : Nat → Fr} : ∀ {n : Nat}, allF X Y n = true ↔ ∀ i, i < n → X i = Y i
  | 0 => by simp [allF]
  | n + 1 => by
    rw [allF, Bool.and_eq_true, allF_iff, sameF_iff]
    constructor
    · rintro ⟨h1, h2⟩ i hi
      by_cases e : i = n
      · rw [e]; exact h2
      · exact h1 i (by omega)
    · exact fun h => ⟨fun i hi => h i (by omega), h n (by omega)⟩
theorem allF_false {X Y : Nat → Fr} {n k : Nat} (hk : k < n) (h : sameF (X k) (Y k) = false) : allF X Y n = false := by
  cases e : allF X Y n with
  | false => rfl
  | true => rw [sameF_iff.mpr (allF_iff.mp e k hk)] at h; cases h
def eqF (n : Nat) (X : Nat → Fr) (m : Nat) (Y : Nat → Fr) : Bool := decide (n = m) && allF X Y n
theorem eqF_iff {n m : Nat} {X Y : Nat → Fr} : eqF n X m Y = true ↔ n = m ∧ ∀ i, i < n → X i = Y i := by unfold eqF; rw [Bool.and_eq_true, decide_eq_true_iff, allF_iff]
theorem neqF (b l p q : Int) (k : Nat) (d : ByteArray) (b' l' p' q' : Int) (k' : Nat) (d' : ByteArray) (w : World) :
    (binOp .neq 113 (.agg #[.int .i64 b, .int .i64 l, .int .i64 p, .int .i64 q, .int .u8 k, .string d]) (.agg #[.int .i64 b', .int .i64 l', .int .i64 p', .int .i64 q', .int .u8 k', .string d'])).run Tryz.prog w = .ok (.bool (!same b l p q k d b' l' p' q' k' d')) w := by
  unfold same
  simp [go_sem, Tryz.underlying113]
  (repeat' split) <;> simp_all
/-- The frames X lie from ao on. -/
def FAt (w : World) (ao : Option Addr) (n : Nat) (X : Nat → Fr) : Prop := ∀ i, i < n → ∃ g, ao = some ⟨g, 0, none⟩ ∧ w.cell? ⟨g, i * 6, none⟩ = some (.int .i64 (X i).boot) ∧ w.cell? ⟨g, i * 6 + 1, none⟩ = some (.int .i64 (X i).lsn) ∧ w.cell? ⟨g, i * 6 + 2, none⟩ = some (.int .i64 (X i).part) ∧ w.cell? ⟨g, i * 6 + 3, none⟩ = some (.int .i64 (X i).parts) ∧ w.cell? ⟨g, i * 6 + 4, none⟩ = some (.int .u8 ((X i).kind : Int)) ∧ w.cell? ⟨g, i * 6 + 5, none⟩ = some (.string (X i).data)
theorem fcells6_at (X : Nat → Fr) : ∀ (n i j : Nat), i < n → j < 6 → (fcells6 X n)[i * 6 + j]? = (fcs (X i))[j]?
  | 0, _, _, h, _ => absurd h (by omega)
  | n + 1, i, j, h, hj => by
    have hl : (fcells6 X n).length = n * 6 := by
      have : ∀ n, (fcells6 X n).length = n * 6 := fun n => by
        induction n with
        | zero => rfl
        | succ n ih => rw [fcells6_succ, List.length_append, ih]; simp [fcs]; omega
      exact this n
    rw [fcells6_succ]
    by_cases e : i = n
    · subst e
      rw [List.getElem?_append_right (by omega), hl]; congr 1; omega
    · rw [List.getElem?_append_left (by omega)]; exact fcells6_at X n i j (by omega) hj
/-- A row that is owned, read. -/
theorem row_read {w : World} {base : Nat} {e : TypeId} {size : Nat} {v : Value} {n : Nat} {xs : List Value} (h : w.ownsRow base e size v n xs) : ∃ ao cap, v = .slice ao n cap ∧ (0 < n → ∃ g, ao = some ⟨g, 0, none⟩ ∧ g < w.heap.size ∧ base ≤ g ∧ ∀ (j : Nat) (u : Value), xs[j]? = some u → w.cell? ⟨g, j, none⟩ = some u) := by
  rcases h.2 with ⟨rfl, rfl⟩ | ⟨g, cap, cur, rfl, hb, hh, hn, hc, hs, ht⟩
  · exact ⟨none, 0, rfl, fun h => absurd h (by omega)⟩
  · refine ⟨_, cap, rfl, fun _ => ⟨g, rfl, lt_of_block hh, hb, fun j u hj => ?_⟩⟩
    rw [cell_of_row _ _ _ _ _ _ hh]
    have hlt : j < xs.length := (List.getElem?_eq_some_iff.1 hj).1
    rw [← ht] at hj hlt
    have hlt' : j < n * size := Nat.lt_of_lt_of_le hlt (List.length_take_le _ _)
    rw [List.getElem?_take_of_lt hlt'] at hj
    simpa using hj
theorem frames_at {w : World} {base : Nat} {v : Value} {n : Nat} {X : Nat → Fr} (h : w.ownsRow base 113 6 v n (fcells6 X n)) : ∃ ao cap, v = .slice ao n cap ∧ FAt w ao n X := by
  obtain ⟨ao, cap, rfl, hr⟩ := row_read h
  refine ⟨ao, cap, rfl, fun i hi => ?_⟩
  obtain ⟨g, rfl, _, _, hc⟩ := hr (by omega)
  refine ⟨g, rfl, ?_⟩
  have key : ∀ j (hj : j < 6), w.cell? ⟨g, i * 6 + j, none⟩ = (fcs (X i))[j]? := fun j hj => by
    have e := fcells6_at X n i j hi hj
    have hl : j < (fcs (X i)).length := hj
    rw [List.getElem?_eq_getElem hl] at e ⊢
    exact hc _ _ e
  exact ⟨key 0 (by omega), key 1 (by omega), key 2 (by omega), key 3 (by omega), key 4 (by omega), key 5 (by omega)⟩
theorem FAt.kept {w w' : World} {ao : Option Addr} {n : Nat} {X : Nat → Fr} (h : FAt w ao n X) (k : Kept w w') : FAt w' ao n X := fun i hi => by
  obtain ⟨g, e, h0, h1, h2, h3, h4, h5⟩ := h i hi
  have hg : g < w.heap.size := World.block_lt_of_cell? w ⟨g, i * 6, none⟩ h0
  exact ⟨g, e, (k.cell hg).trans h0, (k.cell hg).trans h1, (k.cell hg).trans h2, (k.cell hg).trans h3, (k.cell hg).trans h4, (k.cell hg).trans h5⟩
set_option maxRecDepth 100000 in
set_option maxHeartbeats 1000000 in
theorem equalf_c (a1 a2 : Option Addr) (n m c1 c2 : Nat) (X Y : Nat → Fr) (hn : n < 4294967296) (hm : m < 4294967296) (w : World) (h1 : FAt w a1 n X) (h2 : FAt w a2 m Y) :
    Calls Tryz.prog 108 #[.slice a1 n c1, .slice a2 m c2] w fun e w' => e = .returned (.bool (eqF n X m Y)) ∧ Kept w w' := by
  by_cases hnm : n = m
  · subst hnm
    have hq : ((n : Int) != (n : Int)) = false := by simp
    have he : eqF n X n Y = allF X Y n := by simp [eqF]
    rw [he]
    clear he
    go_enter Tryz.func108, Tryz.ntmps108
    go_wp2
    go_loopw [13] (fun i wr => ∃ k : Nat, k ≤ n ∧ i = .int .i64 k ∧ allF X Y k = true ∧ ∃ m, wr = w.drewN m) (fun i _ => n - (intOf i).toNat)
    case atStart => exact ⟨0, by omega, rfl, rfl, 0, rfl⟩
    case round =>
      obtain ⟨k, hk, rfl, ha, m, rfl⟩ := hrel
      by_cases hlt : k < n
      · obtain ⟨g, rfl, x0, x1, x2, x3, x4, x5⟩ := h1 k hlt
        obtain ⟨g2, rfl, y0, y1, y2, y3, y4, y5⟩ := h2 k hlt
        have hs : sameF (X k) (Y k) = same (X k).boot (X k).lsn (X k).part (X k).parts (X k).kind (X k).data (Y k).boot (Y k).lsn (Y k).part (Y k).parts (Y k).kind (Y k).data := rfl
        have hop := fun W => neqF (X k).boot (X k).lsn (X k).part (X k).parts (X k).kind (X k).data (Y k).boot (Y k).lsn (Y k).part (Y k).parts (Y k).kind (Y k).data W
        rw [← hs] at hop
        have hnx : sameF (X k) (Y k) = true → allF X Y (k + 1) = true := fun h => by rw [allF, ha, h]; rfl
        have hny := allF_false (X := X) (Y := Y) (n := n) hlt
        have hHq := Lib.hid (And.intro hnx hny)
        clear hnx hny hs ha
        cases hq2 : sameF (X k) (Y k)
        · rw [hq2] at hop
          have hop1 := hop (w.drewN (m + 1))
          go_wp2
          go_region
          go_wp2
          go_ret
          exact ⟨by rw [hHq.out.2 hq2]; rfl, ((Kept.refl w).drewN m).drew⟩
        · rw [hq2] at hop
          have hop1 := hop (w.drewN (m + 1))
          go_wp2
          go_region
          go_wp2
          go_roundw
          case rel => exact ⟨k + 1, by omega, by go_num, hHq.out.1 hq2, m + 1, rfl⟩
          case measure => simp [intOf]; omega
      · obtain rfl : k = n := by omega
        have hx : ¬ k < k := by omega
        go_wp2
        go_ret
        exact ⟨by rw [ha]; rfl, (Kept.refl w).drewN m⟩
  · have hq : ((n : Int) != (m : Int)) = true := by simp; omega
    have he : eqF n X m Y = false := by simp [eqF, hnm]
    rw [he]
    clear he hnm
    go_enter Tryz.func108, Tryz.ntmps108
    go_wp2
    go_ret
    exact ⟨rfl, Kept.refl w⟩
/-- The strings xs lie from ao on. -/
def SAt (w : World) (ao : Option Addr) (n : Nat) (x : Nat → ByteArray) : Prop := ∀ i, i < n → ∃ g, ao = some ⟨g, 0, none⟩ ∧ w.cell? ⟨g, i, none⟩ = some (.string (x i))
theorem SAt.kept {w w' : World} {ao : Option Addr} {n : Nat} {x : Nat → ByteArray} (h : SAt w ao n x) (k : Kept w w') : SAt w' ao n x := fun i hi => by
  obtain ⟨g, e, h0⟩ := h i hi
  exact ⟨g, e, (k.cell (World.block_lt_of_cell? w ⟨g, i, none⟩ h0)).trans h0⟩
def strs (x : Nat → ByteArray) (n : Nat) : List Value := (List.range n).map fun i => .string (x i)
theorem strs_succ (x : Nat → ByteArray) (n : Nat) : strs x (n + 1) = strs x n ++ [.string (x n)] := by simp [strs, List.range_succ]
theorem strs_length (x : Nat → ByteArray) (n : Nat) : (strs x n).length = n := by simp [strs]
theorem strings_at {w : World} {base : Nat} {v : Value} {n : Nat} {x : Nat → ByteArray} (h : w.ownsRow base 9 1 v n (strs x n)) : ∃ ao cap, v = .slice ao n cap ∧ SAt w ao n x := by
  obtain ⟨ao, cap, rfl, hr⟩ := row_read h
  refine ⟨ao, cap, rfl, fun i hi => ?_⟩
  obtain ⟨g, rfl, _, _, hc⟩ := hr (by omega)
  exact ⟨g, rfl, hc _ _ (by simp [strs, hi])⟩
def allS (x y : Nat → ByteArray) : Nat → Bool
  | 0 => true
  | k + 1 => allS x y k && decide (x k = y k)
theorem allS_iff {x y : Nat → ByteArray} : ∀ {n : Nat}, allS x y n = true ↔ ∀ i, i < n → x i = y i
  | 0 => by simp [allS]
  | n + 1 => by
    rw [allS, Bool.and_eq_true, allS_iff, decide_eq_true_iff]
    constructor
    · rintro ⟨h1, h2⟩ i hi
      by_cases e : i = n
      · rw [e]; exact h2
      · exact h1 i (by omega)
    · exact fun h => ⟨fun i hi => h i (by omega), h n (by omega)⟩
set_option maxRecDepth 100000 in
set_option maxHeartbeats 1000000 in
/-- Two equal slices of strings. -/
theorem equals_c (a1 a2 : Option Addr) (n c1 c2 : Nat) (x y : Nat → ByteArray) (hn : n < 4294967296) (w : World) (h1 : SAt w a1 n x) (h2 : SAt w a2 n y) (hxy : ∀ i, i < n → x i = y i) :
    Calls Tryz.prog 13 #[.slice a1 n c1, .slice a2 n c2] w fun e w' => e = .returned (.bool true) ∧ Kept w w' := by
  have hq : ((n : Int) != (n : Int)) = false := by simp
  have HE := Lib.hid hxy
  clear hxy
  go_enter Tryz.func13, Tryz.ntmps13
  go_wp2
  go_loopw [5] (fun i wr => ∃ k : Nat, k ≤ n ∧ i = .int .i64 k ∧ ∃ m, wr = w.drewN m) (fun i _ => n - (intOf i).toNat)
  case atStart => exact ⟨0, by omega, rfl, 0, rfl⟩
  case round =>
    obtain ⟨k, hk, rfl, m, rfl⟩ := hrel
    by_cases hlt : k < n
    · obtain ⟨g, rfl, x0⟩ := h1 k hlt
      obtain ⟨g2, rfl, y0⟩ := h2 k hlt
      rw [← HE.out k hlt] at y0
      obtain ⟨X, hX⟩ : ∃ X, X = x k := ⟨_, rfl⟩
      rw [← hX] at x0 y0
      clear hX h1 h2
      go_wp2
      go_region
      go_wp2
      go_roundw
      case rel => exact ⟨k + 1, by omega, by go_num, m + 1, rfl⟩
      case measure => simp [intOf]; omega
    · have hx : ¬ k < n := hlt
      go_wp2
      go_ret
      exact ⟨rfl, (Kept.refl w).drewN m⟩
end Go.Proofs.YtckbhjjflpobbaaGreat.Rc
