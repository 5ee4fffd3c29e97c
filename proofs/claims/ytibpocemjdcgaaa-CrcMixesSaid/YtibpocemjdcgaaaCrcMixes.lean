/-
  PROVED: the statement 'CrcMixesSaid': for every input the law CrcMixes returns true, and each argument reads afterwards as it read before. No condition.
-/
import Derived.Test.YtibpocemjdcgaaaKept
import Derived.Test.YtibpocemjdcgaaaRows
import Derived.WalkKit
import Derived.Deep.RegionHeld3
import Derived.Test.YtibpocemjdcgaaaRow
import Derived.ProofKit
import Derived.OpenShut
import Derived.ShutString
namespace Go.Proofs.Ytibpocemjdcgaaa.crcMixes
open Go.ChangeShapes Go.WideShapes Go.ChangeAt Go.RowKit
open Go.ChangeMaps (open_string shut_string)
set_option linter.unusedVariables false      -- a walk need not use every 'w<i>' (that an integer argument fits its kind)

theorem own : ownKnob Try.prog.godebug = none := by kernel_rfl

theorem info5 : (Try.prog.info? 5).map (fun i => (i.zero, i.size, i.bytes)) = some (some (.int .u8 0), 1, 1) := by kernel_rfl
theorem min3' (x y z : Int) (w : World) : (Builtin.min_ #[3, 3, 3] 3 #[.int .i64 x, .int .i64 y, .int .i64 z]).run Try.prog w = .ok (.int .i64 (if z < (if y < x then y else x) then z else (if y < x then y else x))) w := by
  simp [Builtin.min_, Builtin.min2]
theorem min3 (a b c : Nat) (w : World) : (Builtin.min_ #[3, 3, 3] 3 #[.int .i64 (a : Int), .int .i64 (b : Int), .int .i64 (c : Int)]).run Try.prog w = .ok (.int .i64 ((min a (min b c) : Nat) : Int)) w := by
  have e : (if (c : Int) < (if (b : Int) < (a : Int) then (b : Int) else (a : Int)) then (c : Int) else (if (b : Int) < (a : Int) then (b : Int) else (a : Int))) = ((min a (min b c) : Nat) : Int) := by
    split <;> split at * <;> omega
  rw [min3', e]
theorem row_made {w w1 : World} {n : Nat} (hown : w1.ownsRow w.heap.size 5 1 (.slice (some ⟨w.heap.size, 0, none⟩) n n) n (madeCells (Value.int .u8 0).cells (n * 1)).toList) (hg : w.grownBy w1 none) :
    Row w w.heap.size (List.replicate n 0) w1 := by
  refine ⟨(Below.refl _ _).grown hg (Nat.le_refl _) (by simp), (hown.lt w.heap.size rfl).2, fun j hj => ?_, fun j hj => hown.frozenAt j⟩
  have hj' : j < n := by simpa using hj
  rw [hown.cellAt j (by omega)]
  simp [madeCells, Value.cells, hj', Nat.mod_one]
/-- After k rounds. -/
def Mid (w : World) (n : Nat) (r s t : ByteArray) (k : Nat) (wr : World) : Prop :=
  ∃ l : List UInt8, l.length = n ∧ Row w w.heap.size l wr ∧ ∀ j, j < k → l.getD j 0 = r.data.toList.getD j 0 ^^^ s.data.toList.getD j 0 ^^^ t.data.toList.getD j 0
theorem getD_at (s : ByteArray) (k : Nat) (h : k < s.size) : s.data.toList.getD k 0 = s[k] := by
  have h' : k < s.data.toList.length := by simpa using h
  simp only [List.getD, List.getElem?_eq_getElem h', Option.getD_some]; rfl
theorem mid_next {w wr : World} {n : Nat} {r s t : ByteArray} {k : Nat} (h : Mid w n r s t k wr) (hk : k < n) (hr : k < r.size) (hs : k < s.size) (ht : k < t.size) :
    Mid w n r s t (k + 1) (wr.drew.setCell ⟨w.heap.size, k, none⟩ (.int .u8 (bits .xor .u8 (bits .xor .u8 (r[k].toNat : Int) (s[k].toNat : Int)) (t[k].toNat : Int)))) := by
  obtain ⟨l, hl, hrow, hx⟩ := h
  refine ⟨l.set k (r[k] ^^^ s[k] ^^^ t[k]), by simpa using hl, hrow.drew.set k _ (by rw [xor_u8, xor_u8]) (by omega), fun j hj => ?_⟩
  by_cases e : j = k
  · subst e
    rw [getD_at r j hr, getD_at s j hs, getD_at t j ht]
    have : j < l.length := by omega
    simp [List.getD, this]
  · have e' : ¬ k = j := fun h => e h.symm
    rw [← hx j (by omega)]; simp [List.getD, List.getElem?_set_ne e']
theorem mid_cell {w wr : World} {n : Nat} {r s t : ByteArray} {k : Nat} (h : Mid w n r s t k wr) (hk : k < n) : (∃ v, wr.cell? ⟨w.heap.size, k, none⟩ = some (.int .u8 v)) ∧ wr.frozen? ⟨w.heap.size, k, none⟩ = false := by
  obtain ⟨l, hl, hrow, _⟩ := h
  exact ⟨⟨_, hrow.cell k (by omega)⟩, hrow.free k (by omega)⟩
/-- At the end: the string of the bytes, and the checksums. -/
structure Given (w wr : World) (r s t : ByteArray) (n : Nat) (x : ByteArray) (N1 N2 N3 N4 : Int) : Prop where
  bel : Kept w wr
  cv : ∀ u, Kept wr u → (convert 29 9 (.slice (some ⟨w.heap.size, 0, none⟩) n n)).run Try.prog u = .ok (.string x) u
  c1 : ∀ w, Calls Try.prog 10 #[.string (r.extract 0 n)] w fun e w' => e = .returned (.int .u32 N1) ∧ Kept w w'
  c2 : ∀ w, Calls Try.prog 10 #[.string (s.extract 0 n)] w fun e w' => e = .returned (.int .u32 N2) ∧ Kept w w'
  c3 : ∀ w, Calls Try.prog 10 #[.string (t.extract 0 n)] w fun e w' => e = .returned (.int .u32 N3) ∧ Kept w w'
  c4 : ∀ w, Calls Try.prog 10 #[.string x] w fun e w' => e = .returned (.int .u32 N4) ∧ Kept w w'
  hn : (bits .xor .u32 (bits .xor .u32 N1 N2) N3 == N4) = true
theorem ext_le (s : ByteArray) (i j : Nat) (h : s.size ≤ maxLen) : (s.extract i j).size ≤ maxLen := by
  rw [ByteArray.size_extract]; omega
theorem given {w wr : World} {n : Nat} {r s t : ByteArray} (h : Mid w n r s t n wr) (hr : n ≤ r.size) (hs : n ≤ s.size) (ht : n ≤ t.size) (mr : r.size ≤ maxLen) (ms : s.size ≤ maxLen) (mt : t.size ≤ maxLen) :
    ∃ x N1 N2 N3 N4, Given w wr r s t n x N1 N2 N3 N4 := by
  obtain ⟨l, hl, hrow, hx⟩ := h
  have el : ∀ q : ByteArray, n ≤ q.size → (q.extract 0 n).data.toList.length = n := fun q hq => by
    rw [ext_list, List.length_take]
    have : q.data.toList.length = q.size := by simp
    omega
  refine ⟨⟨l.toArray⟩, num (moreB 0 (r.extract 0 n).data.toList), num (moreB 0 (s.extract 0 n).data.toList), num (moreB 0 (t.extract 0 n).data.toList), num (moreB 0 l), hrow.bel, fun u hu => (hrow.kept hu).str n n hl, fun w => sum_k _ w (ext_le _ _ _ mr), fun w => sum_k _ w (ext_le _ _ _ ms), fun w => sum_k _ w (ext_le _ _ _ mt), fun w => sum_k ⟨l.toArray⟩ w ?_, ?_⟩
  · show l.toArray.size ≤ maxLen
    rw [List.size_toArray]; omega
  · rw [num_xor, num_xor, beq_iff_eq, num_inj]
    refine mix _ _ _ _ n (el r hr) (el s hs) (el t ht) hl fun j hj => ?_
    have hxj := hx j hj
    have g : ∀ q : ByteArray, (hq : n ≤ q.size) → (q.extract 0 n).data.toList[j]'(by rw [el q hq]; exact hj) = q.data.toList.getD j 0 := fun q hq => by
      have hjq : j < q.data.toList.length := by have : q.data.toList.length = q.size := by simp
                                                omega
      simp only [ext_list, List.getElem_take, List.getD, List.getElem?_eq_getElem hjq, Option.getD_some]
    rw [g r hr, g s hs, g t ht, ← hxj]
    have : j < l.length := by omega
    simp [List.getD, this]
theorem stepS {w1 W u : World} {n : Nat} {B : Nat} {x : ByteArray} (hc : ∀ u, Kept w1 u → (convert 29 9 (.slice (some ⟨B, 0, none⟩) n n)).run Try.prog u = .ok (.string x) u)
    (h : Kept w1 W ∧ (convert 29 9 (.slice (some ⟨B, 0, none⟩) n n)).run Try.prog W = .ok (.string x) W) (k : Kept W u) :
    Kept w1 u ∧ (convert 29 9 (.slice (some ⟨B, 0, none⟩) n n)).run Try.prog u = .ok (.string x) u := ⟨h.1.trans k, hc u (h.1.trans k)⟩
set_option maxHeartbeats 2000000 in
theorem walk (a0 : ByteArray) (a1 : ByteArray) (a2 : ByteArray) (w0 : a0.size ≤ maxLen) (w1 : a1.size ≤ maxLen) (w2 : a2.size ≤ maxLen) (w : World) :
    Calls Try.prog 7 #[.string a0, .string a1, .string a2] w fun e w' => e = .returned (.bool true) ∧ Kept w w' := by
  obtain ⟨n, hn⟩ : ∃ n, n = min a0.size (min a1.size a2.size) := ⟨_, rfl⟩
  have hmin := fun wx => min3 a0.size a1.size a2.size wx
  rw [← hn] at hmin
  have n0 : n ≤ a0.size := by omega
  have n1 : n ≤ a1.size := by omega
  have n2 : n ≤ a2.size := by omega
  clear hn
  by_cases g : n ≤ 1000
  · obtain ⟨i0, hi, hz0, hz1, hz2⟩ := info_parts info5
    have hbytes : i0.bytes * n ≤ 281474976710656 := by rw [hz2]; omega
    have hml : n ≤ maxLen := by unfold maxLen; omega
    go_enter Try.func7, Try.ntmps7
    go_wp2_with (at_make; refine wpList_make_full _ rfl _ _ 29 rfl w.heap.size 5 i0 (.int .u8 0) 1 Try.underlying29 hi hz0 hz1 _ _ _ _ n rfl rfl rfl rfl hbytes hml (Nat.le_refl _) ?_; intro wm hown hgr)
    have M0 : Mid w n a0 a1 a2 0 wm := ⟨_, by simp, row_made hown hgr, fun j hj => absurd hj (by omega)⟩
    clear hown hgr hmin hbytes hml hi hz0 hz1 hz2
    go_loopw [9] (fun i wr => ∃ k : Nat, k ≤ n ∧ i = .int .i64 k ∧ Mid w n a0 a1 a2 k wr) (fun i _ => n - (intOf i).toNat)
    case atStart => exact ⟨0, by omega, rfl, M0⟩
    case round =>
      clear M0
      obtain ⟨k, hk, rfl, hm⟩ := hrel
      by_cases hlt : k < n
      · obtain ⟨⟨v, hc⟩, hf⟩ := mid_cell hm hlt
        have k0 : k < a0.size := by omega
        have k1 : k < a1.size := by omega
        have k2 : k < a2.size := by omega
        have HM := Lib.hid (mid_next hm hlt k0 k1 k2)
        go_wp2
        go_region
        all_goals go_wp2
        all_goals go_roundw
        case rel => exact ⟨k + 1, by omega, by go_num, HM.out⟩
        case measure => simp [intOf]; omega
      · obtain rfl : k = n := by omega
        obtain ⟨x, N1, N2, N3, N4, G⟩ := given hm n0 n1 n2 w0 w1 w2
        have HC := Lib.hid G.cv
        have heq := G.hn
        have hst : Kept wr wr ∧ (convert 29 9 (.slice (some ⟨w.heap.size, 0, none⟩) k k)).run Try.prog wr = .ok (.string x) wr := ⟨Kept.refl _, G.cv _ (Kept.refl _)⟩
        have i1 : (0 : Int) ≤ (k : Int) := by omega
        have i2 : (k : Int) ≤ (a0.size : Int) := by omega
        have i3 : (k : Int) ≤ (a1.size : Int) := by omega
        have i4 : (k : Int) ≤ (a2.size : Int) := by omega
        clear hm
        go_wp2
        go_region_held3 (fun W => Kept wr W ∧ (convert 29 9 (.slice (some ⟨w.heap.size, 0, none⟩) k k)).run Try.prog W = .ok (.string x) W) (first | assumption | exact stepS HC.out hst (Below.drew (Below.refl _ _)) | (refine stepS HC.out ?_ ‹_›; assumption)) (first
          | (go_at_call 10; (with_reducible refine (G.c1 _).mono ?_); rintro e u ⟨rfl, hg⟩)
          | (go_at_call 10; (with_reducible refine (G.c2 _).mono ?_); rintro e u ⟨rfl, hg⟩)
          | (go_at_call 10; (with_reducible refine (G.c3 _).mono ?_); rintro e u ⟨rfl, hg⟩)
          | (go_at_call 10; (with_reducible refine (G.c4 _).mono ?_); rintro e u ⟨rfl, hg⟩)
          | (go_at_call 9; (with_reducible refine (known_k _).mono ?_); rintro e u ⟨rfl, hg⟩))
        go_wp2
        go_ret
        exact ⟨rfl, G.bel.trans (And.left ‹_›)⟩
  · go_enter Try.func7, Try.ntmps7
    go_wp2_with (go_at_call 9; refine (known_k _).mono ?_; rintro e u5 ⟨rfl, hg3⟩)
    go_ret
    exact ⟨rfl, hg3⟩

/-! ### THE ROW's STEP: WRITTEN OUT: LEAVE IT -/
set_option maxRecDepth 100000 in
theorem lifted (os : Os) (started : os.Started) (H : Type) (enc : TypeId × Value → H) :
    ReturnsInHanded {} Try.checked os 7 .any (Rows.crcMixesSpec.pre6 enc Try.prog Try.f7 Rows.crcMixesRow.domain false) (Rows.crcMixesSpec.post enc Try.prog Try.f7 false true false false) := by
  refine returnsInHanded_of_change (C := Try.checked) own started (by kernel_rfl) Try.func7
    (ChangeSpec.witness6 (enc := enc) (C := Try.checked) false ⟨#[], #[.string ByteArray.empty, .string ByteArray.empty, .string ByteArray.empty], []⟩ 8 (by kernel_rfl) (by kernel_rfl) (by kernel_rfl) (by kernel_rfl)) ?_
  intro W base args ds gs before hval0 hW hcnd _
  have hval : ∀ (j : Nat) t v, Try.f7.params[j]? = some t → args[j]? = some v → Value.okWide Try.prog W .any base t v := hval0
  have hW' := hW
  obtain ⟨p, q, hA0, hV, rfl, hfz, hnd⟩ := hW
  have hA : DataW.TrodAll enc Try.prog W 0 (fun _ => true) true Try.f7.params.toList args.toList ds p := hA0
  rw [Try.params7] at hA hval
  obtain ⟨v0, vs0, d0, ds0, p0, q0, hargs, rfl, rfl, h0, r0⟩ := trodAll_cons hA
  obtain ⟨v1, vs1, d1, ds1, p1, q1, rfl, rfl, rfl, h1, r1⟩ := trodAll_cons r0
  obtain ⟨v2, vs2, d2, ds2, p2, q2, rfl, rfl, rfl, h2, r2⟩ := trodAll_cons r1
  obtain ⟨rfl, rfl, rfl⟩ := trodAll_nil r2
  obtain rfl : args = #[v0, v1, v2] := by cases args; simp_all
  obtain ⟨rfl, rfl⟩ := trodVars_none hV
  obtain ⟨a0, rfl, rfl, rfl, w0⟩ := open_string Try.underlying9 (hval 0 9 v0 rfl rfl) h0
  obtain ⟨a1, rfl, rfl, rfl, w1⟩ := open_string Try.underlying9 (hval 1 9 v1 rfl rfl) h1
  obtain ⟨a2, rfl, rfl, rfl, w2⟩ := open_string Try.underlying9 (hval 2 9 v2 rfl rfl) h2
  clear hA0 hval0
  simp only [List.append_nil] at hW'
  refine (walk a0 a1 a2 w0 w1 w2 W).mono fun e W' ⟨he, hg⟩ => ?_
  subst he
  exact ⟨_, rfl, _, _, _, [], [], [], hW', (trodAll_cons_mk (shut_bool Try.underlying4 _) trodAll_mk0), (trodAll_cons_mk (shut_string Try.underlying9 w0) (trodAll_cons_mk (shut_string Try.underlying9 w1) (trodAll_cons_mk (shut_string Try.underlying9 w2) trodAll_mk0))), rfl, Below.frame hg _, fun h => by cases h⟩

theorem over : Rows.crcMixesRow.holds Try.pinned (OpenSpec.ofChange Rows.crcMixesSpec) :=
  OpenClaim.holds_of_wide 7 Try.f7 rfl rfl rfl rfl rfl rfl rfl ⟨rfl, rfl, rfl, rfl, rfl⟩ rfl rfl rfl rfl rfl (by kernel_rfl) Try.func7 (by kernel_rfl)
    (of_decide_eq_true (by kernel_rfl)) (by unfold Func.isWrapper; first | (rw [if_pos (by decide +kernel)]; kernel_rfl) | (rw [if_neg (by decide +kernel)]; exact ⟨rfl, rfl⟩))
    (fun os started H enc _ => lifted os started H enc)

/-- ████ THE STATEMENT ████ -/
theorem proved : Rows.CrcMixesSaid :=
  over
#print axioms proved
end Go.Proofs.Ytibpocemjdcgaaa.crcMixes
