/-
  Package journal: its small calls (sector, size, sectors, done, Boot, Lsn, Room).
-/
import Derived.Test.YtckbhjjflpobbaaGreatJm
import Derived.Test.YtckbhjjflpobbaaGreatGq
namespace Go.Proofs.YtckbhjjflpobbaaGreat.Jk
open Go Go.RowKit Go.ChangeShapes Go.WideShapes Go.ChangeAt Go.Proofs.YtckbhjjflpobbaaGreat.Mem Go.Proofs.YtckbhjjflpobbaaGreat.Pk Go.Proofs.YtckbhjjflpobbaaGreat.Fk Go.Proofs.YtckbhjjflpobbaaGreat.Dz Go.Proofs.YtckbhjjflpobbaaGreat.Fz Go.Proofs.YtckbhjjflpobbaaGreat.Rc

/-- The journal's block. -/
def jc (D : Nat) (j : Jw) : Array Value := #[.pointer (some ⟨D, 0, none⟩), .int .i64 (j.area : Int), .int .i64 2, .int .i64 (2 + (j.area : Int)), .int .i64 j.h.seq, .int .i64 j.h.boot, .int .i64 j.h.area, .int .i64 j.h.first, .int .i64 j.h.snaps, .int .i64 j.n, .int .i64 (j.used : Int), .bool j.dead]
def jA (J D : Nat) (j : Jw) : As := boxA J (jc D j) 76
def Jat (w : World) (J D : Nat) (j : Jw) : Prop := w.heap[J]? = some (.cells (jc D j) 76 (0, 0))
theorem Jat.kept {w w' : World} {J D : Nat} {j : Jw} (h : Jat w J D j) (k : Kept w w') : Jat w' J D j := k.block h
theorem jblock {w : World} {J D : Nat} {j : Jw} (h : Jat w J D j) :
    (w.cell? ⟨J, 0, none⟩ = some (.pointer (some ⟨D, 0, none⟩)) ∧ w.cell? ⟨J, 1, none⟩ = some (.int .i64 (j.area : Int)) ∧ w.cell? ⟨J, 2, none⟩ = some (.int .i64 2) ∧ w.cell? ⟨J, 3, none⟩ = some (.int .i64 (2 + (j.area : Int))) ∧ w.cell? ⟨J, 4, none⟩ = some (.int .i64 j.h.seq) ∧ w.cell? ⟨J, 5, none⟩ = some (.int .i64 j.h.boot) ∧ w.cell? ⟨J, 6, none⟩ = some (.int .i64 j.h.area) ∧ w.cell? ⟨J, 7, none⟩ = some (.int .i64 j.h.first) ∧ w.cell? ⟨J, 8, none⟩ = some (.int .i64 j.h.snaps) ∧ w.cell? ⟨J, 9, none⟩ = some (.int .i64 j.n) ∧ w.cell? ⟨J, 10, none⟩ = some (.int .i64 (j.used : Int)) ∧ w.cell? ⟨J, 11, none⟩ = some (.bool j.dead)) ∧ ∀ i, w.frozen? ⟨J, i, none⟩ = false :=
  ⟨⟨cell_of_row _ _ _ _ _ _ h, cell_of_row _ _ _ _ _ _ h, cell_of_row _ _ _ _ _ _ h, cell_of_row _ _ _ _ _ _ h, cell_of_row _ _ _ _ _ _ h, cell_of_row _ _ _ _ _ _ h, cell_of_row _ _ _ _ _ _ h, cell_of_row _ _ _ _ _ _ h, cell_of_row _ _ _ _ _ _ h, cell_of_row _ _ _ _ _ _ h, cell_of_row _ _ _ _ _ _ h, cell_of_row _ _ _ _ _ _ h⟩, fun i => frozen_of_row w J i _ _ h⟩
theorem jblockd {w : World} {J D : Nat} {j : Jw} {b : Bool} (h : Jat w J D { j with dead := b }) :
    (w.cell? ⟨J, 0, none⟩ = some (.pointer (some ⟨D, 0, none⟩)) ∧ w.cell? ⟨J, 1, none⟩ = some (.int .i64 (j.area : Int)) ∧ w.cell? ⟨J, 2, none⟩ = some (.int .i64 2) ∧ w.cell? ⟨J, 3, none⟩ = some (.int .i64 (2 + (j.area : Int))) ∧ w.cell? ⟨J, 4, none⟩ = some (.int .i64 j.h.seq) ∧ w.cell? ⟨J, 5, none⟩ = some (.int .i64 j.h.boot) ∧ w.cell? ⟨J, 6, none⟩ = some (.int .i64 j.h.area) ∧ w.cell? ⟨J, 7, none⟩ = some (.int .i64 j.h.first) ∧ w.cell? ⟨J, 8, none⟩ = some (.int .i64 j.h.snaps) ∧ w.cell? ⟨J, 9, none⟩ = some (.int .i64 j.n) ∧ w.cell? ⟨J, 10, none⟩ = some (.int .i64 (j.used : Int)) ∧ w.cell? ⟨J, 11, none⟩ = some (.bool b)) ∧ ∀ i, w.frozen? ⟨J, i, none⟩ = false := jblock h
theorem own_j {w0 w : World} {L : List As} (h : Mem.Own w0 L w) (i : Nat) {J D : Nat} {j : Jw} (hi : L[i]? = some (jA J D j)) : Jat w J D j := h.boxed i hi
theorem sector_c (b i : Int) (h : -9223372036854775808 ≤ b + i ∧ b + i ≤ 9223372036854775807) (w : World) : Calls Tryz.prog 56 #[.int .i64 b, .int .i64 i] w fun e w' => e = .returned (.int .i64 (b + i)) ∧ w = w' := by
  go_enter Tryz.func56, Tryz.ntmps56
  go_wp2
  go_ret
  exact ⟨rfl, rfl⟩
set_option maxRecDepth 100000 in
theorem boot_c (J D : Nat) (j : Jw) (w : World) (h : Jat w J D j) : Calls Tryz.prog 43 #[.pointer (some ⟨J, 0, none⟩)] w fun e w' => e = .returned (.int .i64 j.h.boot) ∧ w = w' := by
  obtain ⟨⟨_, _, _, _, _, _, _, _, _, _, _, _⟩, _⟩ := jblock h
  go_enter Tryz.func43, Tryz.ntmps43
  go_wp2
  go_ret
  exact ⟨rfl, rfl⟩
set_option maxRecDepth 100000 in
theorem lsn_c (J D : Nat) (j : Jw) (w : World) (h : Jat w J D j) : Calls Tryz.prog 44 #[.pointer (some ⟨J, 0, none⟩)] w fun e w' => e = .returned (.int .i64 j.n) ∧ w = w' := by
  obtain ⟨⟨_, _, _, _, _, _, _, _, _, _, _, _⟩, _⟩ := jblock h
  go_enter Tryz.func44, Tryz.ntmps44
  go_wp2
  go_ret
  exact ⟨rfl, rfl⟩
set_option maxRecDepth 100000 in
theorem room_c (J D : Nat) (j : Jw) (ha : j.area ≤ 32000) (hu : j.used ≤ j.area) (w : World) (h : Jat w J D j) : Calls Tryz.prog 29 #[.pointer (some ⟨J, 0, none⟩)] w fun e w' => e = .returned (.int .i64 ((j.area : Int) - (j.used : Int))) ∧ Kept w w' := by
  obtain ⟨⟨_, _, _, _, _, _, _, _, _, _, _, _⟩, _⟩ := jblock h
  go_enter Tryz.func29, Tryz.ntmps29
  go_wp2
  go_region
  go_wp2
  go_ret
  exact ⟨rfl, (Kept.refl w).drew⟩
/-- The strings x lie from ao on, wherever in their block. -/
def SAo (w : World) (ao : Option Addr) (n : Nat) (x : Nat → ByteArray) : Prop := ∀ i, i < n → ∃ g o, ao = some ⟨g, o, none⟩ ∧ w.cell? ⟨g, o + i, none⟩ = some (.string (x i))
theorem SAo.kept {w w' : World} {ao : Option Addr} {n : Nat} {x : Nat → ByteArray} (h : SAo w ao n x) (k : Kept w w') : SAo w' ao n x := fun i hi => by
  obtain ⟨g, o, e, h0⟩ := h i hi
  exact ⟨g, o, e, (k.cell (World.block_lt_of_cell? w ⟨g, o + i, none⟩ h0)).trans h0⟩
theorem wide {w : World} {ao : Option Addr} {n : Nat} {x : Nat → ByteArray} (h : SAt w ao n x) : SAo w ao n x := fun i hi => by
  obtain ⟨g, e, h0⟩ := h i hi
  exact ⟨g, 0, e, by rw [Nat.zero_add]; exact h0⟩
/-! size -/
def sizeE (x : Nat → ByteArray) (m : Nat) : Int := if fits x m then 0 else 5
def sizeN (x : Nat → ByteArray) (m : Nat) : Nat := if fits x m then pre x m else 0
theorem pre_le {x : Nat → ByteArray} : ∀ {m : Nat}, fits x m → pre x m ≤ 94 * m
  | 0, _ => Nat.le_refl _
  | m + 1, h => by
    have := pre_le (x := x) (m := m) fun i hi => h i (by omega)
    have := parts_le (h m (by omega))
    show pre x m + _ ≤ _
    omega
set_option maxRecDepth 100000 in
theorem size_c (ao : Option Addr) (cap m : Nat) (x : Nat → ByteArray) (hm : m < 4294967296) (hx : ∀ i, i < m → (x i).size ≤ maxLen) (w : World) (h : SAo w ao m x) :
    Calls Tryz.prog 27 #[.slice ao m cap] w fun e w' => e = .returned (.tuple #[.int .i64 (sizeN x m : Int), .int .i64 (sizeE x m)]) ∧ w = w' := by
  have Hx := Lib.hid hx
  clear hx
  go_enter Tryz.func27, Tryz.ntmps27
  go_wp2
  go_loopw [4, 11] (fun s i wr => ∃ k : Nat, k ≤ m ∧ s = .int .i64 (pre x k : Int) ∧ i = .int .i64 k ∧ fits x k ∧ wr = w) (fun _ i _ => m - (intOf i).toNat)
  case atStart => exact ⟨0, by omega, rfl, rfl, fun i hi => absurd hi (by omega), rfl⟩
  case round =>
    obtain ⟨k, hk, rfl, rfl, hf, rfl⟩ := hrel
    by_cases hlt : k < m
    · obtain ⟨g, o, rfl, x0⟩ := h k hlt
      have hs := Hx.out k hlt
      unfold maxLen at hs
      have hp := pre_le hf
      have hpc := fun w => parts_c ((x k).size : Int) ⟨by omega, by omega⟩ w
      by_cases hbig : 4096 < (x k).size
      · have e1 : sizeE x m = 5 ∧ sizeN x m = 0 := by
          have : ¬ fits x m := fun hf => by have := hf k hlt; omega
          unfold sizeE sizeN; rw [if_neg this, if_neg this]; exact ⟨rfl, rfl⟩
        rw [(pF_big hbig).1, (pF_big hbig).2] at hpc
        obtain ⟨X, hX⟩ : ∃ X, X = x k := ⟨_, rfl⟩
        rw [← hX] at x0 hpc hs
        have HE := Lib.hid e1
        clear hX h hf hbig e1
        go_wp2_with (go_at_call 54; (with_reducible refine (hpc _).mono ?_); rintro e w' ⟨rfl, rfl⟩)
        go_ret2
        exact ⟨by rw [HE.out.1, HE.out.2]; rfl, rfl⟩
      · rw [(pF_nat (Nat.not_lt.1 hbig)).1, (pF_nat (Nat.not_lt.1 hbig)).2] at hpc
        have hf' : fits x (k + 1) := fun i hi => by
          by_cases e : i = k
          · rw [e]; omega
          · exact hf i (by omega)
        have hpr : pre x (k + 1) = pre x k + parts (x k).size := rfl
        have hpl := parts_le (Nat.not_lt.1 hbig)
        obtain ⟨X, hX⟩ : ∃ X, X = x k := ⟨_, rfl⟩
        rw [← hX] at x0 hpc hs hpr hpl
        obtain ⟨p, hp0⟩ : ∃ p, p = pre x k := ⟨_, rfl⟩
        obtain ⟨p', hp1⟩ : ∃ p', p' = pre x (k + 1) := ⟨_, rfl⟩
        obtain ⟨q, hq⟩ : ∃ q, q = parts X.size := ⟨_, rfl⟩
        rw [← hq] at hpc hpr hpl
        rw [← hp0, ← hp1] at hpr
        rw [← hp0] at hp ⊢
        have HP := Lib.hid (And.intro hp1 hf')
        clear hX h hf hbig hf' hp0 hp1 hq
        go_wp2_with (go_at_call 54; (with_reducible refine (hpc _).mono ?_); rintro e w' ⟨rfl, rfl⟩)
        go_roundw
        case rel => exact ⟨k + 1, by omega, by rw [← HP.out.1, hpr]; go_num, by go_num, HP.out.2, by trivial⟩
        case measure => simp [intOf]; omega
    · obtain rfl : k = m := by omega
      have e1 : sizeE x k = 0 ∧ sizeN x k = pre x k := by unfold sizeE sizeN; rw [if_pos hf, if_pos hf]; exact ⟨rfl, rfl⟩
      have HE := Lib.hid e1
      clear h hf e1
      go_wp2
      go_ret2
      exact ⟨by rw [HE.out.1, HE.out.2]; rfl, rfl⟩
/-! sectors -/
def allV (b n : Int) (kd : Nat) (x : Nat → ByteArray) (m : Nat) : List Value := (allL b n kd x m).map Value.string
theorem allV_succ (b n : Int) (kd : Nat) (x : Nat → ByteArray) (m : Nat) : allV b n kd x (m + 1) = allV b n kd x m ++ Rc.strs (sec b (n + (m : Int)) kd (x m)) (parts (x m).size) := by
  unfold allV
  rw [allL, List.map_append]
  congr 1
  unfold secL Rc.strs
  rw [List.map_map]
  rfl
theorem allV_strs (b n : Int) (kd : Nat) (x : Nat → ByteArray) (m : Nat) : allV b n kd x m = Rc.strs (flat b n kd x m) (pre x m) := by
  unfold allV
  apply List.ext_getElem?
  intro i
  rw [List.getElem?_map]
  by_cases hi : i < pre x m
  · have hl : i < (allL b n kd x m).length := by rw [allL_len]; exact hi
    have e2 : (Rc.strs (flat b n kd x m) (pre x m))[i]? = some (.string (flat b n kd x m i)) := by simp [Rc.strs, hi]
    rw [e2, List.getElem?_eq_getElem hl]
    unfold flat
    rw [List.getD_eq_getElem?_getD, List.getElem?_eq_getElem hl]
    rfl
  · rw [List.getElem?_eq_none (by rw [allL_len]; omega), List.getElem?_eq_none (by rw [strs_length]; omega)]
    rfl
set_option maxRecDepth 100000 in
set_option maxHeartbeats 4000000 in
theorem jsectors_c (J D : Nat) (j : Jw) (kd : Nat) (hkd : kd < 256) (ao : Option Addr) (cap m : Nat) (x : Nat → ByteArray) (hm : m < 65536) (hfit : fits x m) (hnum : ∀ i : Nat, i < m → num j.h.boot (j.n + 1 + (i : Int))) (hn0 : 0 ≤ j.n ∧ j.n < 281474976710656) (w : World) (hJ : Jat w J D j) (h : SAo w ao m x) :
    Calls Tryz.prog 30 #[.pointer (some ⟨J, 0, none⟩), .int .u8 (kd : Int), .slice ao m cap] w fun e w' => ∃ v, e = .returned (.tuple #[v, .int .i64 0]) ∧ w'.ownsRow w.heap.size 9 1 v (pre x m) (Rc.strs (flat j.h.boot (j.n + 1) kd x m) (pre x m)) ∧ Kept w w' := by
  rw [← allV_strs]
  obtain ⟨i0, hi, hz0, hz1, hz2⟩ := info_parts string_info'
  obtain ⟨⟨_, _, _, _, _, cb, _, _, _, cn, _, _⟩, _⟩ := jblock hJ
  have hcell : ∀ W, Kept w W → W.cell? ⟨J, 5, none⟩ = some (.int .i64 j.h.boot) ∧ W.cell? ⟨J, 9, none⟩ = some (.int .i64 j.n) := fun W k => by
    obtain ⟨⟨_, _, _, _, _, cb, _, _, _, cn, _, _⟩, _⟩ := jblock (hJ.kept k)
    exact ⟨cb, cn⟩
  have HH := Lib.hid (And.intro hcell (And.intro hfit (And.intro hnum h)))
  obtain ⟨b, hb⟩ : ∃ b, b = j.h.boot := ⟨_, rfl⟩
  obtain ⟨n, hn⟩ : ∃ n, n = j.n := ⟨_, rfl⟩
  rw [← hb, ← hn] at HH
  rw [← hn] at hn0
  rw [← hb, ← hn]
  clear hcell hfit hnum h hJ hb hn
  go_enter Tryz.func30, Tryz.ntmps30
  go_wp2
  go_loopw [8, 15] (fun v i wr => ∃ k : Nat, k ≤ m ∧ i = .int .i64 k ∧ wr.ownsRow w.heap.size 9 1 v (pre x k) (allV b (n + 1) kd x k) ∧ Kept w wr) (fun _ i _ => m - (intOf i).toNat)
  case atStart => exact ⟨0, by omega, rfl, World.ownsRow_nil _ _ _ _, Kept.refl w⟩
  case round =>
    obtain ⟨k, hk, rfl, hrow, kr⟩ := hrel
    by_cases hlt : k < m
    · obtain ⟨g, o, rfl, x0⟩ := (HH.out.2.2.2.kept kr) k hlt
      have S1 := HH.out.1 _ kr
      have S2 := HH.out.1 _ kr.drew
      have hfk := HH.out.2.1 k hlt
      have hsm : (x k).size ≤ maxLen := by unfold maxLen; omega
      have hc := fun W => sectors_c b (n + 1 + (k : Int)) kd (x k) hkd hsm W
      rw [(secE_ok hfk (HH.out.2.2.1 k hlt)).1, (secE_ok hfk (HH.out.2.2.1 k hlt)).2] at hc
      have hp := pre_le (x := x) (m := k) fun i hi => HH.out.2.1 i (by omega)
      have hq := parts_le hfk
      have hq1 := parts_pos (x k).size
      have hpr : pre x (k + 1) = pre x k + parts (x k).size := rfl
      have hav := allV_succ b (n + 1) kd x k
      obtain ⟨X, hX⟩ : ∃ X, X = x k := ⟨_, rfl⟩
      rw [← hX] at x0 hc hq hq1 hpr hav
      obtain ⟨Y, hY⟩ : ∃ Y, Y = sec b (n + 1 + (k : Int)) kd X := ⟨_, rfl⟩
      rw [← hY] at hc hav
      obtain ⟨p, hp0⟩ : ∃ p, p = pre x k := ⟨_, rfl⟩
      rw [← hp0] at hp hrow hpr
      obtain ⟨V, hV⟩ : ∃ V, V = allV b (n + 1) kd x k := ⟨_, rfl⟩
      rw [← hV] at hrow hav
      obtain ⟨q, hq0⟩ : ∃ q, q = parts X.size := ⟨_, rfl⟩
      rw [← hq0] at hc hq hq1 hpr hav
      have HR := Lib.hid (And.intro hrow (And.intro kr (And.intro hpr hav)))
      have hsz := kr.size
      have kd2 : Kept w wr.drew := kr.drew
      have hw1 : IntKind.i64.wrap (n + 1) = n + 1 := by rw [IntKind.wrap_i64]; omega
      have hw2 : IntKind.i64.wrap (n + 1 + (k : Int)) = n + 1 + (k : Int) := by rw [IntKind.wrap_i64]; omega
      clear hrow hpr hav hsm hfk hX hY hp0 hV hq0 kr
      go_wp2
      go_region_held3 (fun W => W.cell? ⟨J, 5, none⟩ = some (.int .i64 b) ∧ W.cell? ⟨J, 9, none⟩ = some (.int .i64 n))
        (first | assumption | exact HH.out.1 _ (kd2.trans k3))
        (first
          | (go_at_call 55; (with_reducible refine (hc _).mono ?_); rintro e u3 ⟨v3, rfl, hrow3, k3⟩; obtain ⟨ao3, cap3, rfl, hs3⟩ := strings_at hrow3))
      have hrow4 := ownsRow_kept HR.out.1 ((Kept.refl wr).drew.trans k3)
      obtain ⟨g3, rfl, _⟩ := hs3 0 (by omega)
      have hcl := hrow3.cells (g := g3) rfl
      have hsz3 := (kd2.trans k3).size
      have H3 := Lib.hid (And.intro hrow4 (And.intro hcl k3))
      have hl3 : (Rc.strs Y q).length = q * 1 := by rw [strs_length]; omega
      have h13 : ∀ u ∈ Rc.strs Y q, u.oneCell' = true := fun u hu => by
        obtain ⟨p, _, rfl⟩ := List.mem_map.1 hu
        rfl
      have HL := Lib.hid (And.intro hl3 h13)
      clear hrow3 hrow4 hs3 hcl k3 hl3 h13
      go_wp2_with (at_builtin; refine wpList_append_own_at _ rfl _ _ 33 rfl w.heap.size 9 i0 (.string ByteArray.empty) 1 16 Tryz.underlying33 hi hz0 hz1 hz2 rfl (by decide) _ _ _ rfl H3.out.1 ⟨g3, 0, none⟩ q cap3 (Rc.strs Y q) rfl HL.out.1 H3.out.2.1 HL.out.2 (by unfold maxLen; omega) (by omega) hsz3 ?_; intro v' w1 hown hgrow hnil hloc; have Hx := Lib.hid (And.intro hown hgrow); clear hown hgrow hnil hloc)
      go_roundw
      case rel => exact ⟨k + 1, by omega, by go_num, by rw [HR.out.2.2.1, HR.out.2.2.2]; exact Hx.out.1, kept_grown HR.out.2.1 HR.out.1 (Nat.le_refl _) ((Kept.refl wr).drew.trans H3.out.2.2) Hx.out.2⟩
      case measure => simp [intOf]; omega
    · obtain rfl : k = m := by omega
      have HX := Lib.hid (And.intro hrow kr)
      clear hrow kr
      go_wp2
      go_ret2
      exact ⟨_, rfl, HX.out.1, HX.out.2⟩
/-! done -/
set_option maxRecDepth 100000 in
theorem o_done {w0 w : World} {L : List As} (h : Mem.Own w0 L w) (i : Nat) {J D : Nat} {j : Jw} (hi : L[i]? = some (jA J D j)) (E : Int) :
    Calls Tryz.prog 58 #[.pointer (some ⟨J, 0, none⟩), .int .i64 E] w fun e w' => e = .returned (.int .i64 E) ∧ Mem.Own w0 (L.set i (jA J D { j with dead := E == 10 })) w' := by
  obtain ⟨⟨_, _, _, _, _, _, _, _, _, _, _, c11⟩, fz⟩ := jblock (own_j h i hi)
  have hp := h.boxset i hi 11 (.bool (E == 10))
  have HP := Lib.hid hp
  clear hp h
  go_enter Tryz.func58, Tryz.ntmps58
  go_wp2
  go_ret
  exact ⟨rfl, HP.out⟩
end Go.Proofs.YtckbhjjflpobbaaGreat.Jk
