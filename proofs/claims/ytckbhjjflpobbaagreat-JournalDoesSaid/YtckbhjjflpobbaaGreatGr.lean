/-
  The sectors of a record: what the specification's call of Sectors returns.
-/
import Derived.Test.YtckbhjjflpobbaaGreatGs
import Derived.Test.YtckbhjjflpobbaaGreatEb
namespace Go.Proofs.YtckbhjjflpobbaaGreat.Rc
open Go Go.RowKit Go.ChangeShapes Go.WideShapes Go.ChangeAt Go.Proofs.YtckbhjjflpobbaaGreat.Mem Go.Proofs.YtckbhjjflpobbaaGreat.Pk Go.Proofs.YtckbhjjflpobbaaGreat.Fk

theorem piece_at (d : ByteArray) (i : Nat) : piece d i = d.extract (i * 44) (min ((i : Int) * 44 + 44) (d.size : Int)).toNat := by
  unfold piece
  rw [show 44 * i = i * 44 by omega, show min (i * 44 + 44) d.size = (min ((i : Int) * 44 + 44) (d.size : Int)).toNat by omega]
set_option maxRecDepth 100000 in
set_option maxHeartbeats 4000000 in
theorem rsectors_c (b l : Int) (k : Nat) (d : ByteArray) (hk : k < 256) (hd : d.size ≤ maxLen) (w : World) :
    Calls Tryz.prog 61 #[.int .i64 b, .int .i64 l, .int .u8 (k : Int), .string d] w fun e w' => ∃ v, e = .returned (.tuple #[v, .int .i64 (secE b l d)]) ∧ w'.ownsRow w.heap.size 9 1 v (nS b l d) (strs (sec b l k d) (nS b l d)) ∧ Kept w w' := by
  unfold maxLen at hd
  have hparts : ∀ w, Calls Tryz.prog 60 #[.int .i64 (d.size : Int)] w fun e w' => e = .returned (.tuple #[.int .i64 (pF d.size), .int .i64 (pE d.size)]) ∧ w = w' := rparts_c _ ⟨by omega, by omega⟩
  by_cases hbig : 4096 < d.size
  · obtain ⟨e1, e2⟩ := secE_big (b := b) (l := l) hbig
    rw [e1, e2]
    obtain ⟨e3, e4⟩ := pF_big hbig
    rw [e3, e4] at hparts
    clear e1 e2 e3 e4
    go_enter Tryz.func61, Tryz.ntmps61
    go_wp2_with (go_at_call 60; (with_reducible refine (hparts _).mono ?_); rintro e w' ⟨rfl, rfl⟩)
    go_ret2
    exact ⟨_, rfl, World.ownsRow_nil _ _ _ _, Kept.refl w⟩
  · have hsmall : d.size ≤ 4096 := by omega
    obtain ⟨e3, e4⟩ := pF_nat hsmall
    obtain ⟨N, hN⟩ : ∃ N, N = parts d.size := ⟨_, rfl⟩
    have hN1 : 1 ≤ N := hN ▸ parts_pos _
    have hN94 : N ≤ 94 := hN ▸ parts_le hsmall
    rw [e3, e4] at hparts
    rw [← hN] at hparts
    have henc : ∀ i W, i < N → Calls Tryz.prog 82 #[.agg #[.int .i64 b, .int .i64 l, .int .i64 (i : Int), .int .i64 (N : Int), .int .u8 (k : Int), .string (piece d i)]] W fun e w' => e = .returned (.tuple #[.string (sec b l k d i), .int .i64 (fr b l k d i).err]) ∧ Kept W w' :=
      fun i W _ => by
        rw [hN]
        exact rencode_c (fr b l k d i) hk (Nat.le_trans (piece_short d i) (by decide)) W
    by_cases hnum : num b l
    · obtain ⟨e1, e2⟩ := secE_ok hsmall hnum
      rw [e1, e2, ← hN]
      have herr : ∀ i, i < N → (fr b l k d i).err = 0 := fun i hi => (Fr.err_zero _).mpr (fr_good hnum hsmall (hN ▸ hi))
      obtain ⟨S, hS⟩ : ∃ S, S = sec b l k d := ⟨_, rfl⟩
      obtain ⟨E, hE⟩ : ∃ E : Nat → Int, E = fun i => (fr b l k d i).err := ⟨_, rfl⟩
      have henc : ∀ i W, i < N → Calls Tryz.prog 82 #[.agg #[.int .i64 b, .int .i64 l, .int .i64 (i : Int), .int .i64 (N : Int), .int .u8 (k : Int), .string (d.extract (i * 44) (min ((i : Int) * 44 + 44) (d.size : Int)).toNat)]] W fun e w' => e = .returned (.tuple #[.string (S i), .int .i64 0]) ∧ Kept W w' := fun i W hi => by
        have := henc i W hi
        rw [herr i hi, ← hS, piece_at] at this
        exact this
      have h44 : ∀ j, j < N → j * 44 ≤ d.size := fun j hj => by rw [hN] at hj; unfold parts at hj; omega
      rw [← hS]
      have HH := Lib.hid henc
      clear henc herr hS hE e1 e2 e3 e4 hbig hd hN
      obtain ⟨i0, hi, hz0, hz1, hz2⟩ := info_parts string_info'
      go_enter Tryz.func61, Tryz.ntmps61
      go_wp2_with (go_at_call 60; (with_reducible refine (hparts _).mono ?_); rintro e w' ⟨rfl, rfl⟩)
      go_loopw [12, 13] (fun v i wr => ∃ j : Nat, j ≤ N ∧ i = .int .i64 j ∧ wr.ownsRow w.heap.size 9 1 v j (strs S j) ∧ Kept w wr) (fun _ i _ => N - (intOf i).toNat)
      case atStart => exact ⟨0, by omega, rfl, World.ownsRow_nil _ _ _ _, Kept.refl w⟩
      case round =>
        obtain ⟨j, hj, rfl, hrow, kr⟩ := hrel
        by_cases hlt : j < N
        · have hc := HH.out j
          have hrk := Lib.hid (And.intro hrow kr)
          have hsz := kr.size
          have hj44 := h44 j hlt
          clear hrow kr hparts
          have hord : (j : Int) * 44 ≤ min ((j : Int) * 44 + 44) (d.size : Int) := by omega
          go_wp2_with (first
            | (go_at_call 82; (with_reducible refine (hc _ hlt).mono ?_); rintro e u2 ⟨rfl, k2⟩; have hrow2 := ownsRow_kept hrk.out.1 k2; have hsz2 : wr.heap.size ≤ u2.heap.size := k2.size; have Hr2 := Lib.hid (And.intro hrow2 k2); clear hrow2 k2)
            | (at_builtin; refine wpList_append_own_at _ rfl _ _ 33 rfl w.heap.size 9 i0 (.string ByteArray.empty) 1 16 Tryz.underlying33 hi hz0 hz1 hz2 rfl (by decide) _ _ _ rfl (Hr2.out.1.alloc _) ⟨u2.heap.size, 0, none⟩ 1 1 [.string (S j)] rfl rfl (cell_one_new _ _ _) (by simp [Value.oneCell']) (by unfold maxLen; omega) (by omega) (by simp; omega) ?_; intro v' w1 hown hgrow hnil hloc; obtain ⟨g1, cap1, rfl⟩ := ownsRow_succ hown; have Hx := Lib.hid (And.intro hown hgrow); clear hown hgrow hnil hloc))
          go_roundw
          case rel => exact ⟨j + 1, by omega, by go_num, by rw [strs_succ]; exact Hx.out.1, kept_grown hrk.out.2 hrk.out.1 (Nat.le_refl _) (Hr2.out.2.alloc _) Hx.out.2⟩
          case measure => simp [intOf]; omega
        · obtain rfl : j = N := by omega
          have HX := Lib.hid (And.intro hrow kr)
          clear hrow kr
          go_wp2
          go_ret2
          exact ⟨_, rfl, HX.out.1, HX.out.2⟩
    · obtain ⟨e1, e2⟩ := secE_bad hsmall hnum
      rw [e1, e2]
      have hc : ∀ W, Calls Tryz.prog 82 #[.agg #[.int .i64 b, .int .i64 l, .int .i64 0, .int .i64 (N : Int), .int .u8 (k : Int), .string (d.extract 0 (min (44 : Int) (d.size : Int)).toNat)]] W fun e w' => e = .returned (.tuple #[.string (sec b l k d 0), .int .i64 2]) ∧ Kept W w' := fun W => by
        have := henc 0 W (by omega)
        rw [fr_err_bad hnum, piece_at] at this
        exact this
      obtain ⟨S, hS⟩ : ∃ S, S = sec b l k d 0 := ⟨_, rfl⟩
      rw [← hS] at hc
      have hord : (0 : Int) ≤ min (44 : Int) (d.size : Int) := by omega
      clear henc hS e1 e2 e3 e4 hbig hd hN
      go_enter Tryz.func61, Tryz.ntmps61
      go_wp2_with (go_at_call 60; (with_reducible refine (hparts _).mono ?_); rintro e w' ⟨rfl, rfl⟩)
      go_loopw [13] (fun i wr => i = .int .i64 0 ∧ wr = w) (fun _ _ => 0)
      case atStart => exact ⟨rfl, rfl⟩
      case round =>
        obtain ⟨rfl, rfl⟩ := hrel
        clear hparts
        go_wp2_with (go_at_call 82; (with_reducible refine (hc _).mono ?_); rintro e u2 ⟨rfl, k2⟩)
        go_ret2
        exact ⟨_, rfl, World.ownsRow_nil _ _ _ _, k2⟩
end Go.Proofs.YtckbhjjflpobbaaGreat.Rc
