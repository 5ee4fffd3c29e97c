/-
  The sectors of a record: what the program's call of Sectors returns.
-/
import Derived.Test.YtckbhjjflpobbaaGreatGe
import Derived.Test.YtckbhjjflpobbaaGreatFb
namespace Go.Proofs.YtckbhjjflpobbaaGreat.Rc
open Go Go.RowKit Go.ChangeShapes Go.WideShapes Go.ChangeAt Go.Proofs.YtckbhjjflpobbaaGreat.Mem Go.Proofs.YtckbhjjflpobbaaGreat.Pk Go.Proofs.YtckbhjjflpobbaaGreat.Fk

/-- How many sectors Sectors returns. -/
def nS (b l : Int) (d : ByteArray) : Nat := if secE b l d = 0 then parts d.size else 0
theorem secE_big {b l : Int} {d : ByteArray} (h : 4096 < d.size) : secE b l d = 5 ∧ nS b l d = 0 := by
  have e : secE b l d = 5 := by unfold secE; rw [if_pos h]
  unfold nS; rw [e]; exact ⟨rfl, rfl⟩
theorem secE_ok {b l : Int} {d : ByteArray} (h : d.size ≤ 4096) (hn : num b l) : secE b l d = 0 ∧ nS b l d = parts d.size := by
  have e : secE b l d = 0 := (secE_zero b l d).mpr ⟨hn, h⟩
  unfold nS; rw [e]; exact ⟨rfl, rfl⟩
theorem secE_bad {b l : Int} {d : ByteArray} (h : d.size ≤ 4096) (hn : ¬ num b l) : secE b l d = 2 ∧ nS b l d = 0 := by
  have e : secE b l d = 2 := by
    unfold secE
    rw [if_neg (by omega), if_neg]
    intro h2
    rw [Bool.and_eq_true, btw_iff, btw_iff] at h2
    exact hn ⟨h2.1.1, h2.1.2, h2.2.1, h2.2.2⟩
  unfold nS; rw [e]; exact ⟨rfl, rfl⟩
theorem fr_err_bad {b l : Int} {k : Nat} {d : ByteArray} {i : Nat} (hn : ¬ num b l) : (fr b l k d i).err = 2 := by
  unfold Fr.err
  rw [if_neg (by have := piece_short d i; show ¬ 44 < (piece d i).size; omega), if_neg]
  intro h2
  obtain ⟨⟨h1, h2⟩, ⟨h3, h4⟩, _⟩ := (Fr.nums_iff _).mp h2
  exact hn ⟨h1, h2, h3, h4⟩
theorem string_info' : (Tryz.prog.info? 9).map (fun i => (i.zero, i.size, i.bytes)) = some (some (.string ByteArray.empty), 1, 16) := by kernel_rfl
/-- A row that is owned stays where what lies at and above its base is kept. -/
theorem ownsRow_kept {w w' : World} {base : Nat} {e : TypeId} {size : Nat} {v : Value} {n : Nat} {xs : List Value} (h : w.ownsRow base e size v n xs) (k : Kept w w') : w'.ownsRow base e size v n xs :=
  ownsRow_block h fun g _ hg => Below.block k g (h.lt g hg).2
/-- What was kept is kept by what happens to a row that was made since. -/
theorem kept_grown {u a b : World} {base : Nat} {e : TypeId} {size : Nat} {v : Value} {n : Nat} {xs : List Value} (k : Kept u a) (h : a.ownsRow base e size v n xs) (hb : u.heap.size ≤ base) {c : World} (kb : Kept a b) (hg : b.grownBy c v.ownBlock) : Kept u c :=
  ⟨(hg.os.trans kb.os).trans k.os, (hg.tape.trans kb.tape).trans k.tape, (hg.output.trans kb.output).trans k.output, Nat.le_trans (Nat.le_trans k.size kb.size) hg.size, fun j hj => by
    rw [hg.block j (Nat.lt_of_lt_of_le hj (Nat.le_trans k.size kb.size)) (fun e => by have := ownsRow_base h e.symm; omega), Below.block kb j (Nat.lt_of_lt_of_le hj k.size)]
    exact Below.block k j hj⟩
set_option maxRecDepth 100000 in
set_option maxHeartbeats 4000000 in
theorem sectors_c (b l : Int) (k : Nat) (d : ByteArray) (hk : k < 256) (hd : d.size ≤ maxLen) (w : World) :
    Calls Tryz.prog 55 #[.int .i64 b, .int .i64 l, .int .u8 (k : Int), .string d] w fun e w' => ∃ v, e = .returned (.tuple #[v, .int .i64 (secE b l d)]) ∧ w'.ownsRow w.heap.size 9 1 v (nS b l d) (strs (sec b l k d) (nS b l d)) ∧ Kept w w' := by
  unfold maxLen at hd
  have hparts : ∀ w, Calls Tryz.prog 54 #[.int .i64 (d.size : Int)] w fun e w' => e = .returned (.tuple #[.int .i64 (pF d.size), .int .i64 (pE d.size)]) ∧ w = w' := parts_c _ ⟨by omega, by omega⟩
  by_cases hbig : 4096 < d.size
  · obtain ⟨e1, e2⟩ := secE_big (b := b) (l := l) hbig
    rw [e1, e2]
    obtain ⟨e3, e4⟩ := pF_big hbig
    rw [e3, e4] at hparts
    clear e1 e2 e3 e4
    go_enter Tryz.func55, Tryz.ntmps55
    go_wp2_with (go_at_call 54; (with_reducible refine (hparts _).mono ?_); rintro e w' ⟨rfl, rfl⟩)
    go_ret2
    exact ⟨_, rfl, World.ownsRow_nil _ _ _ _, Kept.refl w⟩
  · have hsmall : d.size ≤ 4096 := by omega
    obtain ⟨e3, e4⟩ := pF_nat hsmall
    obtain ⟨N, hN⟩ : ∃ N, N = parts d.size := ⟨_, rfl⟩
    have hN1 : 1 ≤ N := hN ▸ parts_pos _
    have hN94 : N ≤ 94 := hN ▸ parts_le hsmall
    have hfr : ∀ w, Calls Tryz.prog 78 #[.agg #[.int .i64 b, .int .i64 l, .int .i64 0, .int .i64 0, .int .u8 (k : Int), .string d]] w fun e w' => ∃ ao cap, e = .returned (.slice ao N cap) ∧ FAt w' ao N (fr b l k d) ∧ Kept w w' := fun w => by
      refine (frames_in ⟨b, l, 0, 0, k, d⟩ (by show d.size ≤ _; omega) w).mono ?_
      rintro e w' ⟨v, rfl, hrow, hk⟩
      have hX : frP ⟨b, l, 0, 0, k, d⟩ = fr b l k d := by
        funext i
        unfold frP fr
        simp only [e3]
      rw [hX] at hrow
      obtain ⟨ao, cap, rfl, hf⟩ := frames_at hrow
      refine ⟨ao, cap, ?_, ?_, hk⟩
      · rw [hN]
      · rw [hN]; exact hf
    rw [e3, e4] at hparts
    rw [← hN] at hparts
    have henc : ∀ i W, i < N → Calls Tryz.prog 79 #[.agg #[.int .i64 (fr b l k d i).boot, .int .i64 (fr b l k d i).lsn, .int .i64 (fr b l k d i).part, .int .i64 (fr b l k d i).parts, .int .u8 ((fr b l k d i).kind : Int), .string (fr b l k d i).data]] W fun e w' => e = .returned (.tuple #[.string (sec b l k d i), .int .i64 (fr b l k d i).err]) ∧ Kept W w' :=
      fun i W _ => encode_c (fr b l k d i) hk (Nat.le_trans (piece_short d i) (by decide)) W
    by_cases hnum : num b l
    · obtain ⟨e1, e2⟩ := secE_ok hsmall hnum
      rw [e1, e2, ← hN]
      have herr : ∀ i, i < N → (fr b l k d i).err = 0 := fun i hi => (Fr.err_zero _).mpr (fr_good hnum hsmall (hN ▸ hi))
      obtain ⟨X, hX⟩ : ∃ X, X = fr b l k d := ⟨_, rfl⟩
      obtain ⟨S, hS⟩ : ∃ S, S = sec b l k d := ⟨_, rfl⟩
      rw [← hX] at hfr henc herr
      rw [← hS] at henc ⊢
      have HH := Lib.hid (And.intro henc herr)
      clear henc herr hX hS e1 e2 e3 e4 hsmall hbig hd hN
      obtain ⟨i0, hi, hz0, hz1, hz2⟩ := info_parts string_info'
      go_enter Tryz.func55, Tryz.ntmps55
      go_wp2_with (first
        | (go_at_call 54; (with_reducible refine (hparts _).mono ?_); rintro e w' ⟨rfl, rfl⟩)
        | (go_at_call 78; refine (hfr _).mono ?_; rintro e u ⟨ao, cap, rfl, hF, ku⟩))
      go_loopw [12, 33] (fun v i wr => ∃ j : Nat, j ≤ N ∧ i = .int .i64 j ∧ wr.ownsRow u.heap.size 9 1 v j (strs S j) ∧ Kept u wr) (fun _ i _ => N - (intOf i).toNat)
      case atStart => exact ⟨0, by omega, rfl, World.ownsRow_nil _ _ _ _, Kept.refl u⟩
      case round =>
        obtain ⟨j, hj, rfl, hrow, kr⟩ := hrel
        by_cases hlt : j < N
        · obtain ⟨g, rfl, x0, x1, x2, x3, x4, x5⟩ := (hF.kept kr) j hlt
          have hc := HH.out.1 j
          rw [HH.out.2 j hlt] at hc
          have hrk := Lib.hid (And.intro hrow kr)
          have hsz := kr.size
          clear hrow kr hF hfr hparts
          go_wp2_with (first
            | (go_at_call 79; (with_reducible refine (hc _ hlt).mono ?_); rintro e u2 ⟨rfl, k2⟩; have hrow2 := ownsRow_kept hrk.out.1 (((Kept.refl wr).alloc _).trans k2); have hsz2 : wr.heap.size ≤ u2.heap.size := (((Kept.refl wr).alloc _).trans k2).size; have Hr2 := Lib.hid (And.intro hrow2 (((Kept.refl wr).alloc _).trans k2)); clear hrow2 k2)
            | (at_builtin; refine wpList_append_own_at _ rfl _ _ 33 rfl u.heap.size 9 i0 (.string ByteArray.empty) 1 16 Tryz.underlying33 hi hz0 hz1 hz2 rfl (by decide) _ _ _ rfl (Hr2.out.1.alloc _) ⟨u2.heap.size, 0, none⟩ 1 1 [.string (S j)] rfl rfl (cell_one_new _ _ _) (by simp [Value.oneCell']) (by unfold maxLen; omega) (by omega) (by simp; omega) ?_; intro v' w1 hown hgrow hnil hloc; obtain ⟨g1, cap1, rfl⟩ := ownsRow_succ hown; have Hx := Lib.hid (And.intro hown hgrow); clear hown hgrow hnil hloc))
          go_roundw
          case rel => exact ⟨j + 1, by omega, by go_num, by rw [strs_succ]; exact Hx.out.1, kept_grown hrk.out.2 hrk.out.1 (Nat.le_refl _) (Hr2.out.2.alloc _) Hx.out.2⟩
          case measure => simp [intOf]; omega
        · obtain rfl : j = N := by omega
          have HX := Lib.hid (And.intro hrow (ku.trans kr))
          clear hrow kr hF
          go_wp2
          go_ret2
          exact ⟨_, rfl, ownsRow_mono HX.out.1 ku.size, HX.out.2⟩
    · obtain ⟨e1, e2⟩ := secE_bad hsmall hnum
      rw [e1, e2]
      have herr : ∀ i, (fr b l k d i).err = 2 := fun i => fr_err_bad hnum
      obtain ⟨X, hX⟩ : ∃ X, X = fr b l k d := ⟨_, rfl⟩
      obtain ⟨S, hS⟩ : ∃ S, S = sec b l k d := ⟨_, rfl⟩
      rw [← hX] at hfr henc herr
      rw [← hS] at henc
      have hc := henc 0
      rw [herr 0] at hc
      clear henc herr hX hS e1 e2 e3 e4 hsmall hbig hd hN
      go_enter Tryz.func55, Tryz.ntmps55
      go_wp2_with (first
        | (go_at_call 54; (with_reducible refine (hparts _).mono ?_); rintro e w' ⟨rfl, rfl⟩)
        | (go_at_call 78; refine (hfr _).mono ?_; rintro e u ⟨ao, cap, rfl, hF, ku⟩))
      go_loopw [33] (fun i wr => i = .int .i64 0 ∧ wr = u) (fun _ _ => 0)
      case atStart => exact ⟨rfl, rfl⟩
      case round =>
        obtain ⟨rfl, rfl⟩ := hrel
        obtain ⟨g, rfl, x0, x1, x2, x3, x4, x5⟩ := hF 0 (by omega)
        clear hF hfr hparts
        go_wp2_with (go_at_call 79; (with_reducible refine (hc _ (by omega)).mono ?_); rintro e u2 ⟨rfl, k2⟩)
        go_ret2
        exact ⟨_, rfl, World.ownsRow_nil _ _ _ _, (ku.alloc _).trans k2⟩
end Go.Proofs.YtckbhjjflpobbaaGreat.Rc
