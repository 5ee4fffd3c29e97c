/-
  What the specification's Encode does.
-/
import Derived.Test.YtnpjmjnekakgeaaFj
import Derived.Deep.RegionHeld3
namespace Go.Proofs.Ytnpjmjnekakgeaa.Fk
open Go.RowKit Go.Proofs.Ytnpjmjnekakgeaa.Mem Go.Proofs.Ytnpjmjnekakgeaa.Pk

/-- What the specification's Encode takes: the pieces, and what each call returns. -/
structure RecG (b l p q : Int) (k : Nat) (d sB sL sP sQ sK sD sBL sN sNQ sNK sH sHD sX sHX sT sZ sTZ sR : ByteArray) (N1 Z : Int) : Prop where
  cB : ∀ w, Calls Try.prog 20 #[.int .i64 b, .int .i64 4] w fun e w' => e = .returned (.string sB) ∧ Kept w w'
  cL : ∀ w, Calls Try.prog 20 #[.int .i64 l, .int .i64 6] w fun e w' => e = .returned (.string sL) ∧ Kept w w'
  cP : ∀ w, Calls Try.prog 20 #[.int .i64 p, .int .i64 1] w fun e w' => e = .returned (.string sP) ∧ Kept w w'
  cQ : ∀ w, Calls Try.prog 20 #[.int .i64 q, .int .i64 1] w fun e w' => e = .returned (.string sQ) ∧ Kept w w'
  cK : ∀ w, Calls Try.prog 20 #[.int .i64 k, .int .i64 1] w fun e w' => e = .returned (.string sK) ∧ Kept w w'
  cD : ∀ w, Calls Try.prog 20 #[.int .i64 d.size, .int .i64 1] w fun e w' => e = .returned (.string sD) ∧ Kept w w'
  aBL : ∀ w, (Op.stringOp .add sB sL).run Try.prog w = .ok (.string sBL) w
  aN : ∀ w, (Op.stringOp .add sBL sP).run Try.prog w = .ok (.string sN) w
  aNQ : ∀ w, (Op.stringOp .add sN sQ).run Try.prog w = .ok (.string sNQ) w
  aNK : ∀ w, (Op.stringOp .add sNQ sK).run Try.prog w = .ok (.string sNK) w
  aH : ∀ w, (Op.stringOp .add sNK sD).run Try.prog w = .ok (.string sH) w
  aHD : ∀ w, (Op.stringOp .add sH d).run Try.prog w = .ok (.string sHD) w
  cS : ∀ w, Calls Try.prog 21 #[.string sHD] w fun e w' => e = .returned (.int .u32 N1) ∧ Kept w w'
  n0 : 0 ≤ N1
  n1 : N1 < 4294967296
  cX : ∀ w, Calls Try.prog 20 #[.int .i64 N1, .int .i64 4] w fun e w' => e = .returned (.string sX) ∧ Kept w w'
  aHX : ∀ w, (Op.stringOp .add sH sX).run Try.prog w = .ok (.string sHX) w
  aT : ∀ w, (Op.stringOp .add sHX d).run Try.prog w = .ok (.string sT) w
  tZ : 44 - (d.size : Int) + 7 = Z
  cZ : ∀ w, Calls Try.prog 22 #[.int .i64 Z] w fun e w' => e = .returned (.string sZ) ∧ Kept w w'
  aTZ : ∀ w, (Op.stringOp .add sT sZ).run Try.prog w = .ok (.string sTZ) w
  aR : ∀ w, (Op.stringOp .add sTZ sN).run Try.prog w = .ok (.string sR) w

set_option maxHeartbeats 4000000 in
set_option maxRecDepth 100000 in
theorem rencode_g {b l p q : Int} {k : Nat} {d sB sL sP sQ sK sD sBL sN sNQ sNK sH sHD sX sHX sT sZ sTZ sR : ByteArray} {N1 Z : Int} (G : RecG b l p q k d sB sL sP sQ sK sD sBL sN sNQ sNK sH sHD sX sHX sT sZ sTZ sR N1 Z) (k0 : k < 256) (dz : d.size ≤ 44) (w : World)
    (cc : ∀ w, Calls Try.prog 19 #[.agg #[.int .i64 b, .int .i64 l, .int .i64 p, .int .i64 q, .int .u8 k, .string d]] w fun e w' => e = .returned (.int .i64 0) ∧ Kept w w') :
    Calls Try.prog 11 #[.agg #[.int .i64 b, .int .i64 l, .int .i64 p, .int .i64 q, .int .u8 k, .string d]] w fun e w' => e = .returned (.tuple #[.string sR, .int .i64 0]) ∧ Kept w w' := by
  have wk : IntKind.i64.wrap (k : Int) = (k : Int) := by rw [IntKind.wrap_i64]; omega
  obtain ⟨cB, cL, cP, cQ, cK, cD, aBL, aN, aNQ, aNK, aH, aHD, cS, n0, n1, cX, aHX, aT, tZ, cZ, aTZ, aR⟩ := G
  have wn : IntKind.i64.wrap N1 = N1 := by rw [IntKind.wrap_i64]; omega
  have w1 : IntKind.i64.wrap (44 - (d.size : Int)) = 44 - (d.size : Int) := by rw [IntKind.wrap_i64]; omega
  have w2 : IntKind.i64.wrap Z = Z := by rw [IntKind.wrap_i64]; omega
  have hb0 := Box.start w 23 b l p q k d
  have hk0 := Kept.alloc (Kept.refl w) (.cells #[.int .i64 b, .int .i64 l, .int .i64 p, .int .i64 q, .int .u8 k, .string d] 23)
  obtain ⟨x, hx⟩ : ∃ x, x = w.alloc (.cells #[.int .i64 b, .int .i64 l, .int .i64 p, .int .i64 q, .int .u8 k, .string d] 23) := ⟨_, rfl⟩
  rw [← hx] at hb0 hk0
  have hB : ∀ W, Kept x W → W.cell? ⟨w.heap.size, 0, none⟩ = some (.int .i64 b) ∧ W.cell? ⟨w.heap.size, 1, none⟩ = some (.int .i64 l) ∧ W.cell? ⟨w.heap.size, 2, none⟩ = some (.int .i64 p) ∧ W.cell? ⟨w.heap.size, 3, none⟩ = some (.int .i64 q) ∧ W.cell? ⟨w.heap.size, 4, none⟩ = some (.int .u8 k) ∧ W.cell? ⟨w.heap.size, 5, none⟩ = some (.string d) := fun W hW => (hb0.kept hW).all
  have HB := Lib.hid hB
  have HK := Lib.hid hk0
  have K1 := Kept.refl x
  clear hb0 hB hk0
  go_enter Try.func11, Try.ntmps11
  go_wp2_with fail
  rw [← hx]
  clear hx
  go_wp2_with (go_at_call 19; (with_reducible refine (cc _).mono ?_); rintro e u0 ⟨rfl, k00⟩)
  have S1 := HB.out _ k00
  have S1' := HB.out _ k00.drew
  have kd0 := k00.drew
  clear K1
  go_wp2_with fail
  go_region_held3 (fun W => W.cell? ⟨w.heap.size, 0, none⟩ = some (.int .i64 b) ∧ W.cell? ⟨w.heap.size, 1, none⟩ = some (.int .i64 l) ∧ W.cell? ⟨w.heap.size, 2, none⟩ = some (.int .i64 p) ∧ W.cell? ⟨w.heap.size, 3, none⟩ = some (.int .i64 q) ∧ W.cell? ⟨w.heap.size, 4, none⟩ = some (.int .u8 k) ∧ W.cell? ⟨w.heap.size, 5, none⟩ = some (.string d))
    (first | assumption | exact HB.out _ ‹_›)
    (first
      | (go_at_call 20; (with_reducible refine (cB _).mono ?_); rintro e u1 ⟨rfl, k1⟩; have k1 := Kept.trans kd0 k1)
      | (go_at_call 20; (with_reducible refine (cL _).mono ?_); rintro e u2 ⟨rfl, k2⟩; have k2 := Kept.trans k1 k2)
      | (go_at_call 20; (with_reducible refine (cP _).mono ?_); rintro e u3 ⟨rfl, k3⟩; have k3 := Kept.trans k2 k3))
  have S1 := HB.out _ k3
  have S1' := HB.out _ k3.drew
  have kd1 := k3.drew
  clear S1 S1' cB cL cP aBL aN k1 k2 k3
  go_wp2_with fail
  go_region_held3 (fun W => W.cell? ⟨w.heap.size, 0, none⟩ = some (.int .i64 b) ∧ W.cell? ⟨w.heap.size, 1, none⟩ = some (.int .i64 l) ∧ W.cell? ⟨w.heap.size, 2, none⟩ = some (.int .i64 p) ∧ W.cell? ⟨w.heap.size, 3, none⟩ = some (.int .i64 q) ∧ W.cell? ⟨w.heap.size, 4, none⟩ = some (.int .u8 k) ∧ W.cell? ⟨w.heap.size, 5, none⟩ = some (.string d))
    (first | assumption | exact HB.out _ ‹_›)
    (first
      | (go_at_call 20; (with_reducible refine (cQ _).mono ?_); rintro e u4 ⟨rfl, k4⟩; have k4 := Kept.trans kd1 k4)
      | (go_at_call 20; (with_reducible refine (cK _).mono ?_); rintro e u5 ⟨rfl, k5⟩; have k5 := Kept.trans k4 k5)
      | (go_at_call 20; (with_reducible refine (cD _).mono ?_); rintro e u6 ⟨rfl, k6⟩; have k6 := Kept.trans k5 k6))
  have S1 := HB.out _ k6
  obtain ⟨_, _, _, _, _, _⟩ := S1
  clear S1' cQ cK cD aNQ aNK aH k4 k5
  go_wp2_with (go_at_call 21; (with_reducible refine (cS _).mono ?_); rintro e u8 ⟨rfl, k8⟩; have k8 := k6.trans k8)
  have S1 := HB.out _ k8
  have S1' := HB.out _ k8.drew
  have kd2 := k8.drew
  clear cS k6 kd1
  go_wp2_with fail
  go_region_held3 (fun W => W.cell? ⟨w.heap.size, 0, none⟩ = some (.int .i64 b) ∧ W.cell? ⟨w.heap.size, 1, none⟩ = some (.int .i64 l) ∧ W.cell? ⟨w.heap.size, 2, none⟩ = some (.int .i64 p) ∧ W.cell? ⟨w.heap.size, 3, none⟩ = some (.int .i64 q) ∧ W.cell? ⟨w.heap.size, 4, none⟩ = some (.int .u8 k) ∧ W.cell? ⟨w.heap.size, 5, none⟩ = some (.string d))
    (first | assumption | exact HB.out _ ‹_›)
    (first
      | (go_at_call 20; (with_reducible refine (cX _).mono ?_); rintro e u9 ⟨rfl, k9⟩; have k9 := Kept.trans kd2 k9)
      | (go_at_call 22; (with_reducible refine (cZ _).mono ?_); rintro e u10 ⟨rfl, k10⟩; have k10 := Kept.trans k9 k10))
  go_wp2_with fail
  go_ret2
  exact ⟨rfl, HK.out.trans k10⟩
theorem recG (f : Fr) (h : f.good) (hk : f.kind < 256) : ∃ sB sL sP sQ sK sD sBL sN sNQ sNK sH sHD sX sHX sT sZ sTZ N1 Z, RecG f.boot f.lsn f.part f.parts f.kind f.data sB sL sP sQ sK sD sBL sN sNQ sNK sH sHD sX sHX sT sZ sTZ (str f.sec) N1 Z := by
  have b1 := h.b1; have b2 := h.b2; have c1 := h.l1; have c2 := h.l2; have d1 := h.q1; have d2 := h.q2; have g1 := h.p1; have g2 := h.p2; have z := h.short
  have nl := name_len f
  have hl := head_len f
  have dl := size_list f.data
  have sm := f.sum.isLt
  have ed : f.data = str f.data.data.toList := (str_list f.data).symm
  refine ⟨str (be f.boot.toNat 4), str (be f.lsn.toNat 6), str (be f.part.toNat 1), str (be f.parts.toNat 1), str (be f.kind 1), str (be f.data.size 1), str (be f.boot.toNat 4 ++ be f.lsn.toNat 6), str f.name, str (f.name ++ be f.parts.toNat 1), str (f.name ++ be f.parts.toNat 1 ++ be f.kind 1), str f.head, str (f.head ++ f.data.data.toList), str (be f.sum.toNat 4), str (f.head ++ be f.sum.toNat 4), str (f.head ++ be f.sum.toNat 4 ++ f.data.data.toList), str (List.replicate (51 - f.data.size) 0), str (f.head ++ be f.sum.toNat 4 ++ f.data.data.toList ++ List.replicate (51 - f.data.size) 0), Crc.num f.sum, ((51 - f.data.size : Nat) : Int), ?_⟩
  exact {
    cB := rfixed_i f.boot 4 (by omega) (by omega) (by decide) (by decide) (by omega)
    cL := rfixed_i f.lsn 6 (by omega) (by omega) (by decide) (by decide) (by omega)
    cP := rfixed_i f.part 1 (by omega) (by omega) (by decide) (by decide) (by omega)
    cQ := rfixed_i f.parts 1 (by omega) (by omega) (by decide) (by decide) (by omega)
    cK := rfixed_n f.kind 1 (by omega) (by decide) (by decide) (by omega)
    cD := rfixed_n f.data.size 1 (by omega) (by decide) (by decide) (by omega)
    aBL := cat_c _ _ _ rfl (by rw [be_length, be_length]; omega)
    aN := cat_c _ _ _ (by unfold Fr.name; rw [List.append_assoc]) (by rw [List.length_append, be_length, be_length, be_length]; omega)
    aNQ := cat_c _ _ _ rfl (by rw [nl, be_length]; omega)
    aNK := cat_c _ _ _ rfl (by rw [List.length_append, nl, be_length, be_length]; omega)
    aH := cat_c _ _ _ (by unfold Fr.head; simp only [List.append_assoc]) (by rw [List.length_append, List.length_append, nl, be_length, be_length, be_length]; omega)
    aHD := fun w => by
      have := cat_c f.head f.data.data.toList _ rfl (by rw [hl]; omega) w
      rwa [← ed] at this
    cS := fun w => by
      refine (Crc.ref_sum (str (f.head ++ f.data.data.toList)) w (by rw [size_str, List.length_append, hl]; unfold maxLen; omega)).mono fun e w' ⟨h1, h2⟩ => ?_
      rw [list_str] at h1
      exact ⟨h1, h2 ▸ Kept.refl w⟩
    n0 := Crc.num_lo _
    n1 := Crc.num_hi _
    cX := fun w => rfixed_n f.sum.toNat 4 (by omega) (by decide) (by decide) (by omega) w
    aHX := cat_c _ _ _ rfl (by rw [hl, be_length]; omega)
    aT := fun w => by
      have := cat_c (f.head ++ be f.sum.toNat 4) f.data.data.toList _ rfl (by rw [List.length_append, hl, be_length]; omega) w
      rwa [← ed] at this
    tZ := by omega
    cZ := fun w => rzeros_c (51 - f.data.size) (by omega) w
    aTZ := cat_c _ _ _ rfl (by rw [List.length_append, List.length_append, hl, be_length, List.length_replicate]; omega)
    aR := cat_c _ _ _ (by unfold Fr.sec; simp only [List.append_assoc]) (by rw [List.length_append, List.length_append, List.length_append, hl, nl, be_length, List.length_replicate]; omega) }
set_option maxHeartbeats 4000000 in
set_option maxRecDepth 100000 in
/-- Encode of the specification. -/
theorem rencode_c (f : Fr) (hk : f.kind < 256) (hz : f.data.size ≤ maxLen) (w : World) :
    Calls Try.prog 11 #[.agg #[.int .i64 f.boot, .int .i64 f.lsn, .int .i64 f.part, .int .i64 f.parts, .int .u8 f.kind, .string f.data]] w fun e w' => e = .returned (.tuple #[.string f.enc, .int .i64 f.err]) ∧ Kept w w' := by
  have cc := rcheck_c f hz
  by_cases he : f.err = 0
  · have hg := f.err_zero.mp he
    rw [he] at cc
    rw [he, Fr.enc_good hg]
    obtain ⟨_, _, _, _, _, _, _, _, _, _, _, _, _, _, _, _, _, _, _, G⟩ := recG f hg hk
    exact rencode_g G hk hg.short w cc
  · have hc : f.enc = ⟨#[]⟩ := Fr.enc_bad he
    rw [hc]
    have t1 : (f.err != 0) = true := bne_iff_ne.mpr he
    obtain ⟨E, hE⟩ : ∃ E, E = f.err := ⟨_, rfl⟩
    rw [← hE] at cc t1 ⊢
    clear hc hE he hz
    obtain ⟨b, l, p, q, k, d⟩ := f
    have hk0 := Kept.alloc (Kept.refl w) (.cells #[.int .i64 b, .int .i64 l, .int .i64 p, .int .i64 q, .int .u8 k, .string d] 23)
    dsimp only at cc hk ⊢
    go_enter Try.func11, Try.ntmps11
    go_wp2_with (go_at_call 19; (with_reducible refine (cc _).mono ?_); rintro e u0 ⟨rfl, k00⟩)
    go_ret2
    exact ⟨rfl, hk0.trans k00⟩
end Go.Proofs.Ytnpjmjnekakgeaa.Fk
