/-
  What the specification's calls of layer 5 do: Fixed, Number, Zeros, Check, Encode.
  What the specification's Encode does.
  What the specification's Decode does.
  The specification's Decode, whole.
-/
import Derived.Test.YtckbhjjflpobbaaGreatFb
import Derived.Test.YtckbhjjflpobbaaGreatCb
import Derived.Test.YtckbhjjflpobbaaGreatPb
import Derived.Deep.RegionHeld3
namespace Go.Proofs.YtckbhjjflpobbaaGreat.Fk
open Go.RowKit Go.Proofs.YtckbhjjflpobbaaGreat.Mem Go.Proofs.YtckbhjjflpobbaaGreat.Pk

theorem rfixed_n (n k : Nat) (h : n < 9223372036854775808) (h1 : 1 ≤ k) (h8 : k ≤ 8) (hw : n < 256 ^ k) (w : World) :
    Calls Tryz.prog 86 #[.int .i64 n, .int .i64 k] w fun e w' => e = .returned (.string (str (be n k))) ∧ Kept w w' := by
  have hc : ∀ w, Calls Tryz.prog 103 #[.int .u64 n, .int .i64 k] w fun e w' => e = .returned (.tuple #[.string (str (be n k)), .int .i64 0]) ∧ Kept w w' :=
    rfixed_ok n k (by unfold U64; omega) h1 h8 (wd_least h1 h8 hw)
  obtain ⟨S, hS⟩ : ∃ S, S = str (be n k) := ⟨_, rfl⟩
  rw [← hS] at hc ⊢
  clear hS hw
  go_enter Tryz.func86, Tryz.ntmps86
  go_wp2_with (go_at_call 103; (with_reducible refine (hc _).mono ?_); rintro e w' ⟨rfl, hk⟩)
  go_ret
  exact ⟨rfl, hk⟩
theorem rfixed_i (n : Int) (k : Nat) (h0 : 0 ≤ n) (h : n.toNat < 9223372036854775808) (h1 : 1 ≤ k) (h8 : k ≤ 8) (hw : n.toNat < 256 ^ k) (w : World) :
    Calls Tryz.prog 86 #[.int .i64 n, .int .i64 k] w fun e w' => e = .returned (.string (str (be n.toNat k))) ∧ Kept w w' := by
  have := rfixed_n n.toNat k h h1 h8 hw w
  rwa [Int.toNat_of_nonneg h0] at this
theorem rzeros_c (n : Nat) (hn : n ≤ 65536) (w : World) : Calls Tryz.prog 88 #[.int .i64 n] w fun e w' => e = .returned (.string (str (List.replicate n 0))) ∧ Kept w w' := by
  have hm := make_bytes n hn w
  have hs := bytes_str n w
  obtain ⟨S, hS⟩ : ∃ S, S = str (List.replicate n 0) := ⟨_, rfl⟩
  rw [← hS] at hs ⊢
  clear hS
  go_enter Tryz.func88, Tryz.ntmps88
  go_wp2
  go_ret
  exact ⟨rfl, (Kept.refl w).alloc _⟩
set_option maxHeartbeats 400000 in
theorem runfixed_s (s : ByteArray) (h1 : 1 ≤ s.size) (h8 : s.size ≤ 8) (w : World) : Calls Tryz.prog 109 #[.string s] w fun e w' => e = .returned (.tuple #[.int .u64 (val s.data.toList), .int .i64 0]) ∧ w = w' := by
  have H8 := Lib.hid h8
  have i8 : (s.size : Int) ≤ 8 := by omega
  have hd : decide ((s.size : Int) < 1) = false := by simp; omega
  have hd2 : decide (8 < (s.size : Int)) = false := by simp; omega
  clear h1 h8
  go_enter Tryz.func109, Tryz.ntmps109
  go_wp2
  go_loop [4, 5] (fun n i => ∃ j : Nat, j ≤ s.size ∧ i = .int .i64 j ∧ n = .int .u64 (val (s.data.toList.take j))) (fun _ i => s.size - (intOf i).toNat)
  case atStart => exact ⟨0, by omega, rfl, rfl⟩
  case round =>
    obtain ⟨j, hj, rfl, rfl⟩ := hrel
    by_cases hlt : j < s.size
    · go_wp2
      go_round
      case rel => exact ⟨j + 1, by omega, by go_num, val_un (add_step s j hlt H8.out)⟩
      case measure => simp [intOf]; omega
    · obtain rfl : j = s.size := by omega
      go_wp2
      go_ret2
      exact ⟨by rw [List.take_of_length_le (Nat.le_of_eq (size_list s))]; rfl, rfl⟩
theorem rnumber_s (s : ByteArray) (hs : 1 ≤ s.size ∧ s.size ≤ 6) (w : World) : Calls Tryz.prog 96 #[.string s] w fun e w' => e = .returned (.int .i64 (val s.data.toList)) ∧ w = w' := by
  have hc := runfixed_s s (by omega) (by omega)
  have hv : val s.data.toList < 281474976710656 := Nat.lt_of_lt_of_le (val_lt s.size _ (size_list s)) (Nat.pow_le_pow_right (n := 256) (by decide) hs.2)
  obtain ⟨v, hV⟩ : ∃ v, v = val s.data.toList := ⟨_, rfl⟩
  rw [← hV] at hc hv ⊢
  clear hV hs
  go_enter Tryz.func96, Tryz.ntmps96
  go_wp2_with (go_at_call 109; (with_reducible refine (hc _).mono ?_); rintro e w' ⟨rfl, rfl⟩)
  go_ret
  exact ⟨rfl, rfl⟩

theorem rnumber_c (s : ByteArray) (hs : 1 ≤ s.size ∧ s.size ≤ 6) (w : World) : Calls Tryz.prog 96 #[.string s] w fun e w' => e = .returned (.int .i64 (val s.data.toList)) ∧ Kept w w' :=
  (rnumber_s s hs w).mono fun _ _ ⟨h1, h2⟩ => ⟨h1, h2 ▸ Kept.refl w⟩

theorem err5 {f : Fr} (h : 44 < f.data.size) : f.err = 5 := by unfold Fr.err; rw [if_pos h]
theorem err0 {f : Fr} (h : f.data.size ≤ 44) (h2 : (1 ≤ f.boot ∧ f.boot ≤ 4294967295) ∧ (1 ≤ f.lsn ∧ f.lsn ≤ 281474976710655) ∧ (1 ≤ f.parts ∧ f.parts ≤ 255) ∧ 0 ≤ f.part ∧ f.part ≤ f.parts - 1) : f.err = 0 := by
  unfold Fr.err; rw [if_neg (by omega), if_pos (f.nums_iff.mpr h2)]
theorem err2 {f : Fr} (h : f.data.size ≤ 44) (h2 : ¬ ((1 ≤ f.boot ∧ f.boot ≤ 4294967295) ∧ (1 ≤ f.lsn ∧ f.lsn ≤ 281474976710655) ∧ (1 ≤ f.parts ∧ f.parts ≤ 255) ∧ 0 ≤ f.part ∧ f.part ≤ f.parts - 1)) : f.err = 2 := by
  unfold Fr.err; rw [if_neg (by omega), if_neg (fun h => h2 (f.nums_iff.mp h))]
set_option maxRecDepth 100000 in
theorem rcheck_c (f : Fr) (hz : f.data.size ≤ maxLen) (w : World) :
    Calls Tryz.prog 100 #[.agg #[.int .i64 f.boot, .int .i64 f.lsn, .int .i64 f.part, .int .i64 f.parts, .int .u8 f.kind, .string f.data]] w fun e w' => e = .returned (.int .i64 f.err) ∧ Kept w w' := by
  unfold maxLen at hz
  obtain ⟨b, l, p, q, k, d⟩ := f
  dsimp only at hz ⊢
  have hk0 := Kept.alloc (Kept.refl w) (.cells #[.int .i64 b, .int .i64 l, .int .i64 p, .int .i64 q, .int .u8 k, .string d] 113)
  go_enter Tryz.func100, Tryz.ntmps100
  go_wp2
  all_goals
    go_ret
    first
      | (rw [err5 (f := ⟨b, l, p, q, k, d⟩) (by dsimp only; omega)]; exact ⟨rfl, hk0⟩)
      | (rw [err0 (f := ⟨b, l, p, q, k, d⟩) (by dsimp only; omega) (by dsimp only; omega)]; exact ⟨rfl, hk0⟩)
      | (rw [err2 (f := ⟨b, l, p, q, k, d⟩) (by dsimp only; omega) (by dsimp only; omega)]; exact ⟨rfl, hk0⟩)
end Go.Proofs.YtckbhjjflpobbaaGreat.Fk

namespace Go.Proofs.YtckbhjjflpobbaaGreat.Fk
open Go.RowKit Go.Proofs.YtckbhjjflpobbaaGreat.Mem Go.Proofs.YtckbhjjflpobbaaGreat.Pk

/-- What the specification's Encode takes: the pieces, and what each call returns. -/
structure RecG (b l p q : Int) (k : Nat) (d sB sL sP sQ sK sD sBL sN sNQ sNK sH sHD sX sHX sT sZ sTZ sR : ByteArray) (N1 Z : Int) : Prop where
  cB : ∀ w, Calls Tryz.prog 86 #[.int .i64 b, .int .i64 4] w fun e w' => e = .returned (.string sB) ∧ Kept w w'
  cL : ∀ w, Calls Tryz.prog 86 #[.int .i64 l, .int .i64 6] w fun e w' => e = .returned (.string sL) ∧ Kept w w'
  cP : ∀ w, Calls Tryz.prog 86 #[.int .i64 p, .int .i64 1] w fun e w' => e = .returned (.string sP) ∧ Kept w w'
  cQ : ∀ w, Calls Tryz.prog 86 #[.int .i64 q, .int .i64 1] w fun e w' => e = .returned (.string sQ) ∧ Kept w w'
  cK : ∀ w, Calls Tryz.prog 86 #[.int .i64 k, .int .i64 1] w fun e w' => e = .returned (.string sK) ∧ Kept w w'
  cD : ∀ w, Calls Tryz.prog 86 #[.int .i64 d.size, .int .i64 1] w fun e w' => e = .returned (.string sD) ∧ Kept w w'
  aBL : ∀ w, (Op.stringOp .add sB sL).run Tryz.prog w = .ok (.string sBL) w
  aN : ∀ w, (Op.stringOp .add sBL sP).run Tryz.prog w = .ok (.string sN) w
  aNQ : ∀ w, (Op.stringOp .add sN sQ).run Tryz.prog w = .ok (.string sNQ) w
  aNK : ∀ w, (Op.stringOp .add sNQ sK).run Tryz.prog w = .ok (.string sNK) w
  aH : ∀ w, (Op.stringOp .add sNK sD).run Tryz.prog w = .ok (.string sH) w
  aHD : ∀ w, (Op.stringOp .add sH d).run Tryz.prog w = .ok (.string sHD) w
  cS : ∀ w, Calls Tryz.prog 87 #[.string sHD] w fun e w' => e = .returned (.int .u32 N1) ∧ Kept w w'
  n0 : 0 ≤ N1
  n1 : N1 < 4294967296
  cX : ∀ w, Calls Tryz.prog 86 #[.int .i64 N1, .int .i64 4] w fun e w' => e = .returned (.string sX) ∧ Kept w w'
  aHX : ∀ w, (Op.stringOp .add sH sX).run Tryz.prog w = .ok (.string sHX) w
  aT : ∀ w, (Op.stringOp .add sHX d).run Tryz.prog w = .ok (.string sT) w
  tZ : 44 - (d.size : Int) + 7 = Z
  cZ : ∀ w, Calls Tryz.prog 88 #[.int .i64 Z] w fun e w' => e = .returned (.string sZ) ∧ Kept w w'
  aTZ : ∀ w, (Op.stringOp .add sT sZ).run Tryz.prog w = .ok (.string sTZ) w
  aR : ∀ w, (Op.stringOp .add sTZ sN).run Tryz.prog w = .ok (.string sR) w

set_option maxHeartbeats 4000000 in
set_option maxRecDepth 100000 in
theorem rencode_g {b l p q : Int} {k : Nat} {d sB sL sP sQ sK sD sBL sN sNQ sNK sH sHD sX sHX sT sZ sTZ sR : ByteArray} {N1 Z : Int} (G : RecG b l p q k d sB sL sP sQ sK sD sBL sN sNQ sNK sH sHD sX sHX sT sZ sTZ sR N1 Z) (k0 : k < 256) (dz : d.size ≤ 44) (w : World)
    (cc : ∀ w, Calls Tryz.prog 100 #[.agg #[.int .i64 b, .int .i64 l, .int .i64 p, .int .i64 q, .int .u8 k, .string d]] w fun e w' => e = .returned (.int .i64 0) ∧ Kept w w') :
    Calls Tryz.prog 82 #[.agg #[.int .i64 b, .int .i64 l, .int .i64 p, .int .i64 q, .int .u8 k, .string d]] w fun e w' => e = .returned (.tuple #[.string sR, .int .i64 0]) ∧ Kept w w' := by
  have wk : IntKind.i64.wrap (k : Int) = (k : Int) := by rw [IntKind.wrap_i64]; omega
  obtain ⟨cB, cL, cP, cQ, cK, cD, aBL, aN, aNQ, aNK, aH, aHD, cS, n0, n1, cX, aHX, aT, tZ, cZ, aTZ, aR⟩ := G
  have wn : IntKind.i64.wrap N1 = N1 := by rw [IntKind.wrap_i64]; omega
  have w1 : IntKind.i64.wrap (44 - (d.size : Int)) = 44 - (d.size : Int) := by rw [IntKind.wrap_i64]; omega
  have w2 : IntKind.i64.wrap Z = Z := by rw [IntKind.wrap_i64]; omega
  have hb0 := Box.start w 113 b l p q k d
  have hk0 := Kept.alloc (Kept.refl w) (.cells #[.int .i64 b, .int .i64 l, .int .i64 p, .int .i64 q, .int .u8 k, .string d] 113)
  obtain ⟨x, hx⟩ : ∃ x, x = w.alloc (.cells #[.int .i64 b, .int .i64 l, .int .i64 p, .int .i64 q, .int .u8 k, .string d] 113) := ⟨_, rfl⟩
  rw [← hx] at hb0 hk0
  have hB : ∀ W, Kept x W → W.cell? ⟨w.heap.size, 0, none⟩ = some (.int .i64 b) ∧ W.cell? ⟨w.heap.size, 1, none⟩ = some (.int .i64 l) ∧ W.cell? ⟨w.heap.size, 2, none⟩ = some (.int .i64 p) ∧ W.cell? ⟨w.heap.size, 3, none⟩ = some (.int .i64 q) ∧ W.cell? ⟨w.heap.size, 4, none⟩ = some (.int .u8 k) ∧ W.cell? ⟨w.heap.size, 5, none⟩ = some (.string d) := fun W hW => (hb0.kept hW).all
  have HB := Lib.hid hB
  have HK := Lib.hid hk0
  have K1 := Kept.refl x
  clear hb0 hB hk0
  go_enter Tryz.func82, Tryz.ntmps82
  go_wp2_with fail
  rw [← hx]
  clear hx
  go_wp2_with (go_at_call 100; (with_reducible refine (cc _).mono ?_); rintro e u0 ⟨rfl, k00⟩)
  have S1 := HB.out _ k00
  have S1' := HB.out _ k00.drew
  have kd0 := k00.drew
  clear K1
  go_wp2_with fail
  go_region_held3 (fun W => W.cell? ⟨w.heap.size, 0, none⟩ = some (.int .i64 b) ∧ W.cell? ⟨w.heap.size, 1, none⟩ = some (.int .i64 l) ∧ W.cell? ⟨w.heap.size, 2, none⟩ = some (.int .i64 p) ∧ W.cell? ⟨w.heap.size, 3, none⟩ = some (.int .i64 q) ∧ W.cell? ⟨w.heap.size, 4, none⟩ = some (.int .u8 k) ∧ W.cell? ⟨w.heap.size, 5, none⟩ = some (.string d))
    (first | assumption | exact HB.out _ ‹_›)
    (first
      | (go_at_call 86; (with_reducible refine (cB _).mono ?_); rintro e u1 ⟨rfl, k1⟩; have k1 := Kept.trans kd0 k1)
      | (go_at_call 86; (with_reducible refine (cL _).mono ?_); rintro e u2 ⟨rfl, k2⟩; have k2 := Kept.trans k1 k2)
      | (go_at_call 86; (with_reducible refine (cP _).mono ?_); rintro e u3 ⟨rfl, k3⟩; have k3 := Kept.trans k2 k3))
  have S1 := HB.out _ k3
  have S1' := HB.out _ k3.drew
  have kd1 := k3.drew
  clear S1 S1' cB cL cP aBL aN k1 k2 k3
  go_wp2_with fail
  go_region_held3 (fun W => W.cell? ⟨w.heap.size, 0, none⟩ = some (.int .i64 b) ∧ W.cell? ⟨w.heap.size, 1, none⟩ = some (.int .i64 l) ∧ W.cell? ⟨w.heap.size, 2, none⟩ = some (.int .i64 p) ∧ W.cell? ⟨w.heap.size, 3, none⟩ = some (.int .i64 q) ∧ W.cell? ⟨w.heap.size, 4, none⟩ = some (.int .u8 k) ∧ W.cell? ⟨w.heap.size, 5, none⟩ = some (.string d))
    (first | assumption | exact HB.out _ ‹_›)
    (first
      | (go_at_call 86; (with_reducible refine (cQ _).mono ?_); rintro e u4 ⟨rfl, k4⟩; have k4 := Kept.trans kd1 k4)
      | (go_at_call 86; (with_reducible refine (cK _).mono ?_); rintro e u5 ⟨rfl, k5⟩; have k5 := Kept.trans k4 k5)
      | (go_at_call 86; (with_reducible refine (cD _).mono ?_); rintro e u6 ⟨rfl, k6⟩; have k6 := Kept.trans k5 k6))
  have S1 := HB.out _ k6
  obtain ⟨_, _, _, _, _, _⟩ := S1
  clear S1' cQ cK cD aNQ aNK aH k4 k5
  go_wp2_with (go_at_call 87; (with_reducible refine (cS _).mono ?_); rintro e u8 ⟨rfl, k8⟩; have k8 := k6.trans k8)
  have S1 := HB.out _ k8
  have S1' := HB.out _ k8.drew
  have kd2 := k8.drew
  clear cS k6 kd1
  go_wp2_with fail
  go_region_held3 (fun W => W.cell? ⟨w.heap.size, 0, none⟩ = some (.int .i64 b) ∧ W.cell? ⟨w.heap.size, 1, none⟩ = some (.int .i64 l) ∧ W.cell? ⟨w.heap.size, 2, none⟩ = some (.int .i64 p) ∧ W.cell? ⟨w.heap.size, 3, none⟩ = some (.int .i64 q) ∧ W.cell? ⟨w.heap.size, 4, none⟩ = some (.int .u8 k) ∧ W.cell? ⟨w.heap.size, 5, none⟩ = some (.string d))
    (first | assumption | exact HB.out _ ‹_›)
    (first
      | (go_at_call 86; (with_reducible refine (cX _).mono ?_); rintro e u9 ⟨rfl, k9⟩; have k9 := Kept.trans kd2 k9)
      | (go_at_call 88; (with_reducible refine (cZ _).mono ?_); rintro e u10 ⟨rfl, k10⟩; have k10 := Kept.trans k9 k10))
  go_wp2_with fail
  go_ret2
  exact ⟨rfl, HK.out.trans k10⟩
theorem recG (f : Fr) (h : f.good) (hk : f.kind < 256) : ∃ sB sL sP sQ sK sD sBL sN sNQ sNK sH sHD sX sHX sT sZ sTZ N1 Z, RecG f.boot f.lsn f.part f.parts f.kind f.data sB sL sP sQ sK sD sBL sN sNQ sNK sH sHD sX sHX sT sZ sTZ (str f.sec) N1 Z := by
  have b1 := h.b1; have b2 := h.b2; have c1 := h.l1; have c2 := h.l2; have d1 := h.q1; have d2 := h.q2; have g1 := h.p1; have g2 := h.p2; have z := h.short
  have nl := name_len f
  have hl := head_len f
  have dl := size_list f.data
  have sm := f.sum.isLt
  have ed : f.data = str f.data.data.toList := (str_list f.data).symm
  refine ⟨str (be f.boot.toNat 4), str (be f.lsn.toNat 6), str (be f.part.toNat 1), str (be f.parts.toNat 1), str (be f.kind 1), str (be f.data.size 1), str (be f.boot.toNat 4 ++ be f.lsn.toNat 6), str f.name, str (f.name ++ be f.parts.toNat 1), str (f.name ++ be f.parts.toNat 1 ++ be f.kind 1), str f.head, str (f.head ++ f.data.data.toList), str (be f.sum.toNat 4), str (f.head ++ be f.sum.toNat 4), str (f.head ++ be f.sum.toNat 4 ++ f.data.data.toList), str (List.replicate (51 - f.data.size) 0), str (f.head ++ be f.sum.toNat 4 ++ f.data.data.toList ++ List.replicate (51 - f.data.size) 0), Crc.num f.sum, ((51 - f.data.size : Nat) : Int), ?_⟩
  exact {
    cB := rfixed_i f.boot 4 (by omega) (by omega) (by decide) (by decide) (by omega)
    cL := rfixed_i f.lsn 6 (by omega) (by omega) (by decide) (by decide) (by omega)
    cP := rfixed_i f.part 1 (by omega) (by omega) (by decide) (by decide) (by omega)
    cQ := rfixed_i f.parts 1 (by omega) (by omega) (by decide) (by decide) (by omega)
    cK := rfixed_n f.kind 1 (by omega) (by decide) (by decide) (by omega)
    cD := rfixed_n f.data.size 1 (by omega) (by decide) (by decide) (by omega)
    aBL := cat_c _ _ _ rfl (by rw [be_length, be_length]; omega)
    aN := cat_c _ _ _ (by unfold Fr.name; rw [List.append_assoc]) (by rw [List.length_append, be_length, be_length, be_length]; omega)
    aNQ := cat_c _ _ _ rfl (by rw [nl, be_length]; omega)
    aNK := cat_c _ _ _ rfl (by rw [List.length_append, nl, be_length, be_length]; omega)
    aH := cat_c _ _ _ (by unfold Fr.head; simp only [List.append_assoc]) (by rw [List.length_append, List.length_append, nl, be_length, be_length, be_length]; omega)
    aHD := fun w => by
      have := cat_c f.head f.data.data.toList _ rfl (by rw [hl]; omega) w
      rwa [← ed] at this
    cS := fun w => by
      refine (Crc.ref_sum (str (f.head ++ f.data.data.toList)) w (by rw [size_str, List.length_append, hl]; unfold maxLen; omega)).mono fun e w' ⟨h1, h2⟩ => ?_
      rw [list_str] at h1
      exact ⟨h1, h2 ▸ Kept.refl w⟩
    n0 := Crc.num_lo _
    n1 := Crc.num_hi _
    cX := fun w => rfixed_n f.sum.toNat 4 (by omega) (by decide) (by decide) (by omega) w
    aHX := cat_c _ _ _ rfl (by rw [hl, be_length]; omega)
    aT := fun w => by
      have := cat_c (f.head ++ be f.sum.toNat 4) f.data.data.toList _ rfl (by rw [List.length_append, hl, be_length]; omega) w
      rwa [← ed] at this
    tZ := by omega
    cZ := fun w => rzeros_c (51 - f.data.size) (by omega) w
    aTZ := cat_c _ _ _ rfl (by rw [List.length_append, List.length_append, hl, be_length, List.length_replicate]; omega)
    aR := cat_c _ _ _ (by unfold Fr.sec; simp only [List.append_assoc]) (by rw [List.length_append, List.length_append, List.length_append, hl, nl, be_length, List.length_replicate]; omega) }
set_option maxHeartbeats 4000000 in
set_option maxRecDepth 100000 in
/-- Encode of the specification. -/
theorem rencode_c (f : Fr) (hk : f.kind < 256) (hz : f.data.size ≤ maxLen) (w : World) :
    Calls Tryz.prog 82 #[.agg #[.int .i64 f.boot, .int .i64 f.lsn, .int .i64 f.part, .int .i64 f.parts, .int .u8 f.kind, .string f.data]] w fun e w' => e = .returned (.tuple #[.string f.enc, .int .i64 f.err]) ∧ Kept w w' := by
  have cc := rcheck_c f hz
  by_cases he : f.err = 0
  · have hg := f.err_zero.mp he
    rw [he] at cc
    rw [he, Fr.enc_good hg]
    obtain ⟨_, _, _, _, _, _, _, _, _, _, _, _, _, _, _, _, _, _, _, G⟩ := recG f hg hk
    exact rencode_g G hk hg.short w cc
  · have hc : f.enc = ⟨#[]⟩ := Fr.enc_bad he
    rw [hc]
    have t1 : (f.err != 0) = true := bne_iff_ne.mpr he
    obtain ⟨E, hE⟩ : ∃ E, E = f.err := ⟨_, rfl⟩
    rw [← hE] at cc t1 ⊢
    clear hc hE he hz
    obtain ⟨b, l, p, q, k, d⟩ := f
    have hk0 := Kept.alloc (Kept.refl w) (.cells #[.int .i64 b, .int .i64 l, .int .i64 p, .int .i64 q, .int .u8 k, .string d] 113)
    dsimp only at cc hk ⊢
    go_enter Tryz.func82, Tryz.ntmps82
    go_wp2_with (go_at_call 100; (with_reducible refine (cc _).mono ?_); rintro e u0 ⟨rfl, k00⟩)
    go_ret2
    exact ⟨rfl, hk0.trans k00⟩
end Go.Proofs.YtckbhjjflpobbaaGreat.Fk

namespace Go.Proofs.YtckbhjjflpobbaaGreat.Fk
open Go.RowKit Go.Proofs.YtckbhjjflpobbaaGreat.Mem Go.Proofs.YtckbhjjflpobbaaGreat.Pk

/-- What the specification's Decode takes. -/
structure RdG (s x4 x6 xd : ByteArray) (b l : Int) (p q k z y : Nat) : Prop where
  sz : s.size = 80
  i10 : ∀ w : World, (Instr.index 9 (.string s) (.int .i64 10)).run Tryz.prog w = .ok (.int .u8 (p : Int)) w
  i11 : ∀ w : World, (Instr.index 9 (.string s) (.int .i64 11)).run Tryz.prog w = .ok (.int .u8 (q : Int)) w
  i12 : ∀ w : World, (Instr.index 9 (.string s) (.int .i64 12)).run Tryz.prog w = .ok (.int .u8 (k : Int)) w
  i13 : ∀ w : World, (Instr.index 9 (.string s) (.int .i64 13)).run Tryz.prog w = .ok (.int .u8 (z : Int)) w
  hp : p < 256
  hq : q < 256
  hk : k < 256
  hz : z < 256
  e4 : s.extract 0 4 = x4
  e6 : s.extract 4 10 = x6
  hy : 18 + (z : Int) = (y : Int)
  ed : s.extract 18 y = xd
  c4 : ∀ w, Calls Tryz.prog 96 #[.string x4] w fun e w' => e = .returned (.int .i64 b) ∧ w = w'
  c6 : ∀ w, Calls Tryz.prog 96 #[.string x6] w fun e w' => e = .returned (.int .i64 l) ∧ w = w'

set_option maxHeartbeats 4000000 in
set_option maxRecDepth 100000 in
theorem rdecode_g {s x4 x6 xd : ByteArray} {b l : Int} {p q k z y : Nat} (G : RdG s x4 x6 xd b l p q k z y) (hs : z ≤ 44) (w : World)
    (ce : ∀ w, Calls Tryz.prog 82 #[.agg #[.int .i64 b, .int .i64 l, .int .i64 p, .int .i64 q, .int .u8 k, .string xd]] w fun e w' => e = .returned (.tuple #[.string s, .int .i64 0]) ∧ Kept w w') :
    Calls Tryz.prog 77 #[.string s] w fun e w' => e = .returned (.tuple #[.agg #[.int .i64 b, .int .i64 l, .int .i64 p, .int .i64 q, .int .u8 k, .string xd], .int .i64 0]) ∧ Kept w w' := by
  obtain ⟨sz, i10, i11, i12, i13, hp, hq, hk, hz, e4, e6, hy, ed, c4, c6⟩ := G
  have y1 : (18 : Int) ≤ (y : Int) := by omega
  have y2 : (y : Int) ≤ (s.size : Int) := by omega
  have y3 : (y : Int) ≤ 80 := by omega
  have t1 : ((s.size : Int) != 80) = false := by rw [sz]; rfl
  have t2 : decide (44 < (z : Int)) = false := by simp; omega
  have b1 : (s.size : Int) = 80 := by omega
  have hx1 : Kept w (w.alloc (.cells #[.int .i64 0, .int .i64 0, .int .i64 0, .int .i64 0, .int .u8 0, .string ⟨#[]⟩] 113)) := (Kept.refl w).alloc _
  have hR0 := (MapKept.heap_alloc w (.cells (fcells 0 0 0 0 0 ⟨#[]⟩) 113)).1
  obtain ⟨x, hx⟩ : ∃ x, x = w.alloc (.cells #[.int .i64 0, .int .i64 0, .int .i64 0, .int .i64 0, .int .u8 0, .string ⟨#[]⟩] 113) := ⟨_, rfl⟩
  have hR : x.heap[w.heap.size]? = some (.cells (fcells 0 0 0 0 0 ⟨#[]⟩) 113 (0, 0)) := by rw [hx]; exact hR0
  rw [← hx] at hx1
  have HR := Lib.hid (And.intro hx1 hR)
  have hbx := (Box.start x 113 b l p q k xd).kept (Kept.refl _).drew
  have hRx := (((Kept.refl x).alloc (.cells #[.int .i64 b, .int .i64 l, .int .i64 (p : Int), .int .i64 (q : Int), .int .u8 (k : Int), .string xd] 113)).drew).at HR.out.2
  have HX := Lib.hid (And.intro hbx hRx)
  clear hx1 hR0 hR hbx hRx
  have wp : IntKind.i64.wrap (p : Int) = (p : Int) := by rw [IntKind.wrap_i64]; omega
  have wq : IntKind.i64.wrap (q : Int) = (q : Int) := by rw [IntKind.wrap_i64]; omega
  have wz : IntKind.i64.wrap (z : Int) = (z : Int) := by rw [IntKind.wrap_i64]; omega
  have wz2 : IntKind.i64.wrap (y : Int) = (y : Int) := by rw [IntKind.wrap_i64]; omega
  go_enter Tryz.func77, Tryz.ntmps77
  go_wp2
  rw [← hx]
  clear hx
  refine wp_region_noPanic ?_
  refine wp_region_held_drew (S := fun _ => True) (by kernel_rfl) trivial (fun _ => ?_)
  refine wpAnyH_take (i := 0) (oi := { dst := some 17, op := .move (.tmp 0), type := 9, pos := _, after := _, guard := none }) (v := .string s) rfl (by kernel_rfl) (by kernel_rfl) (by kernel_rfl) (fun _ _ _ h => h) (Or.inl ⟨by rfl, fun w1 _ => by go_simp⟩) trivial ?_
  simp only [Act.put, List.setIfInBounds_toArray, List.set_cons_zero, List.set_cons_succ]
  refine wpAnyH_take (i := 1) (oi := { dst := some 18, op := .slice 9 (.tmp 17) none (some (.const (.int .i64 4))) none, type := 9, pos := _, after := _, guard := none }) (v := .string x4) rfl (by kernel_rfl) (by kernel_rfl) (by kernel_rfl) (fun _ _ _ h => h) (Or.inl ⟨by rfl, fun w1 _ => by go_simp⟩) trivial ?_
  simp only [Act.put, List.setIfInBounds_toArray, List.set_cons_zero, List.set_cons_succ]
  refine wpAnyH_take (i := 3) (oi := { dst := some 20, op := .move (.tmp 0), type := 9, pos := _, after := _, guard := none }) (v := .string s) rfl (by kernel_rfl) (by kernel_rfl) (by kernel_rfl) (fun _ _ _ h => h) (Or.inl ⟨by rfl, fun w1 _ => by go_simp⟩) trivial ?_
  simp only [Act.put, List.setIfInBounds_toArray, List.set_cons_zero, List.set_cons_succ]
  refine wpAnyH_take (i := 4) (oi := { dst := some 21, op := .slice 9 (.tmp 20) (some (.const (.int .i64 4))) (some (.const (.int .i64 10))) none, type := 9, pos := _, after := _, guard := none }) (v := .string x6) rfl (by kernel_rfl) (by kernel_rfl) (by kernel_rfl) (fun _ _ _ h => h) (Or.inl ⟨by rfl, fun w1 _ => by go_simp⟩) trivial ?_
  simp only [Act.put, List.setIfInBounds_toArray, List.set_cons_zero, List.set_cons_succ]
  refine wpAnyH_take (i := 6) (oi := { dst := some 23, op := .move (.tmp 0), type := 9, pos := _, after := _, guard := none }) (v := .string s) rfl (by kernel_rfl) (by kernel_rfl) (by kernel_rfl) (fun _ _ _ h => h) (Or.inl ⟨by rfl, fun w1 _ => by go_simp⟩) trivial ?_
  simp only [Act.put, List.setIfInBounds_toArray, List.set_cons_zero, List.set_cons_succ]
  refine wpAnyH_take (i := 7) (oi := { dst := some 24, op := .index 9 (.tmp 23) (.const (.int .i64 10)), type := 5, pos := _, after := _, guard := none }) (v := .int .u8 p) rfl (by kernel_rfl) (by kernel_rfl) (by kernel_rfl) (fun _ _ _ h => h) (Or.inl ⟨by rfl, fun w1 _ => by go_simp⟩) trivial ?_
  simp only [Act.put, List.setIfInBounds_toArray, List.set_cons_zero, List.set_cons_succ]
  refine wpAnyH_take (i := 8) (oi := { dst := some 25, op := .convert 5 3 (.tmp 24), type := 3, pos := _, after := _, guard := none }) (v := .int .i64 p) rfl (by kernel_rfl) (by kernel_rfl) (by kernel_rfl) (fun _ _ _ h => h) (Or.inl ⟨by rfl, fun w1 _ => by go_simp⟩) trivial ?_
  simp only [Act.put, List.setIfInBounds_toArray, List.set_cons_zero, List.set_cons_succ]
  refine wpAnyH_take (i := 9) (oi := { dst := some 26, op := .move (.tmp 0), type := 9, pos := _, after := _, guard := none }) (v := .string s) rfl (by kernel_rfl) (by kernel_rfl) (by kernel_rfl) (fun _ _ _ h => h) (Or.inl ⟨by rfl, fun w1 _ => by go_simp⟩) trivial ?_
  simp only [Act.put, List.setIfInBounds_toArray, List.set_cons_zero, List.set_cons_succ]
  refine wpAnyH_take (i := 10) (oi := { dst := some 27, op := .index 9 (.tmp 26) (.const (.int .i64 11)), type := 5, pos := _, after := _, guard := none }) (v := .int .u8 q) rfl (by kernel_rfl) (by kernel_rfl) (by kernel_rfl) (fun _ _ _ h => h) (Or.inl ⟨by rfl, fun w1 _ => by go_simp⟩) trivial ?_
  simp only [Act.put, List.setIfInBounds_toArray, List.set_cons_zero, List.set_cons_succ]
  refine wpAnyH_take (i := 11) (oi := { dst := some 28, op := .convert 5 3 (.tmp 27), type := 3, pos := _, after := _, guard := none }) (v := .int .i64 q) rfl (by kernel_rfl) (by kernel_rfl) (by kernel_rfl) (fun _ _ _ h => h) (Or.inl ⟨by rfl, fun w1 _ => by go_simp⟩) trivial ?_
  simp only [Act.put, List.setIfInBounds_toArray, List.set_cons_zero, List.set_cons_succ]
  refine wpAnyH_take (i := 12) (oi := { dst := some 29, op := .move (.tmp 0), type := 9, pos := _, after := _, guard := none }) (v := .string s) rfl (by kernel_rfl) (by kernel_rfl) (by kernel_rfl) (fun _ _ _ h => h) (Or.inl ⟨by rfl, fun w1 _ => by go_simp⟩) trivial ?_
  simp only [Act.put, List.setIfInBounds_toArray, List.set_cons_zero, List.set_cons_succ]
  refine wpAnyH_take (i := 13) (oi := { dst := some 30, op := .index 9 (.tmp 29) (.const (.int .i64 12)), type := 5, pos := _, after := _, guard := none }) (v := .int .u8 k) rfl (by kernel_rfl) (by kernel_rfl) (by kernel_rfl) (fun _ _ _ h => h) (Or.inl ⟨by rfl, fun w1 _ => by go_simp⟩) trivial ?_
  simp only [Act.put, List.setIfInBounds_toArray, List.set_cons_zero, List.set_cons_succ]
  refine wpAnyH_take (i := 14) (oi := { dst := some 31, op := .move (.tmp 0), type := 9, pos := _, after := _, guard := none }) (v := .string s) rfl (by kernel_rfl) (by kernel_rfl) (by kernel_rfl) (fun _ _ _ h => h) (Or.inl ⟨by rfl, fun w1 _ => by go_simp⟩) trivial ?_
  simp only [Act.put, List.setIfInBounds_toArray, List.set_cons_zero, List.set_cons_succ]
  refine wpAnyH_take (i := 15) (oi := { dst := some 32, op := .move (.tmp 0), type := 9, pos := _, after := _, guard := none }) (v := .string s) rfl (by kernel_rfl) (by kernel_rfl) (by kernel_rfl) (fun _ _ _ h => h) (Or.inl ⟨by rfl, fun w1 _ => by go_simp⟩) trivial ?_
  simp only [Act.put, List.setIfInBounds_toArray, List.set_cons_zero, List.set_cons_succ]
  refine wpAnyH_take (i := 16) (oi := { dst := some 33, op := .index 9 (.tmp 32) (.const (.int .i64 13)), type := 5, pos := _, after := _, guard := none }) (v := .int .u8 z) rfl (by kernel_rfl) (by kernel_rfl) (by kernel_rfl) (fun _ _ _ h => h) (Or.inl ⟨by rfl, fun w1 _ => by go_simp⟩) trivial ?_
  simp only [Act.put, List.setIfInBounds_toArray, List.set_cons_zero, List.set_cons_succ]
  refine wpAnyH_take (i := 17) (oi := { dst := some 34, op := .convert 5 3 (.tmp 33), type := 3, pos := _, after := _, guard := none }) (v := .int .i64 z) rfl (by kernel_rfl) (by kernel_rfl) (by kernel_rfl) (fun _ _ _ h => h) (Or.inl ⟨by rfl, fun w1 _ => by go_simp⟩) trivial ?_
  simp only [Act.put, List.setIfInBounds_toArray, List.set_cons_zero, List.set_cons_succ]
  refine wpAnyH_take (i := 18) (oi := { dst := some 35, op := .binOp .add 3 (.const (.int .i64 18)) (.tmp 34) 3, type := 3, pos := _, after := _, guard := none }) (v := .int .i64 y) rfl (by kernel_rfl) (by kernel_rfl) (by kernel_rfl) (fun _ _ _ h => h) (Or.inl ⟨by rfl, fun w1 _ => by go_simp⟩) trivial ?_
  simp only [Act.put, List.setIfInBounds_toArray, List.set_cons_zero, List.set_cons_succ]
  refine wpAnyH_take (i := 19) (oi := { dst := some 36, op := .slice 9 (.tmp 31) (some (.const (.int .i64 18))) (some (.tmp 35)) none, type := 9, pos := _, after := _, guard := none }) (v := .string xd) rfl (by kernel_rfl) (by kernel_rfl) (by kernel_rfl) (fun _ _ _ h => h) (Or.inl ⟨by rfl, fun w1 _ => by go_simp⟩) trivial ?_
  simp only [Act.put, List.setIfInBounds_toArray, List.set_cons_zero, List.set_cons_succ]
  refine wpAnyH_ready (rs := [2, 21]) (by kernel_rfl) (by simp) ?_
  refine AllReadyH.cons (o := { dst := some 19, op := .call { callee := .value (.func 96), args := #[.tmp 18], argTypes := #[9] }, type := 3, pos := _, after := _, guard := none }) rfl (fun K hK => ?_) ?_
  · go_simp
    go_at_call 96
    (with_reducible refine (c4 _).mono ?_)
    rintro e u ⟨rfl, rfl⟩
    go_wp2_with fail
    refine hK.out _ _ trivial (fun _ => ?_)
    clear hK K
    try simp only [Act.put, List.setIfInBounds_toArray, List.set_cons_zero, List.set_cons_succ]
    refine wpAnyH_ready (rs := [5, 21]) (by kernel_rfl) (by simp) ?_
    refine AllReadyH.cons (o := { dst := some 22, op := .call { callee := .value (.func 96), args := #[.tmp 21], argTypes := #[9] }, type := 3, pos := _, after := _, guard := none }) rfl (fun K hK => ?_) ?_
    · go_simp
      go_at_call 96
      (with_reducible refine (c6 _).mono ?_)
      rintro e u ⟨rfl, rfl⟩
      go_wp2_with fail
      refine hK.out _ _ trivial (fun _ => ?_)
      clear hK K
      try simp only [Act.put, List.setIfInBounds_toArray, List.set_cons_zero, List.set_cons_succ]
      refine wpAnyH_take (i := 20) (oi := { dst := some 37, op := .build 113 #[(0, .tmp 19), (1, .tmp 22), (2, .tmp 25), (3, .tmp 28), (4, .tmp 30), (5, .tmp 36)], type := 113, pos := _, after := _, guard := none }) (v := .agg #[.int .i64 b, .int .i64 l, .int .i64 p, .int .i64 q, .int .u8 k, .string xd]) rfl (by kernel_rfl) (by kernel_rfl) (by kernel_rfl) (fun _ _ _ h => h) (Or.inl ⟨by rfl, fun w1 _ => by go_simp⟩) trivial ?_
      simp only [Act.put, List.setIfInBounds_toArray, List.set_cons_zero, List.set_cons_succ]
      refine wpAnyH_ready (rs := [21]) (by kernel_rfl) (by simp) ?_
      refine AllReadyH.cons (o := { dst := some 4, op := .alloc 113, type := 0, pos := _, after := _, guard := none }) rfl (fun K hK => ?_) ?_
      · go_simp
        refine hK.out _ _ trivial (fun _ => ?_)
        clear hK K
        try simp only [Act.put, List.setIfInBounds_toArray, List.set_cons_zero, List.set_cons_succ]
        refine wpAnyH_ready (rs := [22]) (by kernel_rfl) (by simp) ?_
        refine AllReadyH.cons (o := { dst := none, op := .store 113 (.tmp 4) (.tmp 37), type := 0, pos := _, after := _, guard := none }) rfl (fun K hK => ?_) ?_
        · go_simp
          refine hK.out _ _ trivial (fun _ => ?_)
          clear hK K
          try simp only [Act.put, List.setIfInBounds_toArray, List.set_cons_zero, List.set_cons_succ]
          refine wpAnyH_done (by kernel_rfl) ?_ _
          refine NoPanic.normal ?_
          go_wp2_with (go_at_call 82; (with_reducible refine (ce _).mono ?_); rintro e u3 ⟨rfl, k3⟩; obtain ⟨_, d0, d1, d2, d3, d4, d5⟩ := HX.out.1.kept k3; have hR3 := k3.at HX.out.2; obtain ⟨⟨r0, r1, r2, r3, r4, r5⟩, fz⟩ := rblock hR3)
          have hy := six (b := b) (l := l) (p := (p : Int)) (q := (q : Int)) (k := (k : Int)) (d := xd) hR3
          have ky := six_below (b := b) (l := l) (p := (p : Int)) (q := (q : Int)) (k := (k : Int)) (d := xd) (HR.out.1.trans (((Kept.refl x).alloc (.cells #[.int .i64 b, .int .i64 l, .int .i64 (p : Int), .int .i64 (q : Int), .int .u8 (k : Int), .string xd] 113)).drew.trans k3)) (Nat.le_refl w.heap.size)
          clear d0 d1 d2 d3 d4 d5 r0 r1 r2 r3 r4 r5 hR3 k3 fz
          generalize ((((((u3.setCell ⟨w.heap.size, 0, none⟩ (.int .i64 b)).setCell ⟨w.heap.size, 1, none⟩ (.int .i64 l)).setCell ⟨w.heap.size, 2, none⟩ (.int .i64 (p : Int))).setCell ⟨w.heap.size, 3, none⟩ (.int .i64 (q : Int))).setCell ⟨w.heap.size, 4, none⟩ (.int .u8 (k : Int))).setCell ⟨w.heap.size, 5, none⟩ (.string xd)) = Y at hy ky ⊢
          obtain ⟨d0, d1, d2, d3, d4, d5⟩ := six_cells hy
          exact bodyPost_ret (v := .tuple #[.agg #[.int .i64 b, .int .i64 l, .int .i64 (p : Int), .int .i64 (q : Int), .int .u8 (k : Int), .string xd], .int .i64 0]) (by simp [results, Tryz.results77, go_sem, d0, d1, d2, d3, d4, d5]) rfl ⟨rfl, ky⟩
        exact AllReadyH.nil
      exact AllReadyH.nil
    refine AllReadyH.cons (o := { dst := some 4, op := .alloc 113, type := 0, pos := _, after := _, guard := none }) rfl (fun K hK => ?_) ?_
    · go_simp
      refine hK.out _ _ trivial (fun _ => ?_)
      clear hK K
      try simp only [Act.put, List.setIfInBounds_toArray, List.set_cons_zero, List.set_cons_succ]
      refine wpAnyH_ready (rs := [5]) (by kernel_rfl) (by simp) ?_
      refine AllReadyH.cons (o := { dst := some 22, op := .call { callee := .value (.func 96), args := #[.tmp 21], argTypes := #[9] }, type := 3, pos := _, after := _, guard := none }) rfl (fun K hK => ?_) ?_
      · go_simp
        go_at_call 96
        (with_reducible refine (c6 _).mono ?_)
        rintro e u ⟨rfl, rfl⟩
        go_wp2_with fail
        refine hK.out _ _ trivial (fun _ => ?_)
        clear hK K
        try simp only [Act.put, List.setIfInBounds_toArray, List.set_cons_zero, List.set_cons_succ]
        refine wpAnyH_take (i := 20) (oi := { dst := some 37, op := .build 113 #[(0, .tmp 19), (1, .tmp 22), (2, .tmp 25), (3, .tmp 28), (4, .tmp 30), (5, .tmp 36)], type := 113, pos := _, after := _, guard := none }) (v := .agg #[.int .i64 b, .int .i64 l, .int .i64 p, .int .i64 q, .int .u8 k, .string xd]) rfl (by kernel_rfl) (by kernel_rfl) (by kernel_rfl) (fun _ _ _ h => h) (Or.inl ⟨by rfl, fun w1 _ => by go_simp⟩) trivial ?_
        simp only [Act.put, List.setIfInBounds_toArray, List.set_cons_zero, List.set_cons_succ]
        refine wpAnyH_ready (rs := [22]) (by kernel_rfl) (by simp) ?_
        refine AllReadyH.cons (o := { dst := none, op := .store 113 (.tmp 4) (.tmp 37), type := 0, pos := _, after := _, guard := none }) rfl (fun K hK => ?_) ?_
        · go_simp
          refine hK.out _ _ trivial (fun _ => ?_)
          clear hK K
          try simp only [Act.put, List.setIfInBounds_toArray, List.set_cons_zero, List.set_cons_succ]
          refine wpAnyH_done (by kernel_rfl) ?_ _
          refine NoPanic.normal ?_
          go_wp2_with (go_at_call 82; (with_reducible refine (ce _).mono ?_); rintro e u3 ⟨rfl, k3⟩; obtain ⟨_, d0, d1, d2, d3, d4, d5⟩ := HX.out.1.kept k3; have hR3 := k3.at HX.out.2; obtain ⟨⟨r0, r1, r2, r3, r4, r5⟩, fz⟩ := rblock hR3)
          have hy := six (b := b) (l := l) (p := (p : Int)) (q := (q : Int)) (k := (k : Int)) (d := xd) hR3
          have ky := six_below (b := b) (l := l) (p := (p : Int)) (q := (q : Int)) (k := (k : Int)) (d := xd) (HR.out.1.trans (((Kept.refl x).alloc (.cells #[.int .i64 b, .int .i64 l, .int .i64 (p : Int), .int .i64 (q : Int), .int .u8 (k : Int), .string xd] 113)).drew.trans k3)) (Nat.le_refl w.heap.size)
          clear d0 d1 d2 d3 d4 d5 r0 r1 r2 r3 r4 r5 hR3 k3 fz
          generalize ((((((u3.setCell ⟨w.heap.size, 0, none⟩ (.int .i64 b)).setCell ⟨w.heap.size, 1, none⟩ (.int .i64 l)).setCell ⟨w.heap.size, 2, none⟩ (.int .i64 (p : Int))).setCell ⟨w.heap.size, 3, none⟩ (.int .i64 (q : Int))).setCell ⟨w.heap.size, 4, none⟩ (.int .u8 (k : Int))).setCell ⟨w.heap.size, 5, none⟩ (.string xd)) = Y at hy ky ⊢
          obtain ⟨d0, d1, d2, d3, d4, d5⟩ := six_cells hy
          exact bodyPost_ret (v := .tuple #[.agg #[.int .i64 b, .int .i64 l, .int .i64 (p : Int), .int .i64 (q : Int), .int .u8 (k : Int), .string xd], .int .i64 0]) (by simp [results, Tryz.results77, go_sem, d0, d1, d2, d3, d4, d5]) rfl ⟨rfl, ky⟩
        exact AllReadyH.nil
      exact AllReadyH.nil
    exact AllReadyH.nil
  refine AllReadyH.cons (o := { dst := some 4, op := .alloc 113, type := 0, pos := _, after := _, guard := none }) rfl (fun K hK => ?_) ?_
  · go_simp
    refine hK.out _ _ trivial (fun _ => ?_)
    clear hK K
    try simp only [Act.put, List.setIfInBounds_toArray, List.set_cons_zero, List.set_cons_succ]
    refine wpAnyH_ready (rs := [2]) (by kernel_rfl) (by simp) ?_
    refine AllReadyH.cons (o := { dst := some 19, op := .call { callee := .value (.func 96), args := #[.tmp 18], argTypes := #[9] }, type := 3, pos := _, after := _, guard := none }) rfl (fun K hK => ?_) ?_
    · go_simp
      go_at_call 96
      (with_reducible refine (c4 _).mono ?_)
      rintro e u ⟨rfl, rfl⟩
      go_wp2_with fail
      refine hK.out _ _ trivial (fun _ => ?_)
      clear hK K
      try simp only [Act.put, List.setIfInBounds_toArray, List.set_cons_zero, List.set_cons_succ]
      refine wpAnyH_ready (rs := [5]) (by kernel_rfl) (by simp) ?_
      refine AllReadyH.cons (o := { dst := some 22, op := .call { callee := .value (.func 96), args := #[.tmp 21], argTypes := #[9] }, type := 3, pos := _, after := _, guard := none }) rfl (fun K hK => ?_) ?_
      · go_simp
        go_at_call 96
        (with_reducible refine (c6 _).mono ?_)
        rintro e u ⟨rfl, rfl⟩
        go_wp2_with fail
        refine hK.out _ _ trivial (fun _ => ?_)
        clear hK K
        try simp only [Act.put, List.setIfInBounds_toArray, List.set_cons_zero, List.set_cons_succ]
        refine wpAnyH_take (i := 20) (oi := { dst := some 37, op := .build 113 #[(0, .tmp 19), (1, .tmp 22), (2, .tmp 25), (3, .tmp 28), (4, .tmp 30), (5, .tmp 36)], type := 113, pos := _, after := _, guard := none }) (v := .agg #[.int .i64 b, .int .i64 l, .int .i64 p, .int .i64 q, .int .u8 k, .string xd]) rfl (by kernel_rfl) (by kernel_rfl) (by kernel_rfl) (fun _ _ _ h => h) (Or.inl ⟨by rfl, fun w1 _ => by go_simp⟩) trivial ?_
        simp only [Act.put, List.setIfInBounds_toArray, List.set_cons_zero, List.set_cons_succ]
        refine wpAnyH_ready (rs := [22]) (by kernel_rfl) (by simp) ?_
        refine AllReadyH.cons (o := { dst := none, op := .store 113 (.tmp 4) (.tmp 37), type := 0, pos := _, after := _, guard := none }) rfl (fun K hK => ?_) ?_
        · go_simp
          refine hK.out _ _ trivial (fun _ => ?_)
          clear hK K
          try simp only [Act.put, List.setIfInBounds_toArray, List.set_cons_zero, List.set_cons_succ]
          refine wpAnyH_done (by kernel_rfl) ?_ _
          refine NoPanic.normal ?_
          go_wp2_with (go_at_call 82; (with_reducible refine (ce _).mono ?_); rintro e u3 ⟨rfl, k3⟩; obtain ⟨_, d0, d1, d2, d3, d4, d5⟩ := HX.out.1.kept k3; have hR3 := k3.at HX.out.2; obtain ⟨⟨r0, r1, r2, r3, r4, r5⟩, fz⟩ := rblock hR3)
          have hy := six (b := b) (l := l) (p := (p : Int)) (q := (q : Int)) (k := (k : Int)) (d := xd) hR3
          have ky := six_below (b := b) (l := l) (p := (p : Int)) (q := (q : Int)) (k := (k : Int)) (d := xd) (HR.out.1.trans (((Kept.refl x).alloc (.cells #[.int .i64 b, .int .i64 l, .int .i64 (p : Int), .int .i64 (q : Int), .int .u8 (k : Int), .string xd] 113)).drew.trans k3)) (Nat.le_refl w.heap.size)
          clear d0 d1 d2 d3 d4 d5 r0 r1 r2 r3 r4 r5 hR3 k3 fz
          generalize ((((((u3.setCell ⟨w.heap.size, 0, none⟩ (.int .i64 b)).setCell ⟨w.heap.size, 1, none⟩ (.int .i64 l)).setCell ⟨w.heap.size, 2, none⟩ (.int .i64 (p : Int))).setCell ⟨w.heap.size, 3, none⟩ (.int .i64 (q : Int))).setCell ⟨w.heap.size, 4, none⟩ (.int .u8 (k : Int))).setCell ⟨w.heap.size, 5, none⟩ (.string xd)) = Y at hy ky ⊢
          obtain ⟨d0, d1, d2, d3, d4, d5⟩ := six_cells hy
          exact bodyPost_ret (v := .tuple #[.agg #[.int .i64 b, .int .i64 l, .int .i64 (p : Int), .int .i64 (q : Int), .int .u8 (k : Int), .string xd], .int .i64 0]) (by simp [results, Tryz.results77, go_sem, d0, d1, d2, d3, d4, d5]) rfl ⟨rfl, ky⟩
        exact AllReadyH.nil
      exact AllReadyH.nil
    exact AllReadyH.nil
  exact AllReadyH.nil
set_option maxHeartbeats 4000000 in
set_option maxRecDepth 100000 in
theorem rdecode_b {s x4 x6 xd : ByteArray} {b l : Int} {p q k z y : Nat} (G : RdG s x4 x6 xd b l p q k z y) (hs : z ≤ 44) (w : World) (t : ByteArray) (E : Int) (h : (E != 0) = true ∨ (E = 0 ∧ (!t.toList == s.toList) = true))
    (ce : ∀ w, Calls Tryz.prog 82 #[.agg #[.int .i64 b, .int .i64 l, .int .i64 p, .int .i64 q, .int .u8 k, .string xd]] w fun e w' => e = .returned (.tuple #[.string t, .int .i64 E]) ∧ Kept w w') :
    Calls Tryz.prog 77 #[.string s] w fun e w' => e = .returned (.tuple #[.agg #[.int .i64 0, .int .i64 0, .int .i64 0, .int .i64 0, .int .u8 0, .string ⟨#[]⟩], .int .i64 12]) ∧ Kept w w' := by
  obtain ⟨sz, i10, i11, i12, i13, hp, hq, hk, hz, e4, e6, hy, ed, c4, c6⟩ := G
  have y1 : (18 : Int) ≤ (y : Int) := by omega
  have y2 : (y : Int) ≤ (s.size : Int) := by omega
  have y3 : (y : Int) ≤ 80 := by omega
  have t1 : ((s.size : Int) != 80) = false := by rw [sz]; rfl
  have t2 : decide (44 < (z : Int)) = false := by simp; omega
  have b1 : (s.size : Int) = 80 := by omega
  have hx1 : Kept w (w.alloc (.cells #[.int .i64 0, .int .i64 0, .int .i64 0, .int .i64 0, .int .u8 0, .string ⟨#[]⟩] 113)) := (Kept.refl w).alloc _
  have hR0 := (MapKept.heap_alloc w (.cells (fcells 0 0 0 0 0 ⟨#[]⟩) 113)).1
  obtain ⟨x, hx⟩ : ∃ x, x = w.alloc (.cells #[.int .i64 0, .int .i64 0, .int .i64 0, .int .i64 0, .int .u8 0, .string ⟨#[]⟩] 113) := ⟨_, rfl⟩
  have hR : x.heap[w.heap.size]? = some (.cells (fcells 0 0 0 0 0 ⟨#[]⟩) 113 (0, 0)) := by rw [hx]; exact hR0
  rw [← hx] at hx1
  have HR := Lib.hid (And.intro hx1 hR)
  have hbx := (Box.start x 113 b l p q k xd).kept (Kept.refl _).drew
  have hRx := (((Kept.refl x).alloc (.cells #[.int .i64 b, .int .i64 l, .int .i64 (p : Int), .int .i64 (q : Int), .int .u8 (k : Int), .string xd] 113)).drew).at HR.out.2
  have HX := Lib.hid (And.intro hbx hRx)
  clear hx1 hR0 hR hbx hRx
  have wp : IntKind.i64.wrap (p : Int) = (p : Int) := by rw [IntKind.wrap_i64]; omega
  have wq : IntKind.i64.wrap (q : Int) = (q : Int) := by rw [IntKind.wrap_i64]; omega
  have wz : IntKind.i64.wrap (z : Int) = (z : Int) := by rw [IntKind.wrap_i64]; omega
  have wz2 : IntKind.i64.wrap (y : Int) = (y : Int) := by rw [IntKind.wrap_i64]; omega
  rcases h with h | ⟨rfl, h⟩
  · go_enter Tryz.func77, Tryz.ntmps77
    go_wp2
    rw [← hx]
    clear hx
    refine wp_region_noPanic ?_
    refine wp_region_held_drew (S := fun _ => True) (by kernel_rfl) trivial (fun _ => ?_)
    refine wpAnyH_take (i := 0) (oi := { dst := some 17, op := .move (.tmp 0), type := 9, pos := _, after := _, guard := none }) (v := .string s) rfl (by kernel_rfl) (by kernel_rfl) (by kernel_rfl) (fun _ _ _ h => h) (Or.inl ⟨by rfl, fun w1 _ => by go_simp⟩) trivial ?_
    simp only [Act.put, List.setIfInBounds_toArray, List.set_cons_zero, List.set_cons_succ]
    refine wpAnyH_take (i := 1) (oi := { dst := some 18, op := .slice 9 (.tmp 17) none (some (.const (.int .i64 4))) none, type := 9, pos := _, after := _, guard := none }) (v := .string x4) rfl (by kernel_rfl) (by kernel_rfl) (by kernel_rfl) (fun _ _ _ h => h) (Or.inl ⟨by rfl, fun w1 _ => by go_simp⟩) trivial ?_
    simp only [Act.put, List.setIfInBounds_toArray, List.set_cons_zero, List.set_cons_succ]
    refine wpAnyH_take (i := 3) (oi := { dst := some 20, op := .move (.tmp 0), type := 9, pos := _, after := _, guard := none }) (v := .string s) rfl (by kernel_rfl) (by kernel_rfl) (by kernel_rfl) (fun _ _ _ h => h) (Or.inl ⟨by rfl, fun w1 _ => by go_simp⟩) trivial ?_
    simp only [Act.put, List.setIfInBounds_toArray, List.set_cons_zero, List.set_cons_succ]
    refine wpAnyH_take (i := 4) (oi := { dst := some 21, op := .slice 9 (.tmp 20) (some (.const (.int .i64 4))) (some (.const (.int .i64 10))) none, type := 9, pos := _, after := _, guard := none }) (v := .string x6) rfl (by kernel_rfl) (by kernel_rfl) (by kernel_rfl) (fun _ _ _ h => h) (Or.inl ⟨by rfl, fun w1 _ => by go_simp⟩) trivial ?_
    simp only [Act.put, List.setIfInBounds_toArray, List.set_cons_zero, List.set_cons_succ]
    refine wpAnyH_take (i := 6) (oi := { dst := some 23, op := .move (.tmp 0), type := 9, pos := _, after := _, guard := none }) (v := .string s) rfl (by kernel_rfl) (by kernel_rfl) (by kernel_rfl) (fun _ _ _ h => h) (Or.inl ⟨by rfl, fun w1 _ => by go_simp⟩) trivial ?_
    simp only [Act.put, List.setIfInBounds_toArray, List.set_cons_zero, List.set_cons_succ]
    refine wpAnyH_take (i := 7) (oi := { dst := some 24, op := .index 9 (.tmp 23) (.const (.int .i64 10)), type := 5, pos := _, after := _, guard := none }) (v := .int .u8 p) rfl (by kernel_rfl) (by kernel_rfl) (by kernel_rfl) (fun _ _ _ h => h) (Or.inl ⟨by rfl, fun w1 _ => by go_simp⟩) trivial ?_
    simp only [Act.put, List.setIfInBounds_toArray, List.set_cons_zero, List.set_cons_succ]
    refine wpAnyH_take (i := 8) (oi := { dst := some 25, op := .convert 5 3 (.tmp 24), type := 3, pos := _, after := _, guard := none }) (v := .int .i64 p) rfl (by kernel_rfl) (by kernel_rfl) (by kernel_rfl) (fun _ _ _ h => h) (Or.inl ⟨by rfl, fun w1 _ => by go_simp⟩) trivial ?_
    simp only [Act.put, List.setIfInBounds_toArray, List.set_cons_zero, List.set_cons_succ]
    refine wpAnyH_take (i := 9) (oi := { dst := some 26, op := .move (.tmp 0), type := 9, pos := _, after := _, guard := none }) (v := .string s) rfl (by kernel_rfl) (by kernel_rfl) (by kernel_rfl) (fun _ _ _ h => h) (Or.inl ⟨by rfl, fun w1 _ => by go_simp⟩) trivial ?_
    simp only [Act.put, List.setIfInBounds_toArray, List.set_cons_zero, List.set_cons_succ]
    refine wpAnyH_take (i := 10) (oi := { dst := some 27, op := .index 9 (.tmp 26) (.const (.int .i64 11)), type := 5, pos := _, after := _, guard := none }) (v := .int .u8 q) rfl (by kernel_rfl) (by kernel_rfl) (by kernel_rfl) (fun _ _ _ h => h) (Or.inl ⟨by rfl, fun w1 _ => by go_simp⟩) trivial ?_
    simp only [Act.put, List.setIfInBounds_toArray, List.set_cons_zero, List.set_cons_succ]
    refine wpAnyH_take (i := 11) (oi := { dst := some 28, op := .convert 5 3 (.tmp 27), type := 3, pos := _, after := _, guard := none }) (v := .int .i64 q) rfl (by kernel_rfl) (by kernel_rfl) (by kernel_rfl) (fun _ _ _ h => h) (Or.inl ⟨by rfl, fun w1 _ => by go_simp⟩) trivial ?_
    simp only [Act.put, List.setIfInBounds_toArray, List.set_cons_zero, List.set_cons_succ]
    refine wpAnyH_take (i := 12) (oi := { dst := some 29, op := .move (.tmp 0), type := 9, pos := _, after := _, guard := none }) (v := .string s) rfl (by kernel_rfl) (by kernel_rfl) (by kernel_rfl) (fun _ _ _ h => h) (Or.inl ⟨by rfl, fun w1 _ => by go_simp⟩) trivial ?_
    simp only [Act.put, List.setIfInBounds_toArray, List.set_cons_zero, List.set_cons_succ]
    refine wpAnyH_take (i := 13) (oi := { dst := some 30, op := .index 9 (.tmp 29) (.const (.int .i64 12)), type := 5, pos := _, after := _, guard := none }) (v := .int .u8 k) rfl (by kernel_rfl) (by kernel_rfl) (by kernel_rfl) (fun _ _ _ h => h) (Or.inl ⟨by rfl, fun w1 _ => by go_simp⟩) trivial ?_
    simp only [Act.put, List.setIfInBounds_toArray, List.set_cons_zero, List.set_cons_succ]
    refine wpAnyH_take (i := 14) (oi := { dst := some 31, op := .move (.tmp 0), type := 9, pos := _, after := _, guard := none }) (v := .string s) rfl (by kernel_rfl) (by kernel_rfl) (by kernel_rfl) (fun _ _ _ h => h) (Or.inl ⟨by rfl, fun w1 _ => by go_simp⟩) trivial ?_
    simp only [Act.put, List.setIfInBounds_toArray, List.set_cons_zero, List.set_cons_succ]
    refine wpAnyH_take (i := 15) (oi := { dst := some 32, op := .move (.tmp 0), type := 9, pos := _, after := _, guard := none }) (v := .string s) rfl (by kernel_rfl) (by kernel_rfl) (by kernel_rfl) (fun _ _ _ h => h) (Or.inl ⟨by rfl, fun w1 _ => by go_simp⟩) trivial ?_
    simp only [Act.put, List.setIfInBounds_toArray, List.set_cons_zero, List.set_cons_succ]
    refine wpAnyH_take (i := 16) (oi := { dst := some 33, op := .index 9 (.tmp 32) (.const (.int .i64 13)), type := 5, pos := _, after := _, guard := none }) (v := .int .u8 z) rfl (by kernel_rfl) (by kernel_rfl) (by kernel_rfl) (fun _ _ _ h => h) (Or.inl ⟨by rfl, fun w1 _ => by go_simp⟩) trivial ?_
    simp only [Act.put, List.setIfInBounds_toArray, List.set_cons_zero, List.set_cons_succ]
    refine wpAnyH_take (i := 17) (oi := { dst := some 34, op := .convert 5 3 (.tmp 33), type := 3, pos := _, after := _, guard := none }) (v := .int .i64 z) rfl (by kernel_rfl) (by kernel_rfl) (by kernel_rfl) (fun _ _ _ h => h) (Or.inl ⟨by rfl, fun w1 _ => by go_simp⟩) trivial ?_
    simp only [Act.put, List.setIfInBounds_toArray, List.set_cons_zero, List.set_cons_succ]
    refine wpAnyH_take (i := 18) (oi := { dst := some 35, op := .binOp .add 3 (.const (.int .i64 18)) (.tmp 34) 3, type := 3, pos := _, after := _, guard := none }) (v := .int .i64 y) rfl (by kernel_rfl) (by kernel_rfl) (by kernel_rfl) (fun _ _ _ h => h) (Or.inl ⟨by rfl, fun w1 _ => by go_simp⟩) trivial ?_
    simp only [Act.put, List.setIfInBounds_toArray, List.set_cons_zero, List.set_cons_succ]
    refine wpAnyH_take (i := 19) (oi := { dst := some 36, op := .slice 9 (.tmp 31) (some (.const (.int .i64 18))) (some (.tmp 35)) none, type := 9, pos := _, after := _, guard := none }) (v := .string xd) rfl (by kernel_rfl) (by kernel_rfl) (by kernel_rfl) (fun _ _ _ h => h) (Or.inl ⟨by rfl, fun w1 _ => by go_simp⟩) trivial ?_
    simp only [Act.put, List.setIfInBounds_toArray, List.set_cons_zero, List.set_cons_succ]
    refine wpAnyH_ready (rs := [2, 21]) (by kernel_rfl) (by simp) ?_
    refine AllReadyH.cons (o := { dst := some 19, op := .call { callee := .value (.func 96), args := #[.tmp 18], argTypes := #[9] }, type := 3, pos := _, after := _, guard := none }) rfl (fun K hK => ?_) ?_
    · go_simp
      go_at_call 96
      (with_reducible refine (c4 _).mono ?_)
      rintro e u ⟨rfl, rfl⟩
      go_wp2_with fail
      refine hK.out _ _ trivial (fun _ => ?_)
      clear hK K
      try simp only [Act.put, List.setIfInBounds_toArray, List.set_cons_zero, List.set_cons_succ]
      refine wpAnyH_ready (rs := [5, 21]) (by kernel_rfl) (by simp) ?_
      refine AllReadyH.cons (o := { dst := some 22, op := .call { callee := .value (.func 96), args := #[.tmp 21], argTypes := #[9] }, type := 3, pos := _, after := _, guard := none }) rfl (fun K hK => ?_) ?_
      · go_simp
        go_at_call 96
        (with_reducible refine (c6 _).mono ?_)
        rintro e u ⟨rfl, rfl⟩
        go_wp2_with fail
        refine hK.out _ _ trivial (fun _ => ?_)
        clear hK K
        try simp only [Act.put, List.setIfInBounds_toArray, List.set_cons_zero, List.set_cons_succ]
        refine wpAnyH_take (i := 20) (oi := { dst := some 37, op := .build 113 #[(0, .tmp 19), (1, .tmp 22), (2, .tmp 25), (3, .tmp 28), (4, .tmp 30), (5, .tmp 36)], type := 113, pos := _, after := _, guard := none }) (v := .agg #[.int .i64 b, .int .i64 l, .int .i64 p, .int .i64 q, .int .u8 k, .string xd]) rfl (by kernel_rfl) (by kernel_rfl) (by kernel_rfl) (fun _ _ _ h => h) (Or.inl ⟨by rfl, fun w1 _ => by go_simp⟩) trivial ?_
        simp only [Act.put, List.setIfInBounds_toArray, List.set_cons_zero, List.set_cons_succ]
        refine wpAnyH_ready (rs := [21]) (by kernel_rfl) (by simp) ?_
        refine AllReadyH.cons (o := { dst := some 4, op := .alloc 113, type := 0, pos := _, after := _, guard := none }) rfl (fun K hK => ?_) ?_
        · go_simp
          refine hK.out _ _ trivial (fun _ => ?_)
          clear hK K
          try simp only [Act.put, List.setIfInBounds_toArray, List.set_cons_zero, List.set_cons_succ]
          refine wpAnyH_ready (rs := [22]) (by kernel_rfl) (by simp) ?_
          refine AllReadyH.cons (o := { dst := none, op := .store 113 (.tmp 4) (.tmp 37), type := 0, pos := _, after := _, guard := none }) rfl (fun K hK => ?_) ?_
          · go_simp
            refine hK.out _ _ trivial (fun _ => ?_)
            clear hK K
            try simp only [Act.put, List.setIfInBounds_toArray, List.set_cons_zero, List.set_cons_succ]
            refine wpAnyH_done (by kernel_rfl) ?_ _
            refine NoPanic.normal ?_
            go_wp2_with (go_at_call 82; (with_reducible refine (ce _).mono ?_); rintro e u3 ⟨rfl, k3⟩; obtain ⟨_, d0, d1, d2, d3, d4, d5⟩ := HX.out.1.kept k3; have hR3 := k3.at HX.out.2; obtain ⟨⟨r0, r1, r2, r3, r4, r5⟩, fz⟩ := rblock hR3)
            have hy := six (b := 0) (l := 0) (p := 0) (q := 0) (k := 0) (d := ⟨#[]⟩) hR3
            have ky := six_below (b := 0) (l := 0) (p := 0) (q := 0) (k := 0) (d := ⟨#[]⟩) (HR.out.1.trans (((Kept.refl x).alloc (.cells #[.int .i64 b, .int .i64 l, .int .i64 (p : Int), .int .i64 (q : Int), .int .u8 (k : Int), .string xd] 113)).drew.trans k3)) (Nat.le_refl w.heap.size)
            clear d0 d1 d2 d3 d4 d5 r0 r1 r2 r3 r4 r5 hR3 k3 fz
            generalize ((((((u3.setCell ⟨w.heap.size, 0, none⟩ (.int .i64 0)).setCell ⟨w.heap.size, 1, none⟩ (.int .i64 0)).setCell ⟨w.heap.size, 2, none⟩ (.int .i64 0)).setCell ⟨w.heap.size, 3, none⟩ (.int .i64 0)).setCell ⟨w.heap.size, 4, none⟩ (.int .u8 0)).setCell ⟨w.heap.size, 5, none⟩ (.string ⟨#[]⟩)) = Y at hy ky ⊢
            obtain ⟨d0, d1, d2, d3, d4, d5⟩ := six_cells hy
            exact bodyPost_ret (v := .tuple #[.agg #[.int .i64 0, .int .i64 0, .int .i64 0, .int .i64 0, .int .u8 0, .string ⟨#[]⟩], .int .i64 12]) (by simp [results, Tryz.results77, go_sem, d0, d1, d2, d3, d4, d5]) rfl ⟨rfl, ky⟩
          exact AllReadyH.nil
        exact AllReadyH.nil
      refine AllReadyH.cons (o := { dst := some 4, op := .alloc 113, type := 0, pos := _, after := _, guard := none }) rfl (fun K hK => ?_) ?_
      · go_simp
        refine hK.out _ _ trivial (fun _ => ?_)
        clear hK K
        try simp only [Act.put, List.setIfInBounds_toArray, List.set_cons_zero, List.set_cons_succ]
        refine wpAnyH_ready (rs := [5]) (by kernel_rfl) (by simp) ?_
        refine AllReadyH.cons (o := { dst := some 22, op := .call { callee := .value (.func 96), args := #[.tmp 21], argTypes := #[9] }, type := 3, pos := _, after := _, guard := none }) rfl (fun K hK => ?_) ?_
        · go_simp
          go_at_call 96
          (with_reducible refine (c6 _).mono ?_)
          rintro e u ⟨rfl, rfl⟩
          go_wp2_with fail
          refine hK.out _ _ trivial (fun _ => ?_)
          clear hK K
          try simp only [Act.put, List.setIfInBounds_toArray, List.set_cons_zero, List.set_cons_succ]
          refine wpAnyH_take (i := 20) (oi := { dst := some 37, op := .build 113 #[(0, .tmp 19), (1, .tmp 22), (2, .tmp 25), (3, .tmp 28), (4, .tmp 30), (5, .tmp 36)], type := 113, pos := _, after := _, guard := none }) (v := .agg #[.int .i64 b, .int .i64 l, .int .i64 p, .int .i64 q, .int .u8 k, .string xd]) rfl (by kernel_rfl) (by kernel_rfl) (by kernel_rfl) (fun _ _ _ h => h) (Or.inl ⟨by rfl, fun w1 _ => by go_simp⟩) trivial ?_
          simp only [Act.put, List.setIfInBounds_toArray, List.set_cons_zero, List.set_cons_succ]
          refine wpAnyH_ready (rs := [22]) (by kernel_rfl) (by simp) ?_
          refine AllReadyH.cons (o := { dst := none, op := .store 113 (.tmp 4) (.tmp 37), type := 0, pos := _, after := _, guard := none }) rfl (fun K hK => ?_) ?_
          · go_simp
            refine hK.out _ _ trivial (fun _ => ?_)
            clear hK K
            try simp only [Act.put, List.setIfInBounds_toArray, List.set_cons_zero, List.set_cons_succ]
            refine wpAnyH_done (by kernel_rfl) ?_ _
            refine NoPanic.normal ?_
            go_wp2_with (go_at_call 82; (with_reducible refine (ce _).mono ?_); rintro e u3 ⟨rfl, k3⟩; obtain ⟨_, d0, d1, d2, d3, d4, d5⟩ := HX.out.1.kept k3; have hR3 := k3.at HX.out.2; obtain ⟨⟨r0, r1, r2, r3, r4, r5⟩, fz⟩ := rblock hR3)
            have hy := six (b := 0) (l := 0) (p := 0) (q := 0) (k := 0) (d := ⟨#[]⟩) hR3
            have ky := six_below (b := 0) (l := 0) (p := 0) (q := 0) (k := 0) (d := ⟨#[]⟩) (HR.out.1.trans (((Kept.refl x).alloc (.cells #[.int .i64 b, .int .i64 l, .int .i64 (p : Int), .int .i64 (q : Int), .int .u8 (k : Int), .string xd] 113)).drew.trans k3)) (Nat.le_refl w.heap.size)
            clear d0 d1 d2 d3 d4 d5 r0 r1 r2 r3 r4 r5 hR3 k3 fz
            generalize ((((((u3.setCell ⟨w.heap.size, 0, none⟩ (.int .i64 0)).setCell ⟨w.heap.size, 1, none⟩ (.int .i64 0)).setCell ⟨w.heap.size, 2, none⟩ (.int .i64 0)).setCell ⟨w.heap.size, 3, none⟩ (.int .i64 0)).setCell ⟨w.heap.size, 4, none⟩ (.int .u8 0)).setCell ⟨w.heap.size, 5, none⟩ (.string ⟨#[]⟩)) = Y at hy ky ⊢
            obtain ⟨d0, d1, d2, d3, d4, d5⟩ := six_cells hy
            exact bodyPost_ret (v := .tuple #[.agg #[.int .i64 0, .int .i64 0, .int .i64 0, .int .i64 0, .int .u8 0, .string ⟨#[]⟩], .int .i64 12]) (by simp [results, Tryz.results77, go_sem, d0, d1, d2, d3, d4, d5]) rfl ⟨rfl, ky⟩
          exact AllReadyH.nil
        exact AllReadyH.nil
      exact AllReadyH.nil
    refine AllReadyH.cons (o := { dst := some 4, op := .alloc 113, type := 0, pos := _, after := _, guard := none }) rfl (fun K hK => ?_) ?_
    · go_simp
      refine hK.out _ _ trivial (fun _ => ?_)
      clear hK K
      try simp only [Act.put, List.setIfInBounds_toArray, List.set_cons_zero, List.set_cons_succ]
      refine wpAnyH_ready (rs := [2]) (by kernel_rfl) (by simp) ?_
      refine AllReadyH.cons (o := { dst := some 19, op := .call { callee := .value (.func 96), args := #[.tmp 18], argTypes := #[9] }, type := 3, pos := _, after := _, guard := none }) rfl (fun K hK => ?_) ?_
      · go_simp
        go_at_call 96
        (with_reducible refine (c4 _).mono ?_)
        rintro e u ⟨rfl, rfl⟩
        go_wp2_with fail
        refine hK.out _ _ trivial (fun _ => ?_)
        clear hK K
        try simp only [Act.put, List.setIfInBounds_toArray, List.set_cons_zero, List.set_cons_succ]
        refine wpAnyH_ready (rs := [5]) (by kernel_rfl) (by simp) ?_
        refine AllReadyH.cons (o := { dst := some 22, op := .call { callee := .value (.func 96), args := #[.tmp 21], argTypes := #[9] }, type := 3, pos := _, after := _, guard := none }) rfl (fun K hK => ?_) ?_
        · go_simp
          go_at_call 96
          (with_reducible refine (c6 _).mono ?_)
          rintro e u ⟨rfl, rfl⟩
          go_wp2_with fail
          refine hK.out _ _ trivial (fun _ => ?_)
          clear hK K
          try simp only [Act.put, List.setIfInBounds_toArray, List.set_cons_zero, List.set_cons_succ]
          refine wpAnyH_take (i := 20) (oi := { dst := some 37, op := .build 113 #[(0, .tmp 19), (1, .tmp 22), (2, .tmp 25), (3, .tmp 28), (4, .tmp 30), (5, .tmp 36)], type := 113, pos := _, after := _, guard := none }) (v := .agg #[.int .i64 b, .int .i64 l, .int .i64 p, .int .i64 q, .int .u8 k, .string xd]) rfl (by kernel_rfl) (by kernel_rfl) (by kernel_rfl) (fun _ _ _ h => h) (Or.inl ⟨by rfl, fun w1 _ => by go_simp⟩) trivial ?_
          simp only [Act.put, List.setIfInBounds_toArray, List.set_cons_zero, List.set_cons_succ]
          refine wpAnyH_ready (rs := [22]) (by kernel_rfl) (by simp) ?_
          refine AllReadyH.cons (o := { dst := none, op := .store 113 (.tmp 4) (.tmp 37), type := 0, pos := _, after := _, guard := none }) rfl (fun K hK => ?_) ?_
          · go_simp
            refine hK.out _ _ trivial (fun _ => ?_)
            clear hK K
            try simp only [Act.put, List.setIfInBounds_toArray, List.set_cons_zero, List.set_cons_succ]
            refine wpAnyH_done (by kernel_rfl) ?_ _
            refine NoPanic.normal ?_
            go_wp2_with (go_at_call 82; (with_reducible refine (ce _).mono ?_); rintro e u3 ⟨rfl, k3⟩; obtain ⟨_, d0, d1, d2, d3, d4, d5⟩ := HX.out.1.kept k3; have hR3 := k3.at HX.out.2; obtain ⟨⟨r0, r1, r2, r3, r4, r5⟩, fz⟩ := rblock hR3)
            have hy := six (b := 0) (l := 0) (p := 0) (q := 0) (k := 0) (d := ⟨#[]⟩) hR3
            have ky := six_below (b := 0) (l := 0) (p := 0) (q := 0) (k := 0) (d := ⟨#[]⟩) (HR.out.1.trans (((Kept.refl x).alloc (.cells #[.int .i64 b, .int .i64 l, .int .i64 (p : Int), .int .i64 (q : Int), .int .u8 (k : Int), .string xd] 113)).drew.trans k3)) (Nat.le_refl w.heap.size)
            clear d0 d1 d2 d3 d4 d5 r0 r1 r2 r3 r4 r5 hR3 k3 fz
            generalize ((((((u3.setCell ⟨w.heap.size, 0, none⟩ (.int .i64 0)).setCell ⟨w.heap.size, 1, none⟩ (.int .i64 0)).setCell ⟨w.heap.size, 2, none⟩ (.int .i64 0)).setCell ⟨w.heap.size, 3, none⟩ (.int .i64 0)).setCell ⟨w.heap.size, 4, none⟩ (.int .u8 0)).setCell ⟨w.heap.size, 5, none⟩ (.string ⟨#[]⟩)) = Y at hy ky ⊢
            obtain ⟨d0, d1, d2, d3, d4, d5⟩ := six_cells hy
            exact bodyPost_ret (v := .tuple #[.agg #[.int .i64 0, .int .i64 0, .int .i64 0, .int .i64 0, .int .u8 0, .string ⟨#[]⟩], .int .i64 12]) (by simp [results, Tryz.results77, go_sem, d0, d1, d2, d3, d4, d5]) rfl ⟨rfl, ky⟩
          exact AllReadyH.nil
        exact AllReadyH.nil
      exact AllReadyH.nil
    exact AllReadyH.nil
  · go_enter Tryz.func77, Tryz.ntmps77
    go_wp2
    rw [← hx]
    clear hx
    refine wp_region_noPanic ?_
    refine wp_region_held_drew (S := fun _ => True) (by kernel_rfl) trivial (fun _ => ?_)
    refine wpAnyH_take (i := 0) (oi := { dst := some 17, op := .move (.tmp 0), type := 9, pos := _, after := _, guard := none }) (v := .string s) rfl (by kernel_rfl) (by kernel_rfl) (by kernel_rfl) (fun _ _ _ h => h) (Or.inl ⟨by rfl, fun w1 _ => by go_simp⟩) trivial ?_
    simp only [Act.put, List.setIfInBounds_toArray, List.set_cons_zero, List.set_cons_succ]
    refine wpAnyH_take (i := 1) (oi := { dst := some 18, op := .slice 9 (.tmp 17) none (some (.const (.int .i64 4))) none, type := 9, pos := _, after := _, guard := none }) (v := .string x4) rfl (by kernel_rfl) (by kernel_rfl) (by kernel_rfl) (fun _ _ _ h => h) (Or.inl ⟨by rfl, fun w1 _ => by go_simp⟩) trivial ?_
    simp only [Act.put, List.setIfInBounds_toArray, List.set_cons_zero, List.set_cons_succ]
    refine wpAnyH_take (i := 3) (oi := { dst := some 20, op := .move (.tmp 0), type := 9, pos := _, after := _, guard := none }) (v := .string s) rfl (by kernel_rfl) (by kernel_rfl) (by kernel_rfl) (fun _ _ _ h => h) (Or.inl ⟨by rfl, fun w1 _ => by go_simp⟩) trivial ?_
    simp only [Act.put, List.setIfInBounds_toArray, List.set_cons_zero, List.set_cons_succ]
    refine wpAnyH_take (i := 4) (oi := { dst := some 21, op := .slice 9 (.tmp 20) (some (.const (.int .i64 4))) (some (.const (.int .i64 10))) none, type := 9, pos := _, after := _, guard := none }) (v := .string x6) rfl (by kernel_rfl) (by kernel_rfl) (by kernel_rfl) (fun _ _ _ h => h) (Or.inl ⟨by rfl, fun w1 _ => by go_simp⟩) trivial ?_
    simp only [Act.put, List.setIfInBounds_toArray, List.set_cons_zero, List.set_cons_succ]
    refine wpAnyH_take (i := 6) (oi := { dst := some 23, op := .move (.tmp 0), type := 9, pos := _, after := _, guard := none }) (v := .string s) rfl (by kernel_rfl) (by kernel_rfl) (by kernel_rfl) (fun _ _ _ h => h) (Or.inl ⟨by rfl, fun w1 _ => by go_simp⟩) trivial ?_
    simp only [Act.put, List.setIfInBounds_toArray, List.set_cons_zero, List.set_cons_succ]
    refine wpAnyH_take (i := 7) (oi := { dst := some 24, op := .index 9 (.tmp 23) (.const (.int .i64 10)), type := 5, pos := _, after := _, guard := none }) (v := .int .u8 p) rfl (by kernel_rfl) (by kernel_rfl) (by kernel_rfl) (fun _ _ _ h => h) (Or.inl ⟨by rfl, fun w1 _ => by go_simp⟩) trivial ?_
    simp only [Act.put, List.setIfInBounds_toArray, List.set_cons_zero, List.set_cons_succ]
    refine wpAnyH_take (i := 8) (oi := { dst := some 25, op := .convert 5 3 (.tmp 24), type := 3, pos := _, after := _, guard := none }) (v := .int .i64 p) rfl (by kernel_rfl) (by kernel_rfl) (by kernel_rfl) (fun _ _ _ h => h) (Or.inl ⟨by rfl, fun w1 _ => by go_simp⟩) trivial ?_
    simp only [Act.put, List.setIfInBounds_toArray, List.set_cons_zero, List.set_cons_succ]
    refine wpAnyH_take (i := 9) (oi := { dst := some 26, op := .move (.tmp 0), type := 9, pos := _, after := _, guard := none }) (v := .string s) rfl (by kernel_rfl) (by kernel_rfl) (by kernel_rfl) (fun _ _ _ h => h) (Or.inl ⟨by rfl, fun w1 _ => by go_simp⟩) trivial ?_
    simp only [Act.put, List.setIfInBounds_toArray, List.set_cons_zero, List.set_cons_succ]
    refine wpAnyH_take (i := 10) (oi := { dst := some 27, op := .index 9 (.tmp 26) (.const (.int .i64 11)), type := 5, pos := _, after := _, guard := none }) (v := .int .u8 q) rfl (by kernel_rfl) (by kernel_rfl) (by kernel_rfl) (fun _ _ _ h => h) (Or.inl ⟨by rfl, fun w1 _ => by go_simp⟩) trivial ?_
    simp only [Act.put, List.setIfInBounds_toArray, List.set_cons_zero, List.set_cons_succ]
    refine wpAnyH_take (i := 11) (oi := { dst := some 28, op := .convert 5 3 (.tmp 27), type := 3, pos := _, after := _, guard := none }) (v := .int .i64 q) rfl (by kernel_rfl) (by kernel_rfl) (by kernel_rfl) (fun _ _ _ h => h) (Or.inl ⟨by rfl, fun w1 _ => by go_simp⟩) trivial ?_
    simp only [Act.put, List.setIfInBounds_toArray, List.set_cons_zero, List.set_cons_succ]
    refine wpAnyH_take (i := 12) (oi := { dst := some 29, op := .move (.tmp 0), type := 9, pos := _, after := _, guard := none }) (v := .string s) rfl (by kernel_rfl) (by kernel_rfl) (by kernel_rfl) (fun _ _ _ h => h) (Or.inl ⟨by rfl, fun w1 _ => by go_simp⟩) trivial ?_
    simp only [Act.put, List.setIfInBounds_toArray, List.set_cons_zero, List.set_cons_succ]
    refine wpAnyH_take (i := 13) (oi := { dst := some 30, op := .index 9 (.tmp 29) (.const (.int .i64 12)), type := 5, pos := _, after := _, guard := none }) (v := .int .u8 k) rfl (by kernel_rfl) (by kernel_rfl) (by kernel_rfl) (fun _ _ _ h => h) (Or.inl ⟨by rfl, fun w1 _ => by go_simp⟩) trivial ?_
    simp only [Act.put, List.setIfInBounds_toArray, List.set_cons_zero, List.set_cons_succ]
    refine wpAnyH_take (i := 14) (oi := { dst := some 31, op := .move (.tmp 0), type := 9, pos := _, after := _, guard := none }) (v := .string s) rfl (by kernel_rfl) (by kernel_rfl) (by kernel_rfl) (fun _ _ _ h => h) (Or.inl ⟨by rfl, fun w1 _ => by go_simp⟩) trivial ?_
    simp only [Act.put, List.setIfInBounds_toArray, List.set_cons_zero, List.set_cons_succ]
    refine wpAnyH_take (i := 15) (oi := { dst := some 32, op := .move (.tmp 0), type := 9, pos := _, after := _, guard := none }) (v := .string s) rfl (by kernel_rfl) (by kernel_rfl) (by kernel_rfl) (fun _ _ _ h => h) (Or.inl ⟨by rfl, fun w1 _ => by go_simp⟩) trivial ?_
    simp only [Act.put, List.setIfInBounds_toArray, List.set_cons_zero, List.set_cons_succ]
    refine wpAnyH_take (i := 16) (oi := { dst := some 33, op := .index 9 (.tmp 32) (.const (.int .i64 13)), type := 5, pos := _, after := _, guard := none }) (v := .int .u8 z) rfl (by kernel_rfl) (by kernel_rfl) (by kernel_rfl) (fun _ _ _ h => h) (Or.inl ⟨by rfl, fun w1 _ => by go_simp⟩) trivial ?_
    simp only [Act.put, List.setIfInBounds_toArray, List.set_cons_zero, List.set_cons_succ]
    refine wpAnyH_take (i := 17) (oi := { dst := some 34, op := .convert 5 3 (.tmp 33), type := 3, pos := _, after := _, guard := none }) (v := .int .i64 z) rfl (by kernel_rfl) (by kernel_rfl) (by kernel_rfl) (fun _ _ _ h => h) (Or.inl ⟨by rfl, fun w1 _ => by go_simp⟩) trivial ?_
    simp only [Act.put, List.setIfInBounds_toArray, List.set_cons_zero, List.set_cons_succ]
    refine wpAnyH_take (i := 18) (oi := { dst := some 35, op := .binOp .add 3 (.const (.int .i64 18)) (.tmp 34) 3, type := 3, pos := _, after := _, guard := none }) (v := .int .i64 y) rfl (by kernel_rfl) (by kernel_rfl) (by kernel_rfl) (fun _ _ _ h => h) (Or.inl ⟨by rfl, fun w1 _ => by go_simp⟩) trivial ?_
    simp only [Act.put, List.setIfInBounds_toArray, List.set_cons_zero, List.set_cons_succ]
    refine wpAnyH_take (i := 19) (oi := { dst := some 36, op := .slice 9 (.tmp 31) (some (.const (.int .i64 18))) (some (.tmp 35)) none, type := 9, pos := _, after := _, guard := none }) (v := .string xd) rfl (by kernel_rfl) (by kernel_rfl) (by kernel_rfl) (fun _ _ _ h => h) (Or.inl ⟨by rfl, fun w1 _ => by go_simp⟩) trivial ?_
    simp only [Act.put, List.setIfInBounds_toArray, List.set_cons_zero, List.set_cons_succ]
    refine wpAnyH_ready (rs := [2, 21]) (by kernel_rfl) (by simp) ?_
    refine AllReadyH.cons (o := { dst := some 19, op := .call { callee := .value (.func 96), args := #[.tmp 18], argTypes := #[9] }, type := 3, pos := _, after := _, guard := none }) rfl (fun K hK => ?_) ?_
    · go_simp
      go_at_call 96
      (with_reducible refine (c4 _).mono ?_)
      rintro e u ⟨rfl, rfl⟩
      go_wp2_with fail
      refine hK.out _ _ trivial (fun _ => ?_)
      clear hK K
      try simp only [Act.put, List.setIfInBounds_toArray, List.set_cons_zero, List.set_cons_succ]
      refine wpAnyH_ready (rs := [5, 21]) (by kernel_rfl) (by simp) ?_
      refine AllReadyH.cons (o := { dst := some 22, op := .call { callee := .value (.func 96), args := #[.tmp 21], argTypes := #[9] }, type := 3, pos := _, after := _, guard := none }) rfl (fun K hK => ?_) ?_
      · go_simp
        go_at_call 96
        (with_reducible refine (c6 _).mono ?_)
        rintro e u ⟨rfl, rfl⟩
        go_wp2_with fail
        refine hK.out _ _ trivial (fun _ => ?_)
        clear hK K
        try simp only [Act.put, List.setIfInBounds_toArray, List.set_cons_zero, List.set_cons_succ]
        refine wpAnyH_take (i := 20) (oi := { dst := some 37, op := .build 113 #[(0, .tmp 19), (1, .tmp 22), (2, .tmp 25), (3, .tmp 28), (4, .tmp 30), (5, .tmp 36)], type := 113, pos := _, after := _, guard := none }) (v := .agg #[.int .i64 b, .int .i64 l, .int .i64 p, .int .i64 q, .int .u8 k, .string xd]) rfl (by kernel_rfl) (by kernel_rfl) (by kernel_rfl) (fun _ _ _ h => h) (Or.inl ⟨by rfl, fun w1 _ => by go_simp⟩) trivial ?_
        simp only [Act.put, List.setIfInBounds_toArray, List.set_cons_zero, List.set_cons_succ]
        refine wpAnyH_ready (rs := [21]) (by kernel_rfl) (by simp) ?_
        refine AllReadyH.cons (o := { dst := some 4, op := .alloc 113, type := 0, pos := _, after := _, guard := none }) rfl (fun K hK => ?_) ?_
        · go_simp
          refine hK.out _ _ trivial (fun _ => ?_)
          clear hK K
          try simp only [Act.put, List.setIfInBounds_toArray, List.set_cons_zero, List.set_cons_succ]
          refine wpAnyH_ready (rs := [22]) (by kernel_rfl) (by simp) ?_
          refine AllReadyH.cons (o := { dst := none, op := .store 113 (.tmp 4) (.tmp 37), type := 0, pos := _, after := _, guard := none }) rfl (fun K hK => ?_) ?_
          · go_simp
            refine hK.out _ _ trivial (fun _ => ?_)
            clear hK K
            try simp only [Act.put, List.setIfInBounds_toArray, List.set_cons_zero, List.set_cons_succ]
            refine wpAnyH_done (by kernel_rfl) ?_ _
            refine NoPanic.normal ?_
            go_wp2_with (go_at_call 82; (with_reducible refine (ce _).mono ?_); rintro e u3 ⟨rfl, k3⟩; obtain ⟨_, d0, d1, d2, d3, d4, d5⟩ := HX.out.1.kept k3; have hR3 := k3.at HX.out.2; obtain ⟨⟨r0, r1, r2, r3, r4, r5⟩, fz⟩ := rblock hR3)
            have hy := six (b := 0) (l := 0) (p := 0) (q := 0) (k := 0) (d := ⟨#[]⟩) hR3
            have ky := six_below (b := 0) (l := 0) (p := 0) (q := 0) (k := 0) (d := ⟨#[]⟩) (HR.out.1.trans (((Kept.refl x).alloc (.cells #[.int .i64 b, .int .i64 l, .int .i64 (p : Int), .int .i64 (q : Int), .int .u8 (k : Int), .string xd] 113)).drew.trans k3)) (Nat.le_refl w.heap.size)
            clear d0 d1 d2 d3 d4 d5 r0 r1 r2 r3 r4 r5 hR3 k3 fz
            generalize ((((((u3.setCell ⟨w.heap.size, 0, none⟩ (.int .i64 0)).setCell ⟨w.heap.size, 1, none⟩ (.int .i64 0)).setCell ⟨w.heap.size, 2, none⟩ (.int .i64 0)).setCell ⟨w.heap.size, 3, none⟩ (.int .i64 0)).setCell ⟨w.heap.size, 4, none⟩ (.int .u8 0)).setCell ⟨w.heap.size, 5, none⟩ (.string ⟨#[]⟩)) = Y at hy ky ⊢
            obtain ⟨d0, d1, d2, d3, d4, d5⟩ := six_cells hy
            exact bodyPost_ret (v := .tuple #[.agg #[.int .i64 0, .int .i64 0, .int .i64 0, .int .i64 0, .int .u8 0, .string ⟨#[]⟩], .int .i64 12]) (by simp [results, Tryz.results77, go_sem, d0, d1, d2, d3, d4, d5]) rfl ⟨rfl, ky⟩
          exact AllReadyH.nil
        exact AllReadyH.nil
      refine AllReadyH.cons (o := { dst := some 4, op := .alloc 113, type := 0, pos := _, after := _, guard := none }) rfl (fun K hK => ?_) ?_
      · go_simp
        refine hK.out _ _ trivial (fun _ => ?_)
        clear hK K
        try simp only [Act.put, List.setIfInBounds_toArray, List.set_cons_zero, List.set_cons_succ]
        refine wpAnyH_ready (rs := [5]) (by kernel_rfl) (by simp) ?_
        refine AllReadyH.cons (o := { dst := some 22, op := .call { callee := .value (.func 96), args := #[.tmp 21], argTypes := #[9] }, type := 3, pos := _, after := _, guard := none }) rfl (fun K hK => ?_) ?_
        · go_simp
          go_at_call 96
          (with_reducible refine (c6 _).mono ?_)
          rintro e u ⟨rfl, rfl⟩
          go_wp2_with fail
          refine hK.out _ _ trivial (fun _ => ?_)
          clear hK K
          try simp only [Act.put, List.setIfInBounds_toArray, List.set_cons_zero, List.set_cons_succ]
          refine wpAnyH_take (i := 20) (oi := { dst := some 37, op := .build 113 #[(0, .tmp 19), (1, .tmp 22), (2, .tmp 25), (3, .tmp 28), (4, .tmp 30), (5, .tmp 36)], type := 113, pos := _, after := _, guard := none }) (v := .agg #[.int .i64 b, .int .i64 l, .int .i64 p, .int .i64 q, .int .u8 k, .string xd]) rfl (by kernel_rfl) (by kernel_rfl) (by kernel_rfl) (fun _ _ _ h => h) (Or.inl ⟨by rfl, fun w1 _ => by go_simp⟩) trivial ?_
          simp only [Act.put, List.setIfInBounds_toArray, List.set_cons_zero, List.set_cons_succ]
          refine wpAnyH_ready (rs := [22]) (by kernel_rfl) (by simp) ?_
          refine AllReadyH.cons (o := { dst := none, op := .store 113 (.tmp 4) (.tmp 37), type := 0, pos := _, after := _, guard := none }) rfl (fun K hK => ?_) ?_
          · go_simp
            refine hK.out _ _ trivial (fun _ => ?_)
            clear hK K
            try simp only [Act.put, List.setIfInBounds_toArray, List.set_cons_zero, List.set_cons_succ]
            refine wpAnyH_done (by kernel_rfl) ?_ _
            refine NoPanic.normal ?_
            go_wp2_with (go_at_call 82; (with_reducible refine (ce _).mono ?_); rintro e u3 ⟨rfl, k3⟩; obtain ⟨_, d0, d1, d2, d3, d4, d5⟩ := HX.out.1.kept k3; have hR3 := k3.at HX.out.2; obtain ⟨⟨r0, r1, r2, r3, r4, r5⟩, fz⟩ := rblock hR3)
            have hy := six (b := 0) (l := 0) (p := 0) (q := 0) (k := 0) (d := ⟨#[]⟩) hR3
            have ky := six_below (b := 0) (l := 0) (p := 0) (q := 0) (k := 0) (d := ⟨#[]⟩) (HR.out.1.trans (((Kept.refl x).alloc (.cells #[.int .i64 b, .int .i64 l, .int .i64 (p : Int), .int .i64 (q : Int), .int .u8 (k : Int), .string xd] 113)).drew.trans k3)) (Nat.le_refl w.heap.size)
            clear d0 d1 d2 d3 d4 d5 r0 r1 r2 r3 r4 r5 hR3 k3 fz
            generalize ((((((u3.setCell ⟨w.heap.size, 0, none⟩ (.int .i64 0)).setCell ⟨w.heap.size, 1, none⟩ (.int .i64 0)).setCell ⟨w.heap.size, 2, none⟩ (.int .i64 0)).setCell ⟨w.heap.size, 3, none⟩ (.int .i64 0)).setCell ⟨w.heap.size, 4, none⟩ (.int .u8 0)).setCell ⟨w.heap.size, 5, none⟩ (.string ⟨#[]⟩)) = Y at hy ky ⊢
            obtain ⟨d0, d1, d2, d3, d4, d5⟩ := six_cells hy
            exact bodyPost_ret (v := .tuple #[.agg #[.int .i64 0, .int .i64 0, .int .i64 0, .int .i64 0, .int .u8 0, .string ⟨#[]⟩], .int .i64 12]) (by simp [results, Tryz.results77, go_sem, d0, d1, d2, d3, d4, d5]) rfl ⟨rfl, ky⟩
          exact AllReadyH.nil
        exact AllReadyH.nil
      exact AllReadyH.nil
    refine AllReadyH.cons (o := { dst := some 4, op := .alloc 113, type := 0, pos := _, after := _, guard := none }) rfl (fun K hK => ?_) ?_
    · go_simp
      refine hK.out _ _ trivial (fun _ => ?_)
      clear hK K
      try simp only [Act.put, List.setIfInBounds_toArray, List.set_cons_zero, List.set_cons_succ]
      refine wpAnyH_ready (rs := [2]) (by kernel_rfl) (by simp) ?_
      refine AllReadyH.cons (o := { dst := some 19, op := .call { callee := .value (.func 96), args := #[.tmp 18], argTypes := #[9] }, type := 3, pos := _, after := _, guard := none }) rfl (fun K hK => ?_) ?_
      · go_simp
        go_at_call 96
        (with_reducible refine (c4 _).mono ?_)
        rintro e u ⟨rfl, rfl⟩
        go_wp2_with fail
        refine hK.out _ _ trivial (fun _ => ?_)
        clear hK K
        try simp only [Act.put, List.setIfInBounds_toArray, List.set_cons_zero, List.set_cons_succ]
        refine wpAnyH_ready (rs := [5]) (by kernel_rfl) (by simp) ?_
        refine AllReadyH.cons (o := { dst := some 22, op := .call { callee := .value (.func 96), args := #[.tmp 21], argTypes := #[9] }, type := 3, pos := _, after := _, guard := none }) rfl (fun K hK => ?_) ?_
        · go_simp
          go_at_call 96
          (with_reducible refine (c6 _).mono ?_)
          rintro e u ⟨rfl, rfl⟩
          go_wp2_with fail
          refine hK.out _ _ trivial (fun _ => ?_)
          clear hK K
          try simp only [Act.put, List.setIfInBounds_toArray, List.set_cons_zero, List.set_cons_succ]
          refine wpAnyH_take (i := 20) (oi := { dst := some 37, op := .build 113 #[(0, .tmp 19), (1, .tmp 22), (2, .tmp 25), (3, .tmp 28), (4, .tmp 30), (5, .tmp 36)], type := 113, pos := _, after := _, guard := none }) (v := .agg #[.int .i64 b, .int .i64 l, .int .i64 p, .int .i64 q, .int .u8 k, .string xd]) rfl (by kernel_rfl) (by kernel_rfl) (by kernel_rfl) (fun _ _ _ h => h) (Or.inl ⟨by rfl, fun w1 _ => by go_simp⟩) trivial ?_
          simp only [Act.put, List.setIfInBounds_toArray, List.set_cons_zero, List.set_cons_succ]
          refine wpAnyH_ready (rs := [22]) (by kernel_rfl) (by simp) ?_
          refine AllReadyH.cons (o := { dst := none, op := .store 113 (.tmp 4) (.tmp 37), type := 0, pos := _, after := _, guard := none }) rfl (fun K hK => ?_) ?_
          · go_simp
            refine hK.out _ _ trivial (fun _ => ?_)
            clear hK K
            try simp only [Act.put, List.setIfInBounds_toArray, List.set_cons_zero, List.set_cons_succ]
            refine wpAnyH_done (by kernel_rfl) ?_ _
            refine NoPanic.normal ?_
            go_wp2_with (go_at_call 82; (with_reducible refine (ce _).mono ?_); rintro e u3 ⟨rfl, k3⟩; obtain ⟨_, d0, d1, d2, d3, d4, d5⟩ := HX.out.1.kept k3; have hR3 := k3.at HX.out.2; obtain ⟨⟨r0, r1, r2, r3, r4, r5⟩, fz⟩ := rblock hR3)
            have hy := six (b := 0) (l := 0) (p := 0) (q := 0) (k := 0) (d := ⟨#[]⟩) hR3
            have ky := six_below (b := 0) (l := 0) (p := 0) (q := 0) (k := 0) (d := ⟨#[]⟩) (HR.out.1.trans (((Kept.refl x).alloc (.cells #[.int .i64 b, .int .i64 l, .int .i64 (p : Int), .int .i64 (q : Int), .int .u8 (k : Int), .string xd] 113)).drew.trans k3)) (Nat.le_refl w.heap.size)
            clear d0 d1 d2 d3 d4 d5 r0 r1 r2 r3 r4 r5 hR3 k3 fz
            generalize ((((((u3.setCell ⟨w.heap.size, 0, none⟩ (.int .i64 0)).setCell ⟨w.heap.size, 1, none⟩ (.int .i64 0)).setCell ⟨w.heap.size, 2, none⟩ (.int .i64 0)).setCell ⟨w.heap.size, 3, none⟩ (.int .i64 0)).setCell ⟨w.heap.size, 4, none⟩ (.int .u8 0)).setCell ⟨w.heap.size, 5, none⟩ (.string ⟨#[]⟩)) = Y at hy ky ⊢
            obtain ⟨d0, d1, d2, d3, d4, d5⟩ := six_cells hy
            exact bodyPost_ret (v := .tuple #[.agg #[.int .i64 0, .int .i64 0, .int .i64 0, .int .i64 0, .int .u8 0, .string ⟨#[]⟩], .int .i64 12]) (by simp [results, Tryz.results77, go_sem, d0, d1, d2, d3, d4, d5]) rfl ⟨rfl, ky⟩
          exact AllReadyH.nil
        exact AllReadyH.nil
      exact AllReadyH.nil
    exact AllReadyH.nil
set_option maxHeartbeats 4000000 in
set_option maxRecDepth 100000 in
theorem rdecode_n {s : ByteArray} (w : World) (h : ((s.size : Int) != 80) = true ∨ (((s.size : Int) != 80) = false ∧ ∃ z : Nat, z < 256 ∧ 44 < z ∧ ∀ w : World, (Instr.index 9 (.string s) (.int .i64 13)).run Tryz.prog w = .ok (.int .u8 (z : Int)) w)) :
    Calls Tryz.prog 77 #[.string s] w fun e w' => e = .returned (.tuple #[.agg #[.int .i64 0, .int .i64 0, .int .i64 0, .int .i64 0, .int .u8 0, .string ⟨#[]⟩], .int .i64 12]) ∧ Kept w w' := by
  have hk0 := (Kept.refl w).alloc (.cells (fcells 0 0 0 0 0 ⟨#[]⟩) 113)
  rcases h with h | ⟨h, z, z1, z2, i13⟩
  · go_enter Tryz.func77, Tryz.ntmps77
    go_wp2
    exact bodyPost_ret (v := .tuple #[.agg #[.int .i64 0, .int .i64 0, .int .i64 0, .int .i64 0, .int .u8 0, .string ⟨#[]⟩], .int .i64 12]) (by simp [results, Tryz.results77, go_sem]) rfl ⟨rfl, hk0⟩
  · have t2 : decide (44 < (z : Int)) = true := by simp; omega
    go_enter Tryz.func77, Tryz.ntmps77
    go_wp2
    exact bodyPost_ret (v := .tuple #[.agg #[.int .i64 0, .int .i64 0, .int .i64 0, .int .i64 0, .int .u8 0, .string ⟨#[]⟩], .int .i64 12]) (by simp [results, Tryz.results77, go_sem]) rfl ⟨rfl, hk0⟩
end Go.Proofs.YtckbhjjflpobbaaGreat.Fk

namespace Go.Proofs.YtckbhjjflpobbaaGreat.Fk
open Go.RowKit Go.Proofs.YtckbhjjflpobbaaGreat.Mem Go.Proofs.YtckbhjjflpobbaaGreat.Pk

theorem index_s (s : ByteArray) (i : Nat) (hi : i < s.size) (w : World) : (Instr.index 9 (.string s) (.int .i64 (i : Int))).run Tryz.prog w = .ok (.int .u8 ((s.data.toList.getD i 0).toNat : Int)) w := by
  have h := run_index_string (P := Tryz.prog) (w := w) (t := 9) (s := s) (k := .i64) (i := (i : Int)) Tryz.underlying9
  rw [dif_pos ⟨by omega, by omega⟩] at h
  rw [h]
  have e : (s[(i : Int).toNat]'(by simpa using hi)) = s.data.toList.getD i 0 := by
    have hl : i < s.data.toList.length := by simpa using hi
    simp only [Int.toNat_natCast]
    rw [List.getD_eq_getElem?_getD, List.getElem?_eq_getElem hl]
    rfl
  rw [e]
theorem byte_val (l : List UInt8) (n : Nat) (h : n < l.length) : val ((l.drop n).take 1) = (l.getD n 0).toNat := by
  have e : (l.drop n).take 1 = [l[n]] := by
    rw [List.drop_eq_getElem_cons h]; rfl
  rw [e]; simp [val, List.getD, h]
theorem dec_size {s : ByteArray} {c : Fr} (h : dec s = some c) : s.size = 80 := by
  obtain ⟨g, _, e⟩ := dec_some h
  rw [e, size_str, sec_len g.short]
theorem dec_nil {s : ByteArray} (h : dec s = none) : decF s = Fr.nil ∧ decE s = 12 := by unfold decF decE; rw [h]; exact ⟨rfl, rfl⟩
theorem l_drops (s : ByteArray) : l1 s = s.data.toList.drop 4 ∧ l2 s = s.data.toList.drop 10 ∧ l3 s = s.data.toList.drop 11 ∧ l4 s = s.data.toList.drop 12 ∧ l5 s = s.data.toList.drop 13 ∧ l6 s = s.data.toList.drop 14 ∧ l7 s = s.data.toList.drop 18 := by
  unfold l7 l6 l5 l4 l3 l2 l1
  simp [List.drop_drop]
theorem rdG (s : ByteArray) (h : s.size = 80) : RdG s (str (s.data.toList.take 4)) (str ((l1 s).take 6)) (flds s).data (flds s).boot (flds s).lsn (val ((l2 s).take 1)) (val ((l3 s).take 1)) (val ((l4 s).take 1)) (val ((l5 s).take 1)) (18 + val ((l5 s).take 1)) := by
  obtain ⟨e1, e2, e3, e4, e5, _, e7⟩ := l_drops s
  have hl : s.data.toList.length = 80 := by rw [size_list, h]
  have b2 : val ((l2 s).take 1) = (s.data.toList.getD 10 0).toNat := by rw [e2]; exact byte_val _ _ (by omega)
  have b3 : val ((l3 s).take 1) = (s.data.toList.getD 11 0).toNat := by rw [e3]; exact byte_val _ _ (by omega)
  have b4 : val ((l4 s).take 1) = (s.data.toList.getD 12 0).toNat := by rw [e4]; exact byte_val _ _ (by omega)
  have b5 : val ((l5 s).take 1) = (s.data.toList.getD 13 0).toNat := by rw [e5]; exact byte_val _ _ (by omega)
  exact {
    sz := h
    i10 := fun w => by rw [b2]; exact index_s s 10 (by omega) w
    i11 := fun w => by rw [b3]; exact index_s s 11 (by omega) w
    i12 := fun w => by rw [b4]; exact index_s s 12 (by omega) w
    i13 := fun w => by rw [b5]; exact index_s s 13 (by omega) w
    hp := val_short
    hq := val_short
    hk := val_short
    hz := val_short
    e4 := str_inj (by rw [Lib.extract_data, list_str]; rfl)
    e6 := str_inj (by rw [Lib.extract_data, list_str, e1])
    hy := by omega
    ed := str_inj (by
      rw [Lib.extract_data]
      show _ = (str ((l7 s).take (val ((l5 s).take 1)))).data.toList
      rw [list_str, e7, Nat.add_sub_cancel_left])
    c4 := fun w => by
      have := rnumber_s (str (s.data.toList.take 4)) (by rw [size_str, List.length_take]; omega) w
      rwa [list_str] at this
    c6 := fun w => by
      have := rnumber_s (str ((l1 s).take 6)) (by rw [size_str, List.length_take, e1, List.length_drop]; omega) w
      rwa [list_str] at this }
/-- Decode of the specification. -/
theorem rdecode_c (s : ByteArray) (w : World) :
    Calls Tryz.prog 77 #[.string s] w fun e w' => e = .returned (.tuple #[.agg #[.int .i64 (decF s).boot, .int .i64 (decF s).lsn, .int .i64 (decF s).part, .int .i64 (decF s).parts, .int .u8 (decF s).kind, .string (decF s).data], .int .i64 (decE s)]) ∧ Kept w w' := by
  by_cases h80 : s.size = 80
  · have G := rdG s h80
    by_cases hz : val ((l5 s).take 1) ≤ 44
    · have ce := rencode_c (flds s) (flds_kind s) (Nat.le_trans (flds_small s) (by decide))
      by_cases h1 : (flds s).err = 0
      · by_cases h2 : (flds s).enc = s
        · obtain ⟨e1, e2⟩ := dec_ok h1 h2
          rw [e1, e2]
          rw [h1, h2] at ce
          exact rdecode_g G hz w ce
        · obtain ⟨e1, e2⟩ := dec_bad2 h2
          rw [e1, e2]
          refine rdecode_b G hz w _ _ (.inr ⟨h1, ?_⟩) ce
          simp only [Bool.not_eq_true', beq_eq_false_iff_ne, ne_eq]
          intro h
          refine h2 (str_inj ?_)
          rw [← Lib.toList_data, ← Lib.toList_data]; exact h
      · obtain ⟨e1, e2⟩ := dec_bad1 h1
        rw [e1, e2]
        exact rdecode_b G hz w _ _ (.inl (by simpa using h1)) ce
    · have e5 : (flds s).err = 5 := err5 (by
        show 44 < (str ((l7 s).take (val ((l5 s).take 1)))).size
        obtain ⟨_, _, _, _, _, _, e7⟩ := l_drops s
        have hl : s.data.toList.length = 80 := by rw [size_list, h80]
        rw [size_str, List.length_take, e7, List.length_drop]; omega)
      obtain ⟨e1, e2⟩ := dec_bad1 (s := s) (by rw [e5]; decide)
      rw [e1, e2]
      exact rdecode_n w (.inr ⟨by rw [h80]; rfl, _, G.hz, by omega, G.i13⟩)
  · have hn : dec s = none := by
      cases h : dec s with
      | none => rfl
      | some c => exact absurd (dec_size h) h80
    obtain ⟨e1, e2⟩ := dec_nil hn
    rw [e1, e2]
    exact rdecode_n w (.inl (by simp; omega))
end Go.Proofs.YtckbhjjflpobbaaGreat.Fk
