/-
  What the specification's calls of layer 5 do: Fixed, Number, Zeros, Check, Encode.
  What the specification's Encode does.
  What the specification's Decode does.
  The specification's Decode, whole.
-/
import Derived.Test.YtmmlgnoicecgfaaFb
import Derived.Test.YtmmlgnoicecgfaaCb
import Derived.Test.YtmmlgnoicecgfaaPb
import Derived.Deep.RegionHeld3
namespace Go.Proofs.Ytmmlgnoicecgfaa.Fk
open Go.RowKit Go.Proofs.Ytmmlgnoicecgfaa.Mem Go.Proofs.Ytmmlgnoicecgfaa.Pk

theorem rfixed_n (n k : Nat) (h : n < 9223372036854775808) (h1 : 1 ≤ k) (h8 : k ≤ 8) (hw : n < 256 ^ k) (w : World) :
    Calls Try.prog 48 #[.int .i64 n, .int .i64 k] w fun e w' => e = .returned (.string (str (be n k))) ∧ Kept w w' := by
  have hc : ∀ w, Calls Try.prog 82 #[.int .u64 n, .int .i64 k] w fun e w' => e = .returned (.tuple #[.string (str (be n k)), .int .i64 0]) ∧ Kept w w' :=
    rfixed_ok n k (by unfold U64; omega) h1 h8 (wd_least h1 h8 hw)
  obtain ⟨S, hS⟩ : ∃ S, S = str (be n k) := ⟨_, rfl⟩
  rw [← hS] at hc ⊢
  clear hS hw
  go_enter Try.func48, Try.ntmps48
  go_wp2_with (go_at_call 82; (with_reducible refine (hc _).mono ?_); rintro e w' ⟨rfl, hk⟩)
  go_ret
  exact ⟨rfl, hk⟩
theorem rfixed_i (n : Int) (k : Nat) (h0 : 0 ≤ n) (h : n.toNat < 9223372036854775808) (h1 : 1 ≤ k) (h8 : k ≤ 8) (hw : n.toNat < 256 ^ k) (w : World) :
    Calls Try.prog 48 #[.int .i64 n, .int .i64 k] w fun e w' => e = .returned (.string (str (be n.toNat k))) ∧ Kept w w' := by
  have := rfixed_n n.toNat k h h1 h8 hw w
  rwa [Int.toNat_of_nonneg h0] at this
theorem rzeros_c (n : Nat) (hn : n ≤ 65536) (w : World) : Calls Try.prog 50 #[.int .i64 n] w fun e w' => e = .returned (.string (str (List.replicate n 0))) ∧ Kept w w' := by
  have hm := make_bytes n hn w
  have hs := bytes_str n w
  obtain ⟨S, hS⟩ : ∃ S, S = str (List.replicate n 0) := ⟨_, rfl⟩
  rw [← hS] at hs ⊢
  clear hS
  go_enter Try.func50, Try.ntmps50
  go_wp2
  go_ret
  exact ⟨rfl, (Kept.refl w).alloc _⟩
set_option maxHeartbeats 400000 in
theorem runfixed_s (s : ByteArray) (h1 : 1 ≤ s.size) (h8 : s.size ≤ 8) (w : World) : Calls Try.prog 86 #[.string s] w fun e w' => e = .returned (.tuple #[.int .u64 (val s.data.toList), .int .i64 0]) ∧ w = w' := by
  have H8 := Lib.hid h8
  have i8 : (s.size : Int) ≤ 8 := by omega
  have hd : decide ((s.size : Int) < 1) = false := by simp; omega
  have hd2 : decide (8 < (s.size : Int)) = false := by simp; omega
  clear h1 h8
  go_enter Try.func86, Try.ntmps86
  go_wp2
  go_loop [4, 5] (fun n i => ∃ j : Nat, j ≤ s.size ∧ i = .int .i64 j ∧ n = .int .u64 (val (s.data.toList.take j))) (fun _ i => s.size - (intOf i).toNat)
  case atStart => exact ⟨0, by omega, rfl, rfl⟩
  case round =>
    obtain ⟨j, hj, rfl, rfl⟩ := hrel
    by_cases hlt : j < s.size
    · go_wp2
      go_round
      case rel => exact ⟨j + 1, by omega, by go_num, val_un (add_step s j hlt H8.out)⟩
      case measure => simp [intOf]; omega
    · obtain rfl : j = s.size := by omega
      go_wp2
      go_ret2
      exact ⟨by rw [List.take_of_length_le (Nat.le_of_eq (size_list s))]; rfl, rfl⟩
theorem rnumber_s (s : ByteArray) (hs : 1 ≤ s.size ∧ s.size ≤ 6) (w : World) : Calls Try.prog 52 #[.string s] w fun e w' => e = .returned (.int .i64 (val s.data.toList)) ∧ w = w' := by
  have hc := runfixed_s s (by omega) (by omega)
  have hv : val s.data.toList < 281474976710656 := Nat.lt_of_lt_of_le (val_lt s.size _ (size_list s)) (Nat.pow_le_pow_right (n := 256) (by decide) hs.2)
  obtain ⟨v, hV⟩ : ∃ v, v = val s.data.toList := ⟨_, rfl⟩
  rw [← hV] at hc hv ⊢
  clear hV hs
  go_enter Try.func52, Try.ntmps52
  go_wp2_with (go_at_call 86; (with_reducible refine (hc _).mono ?_); rintro e w' ⟨rfl, rfl⟩)
  go_ret
  exact ⟨rfl, rfl⟩

theorem rnumber_c (s : ByteArray) (hs : 1 ≤ s.size ∧ s.size ≤ 6) (w : World) : Calls Try.prog 52 #[.string s] w fun e w' => e = .returned (.int .i64 (val s.data.toList)) ∧ Kept w w' :=
  (rnumber_s s hs w).mono fun _ _ ⟨h1, h2⟩ => ⟨h1, h2 ▸ Kept.refl w⟩

theorem err5 {f : Fr} (h : 44 < f.data.size) : f.err = 5 := by unfold Fr.err; rw [if_pos h]
theorem err0 {f : Fr} (h : f.data.size ≤ 44) (h2 : (1 ≤ f.boot ∧ f.boot ≤ 4294967295) ∧ (1 ≤ f.lsn ∧ f.lsn ≤ 281474976710655) ∧ (1 ≤ f.parts ∧ f.parts ≤ 255) ∧ 0 ≤ f.part ∧ f.part ≤ f.parts - 1) : f.err = 0 := by
  unfold Fr.err; rw [if_neg (by omega), if_pos (f.nums_iff.mpr h2)]
theorem err2 {f : Fr} (h : f.data.size ≤ 44) (h2 : ¬ ((1 ≤ f.boot ∧ f.boot ≤ 4294967295) ∧ (1 ≤ f.lsn ∧ f.lsn ≤ 281474976710655) ∧ (1 ≤ f.parts ∧ f.parts ≤ 255) ∧ 0 ≤ f.part ∧ f.part ≤ f.parts - 1)) : f.err = 2 := by
  unfold Fr.err; rw [if_neg (by omega), if_neg (fun h => h2 (f.nums_iff.mp h))]
end Go.Proofs.Ytmmlgnoicecgfaa.Fk

namespace Go.Proofs.Ytmmlgnoicecgfaa.Fk
open Go.RowKit Go.Proofs.Ytmmlgnoicecgfaa.Mem Go.Proofs.Ytmmlgnoicecgfaa.Pk

/-- What the specification's Encode takes: the pieces, and what each call returns. -/
structure RecG (b l p q : Int) (k : Nat) (d sB sL sP sQ sK sD sBL sN sNQ sNK sH sHD sX sHX sT sZ sTZ sR : ByteArray) (N1 Z : Int) : Prop where
  cB : ∀ w, Calls Try.prog 48 #[.int .i64 b, .int .i64 4] w fun e w' => e = .returned (.string sB) ∧ Kept w w'
  cL : ∀ w, Calls Try.prog 48 #[.int .i64 l, .int .i64 6] w fun e w' => e = .returned (.string sL) ∧ Kept w w'
  cP : ∀ w, Calls Try.prog 48 #[.int .i64 p, .int .i64 1] w fun e w' => e = .returned (.string sP) ∧ Kept w w'
  cQ : ∀ w, Calls Try.prog 48 #[.int .i64 q, .int .i64 1] w fun e w' => e = .returned (.string sQ) ∧ Kept w w'
  cK : ∀ w, Calls Try.prog 48 #[.int .i64 k, .int .i64 1] w fun e w' => e = .returned (.string sK) ∧ Kept w w'
  cD : ∀ w, Calls Try.prog 48 #[.int .i64 d.size, .int .i64 1] w fun e w' => e = .returned (.string sD) ∧ Kept w w'
  aBL : ∀ w, (Op.stringOp .add sB sL).run Try.prog w = .ok (.string sBL) w
  aN : ∀ w, (Op.stringOp .add sBL sP).run Try.prog w = .ok (.string sN) w
  aNQ : ∀ w, (Op.stringOp .add sN sQ).run Try.prog w = .ok (.string sNQ) w
  aNK : ∀ w, (Op.stringOp .add sNQ sK).run Try.prog w = .ok (.string sNK) w
  aH : ∀ w, (Op.stringOp .add sNK sD).run Try.prog w = .ok (.string sH) w
  aHD : ∀ w, (Op.stringOp .add sH d).run Try.prog w = .ok (.string sHD) w
  cS : ∀ w, Calls Try.prog 49 #[.string sHD] w fun e w' => e = .returned (.int .u32 N1) ∧ Kept w w'
  n0 : 0 ≤ N1
  n1 : N1 < 4294967296
  cX : ∀ w, Calls Try.prog 48 #[.int .i64 N1, .int .i64 4] w fun e w' => e = .returned (.string sX) ∧ Kept w w'
  aHX : ∀ w, (Op.stringOp .add sH sX).run Try.prog w = .ok (.string sHX) w
  aT : ∀ w, (Op.stringOp .add sHX d).run Try.prog w = .ok (.string sT) w
  tZ : 44 - (d.size : Int) + 7 = Z
  cZ : ∀ w, Calls Try.prog 50 #[.int .i64 Z] w fun e w' => e = .returned (.string sZ) ∧ Kept w w'
  aTZ : ∀ w, (Op.stringOp .add sT sZ).run Try.prog w = .ok (.string sTZ) w
  aR : ∀ w, (Op.stringOp .add sTZ sN).run Try.prog w = .ok (.string sR) w

theorem recG (f : Fr) (h : f.good) (hk : f.kind < 256) : ∃ sB sL sP sQ sK sD sBL sN sNQ sNK sH sHD sX sHX sT sZ sTZ N1 Z, RecG f.boot f.lsn f.part f.parts f.kind f.data sB sL sP sQ sK sD sBL sN sNQ sNK sH sHD sX sHX sT sZ sTZ (str f.sec) N1 Z := by
  have b1 := h.b1; have b2 := h.b2; have c1 := h.l1; have c2 := h.l2; have d1 := h.q1; have d2 := h.q2; have g1 := h.p1; have g2 := h.p2; have z := h.short
  have nl := name_len f
  have hl := head_len f
  have dl := size_list f.data
  have sm := f.sum.isLt
  have ed : f.data = str f.data.data.toList := (str_list f.data).symm
  refine ⟨str (be f.boot.toNat 4), str (be f.lsn.toNat 6), str (be f.part.toNat 1), str (be f.parts.toNat 1), str (be f.kind 1), str (be f.data.size 1), str (be f.boot.toNat 4 ++ be f.lsn.toNat 6), str f.name, str (f.name ++ be f.parts.toNat 1), str (f.name ++ be f.parts.toNat 1 ++ be f.kind 1), str f.head, str (f.head ++ f.data.data.toList), str (be f.sum.toNat 4), str (f.head ++ be f.sum.toNat 4), str (f.head ++ be f.sum.toNat 4 ++ f.data.data.toList), str (List.replicate (51 - f.data.size) 0), str (f.head ++ be f.sum.toNat 4 ++ f.data.data.toList ++ List.replicate (51 - f.data.size) 0), Crc.num f.sum, ((51 - f.data.size : Nat) : Int), ?_⟩
  exact {
    cB := rfixed_i f.boot 4 (by omega) (by omega) (by decide) (by decide) (by omega)
    cL := rfixed_i f.lsn 6 (by omega) (by omega) (by decide) (by decide) (by omega)
    cP := rfixed_i f.part 1 (by omega) (by omega) (by decide) (by decide) (by omega)
    cQ := rfixed_i f.parts 1 (by omega) (by omega) (by decide) (by decide) (by omega)
    cK := rfixed_n f.kind 1 (by omega) (by decide) (by decide) (by omega)
    cD := rfixed_n f.data.size 1 (by omega) (by decide) (by decide) (by omega)
    aBL := cat_c _ _ _ rfl (by rw [be_length, be_length]; omega)
    aN := cat_c _ _ _ (by unfold Fr.name; rw [List.append_assoc]) (by rw [List.length_append, be_length, be_length, be_length]; omega)
    aNQ := cat_c _ _ _ rfl (by rw [nl, be_length]; omega)
    aNK := cat_c _ _ _ rfl (by rw [List.length_append, nl, be_length, be_length]; omega)
    aH := cat_c _ _ _ (by unfold Fr.head; simp only [List.append_assoc]) (by rw [List.length_append, List.length_append, nl, be_length, be_length, be_length]; omega)
    aHD := fun w => by
      have := cat_c f.head f.data.data.toList _ rfl (by rw [hl]; omega) w
      rwa [← ed] at this
    cS := fun w => by
      refine (Crc.ref_sum (str (f.head ++ f.data.data.toList)) w (by rw [size_str, List.length_append, hl]; unfold maxLen; omega)).mono fun e w' ⟨h1, h2⟩ => ?_
      rw [list_str] at h1
      exact ⟨h1, h2 ▸ Kept.refl w⟩
    n0 := Crc.num_lo _
    n1 := Crc.num_hi _
    cX := fun w => rfixed_n f.sum.toNat 4 (by omega) (by decide) (by decide) (by omega) w
    aHX := cat_c _ _ _ rfl (by rw [hl, be_length]; omega)
    aT := fun w => by
      have := cat_c (f.head ++ be f.sum.toNat 4) f.data.data.toList _ rfl (by rw [List.length_append, hl, be_length]; omega) w
      rwa [← ed] at this
    tZ := by omega
    cZ := fun w => rzeros_c (51 - f.data.size) (by omega) w
    aTZ := cat_c _ _ _ rfl (by rw [List.length_append, List.length_append, hl, be_length, List.length_replicate]; omega)
    aR := cat_c _ _ _ (by unfold Fr.sec; simp only [List.append_assoc]) (by rw [List.length_append, List.length_append, List.length_append, hl, nl, be_length, List.length_replicate]; omega) }
end Go.Proofs.Ytmmlgnoicecgfaa.Fk

namespace Go.Proofs.Ytmmlgnoicecgfaa.Fk
open Go.RowKit Go.Proofs.Ytmmlgnoicecgfaa.Mem Go.Proofs.Ytmmlgnoicecgfaa.Pk

/-- What the specification's Decode takes. -/
structure RdG (s x4 x6 xd : ByteArray) (b l : Int) (p q k z y : Nat) : Prop where
  sz : s.size = 80
  i10 : ∀ w : World, (Instr.index 9 (.string s) (.int .i64 10)).run Try.prog w = .ok (.int .u8 (p : Int)) w
  i11 : ∀ w : World, (Instr.index 9 (.string s) (.int .i64 11)).run Try.prog w = .ok (.int .u8 (q : Int)) w
  i12 : ∀ w : World, (Instr.index 9 (.string s) (.int .i64 12)).run Try.prog w = .ok (.int .u8 (k : Int)) w
  i13 : ∀ w : World, (Instr.index 9 (.string s) (.int .i64 13)).run Try.prog w = .ok (.int .u8 (z : Int)) w
  hp : p < 256
  hq : q < 256
  hk : k < 256
  hz : z < 256
  e4 : s.extract 0 4 = x4
  e6 : s.extract 4 10 = x6
  hy : 18 + (z : Int) = (y : Int)
  ed : s.extract 18 y = xd
  c4 : ∀ w, Calls Try.prog 52 #[.string x4] w fun e w' => e = .returned (.int .i64 b) ∧ w = w'
  c6 : ∀ w, Calls Try.prog 52 #[.string x6] w fun e w' => e = .returned (.int .i64 l) ∧ w = w'

end Go.Proofs.Ytmmlgnoicecgfaa.Fk

namespace Go.Proofs.Ytmmlgnoicecgfaa.Fk
open Go.RowKit Go.Proofs.Ytmmlgnoicecgfaa.Mem Go.Proofs.Ytmmlgnoicecgfaa.Pk

theorem index_s (s : ByteArray) (i : Nat) (hi : i < s.size) (w : World) : (Instr.index 9 (.string s) (.int .i64 (i : Int))).run Try.prog w = .ok (.int .u8 ((s.data.toList.getD i 0).toNat : Int)) w := by
  have h := run_index_string (P := Try.prog) (w := w) (t := 9) (s := s) (k := .i64) (i := (i : Int)) Try.underlying9
  rw [dif_pos ⟨by omega, by omega⟩] at h
  rw [h]
  have e : (s[(i : Int).toNat]'(by simpa using hi)) = s.data.toList.getD i 0 := by
    have hl : i < s.data.toList.length := by simpa using hi
    simp only [Int.toNat_natCast]
    rw [List.getD_eq_getElem?_getD, List.getElem?_eq_getElem hl]
    rfl
  rw [e]
theorem byte_val (l : List UInt8) (n : Nat) (h : n < l.length) : val ((l.drop n).take 1) = (l.getD n 0).toNat := by
  have e : (l.drop n).take 1 = [l[n]] := by
    rw [List.drop_eq_getElem_cons h]; rfl
  rw [e]; simp [val, List.getD, h]
theorem dec_size {s : ByteArray} {c : Fr} (h : dec s = some c) : s.size = 80 := by
  obtain ⟨g, _, e⟩ := dec_some h
  rw [e, size_str, sec_len g.short]
theorem dec_nil {s : ByteArray} (h : dec s = none) : decF s = Fr.nil ∧ decE s = 12 := by unfold decF decE; rw [h]; exact ⟨rfl, rfl⟩
theorem l_drops (s : ByteArray) : l1 s = s.data.toList.drop 4 ∧ l2 s = s.data.toList.drop 10 ∧ l3 s = s.data.toList.drop 11 ∧ l4 s = s.data.toList.drop 12 ∧ l5 s = s.data.toList.drop 13 ∧ l6 s = s.data.toList.drop 14 ∧ l7 s = s.data.toList.drop 18 := by
  unfold l7 l6 l5 l4 l3 l2 l1
  simp [List.drop_drop]
theorem rdG (s : ByteArray) (h : s.size = 80) : RdG s (str (s.data.toList.take 4)) (str ((l1 s).take 6)) (flds s).data (flds s).boot (flds s).lsn (val ((l2 s).take 1)) (val ((l3 s).take 1)) (val ((l4 s).take 1)) (val ((l5 s).take 1)) (18 + val ((l5 s).take 1)) := by
  obtain ⟨e1, e2, e3, e4, e5, _, e7⟩ := l_drops s
  have hl : s.data.toList.length = 80 := by rw [size_list, h]
  have b2 : val ((l2 s).take 1) = (s.data.toList.getD 10 0).toNat := by rw [e2]; exact byte_val _ _ (by omega)
  have b3 : val ((l3 s).take 1) = (s.data.toList.getD 11 0).toNat := by rw [e3]; exact byte_val _ _ (by omega)
  have b4 : val ((l4 s).take 1) = (s.data.toList.getD 12 0).toNat := by rw [e4]; exact byte_val _ _ (by omega)
  have b5 : val ((l5 s).take 1) = (s.data.toList.getD 13 0).toNat := by rw [e5]; exact byte_val _ _ (by omega)
  exact {
    sz := h
    i10 := fun w => by rw [b2]; exact index_s s 10 (by omega) w
    i11 := fun w => by rw [b3]; exact index_s s 11 (by omega) w
    i12 := fun w => by rw [b4]; exact index_s s 12 (by omega) w
    i13 := fun w => by rw [b5]; exact index_s s 13 (by omega) w
    hp := val_short
    hq := val_short
    hk := val_short
    hz := val_short
    e4 := str_inj (by rw [Lib.extract_data, list_str]; rfl)
    e6 := str_inj (by rw [Lib.extract_data, list_str, e1])
    hy := by omega
    ed := str_inj (by
      rw [Lib.extract_data]
      show _ = (str ((l7 s).take (val ((l5 s).take 1)))).data.toList
      rw [list_str, e7, Nat.add_sub_cancel_left])
    c4 := fun w => by
      have := rnumber_s (str (s.data.toList.take 4)) (by rw [size_str, List.length_take]; omega) w
      rwa [list_str] at this
    c6 := fun w => by
      have := rnumber_s (str ((l1 s).take 6)) (by rw [size_str, List.length_take, e1, List.length_drop]; omega) w
      rwa [list_str] at this }
end Go.Proofs.Ytmmlgnoicecgfaa.Fk
