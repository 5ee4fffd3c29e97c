/-
  The specification's Decode, whole.
-/
import Derived.Test.YtnpjmjnekakgeaaFv
namespace Go.Proofs.Ytnpjmjnekakgeaa.Fk
open Go.RowKit Go.Proofs.Ytnpjmjnekakgeaa.Mem Go.Proofs.Ytnpjmjnekakgeaa.Pk

theorem index_s (s : ByteArray) (i : Nat) (hi : i < s.size) (w : World) : (Instr.index 9 (.string s) (.int .i64 (i : Int))).run Try.prog w = .ok (.int .u8 ((s.data.toList.getD i 0).toNat : Int)) w := by
  have h := run_index_string (P := Try.prog) (w := w) (t := 9) (s := s) (k := .i64) (i := (i : Int)) Try.underlying9
  rw [dif_pos ⟨by omega, by omega⟩] at h
  rw [h]
  have e : (s[(i : Int).toNat]'(by simpa using hi)) = s.data.toList.getD i 0 := by
    have hl : i < s.data.toList.length := by simpa using hi
    simp only [Int.toNat_natCast]
    rw [List.getD_eq_getElem?_getD, List.getElem?_eq_getElem hl]
    rfl
  rw [e]
theorem byte_val (l : List UInt8) (n : Nat) (h : n < l.length) : val ((l.drop n).take 1) = (l.getD n 0).toNat := by
  have e : (l.drop n).take 1 = [l[n]] := by
    rw [List.drop_eq_getElem_cons h]; rfl
  rw [e]; simp [val, List.getD, h]
theorem dec_size {s : ByteArray} {c : Fr} (h : dec s = some c) : s.size = 80 := by
  obtain ⟨g, _, e⟩ := dec_some h
  rw [e, size_str, sec_len g.short]
theorem dec_nil {s : ByteArray} (h : dec s = none) : decF s = Fr.nil ∧ decE s = 12 := by unfold decF decE; rw [h]; exact ⟨rfl, rfl⟩
theorem l_drops (s : ByteArray) : l1 s = s.data.toList.drop 4 ∧ l2 s = s.data.toList.drop 10 ∧ l3 s = s.data.toList.drop 11 ∧ l4 s = s.data.toList.drop 12 ∧ l5 s = s.data.toList.drop 13 ∧ l6 s = s.data.toList.drop 14 ∧ l7 s = s.data.toList.drop 18 := by
  unfold l7 l6 l5 l4 l3 l2 l1
  simp [List.drop_drop]
theorem rdG (s : ByteArray) (h : s.size = 80) : RdG s (str (s.data.toList.take 4)) (str ((l1 s).take 6)) (flds s).data (flds s).boot (flds s).lsn (val ((l2 s).take 1)) (val ((l3 s).take 1)) (val ((l4 s).take 1)) (val ((l5 s).take 1)) (18 + val ((l5 s).take 1)) := by
  obtain ⟨e1, e2, e3, e4, e5, _, e7⟩ := l_drops s
  have hl : s.data.toList.length = 80 := by rw [size_list, h]
  have b2 : val ((l2 s).take 1) = (s.data.toList.getD 10 0).toNat := by rw [e2]; exact byte_val _ _ (by omega)
  have b3 : val ((l3 s).take 1) = (s.data.toList.getD 11 0).toNat := by rw [e3]; exact byte_val _ _ (by omega)
  have b4 : val ((l4 s).take 1) = (s.data.toList.getD 12 0).toNat := by rw [e4]; exact byte_val _ _ (by omega)
  have b5 : val ((l5 s).take 1) = (s.data.toList.getD 13 0).toNat := by rw [e5]; exact byte_val _ _ (by omega)
  exact {
    sz := h
    i10 := fun w => by rw [b2]; exact index_s s 10 (by omega) w
    i11 := fun w => by rw [b3]; exact index_s s 11 (by omega) w
    i12 := fun w => by rw [b4]; exact index_s s 12 (by omega) w
    i13 := fun w => by rw [b5]; exact index_s s 13 (by omega) w
    hp := val_short
    hq := val_short
    hk := val_short
    hz := val_short
    e4 := str_inj (by rw [Lib.extract_data, list_str]; rfl)
    e6 := str_inj (by rw [Lib.extract_data, list_str, e1])
    hy := by omega
    ed := str_inj (by
      rw [Lib.extract_data]
      show _ = (str ((l7 s).take (val ((l5 s).take 1)))).data.toList
      rw [list_str, e7, Nat.add_sub_cancel_left])
    c4 := fun w => by
      have := rnumber_s (str (s.data.toList.take 4)) (by rw [size_str, List.length_take]; omega) w
      rwa [list_str] at this
    c6 := fun w => by
      have := rnumber_s (str ((l1 s).take 6)) (by rw [size_str, List.length_take, e1, List.length_drop]; omega) w
      rwa [list_str] at this }
/-- Decode of the specification. -/
theorem rdecode_c (s : ByteArray) (w : World) :
    Calls Try.prog 13 #[.string s] w fun e w' => e = .returned (.tuple #[.agg #[.int .i64 (decF s).boot, .int .i64 (decF s).lsn, .int .i64 (decF s).part, .int .i64 (decF s).parts, .int .u8 (decF s).kind, .string (decF s).data], .int .i64 (decE s)]) ∧ Kept w w' := by
  by_cases h80 : s.size = 80
  · have G := rdG s h80
    by_cases hz : val ((l5 s).take 1) ≤ 44
    · have ce := rencode_c (flds s) (flds_kind s) (Nat.le_trans (flds_small s) (by decide))
      by_cases h1 : (flds s).err = 0
      · by_cases h2 : (flds s).enc = s
        · obtain ⟨e1, e2⟩ := dec_ok h1 h2
          rw [e1, e2]
          rw [h1, h2] at ce
          exact rdecode_g G hz w ce
        · obtain ⟨e1, e2⟩ := dec_bad2 h2
          rw [e1, e2]
          refine rdecode_b G hz w _ _ (.inr ⟨h1, ?_⟩) ce
          simp only [Bool.not_eq_true', beq_eq_false_iff_ne, ne_eq]
          intro h
          refine h2 (str_inj ?_)
          rw [← Lib.toList_data, ← Lib.toList_data]; exact h
      · obtain ⟨e1, e2⟩ := dec_bad1 h1
        rw [e1, e2]
        exact rdecode_b G hz w _ _ (.inl (by simpa using h1)) ce
    · have e5 : (flds s).err = 5 := err5 (by
        show 44 < (str ((l7 s).take (val ((l5 s).take 1)))).size
        obtain ⟨_, _, _, _, _, _, e7⟩ := l_drops s
        have hl : s.data.toList.length = 80 := by rw [size_list, h80]
        rw [size_str, List.length_take, e7, List.length_drop]; omega)
      obtain ⟨e1, e2⟩ := dec_bad1 (s := s) (by rw [e5]; decide)
      rw [e1, e2]
      exact rdecode_n w (.inr ⟨by rw [h80]; rfl, _, G.hz, by omega, G.i13⟩)
  · have hn : dec s = none := by
      cases h : dec s with
      | none => rfl
      | some c => exact absurd (dec_size h) h80
    obtain ⟨e1, e2⟩ := dec_nil hn
    rw [e1, e2]
    exact rdecode_n w (.inl (by simp; omega))
end Go.Proofs.Ytnpjmjnekakgeaa.Fk
