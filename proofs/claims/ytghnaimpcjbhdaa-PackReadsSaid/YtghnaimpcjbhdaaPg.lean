/-
  What the reading calls of layer 2's specification do.
-/
import Derived.Test.YtghnaimpcjbhdaaPf
namespace Go.Proofs.Ytghnaimpcjbhdaa.Pk
open Go.RowKit Go.Proofs.Ytghnaimpcjbhdaa.Mem

theorem runfixed_no (s : ByteArray) (hs : s.size < 1 ∨ 8 < s.size) (w : World) : Calls Try.prog 19 #[.string s] w fun e w' => e = .returned (.tuple #[.int .u64 0, .int .i64 2]) ∧ Kept w w' := by
  rcases hs with hs | hs
  · have hd : decide ((s.size : Int) < 1) = true := by simp; omega
    clear hs
    go_enter Try.func19, Try.ntmps19
    go_wp2
    go_ret2
    exact ⟨rfl, Kept.refl _⟩
  · have hd : decide ((s.size : Int) < 1) = false := by simp; omega
    have hd2 : decide (8 < (s.size : Int)) = true := by simp; omega
    clear hs
    go_enter Try.func19, Try.ntmps19
    go_wp2
    go_ret2
    exact ⟨rfl, Kept.refl _⟩
theorem add_step (s : ByteArray) (j : Nat) (hj : j < s.size) (h8 : s.size ≤ 8) :
    IntKind.u64.wrap (IntKind.u64.wrap ((val (s.data.toList.take j) : Int) * 256) + IntKind.u64.wrap (s[j].toNat : Int)) = (val (s.data.toList.take (j + 1)) : Int) := by
  have hb : s[j].toNat < 256 := UInt8.toNat_lt _
  have hl := size_list s
  have hv : val (s.data.toList.take j) < 72057594037927936 := by
    have := val_lt j (s.data.toList.take j) (by rw [List.length_take]; omega)
    have h2 := Nat.pow_le_pow_right (n := 256) (by decide) (show j ≤ 7 by omega)
    omega
  have ht : s.data.toList.take (j + 1) = s.data.toList.take j ++ [s[j]] := by
    rw [List.take_succ_eq_append_getElem (by omega)]; rfl
  rw [ht, val_snoc, IntKind.wrap_u64, IntKind.wrap_u64, IntKind.wrap_u64]; omega
set_option maxHeartbeats 400000 in
set_option maxRecDepth 100000 in
theorem runfixed_ok (s : ByteArray) (h1 : 1 ≤ s.size) (h8 : s.size ≤ 8) (w : World) : Calls Try.prog 19 #[.string s] w fun e w' => e = .returned (.tuple #[.int .u64 (val s.data.toList), .int .i64 0]) ∧ Kept w w' := by
  have H8 := Lib.hid h8
  have i8 : (s.size : Int) ≤ 8 := by omega
  have hd : decide ((s.size : Int) < 1) = false := by simp; omega
  have hd2 : decide (8 < (s.size : Int)) = false := by simp; omega
  clear h1 h8
  go_enter Try.func19, Try.ntmps19
  go_wp2
  go_loop [4, 5] (fun n i => ∃ j : Nat, j ≤ s.size ∧ i = .int .i64 j ∧ n = .int .u64 (val (s.data.toList.take j))) (fun _ i => s.size - (intOf i).toNat)
  case atStart => exact ⟨0, by omega, rfl, rfl⟩
  case round =>
    obtain ⟨j, hj, rfl, rfl⟩ := hrel
    by_cases hlt : j < s.size
    · go_wp2
      go_round
      case rel => exact ⟨j + 1, by omega, by go_num, val_un (add_step s j hlt H8.out)⟩
      case measure => simp [intOf]; omega
    · obtain rfl : j = s.size := by omega
      go_wp2
      go_ret2
      exact ⟨by rw [List.take_of_length_le (Nat.le_of_eq (size_list s))]; rfl, Kept.refl _⟩
theorem runfixed_any (s : ByteArray) (w : World) : Calls Try.prog 19 #[.string s] w fun e w' => e = .returned (.tuple #[.int .u64 (ufN s), .int .i64 (ufE s)]) ∧ Kept w w' := by
  unfold ufN ufE
  by_cases hs : s.size < 1 ∨ 8 < s.size
  · rw [if_pos hs, if_pos hs]; exact runfixed_no s hs w
  · rw [if_neg hs, if_neg hs]; exact runfixed_ok s (by omega) (by omega) w
set_option maxHeartbeats 400000 in
theorem runvar_empty (s : ByteArray) (hs : s.size = 0) (w : World) : Calls Try.prog 21 #[.string s] w fun e w' => e = .returned (.tuple #[.int .u64 0, .string ⟨#[]⟩, .int .i64 4]) ∧ Kept w w' := by
  obtain rfl : s = ⟨#[]⟩ := by apply ByteArray.ext; exact Array.eq_empty_of_size_eq_zero hs
  clear hs
  go_enter Try.func21, Try.ntmps21
  go_wp2
  go_ret3
  exact ⟨rfl, Kept.refl _⟩
/-- What Var returns for a number of one byte. -/
structure OneG (s : ByteArray) (b : Nat) (X : ByteArray) : Prop where
  pos : 0 < s.size
  hb : s[0].toNat = b
  hi : (b : Int) ≤ 247
  cn : ∀ w, Calls Try.prog 13 #[.int .u64 b] w fun e w' => e = .returned (.string X) ∧ Kept w w'
  hq : (!X.toList == (s.extract 0 1).toList) = false
theorem oneG (s : ByteArray) (hs : 0 < s.size) (h : (s[0].toNat : Int) < 248) : OneG s s[0].toNat (str (num s[0].toNat)) := by
  refine ⟨hs, rfl, by omega, rvar_any _ (by unfold U64; omega), ?_⟩
  obtain ⟨t, ht, _⟩ := first_byte s hs
  rw [Lib.toList_data, Lib.toList_data, list_str, Lib.extract_data, ht, num_small (by omega)]
  simp
set_option maxHeartbeats 800000 in
set_option maxRecDepth 100000 in
theorem runvar_oneG (s : ByteArray) (b : Nat) (X : ByteArray) (G : OneG s b X) (w : World) : Calls Try.prog 21 #[.string s] w fun e w' => e = .returned (.tuple #[.int .u64 b, .string (s.extract 1 s.size), .int .i64 0]) ∧ Kept w w' := by
  have hs := G.pos
  have hb := G.hb
  have h3 := G.hi
  have hq := G.hq
  have he := not_empty hs
  have i1 : (1 : Int) ≤ s.size := by omega
  have hk0 := Kept.refl w
  go_enter Try.func21, Try.ntmps21
  go_wp2_with fail
  go_region_held3 (fun W => Kept w W) (first | assumption | (refine Kept.trans ?_ ‹_›; assumption) | exact Kept.drew ‹_›) (first
    | (go_at_call 13; (with_reducible refine (G.cn _).mono ?_); rintro e u ⟨rfl, hg⟩))
  go_wp2_with fail
  go_quiet (fail)
  go_wp2_with fail
  go_ret3
  exact ⟨rfl, Kept.drewN ‹_› _⟩
theorem runvar_one (s : ByteArray) (hs : 0 < s.size) (h : (s[0].toNat : Int) < 248) (w : World) : Calls Try.prog 21 #[.string s] w fun e w' => e = .returned (.tuple #[.int .u64 s[0].toNat, .string (s.extract 1 s.size), .int .i64 0]) ∧ Kept w w' :=
  runvar_oneG s _ _ (oneG s hs h) w
set_option maxHeartbeats 400000 in
set_option maxRecDepth 100000 in
theorem runvar_short (s : ByteArray) (b E : Nat) (H : Head s b E) (h2 : s.size < E) (w : World) : Calls Try.prog 21 #[.string s] w fun e w' => e = .returned (.tuple #[.int .u64 0, .string ⟨#[]⟩, .int .i64 4]) ∧ Kept w w' := by
  have hs := H.pos
  have hb := H.hb
  have h1 := H.lo
  have h3 := H.hi
  have hE := H.hE
  have h : decide ((b : Int) < 248) = false := by simp; omega
  have he := not_empty hs
  have i1 : (1 : Int) ≤ s.size := by omega
  have hd : decide (s.size < E) = true := by simpa using h2
  clear h2
  go_enter Try.func21, Try.ntmps21
  go_wp2_with fail
  go_ret3
  exact ⟨rfl, Kept.refl _⟩
/-- What the calls on the rest of a long number return. -/
structure RvG (s : ByteArray) (E V : Nat) (X : ByteArray) : Prop where
  cj : ∀ w, Calls Try.prog 19 #[.string (s.extract 1 E)] w fun e w' => e = .returned (.tuple #[.int .u64 V, .int .i64 0]) ∧ Kept w w'
  cn : ∀ w, Calls Try.prog 13 #[.int .u64 V] w fun e w' => e = .returned (.string X) ∧ Kept w w'
set_option maxHeartbeats 800000 in
set_option maxRecDepth 100000 in
theorem runvar_long (s : ByteArray) (b E V : Nat) (X : ByteArray) (H : Head s b E) (h2 : E ≤ s.size) (G : RvG s E V X) (hq : (!X.toList == (s.extract 0 E).toList) = false) (w : World) : Calls Try.prog 21 #[.string s] w fun e w' => e = .returned (.tuple #[.int .u64 V, .string (s.extract E s.size), .int .i64 0]) ∧ Kept w w' := by
  have hs := H.pos
  have hb := H.hb
  have h1 := H.lo
  have h3 := H.hi
  have hE := H.hE
  have h : decide ((b : Int) < 248) = false := by simp; omega
  have he := not_empty hs
  have i1 : (1 : Int) ≤ s.size := by omega
  have i2 : (1 : Int) ≤ (E : Int) := by omega
  have i3 : (E : Int) ≤ s.size := by omega
  have hd : decide (s.size < E) = false := by simpa using h2
  clear h2
  go_enter Try.func21, Try.ntmps21
  go_wp2_with (go_at_call 19; (with_reducible refine (G.cj _).mono ?_); rintro e w1 ⟨rfl, hk1⟩)
  go_region_held3 (fun W => Kept w W) (first | assumption | (refine Kept.trans ?_ ‹_›; assumption) | exact Kept.drew ‹_›) (first
    | (go_at_call 13; (with_reducible refine (G.cn _).mono ?_); rintro e u ⟨rfl, hg⟩))
  go_wp2_with fail
  go_quiet (fail)
  go_wp2_with fail
  go_ret3
  exact ⟨rfl, Kept.drewN ‹_› _⟩
set_option maxHeartbeats 800000 in
set_option maxRecDepth 100000 in
theorem runvar_other (s : ByteArray) (b E V : Nat) (X : ByteArray) (H : Head s b E) (h2 : E ≤ s.size) (G : RvG s E V X) (hq : (!X.toList == (s.extract 0 E).toList) = true) (w : World) : Calls Try.prog 21 #[.string s] w fun e w' => e = .returned (.tuple #[.int .u64 0, .string ⟨#[]⟩, .int .i64 4]) ∧ Kept w w' := by
  have hs := H.pos
  have hb := H.hb
  have h1 := H.lo
  have h3 := H.hi
  have hE := H.hE
  have h : decide ((b : Int) < 248) = false := by simp; omega
  have he := not_empty hs
  have i1 : (1 : Int) ≤ s.size := by omega
  have i2 : (1 : Int) ≤ (E : Int) := by omega
  have i3 : (E : Int) ≤ s.size := by omega
  have hd : decide (s.size < E) = false := by simpa using h2
  clear h2
  go_enter Try.func21, Try.ntmps21
  go_wp2_with (go_at_call 19; (with_reducible refine (G.cj _).mono ?_); rintro e w1 ⟨rfl, hk1⟩)
  go_region_held3 (fun W => Kept w W) (first | assumption | (refine Kept.trans ?_ ‹_›; assumption) | exact Kept.drew ‹_›) (first
    | (go_at_call 13; (with_reducible refine (G.cn _).mono ?_); rintro e u ⟨rfl, hg⟩))
  go_wp2_with fail
  go_ret3
  exact ⟨rfl, ‹_›⟩

theorem rvG (s : ByteArray) (E V : Nat) (hV : val (s.extract 1 E).data.toList = V) (hU : U64 V) (h1 : 1 ≤ (s.extract 1 E).size) (h8 : (s.extract 1 E).size ≤ 8) : RvG s E V (str (num V)) := by
  subst hV
  exact ⟨runfixed_ok _ h1 h8, rvar_any _ hU⟩
theorem runvar_any (s : ByteArray) (w : World) : Calls Try.prog 21 #[.string s] w fun e w' => e = .returned (.tuple #[.int .u64 (uvN s), .string (uvR s), .int .i64 (uvE s)]) ∧ Kept w w' := by
  rcases uv_cases s with ⟨h, e⟩ | ⟨hs, h, e⟩ | ⟨b, E, H, ⟨h, e⟩ | ⟨h, V, hV, hU, h1, h8, ⟨hq, e⟩ | ⟨hq, e⟩⟩⟩
  · rw [uvN_none e, uvR_none e, uvE_none e]; exact runvar_empty s h w
  · rw [uvN_some e, uvR_some e, uvE_some e]; exact runvar_one s hs h w
  · rw [uvN_none e, uvR_none e, uvE_none e]; exact runvar_short s b E H h w
  · rw [uvN_none e, uvR_none e, uvE_none e]; exact runvar_other s b E V _ H h (rvG s E V hV hU h1 h8) hq w
  · rw [uvN_some e, uvR_some e, uvE_some e]; exact runvar_long s b E V _ H h (rvG s E V hV hU h1 h8) hq w
theorem runvar_some {s r : ByteArray} {n : Nat} (h : uv s = some (n, r)) (w : World) : Calls Try.prog 21 #[.string s] w fun e w' => e = .returned (.tuple #[.int .u64 n, .string r, .int .i64 0]) ∧ Kept w w' := by
  have := runvar_any s w
  rw [uvN_some h, uvR_some h, uvE_some h] at this; exact this
theorem runvar_none {s : ByteArray} (h : uv s = none) (w : World) : Calls Try.prog 21 #[.string s] w fun e w' => e = .returned (.tuple #[.int .u64 0, .string ⟨#[]⟩, .int .i64 4]) ∧ Kept w w' := by
  have := runvar_any s w
  rw [uvN_none h, uvR_none h, uvE_none h] at this; exact this
theorem mod_one {n : Nat} (h : ((n : Int) % 2 == 1) = true) : ((n : Int) % 2 != 0) = true := by simp at h ⊢; omega
theorem mod_zero {n : Nat} (h : ((n : Int) % 2 == 1) = false) : ((n : Int) % 2 != 0) = false := by simp at h ⊢; omega
set_option maxHeartbeats 400000 in
set_option maxRecDepth 100000 in
theorem runint_none {s : ByteArray} (h : uv s = none) (w : World) : Calls Try.prog 23 #[.string s] w fun e w' => e = .returned (.tuple #[.int .i64 0, .string ⟨#[]⟩, .int .i64 4]) ∧ Kept w w' := by
  have H := Lib.hid h
  clear h
  go_enter Try.func23, Try.ntmps23
  go_wp2_with (go_at_call 21; (with_reducible refine (runvar_none H.out _).mono ?_); rintro e w1 ⟨rfl, hk⟩)
  go_ret3
  exact ⟨rfl, hk⟩
set_option maxHeartbeats 400000 in
set_option maxRecDepth 100000 in
theorem runint_some {s r : ByteArray} {n : Nat} (h : uv s = some (n, r)) (w : World) : Calls Try.prog 23 #[.string s] w fun e w' => e = .returned (.tuple #[.int .i64 (zag n), .string r, .int .i64 0]) ∧ Kept w w' := by
  have H := Lib.hid h
  have hU := Lib.hid (uv_some h).1
  clear h
  go_enter Try.func23, Try.ntmps23
  go_wp2_with (go_at_call 21; (with_reducible refine (runvar_some H.out _).mono ?_); rintro e w1 ⟨rfl, hk⟩)
  all_goals
    go_ret3
    first | exact ⟨tup3 (zag_one hU (mod_one (by assumption))), hk⟩ | exact ⟨tup3 (zag_zero hU (mod_zero (by assumption))), hk⟩
theorem runint_any (s : ByteArray) (w : World) : Calls Try.prog 23 #[.string s] w fun e w' => e = .returned (.tuple #[.int .i64 (uiN s), .string (uvR s), .int .i64 (uvE s)]) ∧ Kept w w' := by
  cases h : uv s with
  | none =>
    have e : uiN s = 0 := by unfold uiN; rw [h]
    rw [e, uvR_none h, uvE_none h]; exact runint_none h w
  | some p =>
    obtain ⟨n, r⟩ := p
    have e : uiN s = zag n := by unfold uiN; rw [h]
    rw [e, uvR_some h, uvE_some h]; exact runint_some h w

set_option maxHeartbeats 400000 in
set_option maxRecDepth 100000 in
theorem runtext_none {s : ByteArray} (h : uv s = none) (w : World) : Calls Try.prog 25 #[.string s] w fun e w' => e = .returned (.tuple #[.string ⟨#[]⟩, .string ⟨#[]⟩, .int .i64 4]) ∧ Kept w w' := by
  have H := Lib.hid h
  clear h
  go_enter Try.func25, Try.ntmps25
  go_wp2_with (go_at_call 21; (with_reducible refine (runvar_none H.out _).mono ?_); rintro e w1 ⟨rfl, hk⟩)
  go_ret3
  exact ⟨rfl, hk⟩
set_option maxHeartbeats 400000 in
set_option maxRecDepth 100000 in
theorem runtext_short {s r : ByteArray} {n : Nat} (h : uv s = some (n, r)) (hr : I63 r.size) (hn : r.size < n) (w : World) : Calls Try.prog 25 #[.string s] w fun e w' => e = .returned (.tuple #[.string ⟨#[]⟩, .string ⟨#[]⟩, .int .i64 4]) ∧ Kept w w' := by
  have H := Lib.hid h
  have hw := size_wrap hr
  have hd : decide (r.size < n) = true := by simpa using hn
  clear h hn hr
  go_enter Try.func25, Try.ntmps25
  go_wp2_with (go_at_call 21; (with_reducible refine (runvar_some H.out _).mono ?_); rintro e w1 ⟨rfl, hk⟩)
  go_ret3
  exact ⟨rfl, hk⟩
set_option maxHeartbeats 400000 in
set_option maxRecDepth 100000 in
theorem runtext_ok {s r : ByteArray} {n : Nat} (h : uv s = some (n, r)) (hr : I63 r.size) (hn : n ≤ r.size) (w : World) : Calls Try.prog 25 #[.string s] w fun e w' => e = .returned (.tuple #[.string (r.extract 0 n), .string (r.extract n r.size), .int .i64 0]) ∧ Kept w w' := by
  have H := Lib.hid h
  have hw := size_wrap hr
  have hd : decide (r.size < n) = false := by simpa using hn
  have i1 : (n : Int) ≤ (r.size : Int) := by omega
  have i2 : (0 : Int) ≤ (n : Int) := by omega
  clear h hn hr
  go_enter Try.func25, Try.ntmps25
  go_wp2_with (go_at_call 21; (with_reducible refine (runvar_some H.out _).mono ?_); rintro e w1 ⟨rfl, hk⟩)
  go_quiet (fail)
  go_wp2_with fail
  go_ret3
  exact ⟨rfl, hk.drewN _⟩
theorem runtext_any (s : ByteArray) (hs : I63 s.size) (w : World) : Calls Try.prog 25 #[.string s] w fun e w' => e = .returned (.tuple #[.string (utS s), .string (utR s), .int .i64 (utE s)]) ∧ Kept w w' := by
  cases h : uv s with
  | none =>
    have hu : ut s = none := by unfold ut; rw [h]
    unfold utS utR utE; rw [hu]; exact runtext_none h w
  | some p =>
    obtain ⟨n, r⟩ := p
    have hr : I63 r.size := Nat.lt_trans (uv_some h).2.2 hs
    by_cases hn : n ≤ r.size
    · have hu : ut s = some (r.extract 0 n, r.extract n r.size) := by unfold ut; rw [h]; simp only [if_pos hn]
      unfold utS utR utE; rw [hu]; exact runtext_ok h hr hn w
    · have hu : ut s = none := by unfold ut; rw [h]; simp only [if_neg hn]
      unfold utS utR utE; rw [hu]; exact runtext_short h hr (by omega) w
end Go.Proofs.Ytghnaimpcjbhdaa.Pk
