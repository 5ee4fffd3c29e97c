/-
  Layer 4's statements: sectors of a seed, the fixed disk.
-/
import Derived.Test.YtoclgneokfbobaaDo
namespace Go.Proofs.Ytoclgneokfbobaa.Dz
open Go.RowKit Go.ChangeShapes Go.WideShapes Go.ChangeAt Go.Proofs.Ytoclgneokfbobaa.Mem Go.Proofs.Ytoclgneokfbobaa.Fz
set_option linter.unusedVariables false

/-- The first k bytes of the sector of the seed b. -/
def secTo (b k : Nat) : List UInt8 := (List.range 80).map fun i => if i < k then UInt8.ofNat (b + 7 * i) else 0
def sec (b : Nat) : ByteArray := ⟨(secTo b 80).toArray⟩
theorem sec_size (b : Nat) : (sec b).size = 80 := by simp [sec, secTo, ByteArray.size]
theorem secTo_zero (b : Nat) : secTo b 0 = List.replicate 80 0 := by
  apply List.ext_getElem
  · simp [secTo]
  · intro i h1 h2; rw [List.getElem_replicate]; simp [secTo]
theorem secTo_succ (b k : Nat) : (secTo b k).set k (UInt8.ofNat (b + 7 * k)) = secTo b (k + 1) := by
  apply List.ext_getElem
  · simp [secTo]
  · intro i h1 h2
    rw [List.getElem_set]
    by_cases e : k = i
    · subst e; simp [secTo]
    · have : i < k + 1 ↔ i < k := by omega
      simp [secTo, e, this]
theorem secTo_len (b k : Nat) : (secTo b k).length = 80 := by simp [secTo]
set_option maxRecDepth 100000 in
theorem sector_c (b : Nat) (hb : b ≤ 255) (w : World) : Calls Try.prog 30 #[.int .u8 (b : Int)] w fun e w' => e = .returned (.string (sec b)) ∧ Kept w w' := by
  have hm := make_80
  have hst : Row w w.heap.size (secTo b 0) (w.alloc (.cells (Array.replicate 80 (.int .u8 0)) 5)) := by rw [secTo_zero]; exact zero_row w
  go_enter Try.func30, Try.ntmps30
  go_wp2
  go_loopw [4] (fun i wr => ∃ k : Nat, k ≤ 80 ∧ i = .int .i64 k ∧ Row w w.heap.size (secTo b k) wr) (fun i _ => 80 - (intOf i).toNat)
  case atStart => exact ⟨0, by omega, rfl, hst⟩
  case round =>
    clear hst
    obtain ⟨k, hk, rfl, hr⟩ := hrel
    by_cases hlt : k < 80
    · obtain ⟨⟨v, hc⟩, hf⟩ := hr.at k (by rw [secTo_len]; exact hlt)
      have Hr := Lib.hid hr
      clear hr
      go_wp2
      go_roundw
      case rel =>
        refine ⟨k + 1, by omega, by go_num, ?_⟩
        rw [← secTo_succ]
        exact Hr.out.set k _ (by rw [UInt8.toNat_ofNat']; omega) (by rw [secTo_len]; exact hlt)
      case measure => simp [intOf]; omega
    · obtain rfl : k = 80 := by omega
      have hs := hr.str 80 80 (by rw [secTo_len]; exact Nat.le_refl _)
      rw [List.take_of_length_le (by rw [secTo_len]; exact Nat.le_refl _)] at hs
      have Hr := Lib.hid hr
      clear hr
      go_wp2
      go_ret
      exact ⟨rfl, Hr.out.keptOf⟩
theorem look_fresh {n : Nat} {f : St} : (fresh n f).fu = f := rfl
theorem mix_all {a b : ByteArray} (ha : a.size = 80) (hb : b.size = 80) : mix 80 a b = a := by
  have ha' : a.data.size = 80 := ha
  have hb' : b.data.size = 80 := hb
  have e : (mix 80 a b).data = a.data := by
    unfold mix
    rw [hb]
    simp only [ByteArray.data_append, ByteArray.data_extract]
    rw [← ha', Array.extract_size, Array.extract_empty_of_stop_le_start (Nat.le_refl _), Array.append_empty]
  cases a; cases h : mix 80 _ b; rw [h] at e; simpa using e
theorem mix_none {a b : ByteArray} : mix 0 a b = b := by
  have e : (mix 0 a b).data = b.data := by
    unfold mix
    simp only [ByteArray.data_append, ByteArray.data_extract]
    have : b.size = b.data.size := rfl
    rw [this, Array.extract_size, Array.extract_empty_of_stop_le_start (Nat.le_refl _), Array.empty_append]
  cases b; cases h : mix 0 a _; rw [h] at e; simpa using e
/-- The state of the fixed disk. -/
def kn1 : Ds := (fresh 2 .idle).wrote 1 (sec 5)
def kn2 : Ds := kn1.settled fun _ => 80
theorem kn2_look : kn2.look 1 = sec 5 := by
  have e : kn2.look 1 = mix 80 (sec 5) Z := rfl
  rw [e]; exact mix_all (sec_size 5) Z_size
theorem kn2_dur : kn2.dur 0 = Z := rfl
theorem sec5_Z : (Z.toList == (sec 5).toList) = false := toList_ne (by decide)
theorem ok_kn1 : kn1.ok := (ok_fresh (n := 2) (f := .idle) (by decide) (by decide) trivial).wrote (by decide) (sec_size 5)
set_option maxHeartbeats 1000000 in
set_option maxRecDepth 100000 in
theorem known_c (w : World) : Calls Try.prog 9 #[] w fun e w' => e = .returned (.bool true) ∧ Kept w w' := by
  have hw : ∀ {F D : Nat} {W : World}, Own w [dk F D (fresh 2 .idle)] W → Calls Try.prog 15 #[.pointer (some ⟨D, 0, none⟩), .int .i64 1, .string (sec 5)] W fun e w' => e = .returned (.int .i64 0) ∧ Own w [dk F D kn1] w' := fun h => o_w0 h rfl (by decide) (k := 1) (by decide) (sec_size 5)
  have hs : ∀ {F D : Nat} {W : World}, Own w [dk F D kn1] W → Calls Try.prog 23 #[.pointer (some ⟨D, 0, none⟩)] W fun e w' => e = .returned (.int .i64 0) ∧ Own w [dk F D kn2] w' := fun h => o_s0 h rfl
  have hr : ∀ {F D : Nat} {W : World}, Own w [dk F D kn2] W → Calls Try.prog 19 #[.pointer (some ⟨D, 0, none⟩), .int .i64 1] W fun e w' => e = .returned (.tuple #[.string (sec 5), .int .i64 0]) ∧ Own w [dk F D kn2] w' := fun h => by
    have q := o_r0 h rfl (k := 1) (by decide)
    rw [kn2_look] at q
    exact q
  have hd : ∀ {F D : Nat} {W : World}, Own w [dk F D kn2] W → Calls Try.prog 18 #[.pointer (some ⟨D, 0, none⟩), .int .i64 0] W fun e w' => e = .returned (.string Z) ∧ Own w [dk F D kn2] w' := fun h => by
    have q := o_d0 h (k := 0) (by decide)
    rw [kn2_dur] at q
    exact q
  have hq := sec5_Z
  have h0 := Own.nil w
  have hsec : ∀ W, Calls Try.prog 30 #[.int .u8 5] W fun e w' => e = .returned (.string (sec 5)) ∧ Kept W w' := fun W => sector_c 5 (by decide) W
  have hnew : ∀ {F : Nat} {W : World}, Own w [fzA F .idle] W → Calls Try.prog 24 #[.int .i64 2, .pointer (some ⟨F, 0, none⟩)] W fun e w' => ∃ D, e = .returned (.tuple #[.pointer (some ⟨D, 0, none⟩), .int .i64 0]) ∧ Own w [dk F D (fresh 2 .idle)] w' := fun h => o_new h 0 rfl (n := 2) (by decide) (by decide)
  have hfn : ∀ {W : World}, Own w [] W → Calls Try.prog 21 #[] W fun e w' => ∃ F, e = .returned (.pointer (some ⟨F, 0, none⟩)) ∧ Own w [fzA F .idle] w' := fun h => o_fnew h
  obtain ⟨s5, hs5⟩ : ∃ x, x = sec 5 := ⟨_, rfl⟩
  rw [← hs5] at hw hr hq hsec
  obtain ⟨z, hz⟩ : ∃ x, x = Z := ⟨_, rfl⟩
  rw [← hz] at hd hq
  clear hs5 hz
  go_enter Try.func9, Try.ntmps9
  go_wp2_with (first
    | (go_at_call 21; refine (hfn ‹_›).mono ?_; rintro e u1 ⟨F, rfl, k1⟩)
    | (go_at_call 24; refine (hnew ‹_›).mono ?_; rintro e u2 ⟨D, rfl, k2⟩)
    | (go_at_call 30; refine (hsec _).mono ?_; rintro e u3 ⟨rfl, k3⟩; have k3' := Own.later ‹_› k3; clear k3)
    | (go_at_call 15; refine (hw ‹_›).mono ?_; rintro e u4 ⟨rfl, k4⟩)
    | (go_at_call 23; refine (hs ‹_›).mono ?_; rintro e u5 ⟨rfl, k5⟩)
    | (go_at_call 19; refine (hr ‹_›).mono ?_; rintro e u6 ⟨rfl, k6⟩)
    | (go_at_call 18; refine (hd ‹_›).mono ?_; rintro e u7 ⟨rfl, k7⟩))
  go_ret
  exact ⟨rfl, k7.kept⟩
end Go.Proofs.Ytoclgneokfbobaa.Dz
