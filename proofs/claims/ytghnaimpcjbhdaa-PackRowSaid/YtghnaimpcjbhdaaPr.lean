/-
  What Unvar, Unint and Untext of package pack do.
-/
import Derived.Test.YtghnaimpcjbhdaaPq
import Derived.WalkSpells
namespace Go.Proofs.Ytghnaimpcjbhdaa.Pk
open Go.RowKit Go.Proofs.Ytghnaimpcjbhdaa.Mem

theorem not_empty {s : ByteArray} (hs : 0 < s.size) : s.toList.isEmpty = false := by
  rw [Lib.toList_data]
  obtain ⟨t, ht, _⟩ := first_byte s hs
  rw [ht]; rfl
set_option maxHeartbeats 400000 in
theorem unvar_empty (s : ByteArray) (hs : s.size = 0) (w : World) : Calls Try.prog 20 #[.string s] w fun e w' => e = .returned (.tuple #[.int .u64 0, .string ⟨#[]⟩, .int .i64 4]) ∧ Kept w w' := by
  obtain rfl : s = ⟨#[]⟩ := by apply ByteArray.ext; exact Array.eq_empty_of_size_eq_zero hs
  clear hs
  go_enter Try.func20, Try.ntmps20
  go_wp2
  go_ret3
  exact ⟨rfl, Kept.refl _⟩
set_option maxHeartbeats 400000 in
theorem unvar_one (s : ByteArray) (hs : 0 < s.size) (h : (s[0].toNat : Int) < 248) (w : World) : Calls Try.prog 20 #[.string s] w fun e w' => e = .returned (.tuple #[.int .u64 s[0].toNat, .string (s.extract 1 s.size), .int .i64 0]) ∧ Kept w w' := by
  have he := not_empty hs
  have i1 : (1 : Int) ≤ s.size := by omega
  go_enter Try.func20, Try.ntmps20
  go_wp2
  go_quiet (fail)
  go_wp2
  go_ret3
  exact ⟨rfl, (Kept.refl _).drewN _⟩
set_option maxHeartbeats 400000 in
set_option maxRecDepth 100000 in
theorem unvar_short (s : ByteArray) (b E : Nat) (H : Head s b E) (h2 : s.size < E) (w : World) : Calls Try.prog 20 #[.string s] w fun e w' => e = .returned (.tuple #[.int .u64 0, .string ⟨#[]⟩, .int .i64 4]) ∧ Kept w w' := by
  have hs := H.pos
  have hb := H.hb
  have h1 := H.lo
  have h3 := H.hi
  have hE := H.hE
  have h : decide ((b : Int) < 248) = false := by simp; omega
  have he := not_empty hs
  have i1 : (1 : Int) ≤ s.size := by omega
  have hd : decide (s.size < E) = true := by simpa using h2
  clear h2
  go_enter Try.func20, Try.ntmps20
  go_wp2_with fail
  go_ret3
  exact ⟨rfl, Kept.refl _⟩
/-- What the calls on the rest of a long number return. -/
structure UvG (s : ByteArray) (E V : Nat) (X : ByteArray) : Prop where
  cj : ∀ w, Calls Try.prog 33 #[.string (s.extract 1 E)] w fun e w' => e = .returned (.int .u64 V) ∧ Kept w w'
  cn : ∀ w, Calls Try.prog 31 #[.int .u64 V] w fun e w' => e = .returned (.string X) ∧ Kept w w'
set_option maxHeartbeats 800000 in
set_option maxRecDepth 100000 in
theorem unvar_long (s : ByteArray) (b E V : Nat) (X : ByteArray) (H : Head s b E) (h2 : E ≤ s.size) (G : UvG s E V X) (hq : (!X.toList == (s.extract 0 E).toList) = false) (w : World) : Calls Try.prog 20 #[.string s] w fun e w' => e = .returned (.tuple #[.int .u64 V, .string (s.extract E s.size), .int .i64 0]) ∧ Kept w w' := by
  have hs := H.pos
  have hb := H.hb
  have h1 := H.lo
  have h3 := H.hi
  have hE := H.hE
  have h : decide ((b : Int) < 248) = false := by simp; omega
  have he := not_empty hs
  have i1 : (1 : Int) ≤ s.size := by omega
  have i2 : (1 : Int) ≤ (E : Int) := by omega
  have i3 : (E : Int) ≤ s.size := by omega
  have hd : decide (s.size < E) = false := by simpa using h2
  clear h2
  go_enter Try.func20, Try.ntmps20
  go_wp2_with (go_at_call 33; (with_reducible refine (G.cj _).mono ?_); rintro e w1 ⟨rfl, hk1⟩)
  go_region_held3 (fun W => Kept w W) (first | assumption | (refine Kept.trans ?_ ‹_›; assumption) | exact Kept.drew ‹_›) (first
    | (go_at_call 31; (with_reducible refine (G.cn _).mono ?_); rintro e u ⟨rfl, hg⟩))
  go_wp2_with fail
  go_quiet (fail)
  go_wp2_with fail
  go_ret3
  exact ⟨rfl, Kept.drewN ‹_› _⟩
set_option maxHeartbeats 800000 in
set_option maxRecDepth 100000 in
theorem unvar_other (s : ByteArray) (b E V : Nat) (X : ByteArray) (H : Head s b E) (h2 : E ≤ s.size) (G : UvG s E V X) (hq : (!X.toList == (s.extract 0 E).toList) = true) (w : World) : Calls Try.prog 20 #[.string s] w fun e w' => e = .returned (.tuple #[.int .u64 0, .string ⟨#[]⟩, .int .i64 4]) ∧ Kept w w' := by
  have hs := H.pos
  have hb := H.hb
  have h1 := H.lo
  have h3 := H.hi
  have hE := H.hE
  have h : decide ((b : Int) < 248) = false := by simp; omega
  have he := not_empty hs
  have i1 : (1 : Int) ≤ s.size := by omega
  have i2 : (1 : Int) ≤ (E : Int) := by omega
  have i3 : (E : Int) ≤ s.size := by omega
  have hd : decide (s.size < E) = false := by simpa using h2
  clear h2
  go_enter Try.func20, Try.ntmps20
  go_wp2_with (go_at_call 33; (with_reducible refine (G.cj _).mono ?_); rintro e w1 ⟨rfl, hk1⟩)
  go_region_held3 (fun W => Kept w W) (first | assumption | (refine Kept.trans ?_ ‹_›; assumption) | exact Kept.drew ‹_›) (first
    | (go_at_call 31; (with_reducible refine (G.cn _).mono ?_); rintro e u ⟨rfl, hg⟩))
  go_wp2_with fail
  go_ret3
  exact ⟨rfl, ‹_›⟩

theorem uvG (s : ByteArray) (E V : Nat) (hV : val (s.extract 1 E).data.toList = V) (hU : U64 V) (h1 : 1 ≤ (s.extract 1 E).size) (h8 : (s.extract 1 E).size ≤ 8) : UvG s E V (str (num V)) := by
  subst hV
  exact ⟨join_any _ h1 h8, number_u _ hU⟩
/-- What Unvar returns. -/
def uvN (s : ByteArray) : Nat := match uv s with | some (n, _) => n | none => 0
def uvR (s : ByteArray) : ByteArray := match uv s with | some (_, r) => r | none => ⟨#[]⟩
def uvE (s : ByteArray) : Int := match uv s with | some _ => 0 | none => 4
theorem uvN_some {s r : ByteArray} {n : Nat} (h : uv s = some (n, r)) : uvN s = n := by unfold uvN; rw [h]
theorem uvR_some {s r : ByteArray} {n : Nat} (h : uv s = some (n, r)) : uvR s = r := by unfold uvR; rw [h]
theorem uvE_some {s r : ByteArray} {n : Nat} (h : uv s = some (n, r)) : uvE s = 0 := by unfold uvE; rw [h]
theorem uvN_none {s : ByteArray} (h : uv s = none) : uvN s = 0 := by unfold uvN; rw [h]
theorem uvR_none {s : ByteArray} (h : uv s = none) : uvR s = ⟨#[]⟩ := by unfold uvR; rw [h]
theorem uvE_none {s : ByteArray} (h : uv s = none) : uvE s = 4 := by unfold uvE; rw [h]
theorem unvar_any (s : ByteArray) (w : World) : Calls Try.prog 20 #[.string s] w fun e w' => e = .returned (.tuple #[.int .u64 (uvN s), .string (uvR s), .int .i64 (uvE s)]) ∧ Kept w w' := by
  rcases uv_cases s with ⟨h, e⟩ | ⟨hs, h, e⟩ | ⟨b, E, H, ⟨h, e⟩ | ⟨h, V, hV, hU, h1, h8, ⟨hq, e⟩ | ⟨hq, e⟩⟩⟩
  · rw [uvN_none e, uvR_none e, uvE_none e]; exact unvar_empty s h w
  · rw [uvN_some e, uvR_some e, uvE_some e]; exact unvar_one s hs h w
  · rw [uvN_none e, uvR_none e, uvE_none e]; exact unvar_short s b E H h w
  · rw [uvN_none e, uvR_none e, uvE_none e]; exact unvar_other s b E V _ H h (uvG s E V hV hU h1 h8) hq w
  · rw [uvN_some e, uvR_some e, uvE_some e]; exact unvar_long s b E V _ H h (uvG s E V hV hU h1 h8) hq w
theorem unvar_some {s r : ByteArray} {n : Nat} (h : uv s = some (n, r)) (w : World) : Calls Try.prog 20 #[.string s] w fun e w' => e = .returned (.tuple #[.int .u64 n, .string r, .int .i64 0]) ∧ Kept w w' := by
  have := unvar_any s w
  rw [uvN_some h, uvR_some h, uvE_some h] at this; exact this
theorem unvar_none {s : ByteArray} (h : uv s = none) (w : World) : Calls Try.prog 20 #[.string s] w fun e w' => e = .returned (.tuple #[.int .u64 0, .string ⟨#[]⟩, .int .i64 4]) ∧ Kept w w' := by
  have := unvar_any s w
  rw [uvN_none h, uvR_none h, uvE_none h] at this; exact this
end Go.Proofs.Ytghnaimpcjbhdaa.Pk
