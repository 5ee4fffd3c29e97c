/-
  What the laws of layer 5 share: two frames compared; the fixed frame.
-/
import Derived.Test.YtnpjmjnekakgeaaFg
namespace Go.Proofs.Ytnpjmjnekakgeaa.Fk
open Go.RowKit Go.Proofs.Ytnpjmjnekakgeaa.Mem Go.Proofs.Ytnpjmjnekakgeaa.Pk

def same (b l p q : Int) (k : Nat) (d : ByteArray) (b' l' p' q' : Int) (k' : Nat) (d' : ByteArray) : Bool :=
  b == b' && (l == l' && (p == p' && (q == q' && ((k : Int) == (k' : Int) && d.toList == d'.toList))))
theorem same_iff {b l p q : Int} {k : Nat} {d : ByteArray} {b' l' p' q' : Int} {k' : Nat} {d' : ByteArray} : same b l p q k d b' l' p' q' k' d' = true ↔ (⟨b, l, p, q, k, d⟩ : Fr) = ⟨b', l', p', q', k', d'⟩ := by
  unfold same
  simp only [Bool.and_eq_true, beq_iff_eq, Fr.mk.injEq]
  constructor
  · rintro ⟨h1, h2, h3, h4, h5, h6⟩
    exact ⟨h1, h2, h3, h4, by omega, str_inj (by rw [← Lib.toList_data, ← Lib.toList_data]; exact h6)⟩
  · rintro ⟨h1, h2, h3, h4, h5, h6⟩
    exact ⟨h1, h2, h3, h4, by omega, by rw [h6]⟩
theorem eqlF (b l p q : Int) (k : Nat) (d : ByteArray) (b' l' p' q' : Int) (k' : Nat) (d' : ByteArray) (w : World) :
    (binOp .eql 23 (.agg #[.int .i64 b, .int .i64 l, .int .i64 p, .int .i64 q, .int .u8 k, .string d]) (.agg #[.int .i64 b', .int .i64 l', .int .i64 p', .int .i64 q', .int .u8 k', .string d'])).run Try.prog w = .ok (.bool (same b l p q k d b' l' p' q' k' d')) w := by
  unfold same
  simp [go_sem, Try.underlying23]
  (repeat' split) <;> simp_all

set_option maxHeartbeats 4000000 in
set_option maxRecDepth 100000 in
theorem known_c (w : World) : Calls Try.prog 9 #[] w fun e w' => e = .returned (.bool true) ∧ Kept w w' := by
  obtain ⟨X, hX⟩ : ∃ X, X = (⟨7, 9, 1, 2, 0, ⟨#[120, 121, 122]⟩⟩ : Fr).enc := ⟨_, rfl⟩
  have hg : (⟨7, 9, 1, 2, 0, ⟨#[120, 121, 122]⟩⟩ : Fr).good := (Fr.err_zero _).mp (by decide)
  have ce : ∀ w, Calls Try.prog 10 #[.agg #[.int .i64 7, .int .i64 9, .int .i64 1, .int .i64 2, .int .u8 0, .string ⟨#[120, 121, 122]⟩]] w fun e w' => e = .returned (.tuple #[.string X, .int .i64 0]) ∧ Kept w w' := fun w => by
    have := encode_c ⟨7, 9, 1, 2, 0, ⟨#[120, 121, 122]⟩⟩ (by decide) (by decide) w
    rwa [(Fr.err_zero _).mpr hg, ← hX] at this
  have cd : ∀ w, Calls Try.prog 12 #[.string X] w fun e w' => e = .returned (.tuple #[.agg #[.int .i64 7, .int .i64 9, .int .i64 1, .int .i64 2, .int .u8 0, .string ⟨#[120, 121, 122]⟩], .int .i64 0]) ∧ Kept w w' := fun w => by
    have := decode_c X w
    rwa [hX, (decF_enc hg (by decide)).1, (decF_enc hg (by decide)).2, ← hX] at this
  have hs : X.size = 80 := by rw [hX, Fr.enc_good hg, size_str, sec_len hg.short]
  have hb0 := Box.start w 23 7 9 1 2 0 ⟨#[120, 121, 122]⟩
  have hk0 := (Kept.refl w).alloc (.cells #[.int .i64 7, .int .i64 9, .int .i64 1, .int .i64 2, .int .u8 0, .string ⟨#[120, 121, 122]⟩] 23)
  have t1 : ((X.size : Int) == 80) = true := by rw [hs]; rfl
  clear hX hg hs
  go_enter Try.func9, Try.ntmps9
  go_wp2_with (first
    | (go_at_call 10; (with_reducible refine (ce _).mono ?_); rintro e u1 ⟨rfl, k1⟩)
    | (go_at_call 12; (with_reducible refine (cd _).mono ?_); rintro e u2 ⟨rfl, k2⟩; have hb1 := (hb0.kept (k1.trans k2)).kept ((Kept.refl u2).alloc (.cells #[.int .i64 7, .int .i64 9, .int .i64 1, .int .i64 2, .int .u8 0, .string ⟨#[120, 121, 122]⟩] 23)); obtain ⟨_, c0, c1, c2, c3, c4, c5⟩ := hb1))
  go_ret
  exact ⟨rfl, ((hk0.trans k1).trans k2).alloc _⟩
end Go.Proofs.Ytnpjmjnekakgeaa.Fk
