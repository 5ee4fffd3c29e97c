/-
  Layer 4: what becomes of writes when they are settled (plain mathematics).
-/
import Derived.Test.YtoclgneokfbobaaDf
namespace Go.Proofs.Ytoclgneokfbobaa.Dz
open Go.RowKit Go.Proofs.Ytoclgneokfbobaa.Mem Go.Proofs.Ytoclgneokfbobaa.Fz
set_option linter.unusedVariables false

/-- All kept. -/
theorem settle_all {f : Nat → Nat} (hf : ∀ k, f k = 80) {l : Pend} {d : Nat → ByteArray} {n : Nat} (hl : ∀ p ∈ l, p.1 < n ∧ p.2.size = 80) (hd : ∀ i, i < n → (d i).size = 80) :
    ∀ k, k ≤ l.length → ∀ i, i < n → settle f l d k i = (last (l.take k) i).getD (d i)
  | 0, _, i, _ => by simp [settle, last]
  | k + 1, hk, i, hi => by
    have hlt : k < l.length := hk
    have ih := settle_all hf hl hd k (by omega)
    have hp := hl l[k] (List.getElem_mem hlt)
    have e : l.take (k + 1) = l.take k ++ [(l[k].1, l[k].2)] := List.take_succ_eq_append_getElem hlt
    rw [settle_succ hlt, e, last_snoc]
    unfold put upd
    by_cases h : i = l[k].1
    · rw [if_pos h, if_pos h, hf, mix_all hp.2 (size_settle (fun k => by rw [hf]; exact Nat.le_refl _) hl hd k _ hp.1)]; rfl
    · rw [if_neg h, if_neg h]; exact ih i hi
theorem settled_look {f : Nat → Nat} (hf : ∀ k, f k = 80) {s : Ds} (h : s.ok) {i : Nat} (hi : i < s.n) : (s.settled f).dur i = s.look i := by
  show settle f s.pend s.dur s.pend.length i = _
  rw [settle_all hf h.pend h.dur _ (Nat.le_refl _) i hi, List.take_length]; rfl
theorem settled_settled (s : Ds) (f g : Nat → Nat) : (s.settled f).settled g = s.settled f := rfl
theorem look_settled (s : Ds) (f : Nat → Nat) (i : Nat) : (s.settled f).look i = (s.settled f).dur i := rfl
theorem left_all (k : Nat) : (⟨18446744073709551615, -1, 0⟩ : Ch).left k = 80 := by
  have h1 : ¬ (k : Int) = -1 := by omega
  have h2 : Nat.testBit 18446744073709551615 (k % 64) = true := by
    have e : (18446744073709551615 : Nat) = 2 ^ 64 - 1 := by decide
    rw [e, Nat.testBit_two_pow_sub_one]
    simp; omega
  simp only [Ch.left, h1, if_false, h2, if_true]
theorem ok_all : (⟨18446744073709551615, -1, 0⟩ : Ch).ok := ⟨by decide, by decide, by decide, by decide, by decide⟩
/-! Which writes and which choices matter. -/
theorem settle_congr {f g : Nat → Nat} {l : Pend} {d : Nat → ByteArray} (h : ∀ k, k < l.length → f k = g k) : ∀ k, settle f l d k = settle g l d k
  | 0 => rfl
  | k + 1 => by
    by_cases hk : k < l.length
    · rw [settle_succ hk, settle_succ hk, settle_congr h k, h k hk]
    · have e : l[k]? = none := by simp; omega
      simp only [settle, e]; exact settle_congr h k
theorem settle_only {f : Nat → Nat} {l l' : Pend} {d : Nat → ByteArray} {i : Nat} (hlen : l.length = l'.length) (h1 : ∀ k (h : k < l.length) (h' : k < l'.length), l[k].1 = l'[k].1) (h2 : ∀ k (h : k < l.length) (h' : k < l'.length), l[k].1 = i → l[k].2 = l'[k].2) :
    ∀ k, settle f l d k i = settle f l' d k i
  | 0 => rfl
  | k + 1 => by
    by_cases hk : k < l.length
    · have hk' : k < l'.length := by omega
      have ih := settle_only (f := f) (d := d) hlen h1 h2 k
      rw [settle_succ hk, settle_succ hk']
      unfold put
      rw [← h1 k hk hk']
      by_cases e : i = l[k].1
      · rw [if_pos e, if_pos e, ← h2 k hk hk' e.symm, ← e, ih]
      · rw [if_neg e, if_neg e]; exact ih
    · have e : l[k]? = none := by simp; omega
      have e' : l'[k]? = none := by simp; omega
      simp only [settle, e, e']; exact settle_only hlen h1 h2 k
/-- The choice with the bit of the torn write cleared. -/
def Ch.lost (c : Ch) (len : Nat) : Ch := if 0 ≤ c.torn ∧ c.torn < (len : Int) then ⟨c.keep &&& (18446744073709551615 - 2 ^ c.torn.toNat), -1, 0⟩ else ⟨c.keep, -1, 0⟩
def Ch.zero (c : Ch) : Ch := ⟨c.keep, c.torn, 0⟩
theorem ok_lost {c : Ch} (h : c.ok) (len : Nat) : (c.lost len).ok := by
  have := h.keep
  unfold Ch.lost
  split
  · exact ⟨Nat.lt_of_le_of_lt Nat.and_le_left this, by simp, by simp, by simp, by simp⟩
  · exact ⟨this, by simp, by simp, by simp, by simp⟩
theorem ok_zero {c : Ch} (h : c.ok) : c.zero.ok := ⟨h.keep, h.tlo, h.thi, by simp [Ch.zero], by simp [Ch.zero]⟩
theorem lost_zero (c : Ch) {len : Nat} (hl : len ≤ 64) {k : Nat} (hk : k < len) : (c.lost len).left k = c.zero.left k := by
  have hk64 : k % 64 = k := Nat.mod_eq_of_lt (by omega)
  have h1 : ¬ (k : Int) = -1 := by omega
  unfold Ch.lost
  split
  · rename_i h
    obtain ⟨t, ht⟩ : ∃ t : Nat, c.torn = (t : Int) := ⟨c.torn.toNat, by omega⟩
    have htl : t < 64 := by omega
    have e2 : (18446744073709551615 - 2 ^ t : Nat) = 2 ^ 64 - (2 ^ t + 1) := by omega
    have hb : Nat.testBit (18446744073709551615 - 2 ^ t) k = !decide (t = k) := by
      rw [e2, Nat.testBit_two_pow_sub_succ (Nat.pow_lt_pow_right (by decide) htl), Nat.testBit_two_pow]
      have : k < 64 := by omega
      simp [this]
    simp only [Ch.left, Ch.zero, h1, if_false, hk64, ht, Int.toNat_natCast, Nat.testBit_and, hb]
    by_cases e : k = t
    · subst e; simp
    · have e' : ¬ (k : Int) = (t : Int) := by omega
      have e'' : ¬ t = k := fun h => e h.symm
      simp [e', e'']
  · rename_i h
    have h2 : ¬ (k : Int) = c.torn := by omega
    simp only [Ch.left, Ch.zero, h1, h2, if_false]
    rfl
/-! The writes of a disk that is filled, none of which is synced. -/
theorem fill_pend (n : Nat) (X : Nat → Put) : ∀ k, (fillTo n X 0 k).pend = (List.range k).map (fun j => ((X j).i % n, sec (X j).b)) ∧ (fillTo n X 0 k).dur = fun _ => Z
  | 0 => ⟨rfl, rfl⟩
  | k + 1 => by
    obtain ⟨e1, e2⟩ := fill_pend n X k
    have e : fillTo n X 0 (k + 1) = (fillTo n X 0 k).wrote ((X k).i % n) (sec (X k).b) := by simp [fillTo]
    rw [e]
    exact ⟨by simp [Ds.wrote, e1, List.range_succ], e2⟩
/-- Only the writes to sector p; the others are of the seed 0. -/
def only (n : Nat) (X : Nat → Put) (p : Nat) (j : Nat) : Put := ⟨(X j).i, if (X j).i % n = p then (X j).b else 0⟩
theorem only_settled (n : Nat) (X : Nat → Put) (p len : Nat) (f : Nat → Nat) : ((fillTo n (only n X p) 0 len).settled f).dur p = ((fillTo n X 0 len).settled f).dur p := by
  obtain ⟨e1, e2⟩ := fill_pend n X len
  obtain ⟨a1, a2⟩ := fill_pend n (only n X p) len
  show settle f _ _ _ p = settle f _ _ _ p
  rw [e1, e2, a1, a2]
  have hl : ∀ Y : Nat → Put, ((List.range len).map (fun j => ((Y j).i % n, sec (Y j).b))).length = len := fun Y => by simp
  rw [hl, hl]
  refine settle_only (by simp) (fun k h h' => by simp [only]) (fun k h h' => ?_) len
  simp only [List.getElem_map, List.getElem_range, only]
  intro e; rw [if_pos e]
end Go.Proofs.Ytoclgneokfbobaa.Dz
