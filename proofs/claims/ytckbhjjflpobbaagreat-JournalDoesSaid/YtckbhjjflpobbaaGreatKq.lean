/-
  Saving a header, whole or cut (plain mathematics).
-/
import Derived.Test.YtckbhjjflpobbaaGreatHp
import Derived.Test.YtckbhjjflpobbaaGreatDb
namespace Go.Proofs.YtckbhjjflpobbaaGreat.Hk
open Go Go.Proofs.YtckbhjjflpobbaaGreat.Pk Go.Proofs.YtckbhjjflpobbaaGreat.Dz Go.Proofs.YtckbhjjflpobbaaGreat.Fz
open Go.Proofs.YtckbhjjflpobbaaGreat.Fk (str_inj' cut_first cut_rest)

theorem put_ne {d : Nat → ByteArray} {i j : Nat} {v : ByteArray} (h : j ≠ i) : put d i v j = d j := by unfold put; rw [if_neg h]
theorem put_eq {d : Nat → ByteArray} {i : Nat} {v : ByteArray} : put d i v i = v := by unfold put; rw [if_pos rfl]
theorem mix_str {n : Nat} {x y : List UInt8} : mix n (str x) (str y) = str (x.take n ++ y.drop n) := by
  unfold mix
  rw [cut_first, cut_rest]
  apply str_inj
  rw [ByteArray.data_append, Array.toList_append, list_str, list_str, list_str]
theorem mix_80 {x y : List UInt8} (hx : x.length = 80) (hy : y.length = 80) : mix 80 (str x) (str y) = str x := by
  rw [mix_str, List.take_of_length_le (by omega), List.drop_eq_nil_of_le (by omega), List.append_nil]
/-- Header c is written into its slot, and the first k bytes of it come to the disk. -/
structure Put (S T : Nat → ByteArray) (c : Hd) (k : Nat) : Prop where
  le : k ≤ 80
  here : T (c.seq.toNat % 2) = mix k c.enc (S (c.seq.toNat % 2))
  away : ∀ i, i ≠ c.seq.toNat % 2 → T i = S i
/-- P7.5: cut, the newest header is the one before. -/
theorem Two.cut {S T : Nat → ByteArray} {h c : Hd} {k : Nat} (t : Two S h) (gc : c.good) (hc : c.seq = h.seq + 1) (p : Put S T c k) (hk : k < 80) : Two T h := by
  have s1 := t.good.s1
  obtain ⟨l, el, hl⟩ := t.other
  have e : c.seq.toNat % 2 = (h.seq.toNat + 1) % 2 := by omega
  have hh := p.here
  rw [e, el, Hd.enc_good gc, mix_str] at hh
  exact ⟨t.good, t.next, by rw [p.away _ (by omega)]; exact t.here, _, hh, hl.torn (by omega) hk⟩
/-- Whole, it is the new one. -/
theorem Two.saved {S T : Nat → ByteArray} {h c : Hd} (t : Two S h) (gc : c.good) (hc : c.seq = h.seq + 1) (hm : c.seq < 281474976710655) (p : Put S T c 80) : Two T c := by
  have s1 := t.good.s1
  obtain ⟨l, el, hl⟩ := t.other
  have e : c.seq.toNat % 2 = (h.seq.toNat + 1) % 2 := by omega
  have hh := p.here
  rw [e, el, Hd.enc_good gc, mix_80 (sec_len c) hl.len, ← e] at hh
  refine ⟨gc, hm, hh, h.sec, ?_, Stale.sec (by omega) (by omega)⟩
  rw [show (c.seq.toNat + 1) % 2 = h.seq.toNat % 2 by omega, p.away _ (by omega)]
  exact t.here
/-- There was no header yet: zeros, and what is left of attempts to save the first one. -/
structure Non (S : Nat → ByteArray) : Prop where
  zero : S 0 = str (List.replicate 80 0)
  one : ∃ l, S 1 = str l ∧ Stale 0 l
theorem stale_zeros : Stale 0 (List.replicate 80 0) := ⟨by simp, 0, by decide, by
  obtain ⟨K, hK, hm⟩ := Stale.zero.mix
  intro p hp
  have h0 : (List.replicate 80 (0 : UInt8)).getD p 0 = 0 := by
    rw [List.getD_eq_getElem?_getD, List.getElem?_replicate]; split <;> rfl
  have h2 : ∀ q, (be (0 - 1) 6).getD q 0 = 0 := by
    have e : be (0 - 1) 6 = [0, 0, 0, 0, 0, 0] := by decide
    intro q; rw [e]
    match q with
    | 0 => rfl
    | 1 => rfl
    | 2 => rfl
    | 3 => rfl
    | 4 => rfl
    | 5 => rfl
    | (q + 6) => rfl
  rw [if_neg (by omega), h0]; unfold seqAt; rw [h2]⟩
theorem zeros_dec : dec (str (List.replicate 80 0)) = none := by
  cases h : dec (str (List.replicate 80 0)) with
  | none => rfl
  | some c =>
    have := stale_zeros.low (by decide) h
    have := (dec_some h).1.s1
    omega
theorem Non.newest {S : Nat → ByteArray} (n : Non S) : newest S = none := by
  obtain ⟨l, el, hl⟩ := n.one
  have h0 : slot S 0 = none := by unfold slot; rw [n.zero, zeros_dec]
  have h1 : slot S 1 = none := by
    unfold slot; rw [el]
    cases h : dec (str l) with
    | none => rfl
    | some c =>
      have := hl.low (by decide) h
      have := (dec_some h).1.s1
      omega
  unfold Hk.newest
  rw [h0, h1]
theorem Non.cut {S T : Nat → ByteArray} {c : Hd} {k : Nat} (n : Non S) (gc : c.good) (hc : c.seq = 1) (p : Put S T c k) (hk : k < 80) : Non T := by
  obtain ⟨l, el, hl⟩ := n.one
  have e : c.seq.toNat % 2 = 1 := by rw [hc]; rfl
  have hh := p.here
  rw [e, el, Hd.enc_good gc, mix_str] at hh
  exact ⟨by rw [p.away _ (by omega)]; exact n.zero, _, hh, hl.torn (by omega) hk⟩
theorem Non.saved {S T : Nat → ByteArray} {c : Hd} (n : Non S) (gc : c.good) (hc : c.seq = 1) (p : Put S T c 80) : Two T c := by
  obtain ⟨l, el, hl⟩ := n.one
  have e : c.seq.toNat = 1 := by rw [hc]; rfl
  have hh := p.here
  rw [e, show 1 % 2 = 1 from rfl, el, Hd.enc_good gc, mix_80 (sec_len c) hl.len] at hh
  refine ⟨gc, by omega, by rw [e]; exact hh, List.replicate 80 0, ?_, by rw [e]; exact Stale.zero⟩
  rw [e, p.away _ (by rw [e]; decide)]
  exact n.zero
theorem Non.fresh (n : Nat) (f : St) : Non (fresh n f).dur := ⟨rfl, _, rfl, stale_zeros⟩
/-- On a disk where nothing is pending. -/
theorem put_disk {s : Ds} (hp : s.pend = []) (c : Hd) (f : Nat → Nat) (hf : f 0 ≤ 80) : Put s.dur ((s.wrote (c.seq.toNat % 2) c.enc).settled f).dur c (f 0) := by
  have e : ∀ i, ((s.wrote (c.seq.toNat % 2) c.enc).settled f).dur i = put s.dur (c.seq.toNat % 2) (mix (f 0) c.enc (s.dur (c.seq.toNat % 2))) i := by
    intro i
    show Dz.settle f (s.wrote _ _).pend s.dur (s.wrote _ _).pend.length i = _
    unfold Ds.wrote
    rw [hp]
    rfl
  exact ⟨hf, by rw [e, put_eq], fun i hi => by rw [e, put_ne hi]⟩
end Go.Proofs.YtckbhjjflpobbaaGreat.Hk
