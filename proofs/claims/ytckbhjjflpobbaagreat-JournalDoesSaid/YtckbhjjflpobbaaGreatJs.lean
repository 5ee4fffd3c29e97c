/-
  A sector of the journal that is overwritten, and torn, by a frame with a greater boot, or with the same boot and another number (plain mathematics).
-/
import Derived.Test.YtckbhjjflpobbaaGreatGd
import Derived.Test.YtckbhjjflpobbaaGreatHp
namespace Go.Proofs.YtckbhjjflpobbaaGreat.Jk
open Go Go.Proofs.YtckbhjjflpobbaaGreat.Pk Go.Proofs.YtckbhjjflpobbaaGreat.Fk Go.Proofs.YtckbhjjflpobbaaGreat.Dz Go.Proofs.YtckbhjjflpobbaaGreat.Rc

/-- At both ends of the sector there stands a boot less than B (at most 256). -/
structure lowAt (B : Nat) (l : List UInt8) : Prop where
  len : l.length = 80
  h0 : l.getD 0 0 = 0
  h1 : l.getD 1 0 = 0
  h2 : l.getD 2 0 = 0
  h3 : (l.getD 3 0).toNat < B
  t0 : l.getD 69 0 = 0
  t1 : l.getD 70 0 = 0
  t2 : l.getD 71 0 = 0
  t3 : (l.getD 72 0).toNat < B
def Low (B : Nat) (s : ByteArray) : Prop := ∃ l, s = str l ∧ lowAt B l
theorem Low.mono {A B : Nat} {s : ByteArray} (h : Low A s) (hab : A ≤ B) : Low B s := by
  obtain ⟨l, e, q⟩ := h
  exact ⟨l, e, q.len, q.h0, q.h1, q.h2, by have := q.h3; omega, q.t0, q.t1, q.t2, by have := q.t3; omega⟩
theorem Low.zero {B : Nat} (h : 0 < B) : Low B Z := ⟨_, Z_str, by simp, by decide, by decide, by decide, by rw [show ((List.replicate 80 (0 : UInt8)).getD 3 0).toNat = 0 by decide]; exact h, by decide, by decide, by decide, by rw [show ((List.replicate 80 (0 : UInt8)).getD 72 0).toNat = 0 by decide]; exact h⟩
theorem getD_app {a b : List UInt8} {n : Nat} (h : n < a.length) : (a ++ b).getD n 0 = a.getD n 0 := by
  rw [List.getD_eq_getElem?_getD, List.getElem?_append_left h, ← List.getD_eq_getElem?_getD]
theorem getD_take {a : List UInt8} {n k : Nat} (h : n < k) : (a.take k).getD n 0 = a.getD n 0 := by
  rw [List.getD_eq_getElem?_getD, List.getElem?_take, if_pos h, ← List.getD_eq_getElem?_getD]
theorem getD_drop {a : List UInt8} {n k : Nat} : (a.drop k).getD n 0 = a.getD (k + n) 0 := by
  rw [List.getD_eq_getElem?_getD, List.getElem?_drop, ← List.getD_eq_getElem?_getD]
theorem be_boot {b : Nat} (h : b < 256) : be b 4 = [0, 0, 0, UInt8.ofNat b] := by
  have e1 : b / 256 = 0 := by omega
  show ((([] ++ [UInt8.ofNat (b / 256 / 256 / 256)]) ++ [UInt8.ofNat (b / 256 / 256)]) ++ [UInt8.ofNat (b / 256)]) ++ [UInt8.ofNat b] = _
  rw [e1]; rfl
theorem name_boot {f : Fr} (h : f.boot.toNat < 256) : f.name.getD 0 0 = 0 ∧ f.name.getD 1 0 = 0 ∧ f.name.getD 2 0 = 0 ∧ (f.name.getD 3 0).toNat = f.boot.toNat := by
  unfold Fr.name
  rw [be_boot h]
  refine ⟨rfl, rfl, rfl, ?_⟩
  show (UInt8.ofNat f.boot.toNat).toNat = _
  rw [UInt8.toNat_ofNat']; exact Nat.mod_eq_of_lt (by omega)
theorem sec_boot {f : Fr} (g : f.good) (h : f.boot.toNat < 256) {B : Nat} (hb : f.boot.toNat < B) : lowAt B f.sec := by
  obtain ⟨n0, n1, n2, n3⟩ := name_boot h
  have e1 : ∀ {n}, n < 11 → f.sec.getD n 0 = f.name.getD n 0 := fun {n} hn => by rw [← sec_take f, getD_take hn]
  have e2 : ∀ {n}, f.sec.getD (69 + n) 0 = f.name.getD n 0 := fun {n} => by rw [← sec_drop g.short, getD_drop]
  exact ⟨sec_len g.short, by rw [e1 (by decide), n0], by rw [e1 (by decide), n1], by rw [e1 (by decide), n2], by rw [e1 (by decide), n3]; exact hb, by rw [show 69 = 69 + 0 from rfl, e2, n0], by rw [show 70 = 69 + 1 from rfl, e2, n1], by rw [show 71 = 69 + 2 from rfl, e2, n2], by rw [show 72 = 69 + 3 from rfl, e2, n3]; exact hb⟩
theorem Low.frame {f : Fr} (g : f.good) (h : f.boot.toNat < 256) {B : Nat} (hb : f.boot.toNat < B) : Low B (str f.sec) := ⟨_, rfl, sec_boot g h hb⟩
theorem val_boot {a b c d : UInt8} (h0 : a = 0) (h1 : b = 0) (h2 : c = 0) : val [a, b, c, d] = d.toNat := by
  subst h0 h1 h2
  simp [val]
theorem take_four {l : List UInt8} (h : 4 ≤ l.length) : l.take 4 = [l.getD 0 0, l.getD 1 0, l.getD 2 0, l.getD 3 0] := by
  match l, h with
  | a :: b :: c :: d :: r, _ => rfl
/-- What is decoded of such a sector has a lesser boot. -/
theorem low_dec {B : Nat} {s : ByteArray} (h : Low B s) {f : Fr} (hf : dec s = some f) : f.boot < B := by
  obtain ⟨l, rfl, q⟩ := h
  obtain ⟨el, en, _, g⟩ := dec_ends hf
  have hlen := q.len
  have b1 := g.b1; have b2 := g.b2
  have e : l.take 4 = be f.boot.toNat 4 := by
    have : (l.take 11).take 4 = be f.boot.toNat 4 := by rw [en]; unfold Fr.name; exact take_app (be_length _ _)
    rwa [List.take_take] at this
  have v := congrArg val e
  rw [val_be_lt (by omega), take_four (by omega), val_boot q.h0 q.h1 q.h2] at v
  have := q.h3
  omega
theorem mixed_len {z l : List UInt8} {n : Nat} (hz : z.length = 80) (hl : l.length = 80) (hn : n ≤ 80) : (z.take n ++ l.drop n).length = 80 := by
  rw [List.length_append, List.length_take, List.length_drop]; omega
theorem mixed_get {z l : List UInt8} {n p : Nat} (hz : z.length = 80) (hn : n ≤ 80) : (z.take n ++ l.drop n).getD p 0 = if p < n then z.getD p 0 else l.getD p 0 := by
  have lt : (z.take n).length = n := by rw [List.length_take]; omega
  by_cases h : p < n
  · rw [if_pos h, getD_app (by omega), getD_take h]
  · rw [if_neg h, List.getD_eq_getElem?_getD, List.getElem?_append_right (by omega), lt, List.getElem?_drop, List.getD_eq_getElem?_getD]
    congr 2; omega
theorem low_mixed {A B C : Nat} {z l : List UInt8} {n : Nat} (hz : lowAt A z) (hl : lowAt B l) (hn : n ≤ 80) (ha : A ≤ C) (hb : B ≤ C) : lowAt C (z.take n ++ l.drop n) := by
  have e := fun p => mixed_get (p := p) (l := l) hz.len hn
  have z3 := hz.h3; have l3 := hl.h3; have z7 := hz.t3; have l7 := hl.t3
  refine ⟨mixed_len hz.len hl.len hn, ?_, ?_, ?_, ?_, ?_, ?_, ?_, ?_⟩
  · rw [e]; split; exact hz.h0; exact hl.h0
  · rw [e]; split; exact hz.h1; exact hl.h1
  · rw [e]; split; exact hz.h2; exact hl.h2
  · rw [e]; split <;> omega
  · rw [e]; split; exact hz.t0; exact hl.t0
  · rw [e]; split; exact hz.t1; exact hl.t1
  · rw [e]; split; exact hz.t2; exact hl.t2
  · rw [e]; split <;> omega
theorem ext80 {a b : List UInt8} (ha : a.length = 80) (hb : b.length = 80) (h : ∀ p, p < 80 → a.getD p 0 = b.getD p 0) : a = b := by
  apply List.ext_getElem (by rw [ha, hb])
  intro p h1 h2
  have := h p (by omega)
  rw [List.getD_eq_getElem?_getD, List.getD_eq_getElem?_getD, List.getElem?_eq_getElem h1, List.getElem?_eq_getElem h2] at this
  simpa using this
/-- What is left of a sector s that z is written over, if only the first n bytes come to the disk: s, or z, or that of no frame. -/
def Left (z s m : ByteArray) : Prop := m = s ∨ m = z ∨ dec m = none
theorem mix_low {b : Nat} (hb : b < 256) {f : Fr} (g : f.good) (hf : f.boot = b) {s : ByteArray} (h : Low b s) {n : Nat} (hn : n ≤ 80) :
    Left (str f.sec) s (mix n (str f.sec) s) ∧ Low (b + 1) (mix n (str f.sec) s) := by
  obtain ⟨l, rfl, q⟩ := h
  have hfb : f.boot.toNat = b := by omega
  have hz : lowAt (b + 1) f.sec := sec_boot g (by omega) (by omega)
  rw [mix_str]
  have hlow : lowAt (b + 1) (f.sec.take n ++ l.drop n) := low_mixed hz q hn (Nat.le_refl _) (Nat.le_succ _)
  refine ⟨?_, _, rfl, hlow⟩
  have e := fun p => mixed_get (p := p) (l := l) hz.len hn
  have lz := hz.len; have ll := q.len
  obtain ⟨n0, n1, n2, n3⟩ := name_boot (f := f) (by omega)
  have zn : ∀ {p}, p < 11 → f.sec.getD p 0 = f.name.getD p 0 := fun {p} hp => by rw [← sec_take f, getD_take hp]
  have zt : ∀ {p}, f.sec.getD (69 + p) 0 = f.name.getD p 0 := fun {p} => by rw [← sec_drop g.short, getD_drop]
  by_cases hn3 : n ≤ 3
  · left
    congr 1
    refine ext80 hlow.len ll fun p hp => ?_
    rw [e]
    by_cases hp' : p < n
    · rw [if_pos hp']
      rcases (by omega : p = 0 ∨ p = 1 ∨ p = 2) with rfl | rfl | rfl
      · rw [hz.h0, q.h0]
      · rw [hz.h1, q.h1]
      · rw [hz.h2, q.h2]
    · rw [if_neg hp']
  · cases hd : dec (str (f.sec.take n ++ l.drop n)) with
    | none => exact .inr (.inr hd)
    | some c =>
      right; left
      obtain ⟨_, en, et, gc⟩ := dec_ends hd
      have same : ∀ p, p < 11 → (f.sec.take n ++ l.drop n).getD p 0 = (f.sec.take n ++ l.drop n).getD (69 + p) 0 := fun p hp => by
        rw [← getD_take (a := f.sec.take n ++ l.drop n) hp, et, getD_drop]
      have s3 := same 3 (by decide)
      rw [e, e, if_pos (by omega)] at s3
      have h72 : 72 < n := by
        refine Nat.lt_of_not_le fun hle => ?_
        rw [if_neg (by omega), zn (by decide)] at s3
        have := q.t3
        rw [← s3, n3] at this
        omega
      congr 1
      refine ext80 hlow.len lz fun p hp => ?_
      rw [e]
      by_cases hp' : p < n
      · rw [if_pos hp']
      · rw [if_neg hp']
        obtain ⟨j, rfl⟩ : ∃ j, p = 69 + j := ⟨p - 69, by omega⟩
        have sj := same j (by omega)
        rw [e, e, if_pos (by omega), if_neg hp'] at sj
        rw [← sj, zn (by omega), zt]
theorem mix_same {b : Nat} (hb : b < 256) {f c : Fr} (g : f.good) (gc : c.good) (hf : f.boot = b) (hc : c.boot = b) (hl : f.lsn ≠ c.lsn) {n : Nat} (hn : n ≤ 80) :
    Left (str f.sec) (str c.sec) (mix n (str f.sec) (str c.sec)) ∧ Low (b + 1) (mix n (str f.sec) (str c.sec)) := by
  have hz : lowAt (b + 1) f.sec := sec_boot g (by omega) (by omega)
  have hy : lowAt (b + 1) c.sec := sec_boot gc (by omega) (by omega)
  rw [mix_str]
  refine ⟨?_, _, rfl, low_mixed hz hy hn (Nat.le_refl _) (Nat.le_refl _)⟩
  by_cases h1 : f.sec.take n ++ c.sec.drop n = f.sec
  · exact .inr (.inl (by rw [h1]))
  · by_cases h2 : f.sec.take n ++ c.sec.drop n = c.sec
    · exact .inl (by rw [h2])
    · exact .inr (.inr (torn_none g gc (fun h => hl h.2.1) hn h1 h2))
/-- A sector while a journal with the boot b is open: written with a lesser boot, or by this journal, with a number of at most N. -/
def Was (b : Nat) (N : Int) (s : ByteArray) : Prop := Low b s ∨ ∃ c : Fr, c.good ∧ s = str c.sec ∧ c.boot = b ∧ c.lsn ≤ N
theorem Was.mono {b : Nat} {N M : Int} {s : ByteArray} (h : Was b N s) (hm : N ≤ M) : Was b M s := h.elim .inl fun ⟨c, g, e, hb, hl⟩ => .inr ⟨c, g, e, hb, by omega⟩
theorem Was.low {b : Nat} (hb : b < 256) {N : Int} {s : ByteArray} (h : Was b N s) : Low (b + 1) s := by
  rcases h with h | ⟨c, g, rfl, hc, _⟩
  · exact h.mono (Nat.le_succ _)
  · exact Low.frame g (by omega) (by omega)
theorem Was.torn {b : Nat} (hb : b < 256) {N : Int} {s : ByteArray} (h : Was b N s) {f : Fr} (g : f.good) (hf : f.boot = b) (hl : N < f.lsn) {n : Nat} (hn : n ≤ 80) :
    Left (str f.sec) s (mix n (str f.sec) s) ∧ Low (b + 1) (mix n (str f.sec) s) := by
  rcases h with h | ⟨c, gc, rfl, hc, hlc⟩
  · exact mix_low hb g hf h hn
  · exact mix_same hb g gc hf hc (by omega) hn
theorem Was.full {b : Nat} {N : Int} {s : ByteArray} (h : Was b N s) {f : Fr} (g : f.good) : mix 80 (str f.sec) s = str f.sec := by
  rcases h with ⟨l, rfl, q⟩ | ⟨c, gc, rfl, _⟩
  · exact mix_80 (sec_len g.short) q.len
  · exact mix_80 (sec_len g.short) (sec_len gc.short)
/-- What is decoded of it: a lesser boot, or this one and a number of at most N. -/
theorem Was.dec {b : Nat} {N : Int} {s : ByteArray} (h : Was b N s) {f : Fr} (hf : Fk.dec s = some f) (hk : f.boot = b) : f.lsn ≤ N := by
  rcases h with h | ⟨c, gc, rfl, hc, hl⟩
  · have := low_dec h hf; omega
  · obtain ⟨el, _, _, g⟩ := dec_ends hf
    have e1 := congrArg (List.take 11) el
    rw [sec_take, sec_take] at e1
    have := (name_inj gc g e1).2.1
    omega
end Go.Proofs.YtckbhjjflpobbaaGreat.Jk
