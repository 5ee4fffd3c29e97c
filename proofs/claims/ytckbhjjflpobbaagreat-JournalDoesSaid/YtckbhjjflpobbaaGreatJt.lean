/-
  What a call with an armed fuse leaves, in one word for Append and Compact (plain mathematics).
-/
import Derived.Test.YtckbhjjflpobbaaGreatJn
import Derived.Test.YtckbhjjflpobbaaGreatJi
namespace Go.Proofs.YtckbhjjflpobbaaGreat.Jk
open Go Go.Proofs.YtckbhjjflpobbaaGreat.Pk Go.Proofs.YtckbhjjflpobbaaGreat.Fk Go.Proofs.YtckbhjjflpobbaaGreat.Dz Go.Proofs.YtckbhjjflpobbaaGreat.Rc Go.Proofs.YtckbhjjflpobbaaGreat.Fz
open Go.Proofs.YtckbhjjflpobbaaGreat.Hk (Hd Two Non Put saves saved saves_idle saved_put put_disk enc_size slot_nat look_dur)

/-- The records R with the header c: n3 strings x3 of the snapshot, n4 strings x4 behind it. -/
structure Data (c : Hd) (R : List Fr) (n3 : Nat) (x3 : Nat → ByteArray) (n4 : Nat) (x4 : Nat → ByteArray) : Prop where
  cn : c.snaps.toNat = n3
  most : n3 ≤ R.length
  cr : R.length - n3 = n4
  vs : ∀ i, i < n3 → xsF R i = x3 i
  vr : ∀ i, i < n4 → xsF R (n3 + i) = x4 i
theorem Data.eqs {c : Hd} {R : List Fr} {n3 n4 : Nat} {x3 x4 : Nat → ByteArray} (h : Data c R n3 x3 n4 x4) : eqS c.snaps.toNat (xsF R) n3 x3 = true ∧ eqS (R.length - c.snaps.toNat) (fun i => xsF R (c.snaps.toNat + i)) n4 x4 = true :=
  ⟨eqS_iff.mpr ⟨h.cn, fun i hi => h.vs i (by have := h.cn; omega)⟩, eqS_iff.mpr ⟨by rw [h.cn]; exact h.cr, fun i hi => by rw [h.cn]; exact h.vr i (by have := h.cn; have := h.cr; omega)⟩⟩
theorem xsF_app {R : List Fr} {r : Fr} {i : Nat} (h : i < R.length) : xsF (R ++ [r]) i = xsF R i := by unfold xsF; rw [List.getElem?_append_left h]
theorem xsF_last {R : List Fr} {r : Fr} : xsF (R ++ [r]) R.length = r.data := by unfold xsF; rw [List.getElem?_append_right (Nat.le_refl _), Nat.sub_self]; rfl
def snoc (n : Nat) (x : Nat → ByteArray) (d : ByteArray) (i : Nat) : ByteArray := if i < n then x i else d
theorem Data.snoc {c : Hd} {R : List Fr} {n3 n4 : Nat} {x3 x4 : Nat → ByteArray} (h : Data c R n3 x3 n4 x4) (r : Fr) : Data c (R ++ [r]) n3 x3 (n4 + 1) (snoc n4 x4 r.data) := by
  have h1 := h.cn; have h2 := h.most; have h3 := h.cr
  refine ⟨h1, by rw [List.length_append]; omega, by rw [List.length_append, List.length_singleton]; omega, fun i hi => by rw [xsF_app (by omega)]; exact h.vs i hi, fun i hi => ?_⟩
  unfold Jk.snoc
  by_cases e : i < n4
  · rw [if_pos e, xsF_app (by omega)]; exact h.vr i e
  · rw [if_neg e, show n3 + i = R.length by omega, xsF_last]
theorem xsF_recs (b : Int) : ∀ (D : List ByteArray) (n : Int) (i : Nat), xsF (recsOf b n D) i = (D[i]?).getD ByteArray.empty
  | [], _, _ => rfl
  | d :: D, n, 0 => rfl
  | d :: D, n, i + 1 => by
    have := xsF_recs b D (n + 1) i
    show xsF (recd b n 1 d :: recsOf b (n + 1) D) (i + 1) = _
    unfold xsF at *
    rw [List.getElem?_cons_succ, List.getElem?_cons_succ]
    exact this
theorem xsF_dl {b n : Int} {x : Nat → ByteArray} {m i : Nat} (h : i < m) : xsF (recsOf b n (dl x m)) i = x i := by
  rw [xsF_recs]
  unfold dl
  rw [List.getElem?_map, List.getElem?_range h]
  rfl
/-- Bounds that grow from call to call. -/
structure Bnd (b q l : Int) (c : Hd) (R : List Fr) : Prop where
  boot : c.boot ≤ b
  seq : c.seq ≤ q
  lsn : lsnOf c R ≤ l
/-- What there is behind the call: refused, done, or cut. -/
inductive After (area : Nat) (c : Hd) (R : List Fr) (b q l : Int) (n3 : Nat) (x3 : Nat → ByteArray) (n4 : Nat) (x4 : Nat → ByteArray) : Int → Jw → Ds → Prop
  | refused {E : Int} {s' : Ds} (hE : E = 5 ∨ E = 9) (hd : s'.fu.dead = false) (l' : Live area { s' with fu := .idle } c R) : After area c R b q l n3 x3 n4 x4 E (jw area c R) s'
  | done {s' : Ds} {c' : Hd} {R' : List Fr} (hd : s'.fu.dead = false) (l' : Live area { s' with fu := .idle } c' R') (d : Data c' R' n3 x3 n4 x4) (hb : c'.boot = c.boot) (k : Bnd b (q + 1) (l + 41) c' R') : After area c R b q l n3 x3 n4 x4 0 (jw area c' R') s'
  | cut {j' : Jw} {s' : Ds} {c' : Hd} {R' : List Fr} (hd : s'.fu = .blown) (hp : s'.pend.length < 65536) (hn : s'.n = 2 + 2 * area) (hok : s'.ok) (d : Data c' R' n3 x3 n4 x4) (hb : c'.boot = c.boot) (k : Bnd b (q + 1) (l + 41) c' R')
      (hl : ∀ f : Nat → Nat, (∀ i, f i ≤ 80) → Lain area (crashed s' f) c R ∨ Lain area (crashed s' f) c' R') : After area c R b q l n3 x3 n4 x4 10 j' s'
theorem live_armed {area : Nat} {s : Ds} {c : Hd} {R : List Fr} (l : Live area s c R) (K : Nat) : Live area { armed s K with fu := .idle } c R := by
  have e : ({ armed s K with fu := .idle } : Ds) = s := by
    have := l.calm.fu
    cases s; simp only at this; subst this; rfl
  rw [e]; exact l
theorem Bnd.small {b q l : Int} {c : Hd} {R : List Fr} (k : Bnd b q l c R) (hb : b < 255) (hq : q < 281474976700000) (hl : l < 281474976700000) {m : Nat} (hm : m < 5000) : Small c R m :=
  ⟨by have := k.boot; omega, by have := k.seq; omega, by have := k.lsn; omega⟩
theorem after_append {area : Nat} {s : Ds} {c : Hd} {R : List Fr} {b q l : Int} (lv : Live area s c R) (k : Bnd b q l c R) (hb : b < 255) (hq : q < 281474976700000) (hl : l < 281474976700000) {nS nR : Nat} {xS xR : Nat → ByteArray} (d0 : Data c R nS xS nR xR) (d : ByteArray) (K : Nat) (hK : K < 12) :
    After area c R b q l nS xS (nR + 1) (snoc nR xR d) (appends (jw area c R) (armed s K) d).1 (appends (jw area c R) (armed s K) d).2.1 (appends (jw area c R) (armed s K) d).2.2 := by
  by_cases hbig : 4096 < d.size
  · have e : appends (jw area c R) (armed s K) d = (5, jw area c R, armed s K) := by
      unfold appends
      rw [if_neg (by show ¬ (false = true); decide), if_pos hbig]
    rw [e]
    exact .refused (.inl rfl) rfl (live_armed lv K)
  by_cases hroom : area < total R + parts d.size
  · have e : appends (jw area c R) (armed s K) d = (9, jw area c R, armed s K) := by
      unfold appends
      rw [if_neg (by show ¬ (false = true); decide), if_neg hbig, if_pos (.inr hroom)]
    rw [e]
    exact .refused (.inr rfl) rfl (live_armed lv K)
  obtain ⟨s1, l1, _, hw, hc⟩ := lv.append (k.small hb hq hl (m := 1) (by decide)) (d := d) (by omega) (by omega)
  have d1 := d0.snoc (recd c.boot (lsnOf c R + 1) 2 d)
  have elsn : lsnOf c (R ++ [recd c.boot (lsnOf c R + 1) 2 d]) = lsnOf c R + 1 := by unfold lsnOf; rw [List.length_append, List.length_singleton]; omega
  have kb : Bnd b (q + 1) (l + 41) c (R ++ [recd c.boot (lsnOf c R + 1) 2 d]) := ⟨k.boot, by have := k.seq; omega, by rw [elsn]; have := k.lsn; omega⟩
  by_cases hKp : parts d.size < K
  · rw [hw K hKp]
    exact .done rfl (live_armed l1 _) d1 rfl kb
  · obtain ⟨s2, h1, h2, h3, h4, h5, h6⟩ := hc K (by omega)
    rw [h1]
    exact .cut h2 (Nat.lt_of_le_of_lt h3 (by omega)) (h4.trans lv.calm.n) h5 d1 rfl kb h6
theorem after_compact {area : Nat} {s : Ds} {c : Hd} {R : List Fr} {b q l : Int} (lv : Live area s c R) (k : Bnd b q l c R) (hb : b < 255) (hq : q < 281474976700000) (hl : l < 281474976700000) (x : Nat → ByteArray) (m : Nat) (hm : m ≤ 40) (y : Nat → ByteArray) (K : Nat) (hK : K < 12) :
    After area c R b q l m x 0 y (compacts (jw area c R) (armed s K) x m).1 (compacts (jw area c R) (armed s K) x m).2.1 (compacts (jw area c R) (armed s K) x m).2.2 := by
  by_cases hfit : fits x m
  case neg =>
    have e : compacts (jw area c R) (armed s K) x m = (5, jw area c R, armed s K) := by
      unfold compacts
      rw [if_neg (by show ¬ (false = true); decide), if_pos hfit]
    rw [e]
    exact .refused (.inl rfl) rfl (live_armed lv K)
  by_cases hroom : area < pre x m
  · have e : compacts (jw area c R) (armed s K) x m = (9, jw area c R, armed s K) := by
      unfold compacts
      rw [if_neg (by show ¬ (false = true); decide), if_neg (fun h => h hfit), if_pos (show (jw area c R).area < pre x m from hroom)]
    rw [e]
    exact .refused (.inr rfl) rfl (live_armed lv K)
  obtain ⟨s2, l2, _, hw, hc, _⟩ := lv.compact (k.small hb hq hl (m := m) (by omega)) (by omega) hfit (by omega)
  have hlen : (recsOf c.boot (lsnOf c R + 1) (dl x m)).length = m := by rw [recsOf_len, dl_len]
  have d1 : Data ((jw area c R).next m) (recsOf c.boot (lsnOf c R + 1) (dl x m)) m x 0 y := ⟨rfl, by omega, by omega, fun i hi => xsF_dl hi, fun i hi => absurd hi (by omega)⟩
  have kb : Bnd b (q + 1) (l + 41) ((jw area c R).next m) (recsOf c.boot (lsnOf c R + 1) (dl x m)) := ⟨k.boot, by have := k.seq; show c.seq + 1 ≤ _; omega, by
    have := k.lsn
    unfold lsnOf at *
    rw [hlen]
    show (c.first - 1 + (R.length : Int)) + 1 - 1 + (m : Int) ≤ _
    omega⟩
  by_cases hKp : pre x m + 3 ≤ K
  · rw [hw K hKp]
    exact .done rfl (live_armed l2 _) d1 rfl kb
  · obtain ⟨j3, s3, h1, h2, h3, h4, h5, h6⟩ := hc K (by omega)
    rw [h1]
    exact .cut h2 (Nat.lt_of_le_of_lt h3 (by omega)) (h4.trans lv.calm.n) h5 d1 rfl kb h6
end Go.Proofs.YtckbhjjflpobbaaGreat.Jk
