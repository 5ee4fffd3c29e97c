/-
  JournalOnce: run.does (without further crashes), with the frames that were ever written.
-/
import Derived.Test.YtjbcpfndpfeepaaJka
import Derived.Test.YtjbcpfndpfeepaaJv
import Derived.Deep.AppendLies
import Derived.Deep.RegionHeldLaw
namespace Go.Proofs.Ytjbcpfndpfeepaa.Jk
open Go Go.RowKit Go.ChangeShapes Go.WideShapes Go.ChangeAt Go.Proofs.Ytjbcpfndpfeepaa.Mem Go.Proofs.Ytjbcpfndpfeepaa.Pk Go.Proofs.Ytjbcpfndpfeepaa.Fk Go.Proofs.Ytjbcpfndpfeepaa.Dz Go.Proofs.Ytjbcpfndpfeepaa.Fz Go.Proofs.Ytjbcpfndpfeepaa.Rc
open Go.Proofs.Ytjbcpfndpfeepaa.Hk (Hd saves saved saved_put loads o_save o_load hblock)

inductive After2 (area : Nat) (K : List Fr) (c : Hd) (R : List Fr) (b q l : Int) (n3 : Nat) (x3 : Nat → ByteArray) (n4 : Nat) (x4 : Nat → ByteArray) : Int → Jw → Ds → Prop
  | refused {E : Int} {s' : Ds} (hE : E = 5 ∨ E = 9) (hd : s'.fu.dead = false) (l' : Live area { s' with fu := .idle } c R) (bk : Book area K s'.dur c.boot (lsnOf c R)) : After2 area K c R b q l n3 x3 n4 x4 E (jw area c R) s'
  | done {s' : Ds} {c' : Hd} {R' : List Fr} {K' : List Fr} (hd : s'.fu.dead = false) (l' : Live area { s' with fu := .idle } c' R') (d : Data c' R' n3 x3 n4 x4) (hb : c'.boot = c.boot) (k : Bnd b (q + 1) (l + 41) c' R') (hK : ∀ f ∈ K, f ∈ K') (bk : Book area K' s'.dur c'.boot (lsnOf c' R')) : After2 area K c R b q l n3 x3 n4 x4 0 (jw area c' R') s'
  | cut {j' : Jw} {s' : Ds} {c' : Hd} {R' : List Fr} {K' : List Fr} (hd : s'.fu = .blown) (hp : s'.pend.length < 65536) (hn : s'.n = 2 + 2 * area) (hok : s'.ok) (d : Data c' R' n3 x3 n4 x4) (hb : c'.boot = c.boot) (k : Bnd b (q + 1) (l + 41) c' R') (hK : ∀ f ∈ K, f ∈ K')
      (hl : ∀ f : Nat → Nat, (∀ i, f i ≤ 80) → (Lain area (crashed s' f) c R ∨ Lain area (crashed s' f) c' R') ∧ ∀ b' n : Int, c.boot < b' → Book area K' (crashed s' f).dur b' n) : After2 area K c R b q l n3 x3 n4 x4 10 j' s'
theorem after_append2 {area : Nat} {K : List Fr} {s : Ds} {c : Hd} {R : List Fr} {b q l : Int} (lv : Live area s c R) (bk : Book area K s.dur c.boot (lsnOf c R)) (k : Bnd b q l c R) (hb : b < 255) (hq : q < 281474976700000) (hl : l < 281474976700000) {nS nR : Nat} {xS xR : Nat → ByteArray} (d0 : Data c R nS xS nR xR) (d : ByteArray) (M : Nat) (hM : M < 12) :
    After2 area K c R b q l nS xS (nR + 1) (snoc nR xR d) (appends (jw area c R) (armed s M) d).1 (appends (jw area c R) (armed s M) d).2.1 (appends (jw area c R) (armed s M) d).2.2 := by
  by_cases hbig : 4096 < d.size
  · have e : appends (jw area c R) (armed s M) d = (5, jw area c R, armed s M) := by
      unfold appends
      rw [if_neg (by show ¬ (false = true); decide), if_pos hbig]
    rw [e]
    exact .refused (.inl rfl) rfl (live_armed lv M) bk
  by_cases hroom : area < total R + parts d.size
  · have e : appends (jw area c R) (armed s M) d = (9, jw area c R, armed s M) := by
      unfold appends
      rw [if_neg (by show ¬ (false = true); decide), if_neg hbig, if_pos (.inr hroom)]
    rw [e]
    exact .refused (.inr rfl) rfl (live_armed lv M) bk
  have hsm : Small c R 1 := k.small hb hq hl (m := 1) (by decide)
  obtain ⟨s1, l1, hwr, hw, hc⟩ := lv.append2 hsm (d := d) (by omega) (by omega)
  have d1 := d0.snoc (recd c.boot (lsnOf c R + 1) 2 d)
  have elsn : lsnOf c (R ++ [recd c.boot (lsnOf c R + 1) 2 d]) = lsnOf c R + 1 := by unfold lsnOf; rw [List.length_append, List.length_singleton]; omega
  have kb : Bnd b (q + 1) (l + 41) c (R ++ [recd c.boot (lsnOf c R + 1) 2 d]) := ⟨k.boot, by have := k.seq; omega, by rw [elsn]; have := k.lsn; omega⟩
  have hn : num c.boot (lsnOf c R + 1) := by
    have := hsm.num lv.jo.jv (i := 0) (by decide)
    rwa [show lsnOf c R + 1 + ((0 : Nat) : Int) = lsnOf c R + 1 by omega] at this
  have hW : ∀ f ∈ frames c.boot (lsnOf c R + 1) 2 d, f.good ∧ f.kind < 256 ∧ f.boot = c.boot ∧ lsnOf c R < f.lsn ∧ f.lsn ≤ lsnOf c R + 1 := fun f hf => by
    obtain ⟨a, e1, e2, e3⟩ := frames_mem hn (by omega) hf
    exact ⟨a, by rw [e3]; decide, e1, by omega, by omega⟩
  have hap := frames_apart c.boot (lsnOf c R + 1) 2 d
  by_cases hKp : parts d.size < M
  · rw [hw M hKp]
    exact .done rfl (live_armed l1 _) d1 rfl kb (fun f hf => List.mem_append_left _ hf) (by rw [elsn]; exact bk.step hW hap (by omega) hwr)
  · obtain ⟨s2, h1, h2, h3, h4, h5, h6⟩ := hc M (by omega)
    rw [h1]
    exact .cut h2 (Nat.lt_of_le_of_lt h3 (by omega)) (h4.trans lv.calm.n) h5 d1 rfl kb (fun f hf => List.mem_append_left _ hf) fun f hf => ⟨(h6 f hf).1, fun b' n hb' => (bk.step hW hap (by omega) (h6 f hf).2).up hb' n⟩
theorem after_compact2 {area : Nat} {K : List Fr} {s : Ds} {c : Hd} {R : List Fr} {b q l : Int} (lv : Live area s c R) (bk : Book area K s.dur c.boot (lsnOf c R)) (k : Bnd b q l c R) (hb : b < 255) (hq : q < 281474976700000) (hl : l < 281474976700000) (x : Nat → ByteArray) (m : Nat) (hm : m ≤ 40) (y : Nat → ByteArray) (M : Nat) (hM : M < 12) :
    After2 area K c R b q l m x 0 y (compacts (jw area c R) (armed s M) x m).1 (compacts (jw area c R) (armed s M) x m).2.1 (compacts (jw area c R) (armed s M) x m).2.2 := by
  by_cases hfit : fits x m
  case neg =>
    have e : compacts (jw area c R) (armed s M) x m = (5, jw area c R, armed s M) := by
      unfold compacts
      rw [if_neg (by show ¬ (false = true); decide), if_pos hfit]
    rw [e]
    exact .refused (.inl rfl) rfl (live_armed lv M) bk
  by_cases hroom : area < pre x m
  · have e : compacts (jw area c R) (armed s M) x m = (9, jw area c R, armed s M) := by
      unfold compacts
      rw [if_neg (by show ¬ (false = true); decide), if_neg (fun h => h hfit), if_pos (show (jw area c R).area < pre x m from hroom)]
    rw [e]
    exact .refused (.inr rfl) rfl (live_armed lv M) bk
  have hsm : Small c R m := k.small hb hq hl (m := m) (by omega)
  obtain ⟨s2, l2, hwr, hw, hc⟩ := lv.compact2 hsm (by omega) hfit (by omega)
  have hlen : (recsOf c.boot (lsnOf c R + 1) (dl x m)).length = m := by rw [recsOf_len, dl_len]
  have d1 : Data ((jw area c R).next m) (recsOf c.boot (lsnOf c R + 1) (dl x m)) m x 0 y := ⟨rfl, by omega, by omega, fun i hi => xsF_dl hi, fun i hi => absurd hi (by omega)⟩
  have elsn : lsnOf ((jw area c R).next m) (recsOf c.boot (lsnOf c R + 1) (dl x m)) = lsnOf c R + (m : Int) := by
    show (lsnOf c R + 1) - 1 + ((recsOf c.boot (lsnOf c R + 1) (dl x m)).length : Int) = _
    rw [hlen]
    omega
  have kb : Bnd b (q + 1) (l + 41) ((jw area c R).next m) (recsOf c.boot (lsnOf c R + 1) (dl x m)) := ⟨k.boot, by have := k.seq; show c.seq + 1 ≤ _; omega, by
    have := k.lsn
    rw [elsn]
    omega⟩
  have hW : ∀ f ∈ snapF c.boot (lsnOf c R + 1) (dl x m), f.good ∧ f.kind < 256 ∧ f.boot = c.boot ∧ lsnOf c R < f.lsn ∧ f.lsn ≤ lsnOf c R + (m : Int) := fun f hf => by
    have h1 : 1 ≤ lsnOf c R + 1 := by have := lsn_pos lv.jo.jv; omega
    obtain ⟨a, e1, e2, e3, e4⟩ := snapF_mem ⟨lv.jo.jv.two.good.b1, lv.jo.jv.two.good.b2⟩ h1 (by rw [dl_len]; have := hsm.lsn; omega) (snap_mem hfit) hf
    rw [dl_len] at e3
    exact ⟨a, by rw [e4]; decide, e1, by omega, by omega⟩
  have hap := snapF_apart c.boot (dl x m) (lsnOf c R + 1)
  by_cases hKp : pre x m + 3 ≤ M
  · rw [hw M hKp]
    exact .done rfl (live_armed l2 _) d1 rfl kb (fun f hf => List.mem_append_left _ hf) (by rw [elsn]; exact bk.step hW hap (by omega) hwr)
  · obtain ⟨j3, s3, h1, h2, h3, h4, h5, h6⟩ := hc M (by omega)
    rw [h1]
    exact .cut h2 (Nat.lt_of_le_of_lt h3 (by omega)) (h4.trans lv.calm.n) h5 d1 rfl kb (fun f hf => List.mem_append_left _ hf) fun f hf => ⟨(h6 f hf).1, fun b' n hb' => (bk.step hW hap (by omega) (h6 f hf).2).up hb' n⟩
theorem o_app2 {w0 w : World} {X Y : As} {A : List As} {F D J area : Nat} {K : List Fr} {s : Ds} {c : Hd} {R : List Fr} {b q l : Int} {M : Nat} (h : Mem.Own w0 (X :: Y :: jA J D (jw area c R) :: dk F D (armed s M) :: A) w) (ha : area ≤ 32000) (lv : Live area s c R) (bk : Book area K s.dur c.boot (lsnOf c R)) (k : Bnd b q l c R) (hb : b < 255) (hq : q < 281474976700000) (hl : l < 281474976700000)
    {nS nR : Nat} {xS xR : Nat → ByteArray} (d0 : Data c R nS xS nR xR) (d : ByteArray) (hd : d.size ≤ maxLen) (hM : M < 12) :
    Calls Try.prog 17 #[.pointer (some ⟨J, 0, none⟩), .string d] w fun e w' => ∃ E j' s', e = .returned (.int .i64 E) ∧ After2 area K c R b q l nS xS (nR + 1) (snoc nR xR d) E j' s' ∧ Mem.Own w0 (X :: Y :: jA J D j' :: dk F D s' :: A) w' :=
  (o_append (perm_jd h) (lv.jok ha (k.small hb hq hl (m := 1) (by decide)) (armed s M) rfl) d hd).mono fun _ _ ⟨he, hw⟩ => ⟨_, _, _, he, after_append2 lv bk k hb hq hl d0 d M hM, perm_jd hw⟩
theorem o_com2 {w0 w : World} {X Y : As} {A : List As} {F D J area : Nat} {K : List Fr} {s : Ds} {c : Hd} {R : List Fr} {b q l : Int} {M : Nat} (h : Mem.Own w0 (X :: Y :: jA J D (jw area c R) :: dk F D (armed s M) :: A) w) (ha : area ≤ 32000) (lv : Live area s c R) (bk : Book area K s.dur c.boot (lsnOf c R)) (k : Bnd b q l c R) (hb : b < 255) (hq : q < 281474976700000) (hl : l < 281474976700000)
    {v : Value} {m : Nat} {x : Nat → ByteArray} (sv : Sees w0 A v m x) (hm : m ≤ 40) (hx : ∀ i, i < m → (x i).size ≤ maxLen) (y : Nat → ByteArray) (hM : M < 12) :
    Calls Try.prog 19 #[.pointer (some ⟨J, 0, none⟩), v] w fun e w' => ∃ E j' s', e = .returned (.int .i64 E) ∧ After2 area K c R b q l m x 0 y E j' s' ∧ Mem.Own w0 (X :: Y :: jA J D j' :: dk F D s' :: A) w' := by
  obtain ⟨ao, cap, rfl, _, hs⟩ := sv
  exact (o_compact (perm_jd h) ao cap m x (by omega) (lv.jok ha (k.small hb hq hl (m := m) (by omega)) (armed s M) rfl) hx (hs [_, _, _, _] w h)).mono fun _ _ ⟨he, hw⟩ => ⟨_, _, _, he, after_compact2 lv bk k hb hq hl x m hm y M hM, perm_jd hw⟩
/-- Things at the end of the list are no longer looked at. -/
theorem own_cut {w0 w : World} {M Z : List As} (h : Mem.Own w0 (M ++ Z) w) : Mem.Own w0 M w :=
  h.pick (fun i => i) (fun _ _ _ _ e => e) fun i a hi => by rw [List.getElem?_append_left (List.getElem?_eq_some_iff.1 hi).1]; exact hi
theorem Sees.wide {w0 : World} {t Z A : List As} (hA : A = t ++ Z) {v : Value} {n : Nat} {x : Nat → ByteArray} (h : Sees w0 t v n x) (Q : List As) : Sees w0 (Q ++ A) v n x := by
  obtain ⟨ao, cap, e, h0, hs⟩ := h
  refine ⟨ao, cap, e, h0, fun M W hW => hs (M ++ Q) W ?_⟩
  rw [hA, ← List.append_assoc, ← List.append_assoc] at hW
  exact own_cut hW
theorem Sees.wide2 {w0 : World} {t Z A Q : List As} (hA : A = t ++ Z) {v : Value} {n : Nat} {x : Nat → ByteArray} (h : Sees w0 (Q ++ t) v n x) : Sees w0 (Q ++ A) v n x := by
  have := Sees.wide (A := Q ++ A) (t := Q ++ t) (Z := Z) (by rw [hA, List.append_assoc]) h []
  exact this
/-- A run between two acts; behind its own things there lie others, Z, that it does not touch. -/
structure RanZ (w0 : World) (B area : Nat) (b q l : Int) (F D J : Nat) (s : Ds) (c : Hd) (R : List Fr) (t Z : List As) (vS vR : Value) (nS : Nat) (xS : Nat → ByteArray) (nR : Nat) (xR : Nat → ByteArray) (w : World) : Prop where
  own : Mem.Own w0 (runA B F D (.pointer (some ⟨J, 0, none⟩)) area vS vR c.boot :: jA J D (jw area c R) :: dk F D s :: (t ++ Z)) w
  live : Live area s c R
  sees : Sees w0 t vS nS xS
  seer : Sees w0 t vR nR xR
  data : Data c R nS xS nR xR
  bnd : Bnd b q l c R
/-- With the frames that were ever written. -/
def IsRan2 (w0 : World) (B area : Nat) (b q l : Int) (K : List Fr) (Z : List As) (w : World) : Prop := ∃ F D J s c R t vS vR nS xS nR xR, RanZ w0 B area b q l F D J s c R t Z vS vR nS xS nR xR w ∧ Book area K s.dur c.boot (lsnOf c R)
theorem IsRan2.more {w0 : World} {B area : Nat} {b q l b' q' l' : Int} {K : List Fr} {Z : List As} {w : World} (h : IsRan2 w0 B area b q l K Z w) (hb : b ≤ b') (hq : q ≤ q') (hl : l ≤ l') : IsRan2 w0 B area b' q' l' K Z w := by
  obtain ⟨F, D, J, s, c, R, t, vS, vR, nS, xS, nR, xR, r, bk⟩ := h
  exact ⟨F, D, J, s, c, R, t, vS, vR, nS, xS, nR, xR, ⟨r.own, r.live, r.sees, r.seer, r.data, r.bnd.more hb hq hl⟩, bk⟩
theorem opened_dur {area : Nat} {s sx : Ds} {c : Hd} {R : List Fr} (l : Lain area s c R) (k : c.boot < 4294967295 ∧ c.seq < 281474976710000) (h : saves s (nextHd c) = (0, sx)) : ∀ i, has area i → sx.dur i = s.dur i := by
  have g := next_good l.jv k
  rw [saves_i l.calm.fu (by rw [l.calm.n]; omega) g] at h
  cases h
  exact fun i hi => (saved_put l.calm.pend (nextHd c)).away i (slot_away hi)
/-- The opening behind the crash. -/
theorem Rest.opens2 {area : Nat} {K : List Fr} {b0 b q l : Int} {nS : Nat} {xS : Nat → ByteArray} {nR : Nat} {xR : Nat → ByteArray} {n3 : Nat} {x3 : Nat → ByteArray} {n4 : Nat} {x4 : Nat → ByteArray} {s : Ds} {c : Hd} {R : List Fr}
    (r : Rest area b0 b q l nS xS nR xR n3 x3 n4 x4 s c R) (bk : Book area K s.dur (c.boot + 1) (lsnOf c R)) (ha : 1 ≤ area ∧ area ≤ 32000) (hb : b < 4294967295) (hq : q < 281474976710000) {w0 w : World} {X Y : As} {t Z : List As} {B F D : Nat} {vJ vS vR v1 v2 : Value} (h : Mem.Own w0 (X :: runA B F D vJ area vS vR b0 :: Y :: dk F D s :: (t ++ Z)) w)
    (sS : Sees w0 t vS nS xS) (sR : Sees w0 t vR nR xR) (s1 : Sees w0 t v1 n3 x3) (s2 : Sees w0 t v2 n4 x4) (hS : nS < 4294967296 ∧ nR < 4294967296 ∧ n3 < 4294967296 ∧ n4 < 4294967296) :
    Calls Try.prog 11 #[.pointer (some ⟨B, 0, none⟩), v1, v2] w fun e w' => e = .returned (.bool true) ∧ IsRan2 w0 B area (b + 1) (q + 1) l K Z w' := by
  have kk : c.boot < 4294967295 ∧ c.seq < 281474976710000 := ⟨by have := r.bnd.boot; omega, by have := r.bnd.seq; omega⟩
  obtain ⟨sx, ho, hl⟩ := r.lain.open1 ha kk
  have hm := ho.most
  have hsx := opened_dur r.lain kk ho.save
  refine (o_opens (perm_rd h) ho (by have := r.low; omega) (sS.wide rfl [_, _]) (sR.wide rfl [_, _]) (s1.wide rfl [_, _]) (s2.wide rfl [_, _]) hS.1 hS.2.1 hS.2.2.1 hS.2.2.2 (r.data.imp (fun d => d.eqs) (fun d => d.eqs))).mono ?_
  rintro e w' ⟨J, vS', vR', rfl, hw⟩
  have hw2 := own_cut (M := _ :: _ :: _ :: _ :: _ :: _ :: _ :: t) (Z := Z) hw
  refine ⟨rfl, F, D, J, sx, nextHd c, R, _ :: _ :: _ :: _ :: t, vS', vR', c.snaps.toNat, xsF R, R.length - c.snaps.toNat, fun i => xsF R (c.snaps.toNat + i), ⟨hw, hl, (Sees.row (L := [_, _, _, _]) hw2).more [_], Sees.row (L := [_, _, _]) hw2, ⟨rfl, hm, rfl, fun _ _ => rfl, fun _ _ => rfl⟩, ⟨by have := r.bnd.boot; show c.boot + 1 ≤ _; omega, by have := r.bnd.seq; show c.seq + 1 ≤ _; omega, r.bnd.lsn⟩⟩, bk.then hsx⟩
set_option maxRecDepth 100000 in
set_option maxHeartbeats 8000000 in
theorem does_once {w0 w : World} {K : List Fr} {B area : Nat} {b q l : Int} {F D J : Nat} {s : Ds} {c : Hd} {R : List Fr} {t Z : List As} {vS vR : Value} {nS : Nat} {xS : Nat → ByteArray} {nR : Nat} {xR : Nat → ByteArray} (r : RanZ w0 B area b q l F D J s c R t Z vS vR nS xS nR xR w) (bk : Book area K s.dur c.boot (lsnOf c R))
    (ha : 1 ≤ area ∧ area ≤ 32000) (hb : b < 250) (hq : q < 281474976600000) (hl : l < 281474976600000) (o : Nat) (ho : o ≤ 255) (d : ByteArray) (hd : d.size ≤ maxLen) {aL : Option Addr} {m cL : Nat} {xL : Nat → ByteArray} (sL : Sees w0 t (.slice aL m cL) m xL) (hm : m ≤ 40) (hxL : ∀ i, i < m → (xL i).size ≤ maxLen)
    (KI : Int) (keep : Nat) (torn bytes : Int) (hch : Ch.ok ⟨keep, torn, bytes⟩) (k : Nat) (hk : k ≤ 255) :
    Calls Try.prog 10 #[.pointer (some ⟨B, 0, none⟩), .agg #[.int .u8 (o : Int), .string d, .slice aL m cL, .int .i64 KI, .int .u64 (keep : Int), .int .i64 torn, .int .i64 bytes], .int .u8 (k : Int), .slice none 0 0] w fun e w' => e = .returned (.bool true) ∧ ∃ K' : List Fr, (∀ f ∈ K, f ∈ K') ∧ IsRan2 w0 B area (b + 5) (q + 6) (l + 41) K' Z w' := by
  obtain ⟨A, hAt⟩ : ∃ A, A = t ++ Z := ⟨_, rfl⟩
  have rown := r.own
  rw [← hAt] at rown
  obtain ⟨X, hX⟩ : ∃ X, X = w.heap.size := ⟨_, rfl⟩
  have h0 : Mem.Own w0 (actA w.heap.size o d (.slice aL m cL) KI keep torn bytes :: runA B F D (.pointer (some ⟨J, 0, none⟩)) area vS vR c.boot :: jA J D (jw area c R) :: dk F D s :: A) (w.alloc (.cells #[.int .u8 (o : Int), .string d, .slice aL m cL, .int .i64 KI, .int .u64 (keep : Int), .int .i64 torn, .int .i64 bytes] 34)) := rown.box _ _
  have hset : Mem.Own w0 (actA w.heap.size o d (.slice none 0 0) KI keep torn bytes :: runA B F D (.pointer (some ⟨J, 0, none⟩)) area vS vR c.boot :: jA J D (jw area c R) :: dk F D s :: A) (w.alloc (.cells #[.int .u8 (o : Int), .string d, .slice none 0 0, .int .i64 KI, .int .u64 (keep : Int), .int .i64 torn, .int .i64 bytes] 34)) := rown.box _ _
  have H0 := Lib.hid (And.intro h0 hset)
  have HR := Lib.hid r
  obtain ⟨aL2, m2, cL2, xL2, hvL, s2, hm2, hx2⟩ : ∃ aL2 m2 cL2 xL2, (.slice aL2 m2 cL2 : Value) = (if o % 2 = 0 then .slice none 0 0 else .slice aL m cL) ∧ Sees w0 t (.slice aL2 m2 cL2) m2 xL2 ∧ m2 ≤ 40 ∧ ∀ i, i < m2 → (xL2 i).size ≤ maxLen := by
    by_cases e : o % 2 = 0
    · exact ⟨none, 0, 0, fun _ => ByteArray.empty, by rw [if_pos e], Sees.nil, by omega, fun i hi => absurd hi (by omega)⟩
    · exact ⟨aL, m, cL, xL, by rw [if_neg e], sL, hm, hxL⟩
  have HV := Lib.hid hvL
  have HA := Lib.hid (And.intro trivial hch)
  obtain ⟨KK, hKK, hKK2⟩ : ∃ KK : Nat, (k : Int) % 12 = (KK : Int) ∧ KK < 12 := ⟨k % 12, by omega, by omega⟩
  have harm : ∀ W, Mem.Own w0 (actA X o d (.slice aL2 m2 cL2) KI keep torn bytes :: runA B F D (.pointer (some ⟨J, 0, none⟩)) area vS vR c.boot :: jA J D (jw area c R) :: dk F D s :: A) W → Calls Try.prog 16 #[.pointer (some ⟨F, 0, none⟩), .int .i64 (KK : Int)] W fun e w' => e = .returned (.int .i64 0) ∧ Mem.Own w0 (actA X o d (.slice aL2 m2 cL2) KI keep torn bytes :: runA B F D (.pointer (some ⟨J, 0, none⟩)) area vS vR c.boot :: jA J D (jw area c R) :: dk F D (armed s KK) :: A) w' := fun W h => o_arm h 3 rfl r.live.calm.fu KK (by omega)
  have hcom : ∀ W, Mem.Own w0 (actA X o d (.slice aL2 m2 cL2) KI keep torn bytes :: runA B F D (.pointer (some ⟨J, 0, none⟩)) area vS vR c.boot :: jA J D (jw area c R) :: dk F D (armed s KK) :: A) W → Calls Try.prog 19 #[.pointer (some ⟨J, 0, none⟩), .slice aL2 m2 cL2] W fun e w' => ∃ E j' s', e = .returned (.int .i64 E) ∧ After2 area K c R b q l m2 xL2 0 (fun _ => ByteArray.empty) E j' s' ∧ Mem.Own w0 (actA X o d (.slice aL2 m2 cL2) KI keep torn bytes :: runA B F D (.pointer (some ⟨J, 0, none⟩)) area vS vR c.boot :: jA J D j' :: dk F D s' :: A) w' := fun W h => o_com2 h ha.2 r.live bk r.bnd (by omega) (by omega) (by omega) (Sees.wide hAt s2 []) hm2 hx2 _ hKK2
  have happ : ∀ Q W, Mem.Own w0 (actA X o d (.slice aL2 m2 cL2) KI keep torn bytes :: runA B F D (.pointer (some ⟨J, 0, none⟩)) area vS vR c.boot :: jA J D (jw area c R) :: dk F D (armed s KK) :: (Q ++ A)) W → Calls Try.prog 17 #[.pointer (some ⟨J, 0, none⟩), .string d] W fun e w' => ∃ E j' s', e = .returned (.int .i64 E) ∧ After2 area K c R b q l nS xS (nR + 1) (snoc nR xR d) E j' s' ∧ Mem.Own w0 (actA X o d (.slice aL2 m2 cL2) KI keep torn bytes :: runA B F D (.pointer (some ⟨J, 0, none⟩)) area vS vR c.boot :: jA J D j' :: dk F D s' :: (Q ++ A)) w' := fun Q W h => o_app2 h ha.2 r.live bk r.bnd (by omega) (by omega) (by omega) r.data d hd hKK2
  have hlen := r.live.small
  have hdat := r.data
  obtain ⟨aoS, cpS, eS, _⟩ := id r.sees
  obtain ⟨aoR, cpR, eR, _⟩ := id r.seer
  subst eS eR
  have hnS : nS ≤ 32000 := by have := hdat.cn; have := hdat.most; omega
  have hnR : nR ≤ 32000 := by have := hdat.cr; omega
  have hcop : ∀ W, Mem.Own w0 (actA X o d (.slice aL2 m2 cL2) KI keep torn bytes :: runA B F D (.pointer (some ⟨J, 0, none⟩)) area (.slice aoS nS cpS) (.slice aoR nR cpR) c.boot :: jA J D (jw area c R) :: dk F D (armed s KK) :: A) W → Calls Try.prog 28 #[.slice aoR nR cpR] W fun e w' => ∃ v', e = .returned v' ∧ Mem.Own w0 (secA v' nR xR :: actA X o d (.slice aL2 m2 cL2) KI keep torn bytes :: runA B F D (.pointer (some ⟨J, 0, none⟩)) area (.slice aoS nS cpS) (.slice aoR nR cpR) c.boot :: jA J D (jw area c R) :: dk F D (armed s KK) :: A) w' ∧ Kept W w' := fun W h => by
    obtain ⟨a1, c1, e1, h0, s1⟩ := Sees.wide hAt r.seer []
    cases e1
    exact (copys_c _ nR _ xR (by omega) W (s1 [_, _, _, _] W h) h0).mono fun e w' ⟨v', he, hrow, hk⟩ => ⟨v', he, (h.push (b := secA _ _ _) hk ⟨ownsRow_mono hrow (Nat.zero_le _), fun g hg => .inr ⟨ownsRow_base hrow hg, (hrow.lt g hg).2⟩⟩).front, hk⟩
  have HSS := Lib.hid r.sees
  have HDB := Lib.hid (And.intro r.data r.bnd)
  have HSR := Lib.hid r.seer
  have HC := Lib.hid (And.intro harm (And.intro hcom (And.intro happ (And.intro hcop s2))))
  clear hvL sL hxL hch hx2 s2 harm hcom happ hcop hdat hlen h0 hset r bk rown
  have HZ := Lib.hid hAt
  clear hAt
  go_enter Try.func10, Try.ntmps10
  go_upto_if 21 with fail
  go_cut [5, 8] from 18 to 22 (fun v5 v8 wx => v5 = .pointer (some ⟨X, 0, none⟩) ∧ v8 = .bool false ∧ Mem.Own w0 (actA X o d (.slice aL2 m2 cL2) KI keep torn bytes :: runA B F D (.pointer (some ⟨J, 0, none⟩)) area (.slice aoS nS cpS) (.slice aoR nR cpR) c.boot :: jA J D (jw area c R) :: dk F D s :: A) wx)
  case first =>
    rcases (by omega : (o : Int) % 2 = 0 ∨ (o : Int) % 2 = 1) with e | e
    · go_wp2_with fail
      go_meet
      exact ⟨by rw [hX], rfl, by rw [hX, HV.out, if_pos (by omega)]; exact H0.out.2⟩
    · go_wp2_with fail
      go_meet
      exact ⟨by rw [hX], rfl, by rw [hX, HV.out, if_neg (by omega)]; exact H0.out.1⟩
  case rest =>
    obtain ⟨rfl, rfl, h1⟩ := hcut
    clear H0 HV hX
    have ⟨⟨_, _, _, _, _, _, _⟩, _⟩ := runBlock h1 1 rfl
    have ha1 := HC.out.1 _ h1
    have hlk : ∀ Y W, Mem.Own w0 (actA X o d (.slice aL2 m2 cL2) KI keep torn bytes :: runA B F D (.pointer (some ⟨J, 0, none⟩)) area (.slice aoS nS cpS) (.slice aoR nR cpR) c.boot :: Y) W → (W.cell? ⟨B, 2, none⟩ = some (.pointer (some ⟨J, 0, none⟩)) ∧ W.cell? ⟨X, 1, none⟩ = some (.string d) ∧ W.cell? ⟨X, 2, none⟩ = some (.slice aL2 m2 cL2)) := fun Y W h => by
      obtain ⟨⟨_, c1, c2, _⟩, _⟩ := actBlock h
      obtain ⟨⟨_, _, c3, _⟩, _⟩ := runBlock h 1 rfl
      exact ⟨c3, c1, c2⟩
    have HK := Lib.hid hlk
    have k0 := Lib.hid h1
    clear h1 hlk
    go_upto_if 37 with (go_at_call 16; (with_reducible refine ha1.mono ?_); rintro e u1 ⟨rfl, k1'⟩; have ⟨⟨_, _, _, _, _, _, _⟩, _⟩ := actBlock k1'; have k1 := Lib.hid k1'; clear k1')
    have ⟨⟨_, _, _, _, _, _, _⟩, _⟩ := runBlock k1.out 1 rfl
    go_cut [9, 10, 11] from 18 to 64 (fun v9 v10 v11 wx => ∃ a9 n9 c9 x9 a10 n10 c10 x10 E j' s' Q, v9 = .slice a9 n9 c9 ∧ v10 = .slice a10 n10 c10 ∧ v11 = .int .i64 E ∧ Sees w0 (Q ++ t) (.slice a9 n9 c9) n9 x9 ∧ Sees w0 (Q ++ t) (.slice a10 n10 c10) n10 x10 ∧ n9 ≤ 40000 ∧ n10 ≤ 40000 ∧ After2 area K c R b q l n9 x9 n10 x10 E j' s' ∧ Mem.Own w0 (actA X o d (.slice aL2 m2 cL2) KI keep torn bytes :: runA B F D (.pointer (some ⟨J, 0, none⟩)) area (.slice aoS nS cpS) (.slice aoR nR cpR) c.boot :: jA J D j' :: dk F D s' :: (Q ++ A)) wx)
    case first =>
      rcases (by omega : (o : Int) % 2 = 0 ∨ (o : Int) % 2 = 1) with e | e
      · go_upto_region 9 with fail
        go_cut [10] from 18 to 50 (fun v10 wx => ∃ a10 c10, v10 = .slice a10 (nR + 1) c10 ∧ Mem.Own w0 (secA (.slice a10 (nR + 1) c10) (nR + 1) (snoc nR xR d) :: actA X o d (.slice aL2 m2 cL2) KI keep torn bytes :: runA B F D (.pointer (some ⟨J, 0, none⟩)) area (.slice aoS nS cpS) (.slice aoR nR cpR) c.boot :: jA J D (jw area c R) :: dk F D (armed s KK) :: A) wx)
        case first =>
          have ⟨⟨_, _, _, _, _, _, _⟩, _⟩ := runBlock k1.out 1 rfl
          have ⟨⟨_, _, _, _, _, _, _⟩, _⟩ := actBlock k1.out
          obtain ⟨i0, hi, hz0, hz1, hz2⟩ := info_parts string_info'
          have hcA := Lib.hid (HC.out.2.2.2.1 _ k1.out.drew)
          have hcB := Lib.hid (HC.out.2.2.2.1 _ (k1.out.later ((Kept.refl u1).alloc (.cells #[.string d] 9))).drew)
          have HSa : (∀ Z Y W, Mem.Own w0 (Z :: actA X o d (.slice aL2 m2 cL2) KI keep torn bytes :: runA B F D (.pointer (some ⟨J, 0, none⟩)) area (.slice aoS nS cpS) (.slice aoR nR cpR) c.boot :: Y) W → (W.cell? ⟨B, 5, none⟩ = some (.slice aoR nR cpR) ∧ W.cell? ⟨X, 1, none⟩ = some (.string d))) := fun Z Y W h => ⟨(runBlock h 2 rfl).1.2.2.2.2.2.1, (actAt h 1 rfl).1.2.1⟩
          have HS := Lib.hid HSa
          clear HSa
          have HS0 : ∀ W, Mem.Own w0 (actA X o d (.slice aL2 m2 cL2) KI keep torn bytes :: runA B F D (.pointer (some ⟨J, 0, none⟩)) area (.slice aoS nS cpS) (.slice aoR nR cpR) c.boot :: jA J D (jw area c R) :: dk F D (armed s KK) :: A) W → (W.cell? ⟨B, 5, none⟩ = some (.slice aoR nR cpR) ∧ W.cell? ⟨X, 1, none⟩ = some (.string d)) := fun W h => ⟨(runBlock h 1 rfl).1.2.2.2.2.2.1, (actAt h 0 rfl).1.2.1⟩
          have S1 := HS0 _ k1.out
          have S2 := HS0 _ k1.out.drew
          have S3 := HS0 _ (k1.out.later ((Kept.refl u1).alloc (.cells #[.string d] 9))).drew
          clear HS0
          go_region_held_law (fun W => (W.cell? ⟨B, 5, none⟩ = some (.slice aoR nR cpR) ∧ W.cell? ⟨X, 1, none⟩ = some (.string d)))
            (first | with_reducible assumption | exact HS.out _ _ _ (k2.out.later ((Kept.refl _).alloc _)))
            (first
            | (go_simp; go_at_call 28; (with_reducible refine hcA.out.mono ?_); rintro e u2 ⟨v', rfl, k2', _⟩; have S4 := HS.out _ _ _ k2'; have k2 := Lib.hid k2'; clear k2')
            | (go_simp; go_at_call 28; (with_reducible refine hcB.out.mono ?_); rintro e u2 ⟨v', rfl, k2', hk2'⟩; have S4 := HS.out _ _ _ k2'; have k2 := Lib.hid k2'; have hk2 := Lib.hid hk2'; clear k2' hk2')
            | (refine step_append_lies _ (by rfl) _ _ 29 (by rfl) 0 9 i0 (.string ByteArray.empty) 1 16 Try.underlying29 hi hz0 hz1 hz2 rfl (by decide) _ _ _ (by rfl) ((Own.row k2.out 0 rfl).alloc _) ⟨u2.heap.size, 0, none⟩ 1 1 [.string d] (by rfl) rfl (cell_one_new _ _ _) (by intro x hx; simp at hx; subst hx; rfl) (by decide) (by unfold maxLen; omega) (by omega) (Nat.zero_le _) _ rfl ?_; intro g2 cp2 w1 hown1 hgrow hloc hlt; have kz' := k2.out.appended 0 rfl ((Kept.refl _).alloc _) hown1 hgrow (lies hloc); have S9 := HS.out _ _ _ kz'; have kz := Lib.hid kz'; clear hown1 hgrow hloc hlt kz')
            | (refine step_append_lies _ (by rfl) _ _ 29 (by rfl) 0 9 i0 (.string ByteArray.empty) 1 16 Try.underlying29 hi hz0 hz1 hz2 rfl (by decide) _ _ _ (by rfl) (Own.row k2.out 0 rfl) ⟨u1.heap.size, 0, none⟩ 1 1 [.string d] (by rfl) rfl (cell_kept_new hk2.out) (by intro x hx; simp at hx; subst hx; rfl) (by decide) (by unfold maxLen; omega) (by omega) (Nat.zero_le _) _ rfl ?_; intro g2 cp2 w1 hown1 hgrow hloc hlt; have kz' := k2.out.appended 0 rfl (Kept.refl _) hown1 hgrow (lies hloc); have S9 := HS.out _ _ _ kz'; have kz := Lib.hid kz'; clear hown1 hgrow hloc hlt kz'))
          all_goals
            (try simp only [List.getElem_toArray, List.getElem_cons_succ, List.getElem_cons_zero])
            go_wp2_with fail
            go_meet
            exact ⟨_, _, rfl, by rw [secA_snoc]; exact kz.out⟩
        case rest =>
          obtain ⟨a10, c10, rfl, h2⟩ := hcut
          have k2' := perm_row h2
          have hp := HK.out _ _ k2'
          have sR2 := Lib.hid (Sees.row (L := [_, _, _, _]) (A := t) (own_cut (M := _ :: _ :: _ :: _ :: _ :: t) (Z := Z) (by have := k2'; rw [HZ.out] at this; exact this)))
          have ha2 := Lib.hid (HC.out.2.2.1 [_] _ (show Mem.Own w0 (_ :: _ :: _ :: _ :: ([_] ++ A)) _ from k2'.drew))
          have S1 := HK.out _ _ k2'
          have S2 := HK.out _ _ k2'.drew
          clear h2 k2'
          go_upto_region 10 with fail
          go_region_held3 (fun W => (W.cell? ⟨B, 2, none⟩ = some (.pointer (some ⟨J, 0, none⟩)) ∧ W.cell? ⟨X, 1, none⟩ = some (.string d) ∧ W.cell? ⟨X, 2, none⟩ = some (.slice aL2 m2 cL2)))
            (first | with_reducible assumption)
            (first
              | (go_at_call 17; (with_reducible refine ha2.out.mono ?_); rintro e u3 ⟨E, j', s', rfl, af', k3'⟩; have k3 := Lib.hid (And.intro af' k3'); have S3 := HK.out _ _ k3'; clear af' k3'))
          all_goals
            go_wp2_with fail
            go_meet
            exact ⟨_, _, _, _, _, _, _, _, _, _, _, [_], rfl, rfl, rfl, HSS.out.more [_], sR2.out, by omega, by omega, k3.out.1, k3.out.2⟩
      · have hb2 := Lib.hid (HC.out.2.1 _ k1.out.drew)
        go_upto_region 11 with fail
        have S1 := HK.out _ _ k1.out
        have S2 := HK.out _ _ k1.out.drew
        go_region_held3 (fun W => (W.cell? ⟨B, 2, none⟩ = some (.pointer (some ⟨J, 0, none⟩)) ∧ W.cell? ⟨X, 1, none⟩ = some (.string d) ∧ W.cell? ⟨X, 2, none⟩ = some (.slice aL2 m2 cL2)))
          (first | with_reducible assumption)
          (first
            | (go_at_call 19; (with_reducible refine hb2.out.mono ?_); rintro e u3 ⟨E, j', s', rfl, af', k3'⟩; have k3 := Lib.hid (And.intro af' k3'); have S3 := HK.out _ _ k3'; clear af' k3'))
        all_goals
          go_wp2_with fail
          go_meet
          exact ⟨_, _, _, _, _, _, _, _, _, _, _, [], rfl, rfl, rfl, HC.out.2.2.2.2, Sees.nil, by omega, by omega, k3.out.1, k3.out.2⟩
    case rest =>
      obtain ⟨a9, n9, c9, x9, a10, n10, c10, x10, E, j', s', Q, rfl, rfl, rfl, s9, s10, hn9, hn10, af, h3⟩ := hcut
      clear k0 k1 ha1 HK
      have H9 := Lib.hid (And.intro s9 s10)
      clear s9 s10
      have ⟨⟨_, _, _, _, _, _, _⟩, fzB⟩ := runBlock h3 1 rfl
      cases af with
      | refused hE hd l' bk =>
        have hbl : Calls Try.prog 18 #[.pointer (some ⟨F, 0, none⟩)] wc fun e w' => e = .returned (.bool false) ∧ Mem.Own w0 (actA X o d (.slice aL2 m2 cL2) KI keep torn bytes :: runA B F D (.pointer (some ⟨J, 0, none⟩)) area (.slice aoS nS cpS) (.slice aoR nR cpR) c.boot :: jA J D (jw area c R) :: dk F D s' :: (Q ++ A)) w' := by
          rw [← hd]; exact o_blown h3 3 rfl
        have HB := Lib.hid (And.intro l' bk)
        have hre : ∀ W, Mem.Own w0 (actA X o d (.slice aL2 m2 cL2) KI keep torn bytes :: runA B F D (.pointer (some ⟨J, 0, none⟩)) area (.slice aoS nS cpS) (.slice aoR nR cpR) c.boot :: jA J D (jw area c R) :: dk F D s' :: (Q ++ A)) W → Calls Try.prog 22 #[.pointer (some ⟨F, 0, none⟩)] W fun e w' => e = .returned (.tuple #[]) ∧ Mem.Own w0 (actA X o d (.slice aL2 m2 cL2) KI keep torn bytes :: runA B F D (.pointer (some ⟨J, 0, none⟩)) area (.slice aoS nS cpS) (.slice aoR nR cpR) c.boot :: jA J D (jw area c R) :: dk F D { s' with fu := .idle } :: (Q ++ A)) w' := fun W h => o_reset h 3 rfl
        have HR := Lib.hid hre
        have k3 := Lib.hid h3
        clear h3 hd l' hre bk
        rcases hE with rfl | rfl
        all_goals
          go_wp2_with (first
            | (go_at_call 18; (with_reducible refine hbl.mono ?_); rintro e u4 ⟨rfl, k4'⟩; have ⟨⟨_, _, _, _, _, _, _⟩, _⟩ := runBlock k4' 1 rfl; have k4 := Lib.hid k4'; clear k4')
            | (go_at_call 22; (with_reducible refine (HR.out _ k4.out).mono ?_); rintro e u5 ⟨rfl, k5'⟩; have k5 := Lib.hid k5'; clear k5'))
          go_ret
          exact ⟨rfl, K, fun _ h => h, F, D, J, _, c, R, Q ++ t, _, _, nS, xS, nR, xR, ⟨by rw [List.append_assoc, ← HZ.out]; exact k5.out.tail, HB.out.1, HSS.out.more Q, HSR.out.more Q, HDB.out.1, HDB.out.2.more (by omega) (by omega) (by omega)⟩, HB.out.2⟩
      | done hd l' dd hb' kk hKK bk =>
        rename_i c' R' K'
        have hbl : Calls Try.prog 18 #[.pointer (some ⟨F, 0, none⟩)] wc fun e w' => e = .returned (.bool false) ∧ Mem.Own w0 (actA X o d (.slice aL2 m2 cL2) KI keep torn bytes :: runA B F D (.pointer (some ⟨J, 0, none⟩)) area (.slice aoS nS cpS) (.slice aoR nR cpR) c.boot :: jA J D (jw area c' R') :: dk F D s' :: (Q ++ A)) w' := by
          rw [← hd]; exact o_blown h3 3 rfl
        have HB := Lib.hid (And.intro l' (And.intro dd (And.intro hb' (And.intro kk (And.intro hKK bk)))))
        have hre : ∀ W, Mem.Own w0 (actA X o d (.slice aL2 m2 cL2) KI keep torn bytes :: runA B F D (.pointer (some ⟨J, 0, none⟩)) area (.slice aoS nS cpS) (.slice aoR nR cpR) c.boot :: jA J D (jw area c' R') :: dk F D s' :: (Q ++ A)) W → Calls Try.prog 22 #[.pointer (some ⟨F, 0, none⟩)] W fun e w' => e = .returned (.tuple #[]) ∧ Mem.Own w0 (actA X o d (.slice aL2 m2 cL2) KI keep torn bytes :: runA B F D (.pointer (some ⟨J, 0, none⟩)) area (.slice aoS nS cpS) (.slice aoR nR cpR) c.boot :: jA J D (jw area c' R') :: dk F D { s' with fu := .idle } :: (Q ++ A)) w' := fun W h => o_reset h 3 rfl
        have hco : ∀ W, Mem.Own w0 (actA X o d (.slice aL2 m2 cL2) KI keep torn bytes :: runA B F D (.pointer (some ⟨J, 0, none⟩)) area (.slice aoS nS cpS) (.slice aoR nR cpR) c.boot :: jA J D (jw area c' R') :: dk F D { s' with fu := .idle } :: (Q ++ A)) W → Calls Try.prog 28 #[.slice a9 n9 c9] W fun e w' => ∃ v', e = .returned v' ∧ Mem.Own w0 (secA v' n9 x9 :: actA X o d (.slice aL2 m2 cL2) KI keep torn bytes :: runA B F D (.pointer (some ⟨J, 0, none⟩)) area (.slice aoS nS cpS) (.slice aoR nR cpR) c.boot :: jA J D (jw area c' R') :: dk F D { s' with fu := .idle } :: (Q ++ A)) w' := fun W h => o_copys (M := [_, _, _, _]) h (Sees.wide2 HZ.out H9.out.1) (by omega)
        have HR := Lib.hid (And.intro hre hco)
        have k3 := Lib.hid h3
        clear h3 hd l' hre hco dd hb' kk hKK bk
        go_wp2_with (first
          | (go_at_call 18; (with_reducible refine hbl.mono ?_); rintro e u4 ⟨rfl, k4'⟩; have ⟨⟨_, _, _, _, _, _, _⟩, _⟩ := runBlock k4' 1 rfl; have k4 := Lib.hid k4'; clear k4')
          | (go_at_call 22; (with_reducible refine (HR.out.1 _ k4.out).mono ?_); rintro e u5 ⟨rfl, k5'⟩; have ⟨⟨_, _, _, _, _, _, _⟩, _⟩ := runBlock k5' 1 rfl; have k5 := Lib.hid k5'; clear k5')
          | (go_at_call 28; (with_reducible refine (HR.out.2 _ k5.out).mono ?_); rintro e u6 ⟨v6, rfl, k6'⟩; obtain ⟨a6, d6, rfl⟩ := own_slice k6' 0 rfl; have ⟨⟨_, _, _, _, y4, y5, _⟩, fz6⟩ := runBlock k6' 2 rfl; have fz64 := fz6 4; have fz65 := fz6 5; have k6 := Lib.hid k6'; clear k6' fz6))
        go_ret
        have k7 : Mem.Own w0 (secA (.slice a6 n9 d6) n9 x9 :: actA X o d (.slice aL2 m2 cL2) KI keep torn bytes :: runA B F D (.pointer (some ⟨J, 0, none⟩)) area (.slice a6 n9 d6) (.slice a10 n10 c10) c.boot :: jA J D (jw area c' R') :: dk F D { s' with fu := .idle } :: (Q ++ A)) _ := (k6.out.boxset 2 rfl 4 (.slice a6 n9 d6)).boxset 2 rfl 5 (.slice a10 n10 c10)
        have k8 := perm_row k7
        refine ⟨rfl, _, HB.out.2.2.2.2.1, F, D, J, _, c', R', secA (.slice a6 n9 d6) n9 x9 :: (Q ++ t), _, _, n9, x9, n10, x10, ⟨?_, HB.out.1, Sees.row (L := [_, _, _, _]) (own_cut (M := _ :: _ :: _ :: _ :: _ :: (Q ++ t)) (Z := Z) (by have := k8; rw [HZ.out, ← List.append_assoc] at this; exact this)), H9.out.2.more [_], HB.out.2.1, HB.out.2.2.2.1.more (by omega) (by omega) (by omega)⟩, HB.out.2.2.2.2.2⟩
        rw [HB.out.2.2.1]
        have k9 := k8.tail
        rw [HZ.out, ← List.append_assoc] at k9
        exact k9
      | cut hd hp hn hok dd hb' kk hKK hl' =>
        rename_i c' R' K'
        have hbl : Calls Try.prog 18 #[.pointer (some ⟨F, 0, none⟩)] wc fun e w' => e = .returned (.bool true) ∧ Mem.Own w0 (actA X o d (.slice aL2 m2 cL2) KI keep torn bytes :: runA B F D (.pointer (some ⟨J, 0, none⟩)) area (.slice aoS nS cpS) (.slice aoR nR cpR) c.boot :: jA J D j' :: dk F D s' :: (Q ++ A)) w' := by
          have := o_blown h3 3 rfl
          rw [hd] at this
          exact this
        have hcr : ∀ W, Mem.Own w0 (actA X o d (.slice aL2 m2 cL2) KI keep torn bytes :: runA B F D (.pointer (some ⟨J, 0, none⟩)) area (.slice aoS nS cpS) (.slice aoR nR cpR) c.boot :: jA J D j' :: dk F D s' :: (Q ++ A)) W → Calls Try.prog 29 #[.pointer (some ⟨D, 0, none⟩), .agg #[.int .u64 (keep : Int), .int .i64 torn, .int .i64 bytes]] W fun e w' => e = .returned (.tuple #[]) ∧ Mem.Own w0 (actA X o d (.slice aL2 m2 cL2) KI keep torn bytes :: runA B F D (.pointer (some ⟨J, 0, none⟩)) area (.slice aoS nS cpS) (.slice aoR nR cpR) c.boot :: jA J D j' :: dk F D (s'.settled (Ch.left ⟨keep, torn, bytes⟩)) :: (Q ++ A)) w' := fun W h => o_crash h 3 rfl HA.out.2
        have hre : ∀ (t : Ds × (Nat → Nat)) W, Mem.Own w0 (actA X o d (.slice aL2 m2 cL2) KI keep torn bytes :: runA B F D (.pointer (some ⟨J, 0, none⟩)) area (.slice aoS nS cpS) (.slice aoR nR cpR) c.boot :: jA J D j' :: dk F D (Ds.settled t.1 t.2) :: (Q ++ A)) W → Calls Try.prog 22 #[.pointer (some ⟨F, 0, none⟩)] W fun e w' => e = .returned (.tuple #[]) ∧ Mem.Own w0 (actA X o d (.slice aL2 m2 cL2) KI keep torn bytes :: runA B F D (.pointer (some ⟨J, 0, none⟩)) area (.slice aoS nS cpS) (.slice aoR nR cpR) c.boot :: jA J D j' :: dk F D (crashed t.1 t.2) :: (Q ++ A)) w' := fun t W h => o_reset h 3 rfl
        have h0r := And.intro (after_crash HDB.out.2 HDB.out.1 dd hb' kk (fun f hf => (hl' f hf).1) (Ch.left_le ⟨keep, torn, bytes⟩)) (And.intro (hl' _ (Ch.left_le ⟨keep, torn, bytes⟩)).2 hKK)
        have HRS := Lib.hid h0r
        have HR := Lib.hid (And.intro hcr hre)
        have k3 := Lib.hid h3
        clear h3 hd hp hn hok dd hb' kk hl' hcr hre h0r hKK
        have hlk : ∀ Y W, Mem.Own w0 (actA X o d (.slice aL2 m2 cL2) KI keep torn bytes :: runA B F D (.pointer (some ⟨J, 0, none⟩)) area (.slice aoS nS cpS) (.slice aoR nR cpR) c.boot :: Y) W → (W.cell? ⟨B, 1, none⟩ = some (.pointer (some ⟨D, 0, none⟩)) ∧ W.cell? ⟨X, 4, none⟩ = some (.int .u64 (keep : Int)) ∧ W.cell? ⟨X, 5, none⟩ = some (.int .i64 torn) ∧ W.cell? ⟨X, 6, none⟩ = some (.int .i64 bytes)) := fun Y W h => by
          obtain ⟨⟨_, _, _, _, c4, c5, c6⟩, _⟩ := actAt h 0 rfl
          obtain ⟨⟨_, c1, _⟩, _⟩ := runBlock h 1 rfl
          exact ⟨c1, c4, c5, c6⟩
        have HK := Lib.hid hlk
        clear hlk
        go_upto_region 19 with (go_at_call 18; (with_reducible refine hbl.mono ?_); rintro e u4 ⟨rfl, k4'⟩; have k4 := Lib.hid k4'; clear k4')
        have S1 := HK.out _ _ k4.out
        have S2 := HK.out _ _ k4.out.drew
        have hcr4 := Lib.hid (HR.out.1 _ k4.out.drew)
        go_region_held3 (fun W => (W.cell? ⟨B, 1, none⟩ = some (.pointer (some ⟨D, 0, none⟩)) ∧ W.cell? ⟨X, 4, none⟩ = some (.int .u64 (keep : Int)) ∧ W.cell? ⟨X, 5, none⟩ = some (.int .i64 torn) ∧ W.cell? ⟨X, 6, none⟩ = some (.int .i64 bytes)))
          (first | with_reducible assumption)
          (first
            | (go_at_call 29; (with_reducible refine hcr4.out.mono ?_); rintro e u5 ⟨rfl, k5'⟩; have S3 := HK.out _ _ k5'; have k5 := Lib.hid k5'; clear k5'))
        have ⟨⟨_, _, _, _, _, _, _⟩, _⟩ := runBlock k5.out 1 rfl
        have hre5 := Lib.hid (HR.out.2 (s', Ch.left ⟨keep, torn, bytes⟩) _ k5.out)
        go_wp2_with (go_at_call 22; (with_reducible refine hre5.out.mono ?_); rintro e u6 ⟨rfl, k6'⟩; have k6 := Lib.hid k6'; clear k6')
        go_loopw [12, 13, 14, 15, 16, 17] (fun v12 _ _ _ _ _ wr => v12 = .int .i64 0 ∧ Mem.Own w0 (actA X o d (.slice aL2 m2 cL2) KI keep torn bytes :: runA B F D (.pointer (some ⟨J, 0, none⟩)) area (.slice aoS nS cpS) (.slice aoR nR cpR) c.boot :: jA J D j' :: dk F D (crashed s' (Ch.left ⟨keep, torn, bytes⟩)) :: (Q ++ A)) wr) (fun _ _ _ _ _ _ _ => 0)
        case atStart => exact ⟨rfl, k6.out⟩
        case round =>
          clear S1 S2 S3 hcr4 hre5 hbl k6 k5 k4 k3
          obtain ⟨rfl, hp⟩ := hrel
          obtain ⟨⟨c2, R2, hr⟩, hbk, hKK⟩ := HRS.out
          have hop : Calls Try.prog 11 #[.pointer (some ⟨B, 0, none⟩), .slice a9 n9 c9, .slice a10 n10 c10] wr fun e w' => e = .returned (.bool true) ∧ IsRan2 w0 B area (b + 1) (q + 1 + 1) (l + 41) _ Z w' := hr.opens2 (hbk _ _ (by have := hr.low; omega)) ha (by omega) (by omega) (by have := hp; rw [HZ.out, ← List.append_assoc] at this; exact this) (HSS.out.more Q) (HSR.out.more Q) H9.out.1 H9.out.2 ⟨by omega, by omega, by omega, by omega⟩
          have HO := Lib.hid (And.intro hop hKK)
          clear hop hr hp hbk hKK HRS
          go_wp2_with (go_at_call 11; (with_reducible refine HO.out.1.mono ?_); rintro e u4 ⟨rfl, k4'⟩; have k4 := Lib.hid k4'; clear k4')
          go_ret
          exact ⟨rfl, _, HO.out.2, k4.out.more (by omega) (by omega) (by omega)⟩
end Go.Proofs.Ytjbcpfndpfeepaa.Jk
