/-
  The journal between two calls, and what a call that is cut leaves (plain mathematics).
-/
import Derived.Test.YtckbhjjflpobbaaGreatJh
namespace Go.Proofs.YtckbhjjflpobbaaGreat.Jk
open Go Go.Proofs.YtckbhjjflpobbaaGreat.Pk Go.Proofs.YtckbhjjflpobbaaGreat.Fk Go.Proofs.YtckbhjjflpobbaaGreat.Dz Go.Proofs.YtckbhjjflpobbaaGreat.Rc Go.Proofs.YtckbhjjflpobbaaGreat.Fz
open Go.Proofs.YtckbhjjflpobbaaGreat.Hk (Hd Two Non Put saves saved saves_idle saved_put put_disk enc_size slot_nat look_dur)

def jw (area : Nat) (c : Hd) (R : List Fr) : Jw := ⟨area, c, lsnOf c R, total R, false⟩
def crashed (s : Ds) (f : Nat → Nat) : Ds := { s.settled f with fu := .idle }
structure Calm (area : Nat) (s : Ds) : Prop where
  n : s.n = 2 + 2 * area
  fu : s.fu = .idle
  pend : s.pend = []
  ok : s.ok
  full : s.full = false
structure Live (area : Nat) (s : Ds) (c : Hd) (R : List Fr) : Prop where
  calm : Calm area s
  jo : Jo area s.dur c R
structure Lain (area : Nat) (s : Ds) (c : Hd) (R : List Fr) : Prop where
  calm : Calm area s
  jv : Jv area s.dur c R
theorem Live.lain {area : Nat} {s : Ds} {c : Hd} {R : List Fr} (l : Live area s c R) : Lain area s c R := ⟨l.calm, l.jo.jv⟩
theorem base_beg {area : Nat} {a : Int} (ha : a = 0 ∨ a = 1) : (2 : Int) + (area : Int) * a = (beg area a : Int) := by
  unfold beg
  rcases ha with rfl | rfl
  · show _ = ((2 + area * 0 : Nat) : Int); omega
  · show _ = ((2 + area * 1 : Nat) : Int); omega
theorem beg_le {area : Nat} {a : Int} (ha : a = 0 ∨ a = 1) : 2 ≤ beg area a ∧ beg area a + area ≤ 2 + 2 * area := by
  unfold beg
  rcases ha with rfl | rfl
  · show 2 ≤ 2 + area * 0 ∧ 2 + area * 0 + area ≤ _; omega
  · show 2 ≤ 2 + area * 1 ∧ 2 + area * 1 + area ≤ _; omega
theorem Jv.half {area : Nat} {S : Nat → ByteArray} {c : Hd} {R : List Fr} (j : Jv area S c R) : c.area = 0 ∨ c.area = 1 := by
  have := j.two.good.a1; have := j.two.good.a2; omega
theorem Jv.total {area : Nat} {S : Nat → ByteArray} {c : Hd} {R : List Fr} (j : Jv area S c R) : total R ≤ area := by
  have := chain_le (Nat.le_add_right _ _) j.found.chain; omega
theorem ok_idle {s : Ds} (h : s.ok) : ({ s with fu := .idle } : Ds).ok := ⟨h.lo, h.hi, trivial, h.dur, h.pend⟩
theorem Calm.crashed {area : Nat} {s t : Ds} (h : Calm area s) (hn : t.n = s.n) (hok : t.ok) (hf : t.full = s.full) {f : Nat → Nat} (h80 : ∀ k, f k ≤ 80) : Calm area (crashed t f) :=
  ⟨by show t.n = _; rw [hn]; exact h.n, rfl, rfl, ok_idle (hok.settled h80), by show t.full = _; rw [hf]; exact h.full⟩
theorem blown_ok {s : Ds} (h : s.ok) : (blown s).ok := ⟨h.lo, h.hi, trivial, h.dur, h.pend⟩
theorem laid_full (s : Ds) (t : Nat) (g : Nat → ByteArray) : ∀ k, (laid s t g k).full = s.full
  | 0 => rfl
  | k + 1 => laid_full s t g k
theorem crashed_blown (s : Ds) (f : Nat → Nat) : (crashed (blown s) f).dur = (s.settled f).dur := rfl
theorem settled_none {s : Ds} (h : s.pend = []) (f : Nat → Nat) : (s.settled f).dur = s.dur := by unfold Ds.settled; rw [h]; rfl
/-- The sectors of the record that is appended. -/
theorem rec_secs {b n : Int} {d : ByteArray} (hn : num b n) (hd : d.size ≤ 4096) : ∀ i (hi : i < (frames b n 2 d).length), Rc.sec b n 2 d i = str (frames b n 2 d)[i].sec := fun i hi => by
  rw [frames_get hi]
  rw [frames_len] at hi
  exact Fr.enc_good (fr_good hn hd hi)
/-! ### Append -/
structure Small (c : Hd) (R : List Fr) (m : Nat) : Prop where
  boot : c.boot < 255
  seq : c.seq < 281474976710000
  lsn : lsnOf c R + (m : Int) < 281474976710000
theorem lsn_pos {area : Nat} {S : Nat → ByteArray} {c : Hd} {R : List Fr} (j : Jv area S c R) : 0 ≤ lsnOf c R := by
  have := j.two.good.f1; unfold lsnOf; omega
theorem Small.num {area : Nat} {S : Nat → ByteArray} {c : Hd} {R : List Fr} {m : Nat} (k : Small c R m) (j : Jv area S c R) {i : Nat} (hi : i < m) : num c.boot (lsnOf c R + 1 + (i : Int)) :=
  ⟨j.two.good.b1, j.two.good.b2, by have := lsn_pos j; omega, by have := k.lsn; omega⟩
theorem Live.append {area : Nat} {s : Ds} {c : Hd} {R : List Fr} (l : Live area s c R) (k : Small c R 1) {d : ByteArray} (hd : d.size ≤ 4096) (hroom : total R + parts d.size ≤ area) :
    ∃ s1, Live area s1 c (R ++ [recd c.boot (lsnOf c R + 1) 2 d]) ∧ appends (jw area c R) s d = (0, jw area c (R ++ [recd c.boot (lsnOf c R + 1) 2 d]), s1) ∧
      (∀ K, parts d.size < K → appends (jw area c R) (armed s K) d = (0, jw area c (R ++ [recd c.boot (lsnOf c R + 1) 2 d]), armed s1 (K - parts d.size - 1))) ∧
      ∀ K, K ≤ parts d.size → ∃ s2, appends (jw area c R) (armed s K) d = (10, (jw area c R).told 10, s2) ∧ s2.fu = .blown ∧ s2.pend.length ≤ K ∧ s2.n = s.n ∧ s2.ok ∧ ∀ f : Nat → Nat, (∀ i, f i ≤ 80) → Lain area (crashed s2 f) c R ∨ Lain area (crashed s2 f) c (R ++ [recd c.boot (lsnOf c R + 1) 2 d]) := by
  have hh := l.jo.jv.half
  have hn : num c.boot (lsnOf c R + 1) := by
    have := k.num l.jo.jv (i := 0) (by decide)
    rwa [show lsnOf c R + 1 + ((0 : Nat) : Int) = lsnOf c R + 1 by omega] at this
  have hbl := beg_le (area := area) hh
  obtain ⟨t, ht⟩ : ∃ t, t = beg area c.area + total R := ⟨_, rfl⟩
  have hbase : (jw area c R).base (jw area c R).h.area + ((jw area c R).used : Int) = (t : Int) := by
    show (2 : Int) + (area : Int) * c.area + (total R : Int) = _
    rw [base_beg hh, ht]; push_cast; rfl
  have htn : t + parts d.size ≤ s.n := by rw [l.calm.n]; omega
  have hg : ∀ i, i < parts d.size → (Rc.sec c.boot (lsnOf c R + 1) 2 d i).size = 80 := fun i hi => sec_size hn hd hi
  have hW : ∀ f ∈ frames c.boot (lsnOf c R + 1) 2 d, f.good ∧ f.boot = c.boot ∧ lsnOf c R < f.lsn := fun f hf => by
    obtain ⟨a, e1, e2, _⟩ := frames_mem hn hd hf
    exact ⟨a, e1, by omega⟩
  have hfl := frames_len c.boot (lsnOf c R + 1) 2 d
  have hsecs := rec_secs hn hd
  have h256 : c.boot < 256 := by have := k.boot; omega
  have elsn : lsnOf c (R ++ [recd c.boot (lsnOf c R + 1) 2 d]) = lsnOf c R + 1 := by unfold lsnOf; rw [List.length_append, List.length_singleton]; omega
  have etot : total (R ++ [recd c.boot (lsnOf c R + 1) 2 d]) = total R + parts d.size := by rw [total_app]; show _ + (parts d.size + 0) = _; omega
  have un : ∀ s' : Ds, s'.full = false → appends (jw area c R) s' d = if (poured s' (t : Int) (Rc.sec c.boot (lsnOf c R + 1) 2 d) (parts d.size)).1 ≠ 0 then ((poured s' (t : Int) (Rc.sec c.boot (lsnOf c R + 1) 2 d) (parts d.size)).1, (jw area c R).told (poured s' (t : Int) (Rc.sec c.boot (lsnOf c R + 1) 2 d) (parts d.size)).1, (poured s' (t : Int) (Rc.sec c.boot (lsnOf c R + 1) 2 d) (parts d.size)).2) else (0, jw area c (R ++ [recd c.boot (lsnOf c R + 1) 2 d]), (poured s' (t : Int) (Rc.sec c.boot (lsnOf c R + 1) 2 d) (parts d.size)).2) := fun s' hf => by
    unfold appends
    rw [if_neg (by show ¬ (false = true); decide), if_neg (by omega), if_neg (by rw [hf]; rintro (h | h); cases h; have h : area < total R + parts d.size := h; omega), hbase]
    have ej : ({ (jw area c R) with n := (jw area c R).n + 1, used := (jw area c R).used + parts d.size, dead := false } : Jw) = jw area c (R ++ [recd c.boot (lsnOf c R + 1) 2 d]) := by
      unfold jw; rw [elsn, etot]
    rw [ej]
    rfl
  have hover : ∀ K, K ≤ parts d.size → ∀ f : Nat → Nat, (∀ i, f i ≤ 80) → Over area s.dur ((laid s t (Rc.sec c.boot (lsnOf c R + 1) 2 d) K).settled f).dur (beg area c.area + total R) (frames c.boot (lsnOf c R + 1) 2 d) c.boot.toNat := fun K hK f hf => by
    rw [← ht]
    exact l.jo.over l.calm.pend h256 hW (by omega) (by omega) hsecs hf (by omega)
  have hall := l.jo.whole l.calm.pend (t := t) hW (by omega) (by omega) hsecs (f := fun _ => 80) (fun _ _ => rfl)
  have hok : ∀ K, K ≤ parts d.size → (laid s t (Rc.sec c.boot (lsnOf c R + 1) 2 d) K).ok := fun K hK => laid_ok l.calm.ok (by omega) fun i hi => hg i (by omega)
  refine ⟨(laid s t (Rc.sec c.boot (lsnOf c R + 1) 2 d) (parts d.size)).settled fun _ => 80, ⟨⟨?_, ?_, rfl, (hok _ (Nat.le_refl _)).settled fun _ => Nat.le_refl _, ?_⟩, ?_⟩, ?_, fun K hK => ?_, fun K hK => ?_⟩
  · show (laid s _ _ _).n = _; rw [laid_n]; exact l.calm.n
  · show (laid s _ _ _).fu = _; rw [laid_fu]; exact l.calm.fu
  · show (laid s _ _ _).full = _; rw [laid_full]; exact l.calm.full
  · refine l.jo.appended hd hn hroom (hover _ (Nat.le_refl _) _ fun _ => Nat.le_refl _) fun i hi => ?_
    rw [hsecs i (by omega), ← ht]
    have := hall i (by omega)
    have e : laid s t (Rc.sec c.boot (lsnOf c R + 1) 2 d) (frames c.boot (lsnOf c R + 1) 2 d).length = laid s t (Rc.sec c.boot (lsnOf c R + 1) 2 d) (parts d.size) := by rw [hfl]
    rw [e] at this
    exact this
  · rw [un s l.calm.full, poured_idle l.calm.fu htn hg, if_neg (by exact fun h => h rfl)]
  · rw [un (armed s K) l.calm.full, poured_whole htn hg hK, if_neg (by exact fun h => h rfl)]
  · refine ⟨blown (laid s t (Rc.sec c.boot (lsnOf c R + 1) 2 d) K), ?_, rfl, ?_, by show (laid s _ _ _).n = _; rw [laid_n], blown_ok (hok K hK), fun f hf => ?_⟩
    · rw [un (armed s K) l.calm.full, poured_cut htn hg hK, if_pos (by exact (by decide : (10 : Int) ≠ 0))]
    · show (laid s _ _ K).pend.length ≤ K; rw [laid_len, l.calm.pend]; exact Nat.le_of_eq (Nat.zero_add _)
    · have cm : Calm area (crashed (blown (laid s t (Rc.sec c.boot (lsnOf c R + 1) 2 d) K)) f) := l.calm.crashed (by show (laid s _ _ _).n = _; rw [laid_n]) (blown_ok (hok K hK)) (by show (laid s _ _ _).full = _; rw [laid_full]) hf
      rcases l.jo.append hd hn hroom (hover K hK f hf) with ⟨_, h⟩ | ⟨_, h⟩
      · exact .inl ⟨cm, h⟩
      · exact .inr ⟨cm, h⟩
/-! ### Openings -/
theorem next_good {area : Nat} {S : Nat → ByteArray} {c : Hd} {R : List Fr} (j : Jv area S c R) (k : c.boot < 4294967295 ∧ c.seq < 281474976710000) : (nextHd c).good := by
  have g := j.two.good
  exact ⟨by have := g.s1; show 1 ≤ c.seq + 1; omega, by show c.seq + 1 ≤ _; omega, g.f1, g.f2, by have := g.b1; show 1 ≤ c.boot + 1; omega, by show c.boot + 1 ≤ _; omega, g.a1, g.a2, g.n1, g.n2⟩
theorem Lain.opens {area : Nat} {s : Ds} {c : Hd} {R : List Fr} (l : Lain area s c R) (k : c.boot < 4294967295 ∧ c.seq < 281474976710000) :
    (∃ s1, saves s (nextHd c) = (0, s1) ∧ Live area s1 (nextHd c) R) ∧
    ∀ q, q < 2 → ∃ s2, saves (armed s q) (nextHd c) = (10, s2) ∧ s2.fu = .blown ∧ s2.pend.length ≤ 1 ∧ s2.n = s.n ∧ s2.ok ∧ ∀ f : Nat → Nat, (∀ i, f i ≤ 80) → Lain area (crashed s2 f) c R ∨ Lain area (crashed s2 f) (nextHd c) R := by
  have g := next_good l.jv k
  have h2 : 2 ≤ s.n := by rw [l.calm.n]; omega
  have hw : (s.wrote ((nextHd c).seq.toNat % 2) (nextHd c).enc).ok := l.calm.ok.wrote (by omega) (enc_size g)
  refine ⟨⟨_, saves_i l.calm.fu h2 g, ⟨l.calm.n, l.calm.fu, rfl, hw.settled fun _ => Nat.le_refl _, l.calm.full⟩, ?_⟩, fun q hq => ?_⟩
  · exact l.jv.reopened g (by omega) (saved_put l.calm.pend (nextHd c))
  · rcases (by omega : q = 0 ∨ q = 1) with rfl | rfl
    · refine ⟨blown s, saves_0 h2 g, rfl, by show s.pend.length ≤ 1; rw [l.calm.pend]; decide, rfl, blown_ok l.calm.ok, fun f hf => .inl ⟨l.calm.crashed (t := blown s) rfl (blown_ok l.calm.ok) rfl hf, ?_⟩⟩
      rw [crashed_blown, settled_none l.calm.pend]
      exact l.jv
    · refine ⟨_, saves_1 h2 g, rfl, by show (s.pend ++ [_]).length ≤ 1; rw [l.calm.pend]; exact Nat.le_refl 1, rfl, blown_ok hw, fun f hf => ?_⟩
      have cm : Calm area (crashed (blown (s.wrote ((nextHd c).seq.toNat % 2) (nextHd c).enc)) f) := l.calm.crashed (t := blown (s.wrote ((nextHd c).seq.toNat % 2) (nextHd c).enc)) rfl (blown_ok hw) rfl hf
      have p := put_disk l.calm.pend (nextHd c) f (hf 0)
      by_cases h80 : f 0 < 80
      · exact .inl ⟨cm, l.jv.cut g rfl p h80⟩
      · have e : f 0 = 80 := by have := hf 0; omega
        rw [e] at p
        exact .inr ⟨cm, (l.jv.reopened g (by omega) p).jv⟩
end Go.Proofs.YtckbhjjflpobbaaGreat.Jk
