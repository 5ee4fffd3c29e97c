/-
  JournalOnce: its plain mathematics: the frames that were ever written (Book), and what a call leaves of them.
-/
import Derived.Test.YtjbcpfndpfeepaaJu
namespace Go.Proofs.Ytjbcpfndpfeepaa.Jk
open Go Go.Proofs.Ytjbcpfndpfeepaa.Pk Go.Proofs.Ytjbcpfndpfeepaa.Fk Go.Proofs.Ytjbcpfndpfeepaa.Dz Go.Proofs.Ytjbcpfndpfeepaa.Rc Go.Proofs.Ytjbcpfndpfeepaa.Fz
open Go.Proofs.Ytjbcpfndpfeepaa.Hk (Hd Two Non Put saves saved saves_idle saved_put put_disk enc_size slot_nat look_dur)

/-- Each sector of the halves that holds a frame is as it was, or holds one of W. -/
def Wrote (area : Nat) (S T : Nat → ByteArray) (W : List Fr) : Prop := ∀ i, has area i → ∀ f, dec (T i) = some f → T i = S i ∨ ∃ g ∈ W, T i = str g.sec
theorem Over.wrote {area : Nat} {S T : Nat → ByteArray} {t : Nat} {W : List Fr} {b : Nat} (o : Over area S T t W b) : Wrote area S T W := fun _ hi _ hf => (o.cases hi hf).imp id fun ⟨_, hk, _, e⟩ => ⟨_, List.getElem_mem hk, e⟩
theorem Wrote.then {area : Nat} {S T U : Nat → ByteArray} {W : List Fr} (h : Wrote area S T W) (e : ∀ i, has area i → U i = T i) : Wrote area S U W := fun i hi f hf => by
  rw [e i hi] at hf ⊢
  exact h i hi f hf
/-- No two of them have one name. -/
def apart (K : List Fr) : Prop := ∀ f ∈ K, ∀ g ∈ K, f.boot = g.boot → f.lsn = g.lsn → f.part = g.part → f = g
/-- The frames that were ever written: K. -/
structure Book (area : Nat) (K : List Fr) (S : Nat → ByteArray) (b n : Int) : Prop where
  on : ∀ i, has area i → ∀ f, dec (S i) = some f → f ∈ K
  one : apart K
  low : ∀ f ∈ K, f.boot < b ∨ f.boot = b ∧ f.lsn ≤ n
theorem Book.up {area : Nat} {K : List Fr} {S : Nat → ByteArray} {b n b' : Int} (h : Book area K S b n) (hb : b < b') (n' : Int) : Book area K S b' n' := ⟨h.on, h.one, fun f hf => .inl (by rcases h.low f hf with e | ⟨e, _⟩ <;> omega)⟩
theorem Book.then {area : Nat} {K : List Fr} {S T : Nat → ByteArray} {b n : Int} (h : Book area K S b n) (e : ∀ i, has area i → T i = S i) : Book area K T b n := ⟨fun i hi f hf => h.on i hi f (by rw [← e i hi]; exact hf), h.one, h.low⟩
theorem Book.step {area : Nat} {K W : List Fr} {S T : Nat → ByteArray} {b n n' : Int} (h : Book area K S b n) (hW : ∀ f ∈ W, f.good ∧ f.kind < 256 ∧ f.boot = b ∧ n < f.lsn ∧ f.lsn ≤ n') (ha : apart W) (hn : n ≤ n') (w : Wrote area S T W) : Book area (K ++ W) T b n' := by
  have key : ∀ f ∈ K, ∀ g ∈ W, f.boot = g.boot → f.lsn = g.lsn → False := fun f hf g hg e1 e2 => by
    obtain ⟨_, _, a1, a2, _⟩ := hW g hg
    rcases h.low f hf with e | ⟨_, e⟩ <;> omega
  refine ⟨fun i hi f hf => ?_, fun f hf g hg e1 e2 e3 => ?_, fun f hf => ?_⟩
  · rcases w i hi f hf with e | ⟨g, hg, e⟩
    · rw [e] at hf
      exact List.mem_append_left _ (h.on i hi f hf)
    · rw [e, dec_sec (hW g hg).1 (hW g hg).2.1] at hf
      cases hf
      exact List.mem_append_right _ hg
  · rcases List.mem_append.1 hf with hf | hf <;> rcases List.mem_append.1 hg with hg | hg
    · exact h.one f hf g hg e1 e2 e3
    · exact (key f hf g hg e1 e2).elim
    · exact (key g hg f hf e1.symm e2.symm).elim
    · exact ha f hf g hg e1 e2 e3
  · rcases List.mem_append.1 hf with hf | hf
    · rcases h.low f hf with e | ⟨e, e2⟩
      · exact .inl e
      · exact .inr ⟨e, by omega⟩
    · obtain ⟨_, _, a1, _, a3⟩ := hW f hf
      exact .inr ⟨a1, a3⟩
theorem frames_at {b n : Int} {k : Nat} {d : ByteArray} {f : Fr} (h : f ∈ frames b n k d) : ∃ i, f = fr b n k d i ∧ f.part = (i : Int) ∧ f.lsn = n ∧ f.kind = k := by
  unfold frames at h
  obtain ⟨i, _, e⟩ := List.mem_map.1 h
  subst e
  exact ⟨i, rfl, rfl, rfl, rfl⟩
theorem frames_apart (b n : Int) (k : Nat) (d : ByteArray) : apart (frames b n k d) := fun f hf g hg _ _ e => by
  obtain ⟨i, rfl, e1, _⟩ := frames_at hf
  obtain ⟨j, rfl, e2, _⟩ := frames_at hg
  have : i = j := by omega
  rw [this]
theorem snapF_lsn {b : Int} : ∀ {D : List ByteArray} {n : Int} {f : Fr}, f ∈ snapF b n D → n ≤ f.lsn ∧ f.kind = 1
  | [], _, _, h => by cases h
  | d :: D, n, f, h => by
    rcases List.mem_append.1 h with h | h
    · obtain ⟨_, _, _, e, e2⟩ := frames_at h
      exact ⟨by omega, e2⟩
    · have := snapF_lsn h
      exact ⟨by omega, this.2⟩
theorem snapF_apart (b : Int) : ∀ (D : List ByteArray) (n : Int), apart (snapF b n D)
  | [], _ => fun f hf => by cases hf
  | d :: D, n => fun f hf g hg e1 e2 e3 => by
    rcases List.mem_append.1 hf with hf | hf <;> rcases List.mem_append.1 hg with hg | hg
    · exact frames_apart b n 1 d f hf g hg e1 e2 e3
    · obtain ⟨_, _, _, a, _⟩ := frames_at hf
      have := (snapF_lsn hg).1
      omega
    · obtain ⟨_, _, _, a, _⟩ := frames_at hg
      have := (snapF_lsn hf).1
      omega
    · exact snapF_apart b D (n + 1) f hf g hg e1 e2 e3
theorem Live.append2 {area : Nat} {s : Ds} {c : Hd} {R : List Fr} (l : Live area s c R) (k : Small c R 1) {d : ByteArray} (hd : d.size ≤ 4096) (hroom : total R + parts d.size ≤ area) :
    ∃ s1, Live area s1 c (R ++ [recd c.boot (lsnOf c R + 1) 2 d]) ∧ Wrote area s.dur s1.dur (frames c.boot (lsnOf c R + 1) 2 d) ∧
      (∀ K, parts d.size < K → appends (jw area c R) (armed s K) d = (0, jw area c (R ++ [recd c.boot (lsnOf c R + 1) 2 d]), armed s1 (K - parts d.size - 1))) ∧
      ∀ K, K ≤ parts d.size → ∃ s2, appends (jw area c R) (armed s K) d = (10, (jw area c R).told 10, s2) ∧ s2.fu = .blown ∧ s2.pend.length ≤ K ∧ s2.n = s.n ∧ s2.ok ∧ ∀ f : Nat → Nat, (∀ i, f i ≤ 80) → (Lain area (crashed s2 f) c R ∨ Lain area (crashed s2 f) c (R ++ [recd c.boot (lsnOf c R + 1) 2 d])) ∧ Wrote area s.dur (crashed s2 f).dur (frames c.boot (lsnOf c R + 1) 2 d) := by
  have hh := l.jo.jv.half
  have hn : num c.boot (lsnOf c R + 1) := by
    have := k.num l.jo.jv (i := 0) (by decide)
    rwa [show lsnOf c R + 1 + ((0 : Nat) : Int) = lsnOf c R + 1 by omega] at this
  have hbl := beg_le (area := area) hh
  obtain ⟨t, ht⟩ : ∃ t, t = beg area c.area + total R := ⟨_, rfl⟩
  have hbase : (jw area c R).base (jw area c R).h.area + ((jw area c R).used : Int) = (t : Int) := by
    show (2 : Int) + (area : Int) * c.area + (total R : Int) = _
    rw [base_beg hh, ht]; push_cast; rfl
  have htn : t + parts d.size ≤ s.n := by rw [l.calm.n]; omega
  have hg : ∀ i, i < parts d.size → (Rc.sec c.boot (lsnOf c R + 1) 2 d i).size = 80 := fun i hi => sec_size hn hd hi
  have hW : ∀ f ∈ frames c.boot (lsnOf c R + 1) 2 d, f.good ∧ f.boot = c.boot ∧ lsnOf c R < f.lsn := fun f hf => by
    obtain ⟨a, e1, e2, _⟩ := frames_mem hn hd hf
    exact ⟨a, e1, by omega⟩
  have hfl := frames_len c.boot (lsnOf c R + 1) 2 d
  have hsecs := rec_secs hn hd
  have h256 : c.boot < 256 := by have := k.boot; omega
  have elsn : lsnOf c (R ++ [recd c.boot (lsnOf c R + 1) 2 d]) = lsnOf c R + 1 := by unfold lsnOf; rw [List.length_append, List.length_singleton]; omega
  have etot : total (R ++ [recd c.boot (lsnOf c R + 1) 2 d]) = total R + parts d.size := by rw [total_app]; show _ + (parts d.size + 0) = _; omega
  have un : ∀ s' : Ds, s'.full = false → appends (jw area c R) s' d = if (poured s' (t : Int) (Rc.sec c.boot (lsnOf c R + 1) 2 d) (parts d.size)).1 ≠ 0 then ((poured s' (t : Int) (Rc.sec c.boot (lsnOf c R + 1) 2 d) (parts d.size)).1, (jw area c R).told (poured s' (t : Int) (Rc.sec c.boot (lsnOf c R + 1) 2 d) (parts d.size)).1, (poured s' (t : Int) (Rc.sec c.boot (lsnOf c R + 1) 2 d) (parts d.size)).2) else (0, jw area c (R ++ [recd c.boot (lsnOf c R + 1) 2 d]), (poured s' (t : Int) (Rc.sec c.boot (lsnOf c R + 1) 2 d) (parts d.size)).2) := fun s' hf => by
    unfold appends
    rw [if_neg (by show ¬ (false = true); decide), if_neg (by omega), if_neg (by rw [hf]; rintro (h | h); cases h; have h : area < total R + parts d.size := h; omega), hbase]
    have ej : ({ (jw area c R) with n := (jw area c R).n + 1, used := (jw area c R).used + parts d.size, dead := false } : Jw) = jw area c (R ++ [recd c.boot (lsnOf c R + 1) 2 d]) := by
      unfold jw; rw [elsn, etot]
    rw [ej]
    rfl
  have hover : ∀ K, K ≤ parts d.size → ∀ f : Nat → Nat, (∀ i, f i ≤ 80) → Over area s.dur ((laid s t (Rc.sec c.boot (lsnOf c R + 1) 2 d) K).settled f).dur (beg area c.area + total R) (frames c.boot (lsnOf c R + 1) 2 d) c.boot.toNat := fun K hK f hf => by
    rw [← ht]
    exact l.jo.over l.calm.pend h256 hW (by omega) (by omega) hsecs hf (by omega)
  have hall := l.jo.whole l.calm.pend (t := t) hW (by omega) (by omega) hsecs (f := fun _ => 80) (fun _ _ => rfl)
  have hok : ∀ K, K ≤ parts d.size → (laid s t (Rc.sec c.boot (lsnOf c R + 1) 2 d) K).ok := fun K hK => laid_ok l.calm.ok (by omega) fun i hi => hg i (by omega)
  refine ⟨(laid s t (Rc.sec c.boot (lsnOf c R + 1) 2 d) (parts d.size)).settled fun _ => 80, ⟨⟨?_, ?_, rfl, (hok _ (Nat.le_refl _)).settled fun _ => Nat.le_refl _, ?_⟩, ?_⟩, ?_, fun K hK => ?_, fun K hK => ?_⟩
  · show (laid s _ _ _).n = _; rw [laid_n]; exact l.calm.n
  · show (laid s _ _ _).fu = _; rw [laid_fu]; exact l.calm.fu
  · show (laid s _ _ _).full = _; rw [laid_full]; exact l.calm.full
  · refine l.jo.appended hd hn hroom (hover _ (Nat.le_refl _) _ fun _ => Nat.le_refl _) fun i hi => ?_
    rw [hsecs i (by omega), ← ht]
    have := hall i (by omega)
    have e : laid s t (Rc.sec c.boot (lsnOf c R + 1) 2 d) (frames c.boot (lsnOf c R + 1) 2 d).length = laid s t (Rc.sec c.boot (lsnOf c R + 1) 2 d) (parts d.size) := by rw [hfl]
    rw [e] at this
    exact this
  · exact (hover _ (Nat.le_refl _) _ fun _ => Nat.le_refl _).wrote
  · rw [un (armed s K) l.calm.full, poured_whole htn hg hK, if_neg (by exact fun h => h rfl)]
  · refine ⟨blown (laid s t (Rc.sec c.boot (lsnOf c R + 1) 2 d) K), ?_, rfl, ?_, by show (laid s _ _ _).n = _; rw [laid_n], blown_ok (hok K hK), fun f hf => ?_⟩
    · rw [un (armed s K) l.calm.full, poured_cut htn hg hK, if_pos (by exact (by decide : (10 : Int) ≠ 0))]
    · show (laid s _ _ K).pend.length ≤ K; rw [laid_len, l.calm.pend]; exact Nat.le_of_eq (Nat.zero_add _)
    · have cm : Calm area (crashed (blown (laid s t (Rc.sec c.boot (lsnOf c R + 1) 2 d) K)) f) := l.calm.crashed (by show (laid s _ _ _).n = _; rw [laid_n]) (blown_ok (hok K hK)) (by show (laid s _ _ _).full = _; rw [laid_full]) hf
      rcases l.jo.append hd hn hroom (hover K hK f hf) with ⟨_, h⟩ | ⟨_, h⟩
      · exact ⟨.inl ⟨cm, h⟩, (hover K hK f hf).wrote⟩
      · exact ⟨.inr ⟨cm, h⟩, (hover K hK f hf).wrote⟩
theorem Live.compact2 {area : Nat} {s : Ds} {c : Hd} {R : List Fr} (l : Live area s c R) {x : Nat → ByteArray} {m : Nat} (k : Small c R m) (hm : m < 65536) (hf : fits x m) (hfit : pre x m ≤ area) :
    ∃ s2, Live area s2 ((jw area c R).next m) (recsOf c.boot (lsnOf c R + 1) (dl x m)) ∧ Wrote area s.dur s2.dur (snapF c.boot (lsnOf c R + 1) (dl x m)) ∧
      (∀ K, pre x m + 3 ≤ K → compacts (jw area c R) (armed s K) x m = (0, jw area ((jw area c R).next m) (recsOf c.boot (lsnOf c R + 1) (dl x m)), armed s2 (K - pre x m - 3))) ∧
      ∀ K, K < pre x m + 3 → ∃ j3 s3, compacts (jw area c R) (armed s K) x m = (10, j3, s3) ∧ s3.fu = .blown ∧ s3.pend.length ≤ K ∧ s3.n = s.n ∧ s3.ok ∧ ∀ f : Nat → Nat, (∀ i, f i ≤ 80) → (Lain area (crashed s3 f) c R ∨ Lain area (crashed s3 f) ((jw area c R).next m) (recsOf c.boot (lsnOf c R + 1) (dl x m))) ∧ Wrote area s.dur (crashed s3 f).dur (snapF c.boot (lsnOf c R + 1) (dl x m)) := by
  have hh := l.jo.jv.half
  have hh1 : 1 - c.area = 0 ∨ 1 - c.area = 1 := by omega
  have hb : 1 ≤ c.boot ∧ c.boot ≤ 4294967295 := ⟨l.jo.jv.two.good.b1, l.jo.jv.two.good.b2⟩
  have h1 : 1 ≤ lsnOf c R + 1 := by have := lsn_pos l.jo.jv; omega
  have h2 : lsnOf c R + 1 + (m : Int) ≤ 281474976710656 := by have := k.lsn; omega
  have hn : ∀ i : Nat, i < m → num c.boot (lsnOf c R + 1 + (i : Int)) := fun i hi => k.num l.jo.jv hi
  have hbl := beg_le (area := area) hh1
  obtain ⟨t, ht⟩ : ∃ t, t = beg area (1 - c.area) := ⟨_, rfl⟩
  have hbase : (jw area c R).base (1 - (jw area c R).h.area) = (t : Int) := by
    show (2 : Int) + (area : Int) * (1 - c.area) = _
    rw [base_beg hh1, ht]
  rw [← ht] at hbl
  have htn : t + pre x m ≤ s.n := by rw [l.calm.n]; omega
  obtain ⟨g, hgd⟩ : ∃ g, g = flat c.boot (lsnOf c R + 1) 1 x m := ⟨_, rfl⟩
  have hg : ∀ i, i < pre x m → (g i).size = 80 := fun i hi => by rw [hgd]; exact flat_size hb h1 h2 hf i hi
  obtain ⟨W, hWd⟩ : ∃ W, W = snapF c.boot (lsnOf c R + 1) (dl x m) := ⟨_, rfl⟩
  have hlen : W.length = pre x m := by rw [hWd]; exact snap_len
  have hD := snap_mem hf
  have hN : lsnOf c R + 1 + ((dl x m).length : Int) ≤ 281474976710656 := by rw [dl_len]; exact h2
  have hW : ∀ f ∈ W, f.good ∧ f.boot = c.boot ∧ lsnOf c R < f.lsn := fun f hfm => by
    rw [hWd] at hfm
    obtain ⟨a, e1, e2, _⟩ := snapF_mem hb h1 hN hD hfm
    exact ⟨a, e1, by omega⟩
  have hsecs : ∀ i (hi : i < W.length), g i = str W[i].sec := fun i hi => by
    subst hWd hgd
    exact flat_snap hf hn i hi
  have h256 : c.boot < 256 := by have := k.boot; omega
  have hover : ∀ K, K ≤ pre x m → ∀ f : Nat → Nat, (∀ i, f i ≤ 80) → Over area s.dur ((laid s t g K).settled f).dur t W c.boot.toNat := fun K hK f hf80 =>
    l.jo.over l.calm.pend h256 hW (by omega) (by omega) hsecs hf80 (by omega)
  have hall := l.jo.whole l.calm.pend (t := t) hW (by omega) (by omega) hsecs (f := fun _ => 80) (fun _ _ => rfl)
  have hok : ∀ K, K ≤ pre x m → (laid s t g K).ok := fun K hK => laid_ok l.calm.ok (by omega) fun i hi => hg i (by omega)
  -- the disk when the snapshot is written and synced
  obtain ⟨s1, hs1⟩ : ∃ s1, s1 = (laid s t g (pre x m)).settled fun _ => 80 := ⟨_, rfl⟩
  have s1n : s1.n = s.n := by rw [hs1]; show (laid s _ _ _).n = _; rw [laid_n]
  have s1c : Calm area s1 := by
    rw [hs1]
    exact ⟨by show (laid s _ _ _).n = _; rw [laid_n]; exact l.calm.n, by show (laid s _ _ _).fu = _; rw [laid_fu]; exact l.calm.fu, rfl, (hok _ (Nat.le_refl _)).settled fun _ => Nat.le_refl _, by show (laid s _ _ _).full = _; rw [laid_full]; exact l.calm.full⟩
  have o1 : Over area s.dur s1.dur t W c.boot.toNat := by rw [hs1]; exact hover _ (Nat.le_refl _) _ fun _ => Nat.le_refl _
  have hall1 : ∀ i (hi : i < W.length), s1.dur (t + i) = str W[i].sec := fun i hi => by
    have := hall i hi
    have e : laid s t g W.length = laid s t g (pre x m) := by rw [hlen]
    rw [e, ← hs1] at this
    exact this
  have jv1 : Jv area s1.dur c R := l.jo.snapped hD hN (by rw [← hWd]; omega) (by rw [← hWd, ← ht]; exact o1)
  -- the header
  obtain ⟨c', hc'⟩ : ∃ c', c' = (jw area c R).next m := ⟨_, rfl⟩
  have g' : c'.good := by
    rw [hc']
    have gg := l.jo.jv.two.good
    have ks := k.seq
    have kl := k.lsn
    have s1 := gg.s1
    have := lsn_pos l.jo.jv
    exact ⟨by show 1 ≤ c.seq + 1; omega, by show c.seq + 1 ≤ _; omega, by show 1 ≤ lsnOf c R + 1; omega, by show lsnOf c R + 1 ≤ _; omega, gg.b1, gg.b2, by show 0 ≤ 1 - c.area; omega, by show 1 - c.area ≤ 1; omega, by show (0 : Int) ≤ (m : Int); omega, by show (m : Int) ≤ 65535; omega⟩
  have hseq : c'.seq = c.seq + 1 := by rw [hc']; rfl
  have ks := k.seq
  obtain ⟨R', hR'⟩ : ∃ R', R' = recsOf c.boot (lsnOf c R + 1) (dl x m) := ⟨_, rfl⟩
  have hlR : R'.length = m := by rw [hR', recsOf_len, dl_len]
  have hsw : ∀ U : Nat → ByteArray, Put s1.dur U c' 80 → Jo area U c' R' := fun U p => by
    have h3 := l.jo.switched (T := s1.dur) (U := U) (c := c') hD hN (by rw [← hWd]; omega) (by rw [← hWd, ← ht]; exact o1) (fun i hi => by
      have := hall1 i (by rw [hWd]; exact hi)
      subst hWd
      rw [← ht]; exact this) (fun i hi => p.away i (slot_away hi)) (jv1.two.saved g' hseq (by omega) p) (by rw [hc']; rfl) (by rw [hc']; rfl) (by rw [hc']; rfl) (by rw [hc', dl_len]; rfl)
    rw [hR']; exact h3
  have hcut : ∀ (U : Nat → ByteArray) (q : Nat), Put s1.dur U c' q → q < 80 → Jv area U c R := fun U q p hq => jv1.cut g' hseq p hq
  have elsn : lsnOf c' R' = lsnOf c R + (m : Int) := by unfold lsnOf at *; rw [hlR, hc']; show lsnOf c R + 1 - 1 + _ = _; unfold lsnOf; omega
  have etot : total R' = pre x m := by rw [hR', total_recsOf, snap_len]
  have un : ∀ s' : Ds, compacts (jw area c R) s' x m = if (poured s' (t : Int) g (pre x m)).1 ≠ 0 then ((poured s' (t : Int) g (pre x m)).1, (jw area c R).told (poured s' (t : Int) g (pre x m)).1, (poured s' (t : Int) g (pre x m)).2) else
      if (saves (poured s' (t : Int) g (pre x m)).2 c').1 ≠ 0 then ((saves (poured s' (t : Int) g (pre x m)).2 c').1, (jw area c R).told (saves (poured s' (t : Int) g (pre x m)).2 c').1, (saves (poured s' (t : Int) g (pre x m)).2 c').2) else (0, jw area c' R', (saves (poured s' (t : Int) g (pre x m)).2 c').2) := fun s' => by
    unfold compacts
    rw [if_neg (by show ¬ (false = true); decide), if_neg (fun h => h hf), if_neg (by show ¬ area < _; omega), hbase]
    have ej : ({ (jw area c R) with h := (jw area c R).next m, n := (jw area c R).n + (m : Int), used := pre x m, dead := false } : Jw) = jw area c' R' := by
      unfold jw; rw [elsn, etot, hc']; rfl
    rw [ej, hc', hgd]
    rfl
  rw [← hc', ← hR']
  have h2n : 2 ≤ s1.n := by rw [s1n, l.calm.n]; omega
  have hw1 : (s1.wrote (c'.seq.toNat % 2) c'.enc).ok := s1c.ok.wrote (by omega) (enc_size g')
  refine ⟨(s1.wrote (c'.seq.toNat % 2) c'.enc).settled fun _ => 80, ⟨⟨s1c.n, s1c.fu, rfl, hw1.settled fun _ => Nat.le_refl _, s1c.full⟩, hsw _ (saved_put s1c.pend c')⟩, ?_, fun K hK => ?_, fun K hK => ?_⟩
  · rw [← hWd]; exact o1.wrote.then fun i hi => (saved_put s1c.pend c').away i (slot_away hi)
  · rw [un (armed s K), poured_whole htn hg (by omega), if_neg (by exact fun h => h rfl), ← hs1]
    obtain ⟨a, ha⟩ : ∃ a, K - pre x m - 1 = a + 2 := ⟨K - pre x m - 3, by omega⟩
    show (if (saves (armed s1 (K - pre x m - 1)) c').1 ≠ 0 then _ else _) = _
    rw [ha, saves_2 h2n g', if_neg (by exact fun h => h rfl), show K - pre x m - 3 = a by omega]
  · by_cases hK1 : K ≤ pre x m
    · refine ⟨(jw area c R).told 10, blown (laid s t g K), ?_, rfl, ?_, by show (laid s _ _ _).n = _; rw [laid_n], blown_ok (hok K hK1), fun f hf80 => ⟨.inl ⟨?_, ?_⟩, by rw [← hWd]; exact (hover K hK1 f hf80).wrote⟩⟩
      · rw [un (armed s K), poured_cut htn hg hK1, if_pos (by exact (by decide : (10 : Int) ≠ 0))]
      · show (laid s _ _ K).pend.length ≤ K; rw [laid_len, l.calm.pend]; exact Nat.le_of_eq (Nat.zero_add _)
      · exact l.calm.crashed (t := blown (laid s t g K)) (by show (laid s _ _ _).n = _; rw [laid_n]) (blown_ok (hok K hK1)) (by show (laid s _ _ _).full = _; rw [laid_full]) hf80
      · rw [crashed_blown]
        exact l.jo.snapped hD hN (by rw [← hWd]; omega) (by rw [← hWd, ← ht]; exact hover K hK1 f hf80)
    · have hsv : compacts (jw area c R) (armed s K) x m = if (saves (armed s1 (K - pre x m - 1)) c').1 ≠ 0 then ((saves (armed s1 (K - pre x m - 1)) c').1, (jw area c R).told (saves (armed s1 (K - pre x m - 1)) c').1, (saves (armed s1 (K - pre x m - 1)) c').2) else (0, jw area c' R', (saves (armed s1 (K - pre x m - 1)) c').2) := by
        rw [un (armed s K), poured_whole htn hg (by omega), if_neg (by exact fun h => h rfl), ← hs1]
      rcases (by omega : K - pre x m - 1 = 0 ∨ K - pre x m - 1 = 1) with e | e
      · rw [e, saves_0 h2n g', if_pos (by exact (by decide : (10 : Int) ≠ 0))] at hsv
        refine ⟨_, _, hsv, rfl, by show s1.pend.length ≤ K; rw [s1c.pend]; exact Nat.zero_le _, s1n, blown_ok s1c.ok, fun f hf80 => ⟨.inl ⟨s1c.crashed (t := blown s1) rfl (blown_ok s1c.ok) rfl hf80, ?_⟩, ?_⟩⟩
        · rw [crashed_blown, settled_none s1c.pend]
          exact jv1
        · rw [crashed_blown, settled_none s1c.pend, ← hWd]
          exact o1.wrote
      · rw [e, saves_1 h2n g', if_pos (by exact (by decide : (10 : Int) ≠ 0))] at hsv
        refine ⟨_, _, hsv, rfl, by show (s1.pend ++ [_]).length ≤ K; rw [s1c.pend]; show 1 ≤ K; omega, s1n, blown_ok hw1, fun f hf80 => ?_⟩
        have cm : Calm area (crashed (blown (s1.wrote (c'.seq.toNat % 2) c'.enc)) f) := s1c.crashed (t := blown (s1.wrote (c'.seq.toNat % 2) c'.enc)) rfl (blown_ok hw1) rfl hf80
        have p := put_disk s1c.pend c' f (hf80 0)
        refine ⟨?_, by rw [← hWd]; exact o1.wrote.then fun i hi => p.away i (slot_away hi)⟩
        by_cases h80 : f 0 < 80
        · exact .inl ⟨cm, hcut _ _ p h80⟩
        · have e : f 0 = 80 := by have := hf80 0; omega
          rw [e] at p
          exact .inr ⟨cm, (hsw _ p).jv⟩
end Go.Proofs.Ytjbcpfndpfeepaa.Jk
