/-
  Compact with a fuse that is armed; what Open finds (plain mathematics).
-/
import Derived.Test.YtckbhjjflpobbaaGreatJl
import Derived.Test.YtckbhjjflpobbaaGreatJg
namespace Go.Proofs.YtckbhjjflpobbaaGreat.Jk
open Go Go.Proofs.YtckbhjjflpobbaaGreat.Pk Go.Proofs.YtckbhjjflpobbaaGreat.Fk Go.Proofs.YtckbhjjflpobbaaGreat.Dz Go.Proofs.YtckbhjjflpobbaaGreat.Rc Go.Proofs.YtckbhjjflpobbaaGreat.Fz
open Go.Proofs.YtckbhjjflpobbaaGreat.Hk (Hd Two Non Put saves saved saves_idle saved_put put_disk enc_size slot_nat look_dur)

theorem Live.compact {area : Nat} {s : Ds} {c : Hd} {R : List Fr} (l : Live area s c R) {x : Nat → ByteArray} {m : Nat} (k : Small c R m) (hm : m < 65536) (hf : fits x m) (hfit : pre x m ≤ area) :
    ∃ s2, Live area s2 ((jw area c R).next m) (recsOf c.boot (lsnOf c R + 1) (dl x m)) ∧ compacts (jw area c R) s x m = (0, jw area ((jw area c R).next m) (recsOf c.boot (lsnOf c R + 1) (dl x m)), s2) ∧
      (∀ K, pre x m + 3 ≤ K → compacts (jw area c R) (armed s K) x m = (0, jw area ((jw area c R).next m) (recsOf c.boot (lsnOf c R + 1) (dl x m)), armed s2 (K - pre x m - 3))) ∧
      (∀ K, K < pre x m + 3 → ∃ j3 s3, compacts (jw area c R) (armed s K) x m = (10, j3, s3) ∧ s3.fu = .blown ∧ s3.pend.length ≤ K ∧ s3.n = s.n ∧ s3.ok ∧ ∀ f : Nat → Nat, (∀ i, f i ≤ 80) → Lain area (crashed s3 f) c R ∨ Lain area (crashed s3 f) ((jw area c R).next m) (recsOf c.boot (lsnOf c R + 1) (dl x m))) ∧
      ∃ j3 T i d, compacts (jw area c R) (armed s (pre x m + 2)) x m = (10, j3, blown (T.wrote i d)) ∧ s2 = (T.wrote i d).settled (fun _ => 80) ∧ Calm area T ∧ i < T.n ∧ d.size = 80 := by
  have hh := l.jo.jv.half
  have hh1 : 1 - c.area = 0 ∨ 1 - c.area = 1 := by omega
  have hb : 1 ≤ c.boot ∧ c.boot ≤ 4294967295 := ⟨l.jo.jv.two.good.b1, l.jo.jv.two.good.b2⟩
  have h1 : 1 ≤ lsnOf c R + 1 := by have := lsn_pos l.jo.jv; omega
  have h2 : lsnOf c R + 1 + (m : Int) ≤ 281474976710656 := by have := k.lsn; omega
  have hn : ∀ i : Nat, i < m → num c.boot (lsnOf c R + 1 + (i : Int)) := fun i hi => k.num l.jo.jv hi
  have hbl := beg_le (area := area) hh1
  obtain ⟨t, ht⟩ : ∃ t, t = beg area (1 - c.area) := ⟨_, rfl⟩
  have hbase : (jw area c R).base (1 - (jw area c R).h.area) = (t : Int) := by
    show (2 : Int) + (area : Int) * (1 - c.area) = _
    rw [base_beg hh1, ht]
  rw [← ht] at hbl
  have htn : t + pre x m ≤ s.n := by rw [l.calm.n]; omega
  obtain ⟨g, hgd⟩ : ∃ g, g = flat c.boot (lsnOf c R + 1) 1 x m := ⟨_, rfl⟩
  have hg : ∀ i, i < pre x m → (g i).size = 80 := fun i hi => by rw [hgd]; exact flat_size hb h1 h2 hf i hi
  obtain ⟨W, hWd⟩ : ∃ W, W = snapF c.boot (lsnOf c R + 1) (dl x m) := ⟨_, rfl⟩
  have hlen : W.length = pre x m := by rw [hWd]; exact snap_len
  have hD := snap_mem hf
  have hN : lsnOf c R + 1 + ((dl x m).length : Int) ≤ 281474976710656 := by rw [dl_len]; exact h2
  have hW : ∀ f ∈ W, f.good ∧ f.boot = c.boot ∧ lsnOf c R < f.lsn := fun f hfm => by
    rw [hWd] at hfm
    obtain ⟨a, e1, e2, _⟩ := snapF_mem hb h1 hN hD hfm
    exact ⟨a, e1, by omega⟩
  have hsecs : ∀ i (hi : i < W.length), g i = str W[i].sec := fun i hi => by
    subst hWd hgd
    exact flat_snap hf hn i hi
  have h256 : c.boot < 256 := by have := k.boot; omega
  have hover : ∀ K, K ≤ pre x m → ∀ f : Nat → Nat, (∀ i, f i ≤ 80) → Over area s.dur ((laid s t g K).settled f).dur t W c.boot.toNat := fun K hK f hf80 =>
    l.jo.over l.calm.pend h256 hW (by omega) (by omega) hsecs hf80 (by omega)
  have hall := l.jo.whole l.calm.pend (t := t) hW (by omega) (by omega) hsecs (f := fun _ => 80) (fun _ _ => rfl)
  have hok : ∀ K, K ≤ pre x m → (laid s t g K).ok := fun K hK => laid_ok l.calm.ok (by omega) fun i hi => hg i (by omega)
  -- the disk when the snapshot is written and synced
  obtain ⟨s1, hs1⟩ : ∃ s1, s1 = (laid s t g (pre x m)).settled fun _ => 80 := ⟨_, rfl⟩
  have s1n : s1.n = s.n := by rw [hs1]; show (laid s _ _ _).n = _; rw [laid_n]
  have s1c : Calm area s1 := by
    rw [hs1]
    exact ⟨by show (laid s _ _ _).n = _; rw [laid_n]; exact l.calm.n, by show (laid s _ _ _).fu = _; rw [laid_fu]; exact l.calm.fu, rfl, (hok _ (Nat.le_refl _)).settled fun _ => Nat.le_refl _, by show (laid s _ _ _).full = _; rw [laid_full]; exact l.calm.full⟩
  have o1 : Over area s.dur s1.dur t W c.boot.toNat := by rw [hs1]; exact hover _ (Nat.le_refl _) _ fun _ => Nat.le_refl _
  have hall1 : ∀ i (hi : i < W.length), s1.dur (t + i) = str W[i].sec := fun i hi => by
    have := hall i hi
    have e : laid s t g W.length = laid s t g (pre x m) := by rw [hlen]
    rw [e, ← hs1] at this
    exact this
  have jv1 : Jv area s1.dur c R := l.jo.snapped hD hN (by rw [← hWd]; omega) (by rw [← hWd, ← ht]; exact o1)
  -- the header
  obtain ⟨c', hc'⟩ : ∃ c', c' = (jw area c R).next m := ⟨_, rfl⟩
  have g' : c'.good := by
    rw [hc']
    have gg := l.jo.jv.two.good
    have ks := k.seq
    have kl := k.lsn
    have s1 := gg.s1
    have := lsn_pos l.jo.jv
    exact ⟨by show 1 ≤ c.seq + 1; omega, by show c.seq + 1 ≤ _; omega, by show 1 ≤ lsnOf c R + 1; omega, by show lsnOf c R + 1 ≤ _; omega, gg.b1, gg.b2, by show 0 ≤ 1 - c.area; omega, by show 1 - c.area ≤ 1; omega, by show (0 : Int) ≤ (m : Int); omega, by show (m : Int) ≤ 65535; omega⟩
  have hseq : c'.seq = c.seq + 1 := by rw [hc']; rfl
  have ks := k.seq
  obtain ⟨R', hR'⟩ : ∃ R', R' = recsOf c.boot (lsnOf c R + 1) (dl x m) := ⟨_, rfl⟩
  have hlR : R'.length = m := by rw [hR', recsOf_len, dl_len]
  have hsw : ∀ U : Nat → ByteArray, Put s1.dur U c' 80 → Jo area U c' R' := fun U p => by
    have h3 := l.jo.switched (T := s1.dur) (U := U) (c := c') hD hN (by rw [← hWd]; omega) (by rw [← hWd, ← ht]; exact o1) (fun i hi => by
      have := hall1 i (by rw [hWd]; exact hi)
      subst hWd
      rw [← ht]; exact this) (fun i hi => p.away i (slot_away hi)) (jv1.two.saved g' hseq (by omega) p) (by rw [hc']; rfl) (by rw [hc']; rfl) (by rw [hc']; rfl) (by rw [hc', dl_len]; rfl)
    rw [hR']; exact h3
  have hcut : ∀ (U : Nat → ByteArray) (q : Nat), Put s1.dur U c' q → q < 80 → Jv area U c R := fun U q p hq => jv1.cut g' hseq p hq
  have elsn : lsnOf c' R' = lsnOf c R + (m : Int) := by unfold lsnOf at *; rw [hlR, hc']; show lsnOf c R + 1 - 1 + _ = _; unfold lsnOf; omega
  have etot : total R' = pre x m := by rw [hR', total_recsOf, snap_len]
  have un : ∀ s' : Ds, compacts (jw area c R) s' x m = if (poured s' (t : Int) g (pre x m)).1 ≠ 0 then ((poured s' (t : Int) g (pre x m)).1, (jw area c R).told (poured s' (t : Int) g (pre x m)).1, (poured s' (t : Int) g (pre x m)).2) else
      if (saves (poured s' (t : Int) g (pre x m)).2 c').1 ≠ 0 then ((saves (poured s' (t : Int) g (pre x m)).2 c').1, (jw area c R).told (saves (poured s' (t : Int) g (pre x m)).2 c').1, (saves (poured s' (t : Int) g (pre x m)).2 c').2) else (0, jw area c' R', (saves (poured s' (t : Int) g (pre x m)).2 c').2) := fun s' => by
    unfold compacts
    rw [if_neg (by show ¬ (false = true); decide), if_neg (fun h => h hf), if_neg (by show ¬ area < _; omega), hbase]
    have ej : ({ (jw area c R) with h := (jw area c R).next m, n := (jw area c R).n + (m : Int), used := pre x m, dead := false } : Jw) = jw area c' R' := by
      unfold jw; rw [elsn, etot, hc']; rfl
    rw [ej, hc', hgd]
    rfl
  rw [← hc', ← hR']
  have h2n : 2 ≤ s1.n := by rw [s1n, l.calm.n]; omega
  have hw1 : (s1.wrote (c'.seq.toNat % 2) c'.enc).ok := s1c.ok.wrote (by omega) (enc_size g')
  refine ⟨(s1.wrote (c'.seq.toNat % 2) c'.enc).settled fun _ => 80, ⟨⟨s1c.n, s1c.fu, rfl, hw1.settled fun _ => Nat.le_refl _, s1c.full⟩, hsw _ (saved_put s1c.pend c')⟩, ?_, fun K hK => ?_, fun K hK => ?_, ?_⟩
  · rw [un s, poured_idle l.calm.fu htn hg, if_neg (by exact fun h => h rfl), ← hs1]
    show (if (saves s1 c').1 ≠ 0 then _ else _) = _
    rw [saves_i s1c.fu h2n g', if_neg (by exact fun h => h rfl)]
  · rw [un (armed s K), poured_whole htn hg (by omega), if_neg (by exact fun h => h rfl), ← hs1]
    obtain ⟨a, ha⟩ : ∃ a, K - pre x m - 1 = a + 2 := ⟨K - pre x m - 3, by omega⟩
    show (if (saves (armed s1 (K - pre x m - 1)) c').1 ≠ 0 then _ else _) = _
    rw [ha, saves_2 h2n g', if_neg (by exact fun h => h rfl), show K - pre x m - 3 = a by omega]
  · by_cases hK1 : K ≤ pre x m
    · refine ⟨(jw area c R).told 10, blown (laid s t g K), ?_, rfl, ?_, by show (laid s _ _ _).n = _; rw [laid_n], blown_ok (hok K hK1), fun f hf80 => .inl ⟨?_, ?_⟩⟩
      · rw [un (armed s K), poured_cut htn hg hK1, if_pos (by exact (by decide : (10 : Int) ≠ 0))]
      · show (laid s _ _ K).pend.length ≤ K; rw [laid_len, l.calm.pend]; exact Nat.le_of_eq (Nat.zero_add _)
      · exact l.calm.crashed (t := blown (laid s t g K)) (by show (laid s _ _ _).n = _; rw [laid_n]) (blown_ok (hok K hK1)) (by show (laid s _ _ _).full = _; rw [laid_full]) hf80
      · rw [crashed_blown]
        exact l.jo.snapped hD hN (by rw [← hWd]; omega) (by rw [← hWd, ← ht]; exact hover K hK1 f hf80)
    · have hsv : compacts (jw area c R) (armed s K) x m = if (saves (armed s1 (K - pre x m - 1)) c').1 ≠ 0 then ((saves (armed s1 (K - pre x m - 1)) c').1, (jw area c R).told (saves (armed s1 (K - pre x m - 1)) c').1, (saves (armed s1 (K - pre x m - 1)) c').2) else (0, jw area c' R', (saves (armed s1 (K - pre x m - 1)) c').2) := by
        rw [un (armed s K), poured_whole htn hg (by omega), if_neg (by exact fun h => h rfl), ← hs1]
      rcases (by omega : K - pre x m - 1 = 0 ∨ K - pre x m - 1 = 1) with e | e
      · rw [e, saves_0 h2n g', if_pos (by exact (by decide : (10 : Int) ≠ 0))] at hsv
        refine ⟨_, _, hsv, rfl, by show s1.pend.length ≤ K; rw [s1c.pend]; exact Nat.zero_le _, s1n, blown_ok s1c.ok, fun f hf80 => .inl ⟨s1c.crashed (t := blown s1) rfl (blown_ok s1c.ok) rfl hf80, ?_⟩⟩
        rw [crashed_blown, settled_none s1c.pend]
        exact jv1
      · rw [e, saves_1 h2n g', if_pos (by exact (by decide : (10 : Int) ≠ 0))] at hsv
        refine ⟨_, _, hsv, rfl, by show (s1.pend ++ [_]).length ≤ K; rw [s1c.pend]; show 1 ≤ K; omega, s1n, blown_ok hw1, fun f hf80 => ?_⟩
        have cm : Calm area (crashed (blown (s1.wrote (c'.seq.toNat % 2) c'.enc)) f) := s1c.crashed (t := blown (s1.wrote (c'.seq.toNat % 2) c'.enc)) rfl (blown_ok hw1) rfl hf80
        have p := put_disk s1c.pend c' f (hf80 0)
        by_cases h80 : f 0 < 80
        · exact .inl ⟨cm, hcut _ _ p h80⟩
        · have e : f 0 = 80 := by have := hf80 0; omega
          rw [e] at p
          exact .inr ⟨cm, (hsw _ p).jv⟩
  · refine ⟨(jw area c R).told 10, s1, c'.seq.toNat % 2, c'.enc, ?_, rfl, s1c, by omega, enc_size g'⟩
    rw [un (armed s (pre x m + 2)), poured_whole htn hg (by omega), if_neg (by exact fun h => h rfl), ← hs1, show pre x m + 2 - pre x m - 1 = 1 by omega]
    show (if (saves (armed s1 1) c').1 ≠ 0 then _ else _) = _
    rw [saves_1 h2n g', if_pos (by exact (by decide : (10 : Int) ≠ 0))]
/-! ### What Open finds -/
theorem Lain.finds {area : Nat} {s : Ds} {c : Hd} {R : List Fr} (l : Lain area s c R) (k : c.boot < 4294967295 ∧ c.seq < 281474976710000) : newestHd s = (c, 0) ∧ Hok c c.snaps.toNat ∧ Found s.look (beg area c.area + area) (beg area c.area) c.first 1 c.snaps.toNat R ∧ c.snaps.toNat ≤ R.length := by
  have g := l.jv.two.good
  have e : Hk.loads s = (c, 0) := Hk.loads_some (by rw [l.calm.n]; omega) (by rw [l.calm.fu]; rfl) (by rw [look_dur l.calm.pend]; exact l.jv.two.newest)
  refine ⟨?_, ⟨l.jv.half, by have := g.n1; omega, by have := g.n2; have := g.n1; omega, ⟨g.f1, by have := g.f2; omega⟩, ⟨by have := g.s1; omega, by omega⟩, ⟨by have := g.b1; omega, by omega⟩⟩, by rw [look_dur l.calm.pend]; exact l.jv.found, l.jv.snap⟩
  unfold newestHd
  rw [e, if_neg (by exact (by decide : ¬ (0 : Int) = 6))]
theorem newest_same {s t : Ds} (hn : s.n = t.n) (hd : s.fu.dead = t.fu.dead) (hl : s.look = t.look) : newestHd s = newestHd t := by
  have e : Hk.loads s = Hk.loads t := by unfold Hk.loads; rw [hn, hd, hl]
  unfold newestHd; rw [e]
theorem look_settled {s : Ds} (hp : s.pend = []) (hok : s.ok) {i : Nat} {d : ByteArray} (hi : i < s.n) (hd : d.size = 80) : (s.wrote i d).look = ((s.wrote i d).settled fun _ => 80).look := by
  funext j
  rw [look_wrote]
  have e : ((s.wrote i d).settled fun _ => 80).look j = ((s.wrote i d).settled fun _ => 80).dur j := rfl
  have e2 : ((s.wrote i d).settled fun _ => 80).dur j = put s.dur i (mix 80 d (s.dur i)) j := by
    show Dz.settle _ (s.wrote i d).pend s.dur (s.wrote i d).pend.length j = _
    unfold Ds.wrote
    rw [hp]
    rfl
  rw [e, e2]
  by_cases h : j = i
  · subst h
    rw [if_pos rfl, put_eq, mix_all hd (hok.dur j hi)]
  · rw [if_neg h, put_ne h, look_dur hp]
/-! A new disk. -/
def h0 : Hd := ⟨0, 0, 0, 1, 0⟩
def h11 : Hd := ⟨1, 1, 0, 1, 0⟩
theorem h11_good : h11.good := ⟨by decide, by decide, by decide, by decide, by decide, by decide, by decide, by decide, by decide, by decide⟩
theorem fresh_calm {area : Nat} (ha : area ≤ 32000) : Calm area (fresh (2 + 2 * area) .idle) := ⟨rfl, rfl, rfl, ok_fresh (by omega) (by omega) trivial, rfl⟩
theorem fresh_none {area : Nat} {a : Int} (ha : a = 0 ∨ a = 1) {S : Nat → ByteArray} (hz : ∀ i, has area i → S i = Z) {n boot : Int} {r : Fr} : ¬ rdOk S (beg area a) (beg area a + area) n boot r := fun hr => by
  have hp := parts_pos r.data.size
  have hle := hr.2.2.2
  have hb := rd_blank hr hp
  have hin : has area (beg area a + 0) := half_has (by omega) (by omega) (Nat.le_add_right _ _) (by omega)
  rw [hz _ hin, Z_str, zeros_none] at hb
  cases hb
theorem fresh_finds {area : Nat} : newestHd (fresh (2 + 2 * area) .idle) = (h0, 0) ∧ Hok h0 0 ∧ Found (fresh (2 + 2 * area) .idle).look (beg area h0.area + area) (beg area h0.area) h0.first 1 0 [] := by
  refine ⟨?_, ⟨.inl rfl, rfl, by decide, by decide, by decide, by decide⟩, ⟨trivial, fun r hr => ?_⟩⟩
  · have e : Hk.loads (fresh (2 + 2 * area) .idle) = (Hd.nil, 6) := Hk.loads_none (by show ¬ 2 + 2 * area < 2; omega) rfl (Non.fresh _ _).newest
    unfold newestHd
    rw [e, if_pos rfl]; rfl
  · exact absurd (show rdOk (fresh (2 + 2 * area) .idle).look (beg area 0) (beg area 0 + area) (h0.first + ((0 : Nat) : Int)) 1 r from hr) (fresh_none (.inl rfl) fun _ _ => rfl)
theorem fresh_opens {area : Nat} (ha : area ≤ 32000) : ∃ s1, saves (fresh (2 + 2 * area) .idle) (nextHd h0) = (0, s1) ∧ Live area s1 h11 [] := by
  have cm := fresh_calm ha
  have h2 : 2 ≤ (fresh (2 + 2 * area) .idle).n := by show 2 ≤ 2 + 2 * area; omega
  have e1 : h11.seq.toNat % 2 < (fresh (2 + 2 * area) .idle).n := by
    have : h11.seq.toNat % 2 = 1 := by decide
    rw [this]; show 1 < 2 + 2 * area; omega
  have hw : ((fresh (2 + 2 * area) .idle).wrote (h11.seq.toNat % 2) h11.enc).ok := cm.ok.wrote e1 (enc_size h11_good)
  exact ⟨_, saves_i rfl h2 h11_good, ⟨rfl, rfl, rfl, hw.settled fun _ => Nat.le_refl _, rfl⟩, (Jn.fresh area _ .idle).opened h11_good rfl rfl rfl rfl (saved_put rfl h11)⟩
end Go.Proofs.YtckbhjjflpobbaaGreat.Jk
