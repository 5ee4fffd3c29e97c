/-
  JournalExamples: the journal's states, one after another (plain mathematics).
-/
import Derived.Test.YtjbcpfndpfeepaaGreatJrm
import Derived.Test.YtjbcpfndpfeepaaGreatJq
import Derived.Test.YtjbcpfndpfeepaaGreatHm
namespace Go.Proofs.YtjbcpfndpfeepaaGreat.Jk
open Go Go.Proofs.YtjbcpfndpfeepaaGreat.Pk Go.Proofs.YtjbcpfndpfeepaaGreat.Fk Go.Proofs.YtjbcpfndpfeepaaGreat.Dz Go.Proofs.YtjbcpfndpfeepaaGreat.Rc Go.Proofs.YtjbcpfndpfeepaaGreat.Fz
open Go.Proofs.YtjbcpfndpfeepaaGreat.Hk (Hd Two Non Put saves saved saves_idle saved_put put_disk enc_size slot_nat look_dur)

theorem mix_no (a b : ByteArray) : mix 0 a b = b := by
  unfold mix
  simp
theorem Live.append_one {area : Nat} {s : Ds} {c : Hd} {R : List Fr} (l : Live area s c R) (k : Small c R 1) {d : ByteArray} (hd : d.size ≤ 4096) (hroom : total R + parts d.size ≤ area) (hp1 : parts d.size = 1) :
    ∃ s2, appends (jw area c R) (armed s 1) d = (10, (jw area c R).told 10, s2) ∧ s2.fu = .blown ∧ s2.pend.length ≤ 1 ∧ s2.n = s.n ∧ s2.ok ∧ (∀ f : Nat → Nat, (∀ i, f i ≤ 80) → f 0 = 0 → Lain area (crashed s2 f) c R) ∧ (∀ f : Nat → Nat, (∀ i, f i ≤ 80) → f 0 = 80 → Lain area (crashed s2 f) c (R ++ [recd c.boot (lsnOf c R + 1) 2 d])) := by
  have hh := l.jo.jv.half
  have hn : num c.boot (lsnOf c R + 1) := by
    have := k.num l.jo.jv (i := 0) (by decide)
    rwa [show lsnOf c R + 1 + ((0 : Nat) : Int) = lsnOf c R + 1 by omega] at this
  have hbl := beg_le (area := area) hh
  obtain ⟨t, ht⟩ : ∃ t, t = beg area c.area + total R := ⟨_, rfl⟩
  have hbase : (jw area c R).base (jw area c R).h.area + ((jw area c R).used : Int) = (t : Int) := by
    show (2 : Int) + (area : Int) * c.area + (total R : Int) = _
    rw [base_beg hh, ht]; push_cast; rfl
  have htn : t + parts d.size ≤ s.n := by rw [l.calm.n]; omega
  have hg : ∀ i, i < parts d.size → (Rc.sec c.boot (lsnOf c R + 1) 2 d i).size = 80 := fun i hi => sec_size hn hd hi
  have hW : ∀ f ∈ frames c.boot (lsnOf c R + 1) 2 d, f.good ∧ f.boot = c.boot ∧ lsnOf c R < f.lsn := fun f hf => by
    obtain ⟨a, e1, e2, _⟩ := frames_mem hn hd hf
    exact ⟨a, e1, by omega⟩
  have hfl := frames_len c.boot (lsnOf c R + 1) 2 d
  have hsecs := rec_secs hn hd
  have h256 : c.boot < 256 := by have := k.boot; omega
  have elsn : lsnOf c (R ++ [recd c.boot (lsnOf c R + 1) 2 d]) = lsnOf c R + 1 := by unfold lsnOf; rw [List.length_append, List.length_singleton]; omega
  have etot : total (R ++ [recd c.boot (lsnOf c R + 1) 2 d]) = total R + parts d.size := by rw [total_app]; show _ + (parts d.size + 0) = _; omega
  have un : ∀ s' : Ds, s'.full = false → appends (jw area c R) s' d = if (poured s' (t : Int) (Rc.sec c.boot (lsnOf c R + 1) 2 d) (parts d.size)).1 ≠ 0 then ((poured s' (t : Int) (Rc.sec c.boot (lsnOf c R + 1) 2 d) (parts d.size)).1, (jw area c R).told (poured s' (t : Int) (Rc.sec c.boot (lsnOf c R + 1) 2 d) (parts d.size)).1, (poured s' (t : Int) (Rc.sec c.boot (lsnOf c R + 1) 2 d) (parts d.size)).2) else (0, jw area c (R ++ [recd c.boot (lsnOf c R + 1) 2 d]), (poured s' (t : Int) (Rc.sec c.boot (lsnOf c R + 1) 2 d) (parts d.size)).2) := fun s' hf => by
    unfold appends
    rw [if_neg (by show ¬ (false = true); decide), if_neg (by omega), if_neg (by rw [hf]; rintro (h | h); cases h; have h : area < total R + parts d.size := h; omega), hbase]
    have ej : ({ (jw area c R) with n := (jw area c R).n + 1, used := (jw area c R).used + parts d.size, dead := false } : Jw) = jw area c (R ++ [recd c.boot (lsnOf c R + 1) 2 d]) := by
      unfold jw; rw [elsn, etot]
    rw [ej]
    rfl
  have hover : ∀ K, K ≤ parts d.size → ∀ f : Nat → Nat, (∀ i, f i ≤ 80) → Over area s.dur ((laid s t (Rc.sec c.boot (lsnOf c R + 1) 2 d) K).settled f).dur (beg area c.area + total R) (frames c.boot (lsnOf c R + 1) 2 d) c.boot.toNat := fun K hK f hf => by
    rw [← ht]
    exact l.jo.over l.calm.pend h256 hW (by omega) (by omega) hsecs hf (by omega)
  have hok : ∀ K, K ≤ parts d.size → (laid s t (Rc.sec c.boot (lsnOf c R + 1) 2 d) K).ok := fun K hK => laid_ok l.calm.ok (by omega) fun i hi => hg i (by omega)
  refine ⟨blown (laid s t (Rc.sec c.boot (lsnOf c R + 1) 2 d) 1), ?_, rfl, ?_, by show (laid s _ _ _).n = _; rw [laid_n], blown_ok (hok 1 (by omega)), fun f hf h0 => ?_, fun f hf h0 => ?_⟩
  · rw [un (armed s 1) l.calm.full, poured_cut htn hg (by omega), if_pos (by exact (by decide : (10 : Int) ≠ 0))]
  · show (laid s _ _ 1).pend.length ≤ 1; rw [laid_len, l.calm.pend]; exact Nat.le_of_eq (Nat.zero_add _)
  · refine ⟨l.calm.crashed (t := blown (laid s t (Rc.sec c.boot (lsnOf c R + 1) 2 d) 1)) (by show (laid s _ _ _).n = _; rw [laid_n]) (blown_ok (hok 1 (by omega))) (by show (laid s _ _ _).full = _; rw [laid_full]) hf, ?_⟩
    rw [crashed_blown]
    have e : ((laid s t (Rc.sec c.boot (lsnOf c R + 1) 2 d) 1).settled f).dur = s.dur := by
      funext i
      rw [laid_settled l.calm.pend]
      by_cases hi : t ≤ i ∧ i < t + 1
      · obtain rfl : i = t := by omega
        rw [if_pos hi, Nat.sub_self, h0]
        exact mix_no _ _
      · rw [if_neg hi]
    rw [e]
    exact l.jo.jv
  · have cm : Calm area (crashed (blown (laid s t (Rc.sec c.boot (lsnOf c R + 1) 2 d) 1)) f) := l.calm.crashed (by show (laid s _ _ _).n = _; rw [laid_n]) (blown_ok (hok 1 (by omega))) (by show (laid s _ _ _).full = _; rw [laid_full]) hf
    have hall := l.jo.whole l.calm.pend (t := t) hW (by omega) (by omega) hsecs (f := f) (fun k hk => by
      obtain rfl : k = 0 := by omega
      exact h0)
    rcases l.jo.append hd hn hroom (hover 1 (by omega) f hf) with ⟨hx, _⟩ | ⟨_, h⟩
    · refine absurd (fun i hi => ?_) hx
      rw [hsecs i (by omega), ← ht]
      have := hall i (by omega)
      have e : laid s t (Rc.sec c.boot (lsnOf c R + 1) 2 d) (frames c.boot (lsnOf c R + 1) 2 d).length = laid s t (Rc.sec c.boot (lsnOf c R + 1) 2 d) 1 := by rw [hfl, hp1]
      rw [e] at this
      exact this
    · exact ⟨cm, h⟩
end Go.Proofs.YtjbcpfndpfeepaaGreat.Jk
