/-
  Plain mathematics (as in Jra) (a full disk, refused calls, what the snapshot needs), and the run with its row of records.
  JournalExamples: the journal's states, one after another (plain mathematics).
  JournalExamples: calls that are refused at once, and calls on nil.
-/
import Derived.Test.YtckbhjjflpobbaaGreatJt
import Derived.Test.YtckbhjjflpobbaaGreatJq
import Derived.Test.YtckbhjjflpobbaaGreatGw
namespace Go.Proofs.YtckbhjjflpobbaaGreat.Jk
open Go Go.RowKit Go.ChangeShapes Go.WideShapes Go.ChangeAt Go.Proofs.YtckbhjjflpobbaaGreat.Mem Go.Proofs.YtckbhjjflpobbaaGreat.Pk Go.Proofs.YtckbhjjflpobbaaGreat.Fk Go.Proofs.YtckbhjjflpobbaaGreat.Dz Go.Proofs.YtckbhjjflpobbaaGreat.Fz Go.Proofs.YtckbhjjflpobbaaGreat.Rc
open Go.Proofs.YtckbhjjflpobbaaGreat.Hk (Hd saves loads o_save o_load hblock)

/-! The mark of fullness is only read by Append. -/
def sf (s : Ds) (f : Bool) : Ds := { s with full := f }
theorem writes_sf (s : Ds) (f : Bool) (i : Int) (d : ByteArray) : (sf s f).writes i d = ((s.writes i d).1, sf (s.writes i d).2 f) := by
  unfold Ds.writes
  show (if s.out i then _ else _) = _
  by_cases h1 : s.out i = true
  · rw [if_pos h1, if_pos h1]
  rw [if_neg h1, if_neg h1]
  by_cases h2 : d.size ≠ 80
  · rw [if_pos h2, if_pos h2]
  rw [if_neg h2, if_neg h2]
  show (if s.fu.says ≠ 0 then _ else _) = _
  by_cases h3 : s.fu.says ≠ 0
  · rw [if_pos h3, if_pos h3]; rfl
  · rw [if_neg h3, if_neg h3]; rfl
theorem syncs_sf (s : Ds) (f : Bool) : (sf s f).syncs = (s.syncs.1, sf s.syncs.2 f) := by
  unfold Ds.syncs
  show (if s.fu.says ≠ 0 then _ else _) = _
  by_cases h3 : s.fu.says ≠ 0
  · rw [if_pos h3, if_pos h3]; rfl
  · rw [if_neg h3, if_neg h3]; rfl
theorem pour_sf (s : Ds) (f : Bool) (t : Int) (g : Nat → ByteArray) : ∀ k, pour (sf s f) t g k = ((pour s t g k).1, sf (pour s t g k).2 f)
  | 0 => rfl
  | k + 1 => by
    have ih := pour_sf s f t g k
    show (if (pour (sf s f) t g k).1 ≠ 0 then _ else _) = _
    rw [ih]
    show _ = ((if (pour s t g k).1 ≠ 0 then _ else _ : Int × Ds).1, sf (if (pour s t g k).1 ≠ 0 then _ else _ : Int × Ds).2 f)
    by_cases h : (pour s t g k).1 ≠ 0
    · rw [if_pos h, if_pos h]
    · rw [if_neg h, if_neg h]; exact writes_sf _ _ _ _
theorem poured_sf (s : Ds) (f : Bool) (t : Int) (g : Nat → ByteArray) (m : Nat) : poured (sf s f) t g m = ((poured s t g m).1, sf (poured s t g m).2 f) := by
  unfold poured
  rw [pour_sf]
  by_cases h : (pour s t g m).1 ≠ 0
  · rw [if_pos h, if_pos h]
  · rw [if_neg h, if_neg h]; exact syncs_sf _ _
theorem saves_sf (s : Ds) (f : Bool) (c : Hd) : saves (sf s f) c = ((saves s c).1, sf (saves s c).2 f) := by
  unfold Hk.saves
  by_cases h1 : c.err ≠ 0
  · rw [if_pos h1, if_pos h1]
  rw [if_neg h1, if_neg h1]
  show (if s.n < 2 then _ else _) = _
  by_cases h2 : s.n < 2
  · rw [if_pos h2, if_pos h2]
  rw [if_neg h2, if_neg h2, writes_sf]
  by_cases h3 : (s.writes (c.seq % 2) c.enc).1 ≠ 0
  · rw [if_pos h3, if_pos h3]
  · rw [if_neg h3, if_neg h3]; exact syncs_sf _ _
theorem compacts_sf (j : Jw) (s : Ds) (f : Bool) (x : Nat → ByteArray) (m : Nat) : (compacts j (sf s f) x m).1 = (compacts j s x m).1 := by
  unfold compacts
  by_cases h1 : j.dead = true
  · rw [if_pos h1, if_pos h1]
  rw [if_neg h1, if_neg h1]
  by_cases h2 : fits x m
  case neg => rw [if_pos h2, if_pos h2]
  have h2' : ¬ ¬ fits x m := fun h => h h2
  rw [if_neg h2', if_neg h2']
  by_cases h3 : j.area < pre x m
  · rw [if_pos h3, if_pos h3]
  rw [if_neg h3, if_neg h3, poured_sf]
  by_cases h4 : (poured s (j.base (1 - j.h.area)) (flat j.h.boot (j.n + 1) 1 x m) (pre x m)).1 ≠ 0
  · rw [if_pos h4, if_pos h4]
  rw [if_neg h4, if_neg h4, saves_sf]
  by_cases h5 : (saves (poured s (j.base (1 - j.h.area)) (flat j.h.boot (j.n + 1) 1 x m) (pre x m)).2 (j.next m)).1 ≠ 0
  · rw [if_pos h5, if_pos h5]
  · rw [if_neg h5, if_neg h5]
/-! Append with an idle fuse, and what is refused. -/
theorem app_idle {area : Nat} {s : Ds} {c : Hd} {R : List Fr} {b q l : Int} (lv : Live area s c R) (k : Bnd b q l c R) (hb : b < 255) (hq : q < 281474976700000) (hl : l < 281474976700000) {nS nR : Nat} {xS xR : Nat → ByteArray} (d0 : Data c R nS xS nR xR) (d : ByteArray) :
    (∃ E, (E = 5 ∨ E = 9) ∧ appends (jw area c R) s d = (E, jw area c R, s)) ∨ (∃ s' R', appends (jw area c R) s d = (0, jw area c R', s') ∧ Live area s' c R' ∧ Bnd b q (l + 1) c R' ∧ Data c R' nS xS (nR + 1) (snoc nR xR d)) := by
  by_cases hbig : 4096 < d.size
  · refine .inl ⟨5, .inl rfl, ?_⟩
    unfold appends
    rw [if_neg (by show ¬ (false = true); decide), if_pos hbig]
  by_cases hroom : area < total R + parts d.size
  · refine .inl ⟨9, .inr rfl, ?_⟩
    unfold appends
    rw [if_neg (by show ¬ (false = true); decide), if_neg hbig, if_pos (.inr hroom)]
  obtain ⟨s1, l1, hw, _⟩ := lv.append (k.small hb hq hl (m := 1) (by decide)) (d := d) (by omega) (by omega)
  have elsn : lsnOf c (R ++ [recd c.boot (lsnOf c R + 1) 2 d]) = lsnOf c R + 1 := by unfold lsnOf; rw [List.length_append, List.length_singleton]; omega
  exact .inr ⟨s1, _, hw, l1, ⟨k.boot, k.seq, by rw [elsn]; have := k.lsn; omega⟩, d0.snoc (recd c.boot (lsnOf c R + 1) 2 d)⟩
/-- A full disk: Append. -/
theorem app_full (area : Nat) (c : Hd) (R : List Fr) (s : Ds) (hf : s.full = true) (d : ByteArray) : appends (jw area c R) s d = (if 4096 < d.size then 5 else 9, jw area c R, s) := by
  unfold appends
  rw [if_neg (by show ¬ (false = true); decide)]
  by_cases h : 4096 < d.size
  · rw [if_pos h, if_pos h]
  · rw [if_neg h, if_neg h, if_pos (.inl hf)]
theorem app_room (area : Nat) (c : Hd) (R : List Fr) (s : Ds) (d : ByteArray) (h : 4096 < d.size ∨ area < total R + parts d.size) : ∃ E, (E = 5 ∨ E = 9) ∧ appends (jw area c R) s d = (E, jw area c R, s) := by
  by_cases hbig : 4096 < d.size
  · refine ⟨5, .inl rfl, ?_⟩
    unfold appends
    rw [if_neg (by show ¬ (false = true); decide), if_pos hbig]
  · refine ⟨9, .inr rfl, ?_⟩
    unfold appends
    rw [if_neg (by show ¬ (false = true); decide), if_neg hbig, if_pos (.inr (h.resolve_left hbig))]
/-- What the snapshot needs, as it is counted. -/
def need (x : Nat → ByteArray) : Nat → Nat
  | 0 => 0
  | m + 1 => if 4096 < (x m).size then 1048576 else need x m + parts (x m).size
theorem need_fits {x : Nat → ByteArray} : ∀ {m : Nat}, fits x m → need x m = pre x m
  | 0, _ => rfl
  | m + 1, h => by
    have ih := need_fits (x := x) (m := m) fun i hi => h i (by omega)
    have := h m (by omega)
    show (if _ then _ else _) = pre x m + _
    rw [if_neg (by omega), ih]
theorem need_not {x : Nat → ByteArray} : ∀ {m : Nat}, ¬ fits x m → 1048576 ≤ need x m
  | 0, h => absurd (fun i hi => absurd hi (by omega)) h
  | m + 1, h => by
    show _ ≤ (if _ then _ else _)
    by_cases e : 4096 < (x m).size
    · rw [if_pos e]; exact Nat.le_refl _
    · rw [if_neg e]
      have := need_not (x := x) (m := m) fun hf => h fun i hi => by
        by_cases e2 : i = m
        · rw [e2]; omega
        · exact hf i (by omega)
      omega
theorem need_le {x : Nat → ByteArray} : ∀ m, need x m ≤ 1048576 + 94 * m
  | 0 => by show 0 ≤ _; omega
  | m + 1 => by
    have ih := need_le (x := x) m
    show (if _ then _ else _) ≤ _
    by_cases e : 4096 < (x m).size
    · rw [if_pos e]; omega
    · rw [if_neg e]
      have : parts (x m).size ≤ 94 := parts_le (by omega)
      omega
/-- Compact where the snapshot has no room. -/
theorem com_room {area : Nat} (c : Hd) (R : List Fr) (s : Ds) {x : Nat → ByteArray} {m : Nat} (h : area < need x m) : ∃ E, (E = 5 ∨ E = 9) ∧ compacts (jw area c R) s x m = (E, jw area c R, s) := by
  by_cases hf : fits x m
  · rw [need_fits hf] at h
    refine ⟨9, .inr rfl, ?_⟩
    unfold compacts
    rw [if_neg (by show ¬ (false = true); decide), if_neg (fun h => h hf), if_pos (show (jw area c R).area < pre x m from h)]
  · refine ⟨5, .inl rfl, ?_⟩
    unfold compacts
    rw [if_neg (by show ¬ (false = true); decide), if_pos hf]
/-- Compact on a full disk. -/
theorem com_full {area : Nat} (ha : area ≤ 1000) {s : Ds} {c : Hd} {R : List Fr} {b q l : Int} (lv : Live area s c R) (k : Bnd b q l c R) (hb : b < 255) (hq : q < 281474976700000) (hl : l < 281474976700000) (x : Nat → ByteArray) (m : Nat) (hm : m ≤ 40) :
    ((compacts (jw area c R) (sf s true) x m).1 == 0) = decide (need x m ≤ area) := by
  rw [compacts_sf]
  by_cases h : area < need x m
  · obtain ⟨E, hE, e⟩ := com_room c R s h
    rw [e, decide_eq_false (by omega)]
    rcases hE with rfl | rfl <;> rfl
  · have hf : fits x m := Decidable.byContradiction fun hf => by have := need_not hf; omega
    rw [need_fits hf] at h ⊢
    obtain ⟨s2, _, e, _⟩ := lv.compact (k.small hb hq hl (m := m) (by omega)) (by omega) hf (by omega)
    rw [e, decide_eq_true (by omega)]
    rfl
end Go.Proofs.YtckbhjjflpobbaaGreat.Jk

namespace Go.Proofs.YtckbhjjflpobbaaGreat.Jk
open Go Go.Proofs.YtckbhjjflpobbaaGreat.Pk Go.Proofs.YtckbhjjflpobbaaGreat.Fk Go.Proofs.YtckbhjjflpobbaaGreat.Dz Go.Proofs.YtckbhjjflpobbaaGreat.Rc Go.Proofs.YtckbhjjflpobbaaGreat.Fz
open Go.Proofs.YtckbhjjflpobbaaGreat.Hk (Hd Two Non Put saves saved saves_idle saved_put put_disk enc_size slot_nat look_dur)

theorem mix_no (a b : ByteArray) : mix 0 a b = b := by
  unfold mix
  simp
theorem Live.append_one {area : Nat} {s : Ds} {c : Hd} {R : List Fr} (l : Live area s c R) (k : Small c R 1) {d : ByteArray} (hd : d.size ≤ 4096) (hroom : total R + parts d.size ≤ area) (hp1 : parts d.size = 1) :
    ∃ s2, appends (jw area c R) (armed s 1) d = (10, (jw area c R).told 10, s2) ∧ s2.fu = .blown ∧ s2.pend.length ≤ 1 ∧ s2.n = s.n ∧ s2.ok ∧ (∀ f : Nat → Nat, (∀ i, f i ≤ 80) → f 0 = 0 → Lain area (crashed s2 f) c R) ∧ (∀ f : Nat → Nat, (∀ i, f i ≤ 80) → f 0 = 80 → Lain area (crashed s2 f) c (R ++ [recd c.boot (lsnOf c R + 1) 2 d])) := by
  have hh := l.jo.jv.half
  have hn : num c.boot (lsnOf c R + 1) := by
    have := k.num l.jo.jv (i := 0) (by decide)
    rwa [show lsnOf c R + 1 + ((0 : Nat) : Int) = lsnOf c R + 1 by omega] at this
  have hbl := beg_le (area := area) hh
  obtain ⟨t, ht⟩ : ∃ t, t = beg area c.area + total R := ⟨_, rfl⟩
  have hbase : (jw area c R).base (jw area c R).h.area + ((jw area c R).used : Int) = (t : Int) := by
    show (2 : Int) + (area : Int) * c.area + (total R : Int) = _
    rw [base_beg hh, ht]; push_cast; rfl
  have htn : t + parts d.size ≤ s.n := by rw [l.calm.n]; omega
  have hg : ∀ i, i < parts d.size → (Rc.sec c.boot (lsnOf c R + 1) 2 d i).size = 80 := fun i hi => sec_size hn hd hi
  have hW : ∀ f ∈ frames c.boot (lsnOf c R + 1) 2 d, f.good ∧ f.boot = c.boot ∧ lsnOf c R < f.lsn := fun f hf => by
    obtain ⟨a, e1, e2, _⟩ := frames_mem hn hd hf
    exact ⟨a, e1, by omega⟩
  have hfl := frames_len c.boot (lsnOf c R + 1) 2 d
  have hsecs := rec_secs hn hd
  have h256 : c.boot < 256 := by have := k.boot; omega
  have elsn : lsnOf c (R ++ [recd c.boot (lsnOf c R + 1) 2 d]) = lsnOf c R + 1 := by unfold lsnOf; rw [List.length_append, List.length_singleton]; omega
  have etot : total (R ++ [recd c.boot (lsnOf c R + 1) 2 d]) = total R + parts d.size := by rw [total_app]; show _ + (parts d.size + 0) = _; omega
  have un : ∀ s' : Ds, s'.full = false → appends (jw area c R) s' d = if (poured s' (t : Int) (Rc.sec c.boot (lsnOf c R + 1) 2 d) (parts d.size)).1 ≠ 0 then ((poured s' (t : Int) (Rc.sec c.boot (lsnOf c R + 1) 2 d) (parts d.size)).1, (jw area c R).told (poured s' (t : Int) (Rc.sec c.boot (lsnOf c R + 1) 2 d) (parts d.size)).1, (poured s' (t : Int) (Rc.sec c.boot (lsnOf c R + 1) 2 d) (parts d.size)).2) else (0, jw area c (R ++ [recd c.boot (lsnOf c R + 1) 2 d]), (poured s' (t : Int) (Rc.sec c.boot (lsnOf c R + 1) 2 d) (parts d.size)).2) := fun s' hf => by
    unfold appends
    rw [if_neg (by show ¬ (false = true); decide), if_neg (by omega), if_neg (by rw [hf]; rintro (h | h); cases h; have h : area < total R + parts d.size := h; omega), hbase]
    have ej : ({ (jw area c R) with n := (jw area c R).n + 1, used := (jw area c R).used + parts d.size, dead := false } : Jw) = jw area c (R ++ [recd c.boot (lsnOf c R + 1) 2 d]) := by
      unfold jw; rw [elsn, etot]
    rw [ej]
    rfl
  have hover : ∀ K, K ≤ parts d.size → ∀ f : Nat → Nat, (∀ i, f i ≤ 80) → Over area s.dur ((laid s t (Rc.sec c.boot (lsnOf c R + 1) 2 d) K).settled f).dur (beg area c.area + total R) (frames c.boot (lsnOf c R + 1) 2 d) c.boot.toNat := fun K hK f hf => by
    rw [← ht]
    exact l.jo.over l.calm.pend h256 hW (by omega) (by omega) hsecs hf (by omega)
  have hok : ∀ K, K ≤ parts d.size → (laid s t (Rc.sec c.boot (lsnOf c R + 1) 2 d) K).ok := fun K hK => laid_ok l.calm.ok (by omega) fun i hi => hg i (by omega)
  refine ⟨blown (laid s t (Rc.sec c.boot (lsnOf c R + 1) 2 d) 1), ?_, rfl, ?_, by show (laid s _ _ _).n = _; rw [laid_n], blown_ok (hok 1 (by omega)), fun f hf h0 => ?_, fun f hf h0 => ?_⟩
  · rw [un (armed s 1) l.calm.full, poured_cut htn hg (by omega), if_pos (by exact (by decide : (10 : Int) ≠ 0))]
  · show (laid s _ _ 1).pend.length ≤ 1; rw [laid_len, l.calm.pend]; exact Nat.le_of_eq (Nat.zero_add _)
  · refine ⟨l.calm.crashed (t := blown (laid s t (Rc.sec c.boot (lsnOf c R + 1) 2 d) 1)) (by show (laid s _ _ _).n = _; rw [laid_n]) (blown_ok (hok 1 (by omega))) (by show (laid s _ _ _).full = _; rw [laid_full]) hf, ?_⟩
    rw [crashed_blown]
    have e : ((laid s t (Rc.sec c.boot (lsnOf c R + 1) 2 d) 1).settled f).dur = s.dur := by
      funext i
      rw [laid_settled l.calm.pend]
      by_cases hi : t ≤ i ∧ i < t + 1
      · obtain rfl : i = t := by omega
        rw [if_pos hi, Nat.sub_self, h0]
        exact mix_no _ _
      · rw [if_neg hi]
    rw [e]
    exact l.jo.jv
  · have cm : Calm area (crashed (blown (laid s t (Rc.sec c.boot (lsnOf c R + 1) 2 d) 1)) f) := l.calm.crashed (by show (laid s _ _ _).n = _; rw [laid_n]) (blown_ok (hok 1 (by omega))) (by show (laid s _ _ _).full = _; rw [laid_full]) hf
    have hall := l.jo.whole l.calm.pend (t := t) hW (by omega) (by omega) hsecs (f := f) (fun k hk => by
      obtain rfl : k = 0 := by omega
      exact h0)
    rcases l.jo.append hd hn hroom (hover 1 (by omega) f hf) with ⟨hx, _⟩ | ⟨_, h⟩
    · refine absurd (fun i hi => ?_) hx
      rw [hsecs i (by omega), ← ht]
      have := hall i (by omega)
      have e : laid s t (Rc.sec c.boot (lsnOf c R + 1) 2 d) (frames c.boot (lsnOf c R + 1) 2 d).length = laid s t (Rc.sec c.boot (lsnOf c R + 1) 2 d) 1 := by rw [hfl, hp1]
      rw [e] at this
      exact this
    · exact ⟨cm, h⟩
end Go.Proofs.YtckbhjjflpobbaaGreat.Jk

namespace Go.Proofs.YtckbhjjflpobbaaGreat.Jk
open Go Go.RowKit Go.ChangeShapes Go.WideShapes Go.ChangeAt Go.Proofs.YtckbhjjflpobbaaGreat.Mem Go.Proofs.YtckbhjjflpobbaaGreat.Pk Go.Proofs.YtckbhjjflpobbaaGreat.Fk Go.Proofs.YtckbhjjflpobbaaGreat.Dz Go.Proofs.YtckbhjjflpobbaaGreat.Fz Go.Proofs.YtckbhjjflpobbaaGreat.Rc
open Go.Proofs.YtckbhjjflpobbaaGreat.Hk (Hd saves loads o_save o_load hblock)

set_option maxRecDepth 100000 in
theorem open_nil (w : World) : Calls Tryz.prog 24 #[.pointer none, .int .i64 4] w fun e w' => e = .returned (.tuple #[.pointer none, .slice none 0 0, .slice none 0 0, .int .i64 1]) ∧ Kept w w' := by
  have k0 := Kept.refl w
  go_enter Tryz.func24, Tryz.ntmps24
  go_wp2
  refine bodyPost_ret (v := .tuple #[.pointer none, .slice none 0 0, .slice none 0 0, .int .i64 1]) (by simp [results, Tryz.results24, go_sem]) rfl ?_
  exact ⟨rfl, k0⟩
set_option maxRecDepth 100000 in
theorem open_zero {w0 w : World} {L : List As} {F D : Nat} {s : Ds} (h : Mem.Own w0 (dk F D s :: L) w) : Calls Tryz.prog 24 #[.pointer (some ⟨D, 0, none⟩), .int .i64 0] w fun e w' => e = .returned (.tuple #[.pointer none, .slice none 0 0, .slice none 0 0, .int .i64 2]) ∧ Mem.Own w0 (dk F D s :: L) w' := by
  have H := Lib.hid h
  clear h
  go_enter Tryz.func24, Tryz.ntmps24
  go_wp2
  refine bodyPost_ret (v := .tuple #[.pointer none, .slice none 0 0, .slice none 0 0, .int .i64 2]) (by simp [results, Tryz.results24, go_sem]) rfl ?_
  exact ⟨rfl, H.out⟩
set_option maxRecDepth 100000 in
theorem open_five {w0 w : World} {L : List As} {F D : Nat} {s : Ds} (hn : s.n = 10) (h : Mem.Own w0 (dk F D s :: L) w) : Calls Tryz.prog 24 #[.pointer (some ⟨D, 0, none⟩), .int .i64 5] w fun e w' => e = .returned (.tuple #[.pointer none, .slice none 0 0, .slice none 0 0, .int .i64 2]) ∧ Mem.Own w0 (dk F D s :: L) w' := by
  have hs := o_sectors h 0 rfl
  rw [hn] at hs
  have HS := Lib.hid hs
  clear h hs hn
  go_enter Tryz.func24, Tryz.ntmps24
  go_wp2_with (go_at_call 45; (with_reducible refine HS.out.mono ?_); rintro e u1 ⟨rfl, k1'⟩; have k1 := Lib.hid k1'; clear k1')
  refine bodyPost_ret (v := .tuple #[.pointer none, .slice none 0 0, .slice none 0 0, .int .i64 2]) (by simp [results, Tryz.results24, go_sem]) rfl ?_
  exact ⟨rfl, k1.out⟩
set_option maxRecDepth 100000 in
theorem append_nil (w : World) : Calls Tryz.prog 8 #[.pointer none, .string ⟨#[]⟩] w fun e w' => e = .returned (.int .i64 1) ∧ Kept w w' := by
  have k0 := Kept.refl w
  go_enter Tryz.func8, Tryz.ntmps8
  go_wp2
  go_ret
  exact ⟨rfl, k0⟩
set_option maxRecDepth 100000 in
theorem compact_nil (w : World) : Calls Tryz.prog 11 #[.pointer none, .slice none 0 0] w fun e w' => e = .returned (.int .i64 1) ∧ Kept w w' := by
  have k0 := Kept.refl w
  go_enter Tryz.func11, Tryz.ntmps11
  go_wp2
  go_ret
  exact ⟨rfl, k0⟩
set_option maxRecDepth 100000 in
theorem boot_nil (w : World) : Calls Tryz.prog 43 #[.pointer none] w fun e w' => e = .returned (.int .i64 0) ∧ Kept w w' := by
  have k0 := Kept.refl w
  go_enter Tryz.func43, Tryz.ntmps43
  go_wp2
  go_ret
  exact ⟨rfl, k0⟩
set_option maxRecDepth 100000 in
theorem lsn_nil (w : World) : Calls Tryz.prog 44 #[.pointer none] w fun e w' => e = .returned (.int .i64 0) ∧ Kept w w' := by
  have k0 := Kept.refl w
  go_enter Tryz.func44, Tryz.ntmps44
  go_wp2
  go_ret
  exact ⟨rfl, k0⟩
set_option maxRecDepth 100000 in
theorem room_nil (w : World) : Calls Tryz.prog 29 #[.pointer none] w fun e w' => e = .returned (.int .i64 0) ∧ Kept w w' := by
  have k0 := Kept.refl w
  go_enter Tryz.func29, Tryz.ntmps29
  go_wp2
  go_ret
  exact ⟨rfl, k0⟩
end Go.Proofs.YtckbhjjflpobbaaGreat.Jk
