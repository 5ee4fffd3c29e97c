/-
  Plain mathematics (as in Jra) (a full disk, refused calls, what the snapshot needs), and the run with its row of records.
-/
import Derived.Test.YtjbcpfndpfeepaaGreatJt
namespace Go.Proofs.YtjbcpfndpfeepaaGreat.Jk
open Go Go.RowKit Go.ChangeShapes Go.WideShapes Go.ChangeAt Go.Proofs.YtjbcpfndpfeepaaGreat.Mem Go.Proofs.YtjbcpfndpfeepaaGreat.Pk Go.Proofs.YtjbcpfndpfeepaaGreat.Fk Go.Proofs.YtjbcpfndpfeepaaGreat.Dz Go.Proofs.YtjbcpfndpfeepaaGreat.Fz Go.Proofs.YtjbcpfndpfeepaaGreat.Rc
open Go.Proofs.YtjbcpfndpfeepaaGreat.Hk (Hd saves loads o_save o_load hblock)

/-! The mark of fullness is only read by Append. -/
def sf (s : Ds) (f : Bool) : Ds := { s with full := f }
theorem writes_sf (s : Ds) (f : Bool) (i : Int) (d : ByteArray) : (sf s f).writes i d = ((s.writes i d).1, sf (s.writes i d).2 f) := by
  unfold Ds.writes
  show (if s.out i then _ else _) = _
  by_cases h1 : s.out i = true
  · rw [if_pos h1, if_pos h1]
  rw [if_neg h1, if_neg h1]
  by_cases h2 : d.size ≠ 80
  · rw [if_pos h2, if_pos h2]
  rw [if_neg h2, if_neg h2]
  show (if s.fu.says ≠ 0 then _ else _) = _
  by_cases h3 : s.fu.says ≠ 0
  · rw [if_pos h3, if_pos h3]; rfl
  · rw [if_neg h3, if_neg h3]; rfl
theorem syncs_sf (s : Ds) (f : Bool) : (sf s f).syncs = (s.syncs.1, sf s.syncs.2 f) := by
  unfold Ds.syncs
  show (if s.fu.says ≠ 0 then _ else _) = _
  by_cases h3 : s.fu.says ≠ 0
  · rw [if_pos h3, if_pos h3]; rfl
  · rw [if_neg h3, if_neg h3]; rfl
theorem pour_sf (s : Ds) (f : Bool) (t : Int) (g : Nat → ByteArray) : ∀ k, pour (sf s f) t g k = ((pour s t g k).1, sf (pour s t g k).2 f)
  | 0 => rfl
  | k + 1 => by
    have ih := pour_sf s f t g k
    show (if (pour (sf s f) t g k).1 ≠ 0 then _ else _) = _
    rw [ih]
    show _ = ((if (pour s t g k).1 ≠ 0 then _ else _ : Int × Ds).1, sf (if (pour s t g k).1 ≠ 0 then _ else _ : Int × Ds).2 f)
    by_cases h : (pour s t g k).1 ≠ 0
    · rw [if_pos h, if_pos h]
    · rw [if_neg h, if_neg h]; exact writes_sf _ _ _ _
theorem poured_sf (s : Ds) (f : Bool) (t : Int) (g : Nat → ByteArray) (m : Nat) : poured (sf s f) t g m = ((poured s t g m).1, sf (poured s t g m).2 f) := by
  unfold poured
  rw [pour_sf]
  by_cases h : (pour s t g m).1 ≠ 0
  · rw [if_pos h, if_pos h]
  · rw [if_neg h, if_neg h]; exact syncs_sf _ _
theorem saves_sf (s : Ds) (f : Bool) (c : Hd) : saves (sf s f) c = ((saves s c).1, sf (saves s c).2 f) := by
  unfold Hk.saves
  by_cases h1 : c.err ≠ 0
  · rw [if_pos h1, if_pos h1]
  rw [if_neg h1, if_neg h1]
  show (if s.n < 2 then _ else _) = _
  by_cases h2 : s.n < 2
  · rw [if_pos h2, if_pos h2]
  rw [if_neg h2, if_neg h2, writes_sf]
  by_cases h3 : (s.writes (c.seq % 2) c.enc).1 ≠ 0
  · rw [if_pos h3, if_pos h3]
  · rw [if_neg h3, if_neg h3]; exact syncs_sf _ _
theorem compacts_sf (j : Jw) (s : Ds) (f : Bool) (x : Nat → ByteArray) (m : Nat) : (compacts j (sf s f) x m).1 = (compacts j s x m).1 := by
  unfold compacts
  by_cases h1 : j.dead = true
  · rw [if_pos h1, if_pos h1]
  rw [if_neg h1, if_neg h1]
  by_cases h2 : fits x m
  case neg => rw [if_pos h2, if_pos h2]
  have h2' : ¬ ¬ fits x m := fun h => h h2
  rw [if_neg h2', if_neg h2']
  by_cases h3 : j.area < pre x m
  · rw [if_pos h3, if_pos h3]
  rw [if_neg h3, if_neg h3, poured_sf]
  by_cases h4 : (poured s (j.base (1 - j.h.area)) (flat j.h.boot (j.n + 1) 1 x m) (pre x m)).1 ≠ 0
  · rw [if_pos h4, if_pos h4]
  rw [if_neg h4, if_neg h4, saves_sf]
  by_cases h5 : (saves (poured s (j.base (1 - j.h.area)) (flat j.h.boot (j.n + 1) 1 x m) (pre x m)).2 (j.next m)).1 ≠ 0
  · rw [if_pos h5, if_pos h5]
  · rw [if_neg h5, if_neg h5]
/-! Append with an idle fuse, and what is refused. -/
theorem app_idle {area : Nat} {s : Ds} {c : Hd} {R : List Fr} {b q l : Int} (lv : Live area s c R) (k : Bnd b q l c R) (hb : b < 255) (hq : q < 281474976700000) (hl : l < 281474976700000) {nS nR : Nat} {xS xR : Nat → ByteArray} (d0 : Data c R nS xS nR xR) (d : ByteArray) :
    (∃ E, (E = 5 ∨ E = 9) ∧ appends (jw area c R) s d = (E, jw area c R, s)) ∨ (∃ s' R', appends (jw area c R) s d = (0, jw area c R', s') ∧ Live area s' c R' ∧ Bnd b q (l + 1) c R' ∧ Data c R' nS xS (nR + 1) (snoc nR xR d)) := by
  by_cases hbig : 4096 < d.size
  · refine .inl ⟨5, .inl rfl, ?_⟩
    unfold appends
    rw [if_neg (by show ¬ (false = true); decide), if_pos hbig]
  by_cases hroom : area < total R + parts d.size
  · refine .inl ⟨9, .inr rfl, ?_⟩
    unfold appends
    rw [if_neg (by show ¬ (false = true); decide), if_neg hbig, if_pos (.inr hroom)]
  obtain ⟨s1, l1, hw, _⟩ := lv.append (k.small hb hq hl (m := 1) (by decide)) (d := d) (by omega) (by omega)
  have elsn : lsnOf c (R ++ [recd c.boot (lsnOf c R + 1) 2 d]) = lsnOf c R + 1 := by unfold lsnOf; rw [List.length_append, List.length_singleton]; omega
  exact .inr ⟨s1, _, hw, l1, ⟨k.boot, k.seq, by rw [elsn]; have := k.lsn; omega⟩, d0.snoc (recd c.boot (lsnOf c R + 1) 2 d)⟩
/-- A full disk: Append. -/
theorem app_full (area : Nat) (c : Hd) (R : List Fr) (s : Ds) (hf : s.full = true) (d : ByteArray) : appends (jw area c R) s d = (if 4096 < d.size then 5 else 9, jw area c R, s) := by
  unfold appends
  rw [if_neg (by show ¬ (false = true); decide)]
  by_cases h : 4096 < d.size
  · rw [if_pos h, if_pos h]
  · rw [if_neg h, if_neg h, if_pos (.inl hf)]
theorem app_room (area : Nat) (c : Hd) (R : List Fr) (s : Ds) (d : ByteArray) (h : 4096 < d.size ∨ area < total R + parts d.size) : ∃ E, (E = 5 ∨ E = 9) ∧ appends (jw area c R) s d = (E, jw area c R, s) := by
  by_cases hbig : 4096 < d.size
  · refine ⟨5, .inl rfl, ?_⟩
    unfold appends
    rw [if_neg (by show ¬ (false = true); decide), if_pos hbig]
  · refine ⟨9, .inr rfl, ?_⟩
    unfold appends
    rw [if_neg (by show ¬ (false = true); decide), if_neg hbig, if_pos (.inr (h.resolve_left hbig))]
/-- What the snapshot needs, as it is counted. -/
def need (x : Nat → ByteArray) : Nat → Nat
  | 0 => 0
  | m + 1 => if 4096 < (x m).size then 1048576 else need x m + parts (x m).size
theorem need_fits {x : Nat → ByteArray} : ∀ {m : Nat}, fits x m → need x m = pre x m
  | 0, _ => rfl
  | m + 1, h => by
    have ih := need_fits (x := x) (m := m) fun i hi => h i (by omega)
    have := h m (by omega)
    show (if _ then _ else _) = pre x m + _
    rw [if_neg (by omega), ih]
theorem need_not {x : Nat → ByteArray} : ∀ {m : Nat}, ¬ fits x m → 1048576 ≤ need x m
  | 0, h => absurd (fun i hi => absurd hi (by omega)) h
  | m + 1, h => by
    show _ ≤ (if _ then _ else _)
    by_cases e : 4096 < (x m).size
    · rw [if_pos e]; exact Nat.le_refl _
    · rw [if_neg e]
      have := need_not (x := x) (m := m) fun hf => h fun i hi => by
        by_cases e2 : i = m
        · rw [e2]; omega
        · exact hf i (by omega)
      omega
theorem need_le {x : Nat → ByteArray} : ∀ m, need x m ≤ 1048576 + 94 * m
  | 0 => by show 0 ≤ _; omega
  | m + 1 => by
    have ih := need_le (x := x) m
    show (if _ then _ else _) ≤ _
    by_cases e : 4096 < (x m).size
    · rw [if_pos e]; omega
    · rw [if_neg e]
      have : parts (x m).size ≤ 94 := parts_le (by omega)
      omega
/-- Compact where the snapshot has no room. -/
theorem com_room {area : Nat} (c : Hd) (R : List Fr) (s : Ds) {x : Nat → ByteArray} {m : Nat} (h : area < need x m) : ∃ E, (E = 5 ∨ E = 9) ∧ compacts (jw area c R) s x m = (E, jw area c R, s) := by
  by_cases hf : fits x m
  · rw [need_fits hf] at h
    refine ⟨9, .inr rfl, ?_⟩
    unfold compacts
    rw [if_neg (by show ¬ (false = true); decide), if_neg (fun h => h hf), if_pos (show (jw area c R).area < pre x m from h)]
  · refine ⟨5, .inl rfl, ?_⟩
    unfold compacts
    rw [if_neg (by show ¬ (false = true); decide), if_pos hf]
/-- Compact on a full disk. -/
theorem com_full {area : Nat} (ha : area ≤ 1000) {s : Ds} {c : Hd} {R : List Fr} {b q l : Int} (lv : Live area s c R) (k : Bnd b q l c R) (hb : b < 255) (hq : q < 281474976700000) (hl : l < 281474976700000) (x : Nat → ByteArray) (m : Nat) (hm : m ≤ 40) :
    ((compacts (jw area c R) (sf s true) x m).1 == 0) = decide (need x m ≤ area) := by
  rw [compacts_sf]
  by_cases h : area < need x m
  · obtain ⟨E, hE, e⟩ := com_room c R s h
    rw [e, decide_eq_false (by omega)]
    rcases hE with rfl | rfl <;> rfl
  · have hf : fits x m := Decidable.byContradiction fun hf => by have := need_not hf; omega
    rw [need_fits hf] at h ⊢
    obtain ⟨s2, _, e, _⟩ := lv.compact (k.small hb hq hl (m := m) (by omega)) (by omega) hf (by omega)
    rw [e, decide_eq_true (by omega)]
    rfl
end Go.Proofs.YtjbcpfndpfeepaaGreat.Jk
