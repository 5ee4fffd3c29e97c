/-
  Sectors that are written one after another to a disk, and what a crash leaves of a record's (plain mathematics).
-/
import Derived.Test.YtckbhjjflpobbaaGreatGb
import Derived.Test.YtckbhjjflpobbaaGreatDb
namespace Go.Proofs.YtckbhjjflpobbaaGreat.Rc
open Go Go.Proofs.YtckbhjjflpobbaaGreat.Pk Go.Proofs.YtckbhjjflpobbaaGreat.Fk Go.Proofs.YtckbhjjflpobbaaGreat.Dz Go.Proofs.YtckbhjjflpobbaaGreat.Fz

/-- The first k of the sectors g are written from t on. -/
def laid (s : Ds) (t : Nat) (g : Nat → ByteArray) : Nat → Ds
  | 0 => s
  | k + 1 => (laid s t g k).wrote (t + k) (g k)
theorem laid_n (s : Ds) (t : Nat) (g : Nat → ByteArray) : ∀ k, (laid s t g k).n = s.n
  | 0 => rfl
  | k + 1 => laid_n s t g k
theorem laid_fu (s : Ds) (t : Nat) (g : Nat → ByteArray) : ∀ k, (laid s t g k).fu = s.fu
  | 0 => rfl
  | k + 1 => laid_fu s t g k
theorem laid_dur (s : Ds) (t : Nat) (g : Nat → ByteArray) : ∀ k, (laid s t g k).dur = s.dur
  | 0 => rfl
  | k + 1 => laid_dur s t g k
theorem laid_pend (s : Ds) (t : Nat) (g : Nat → ByteArray) : ∀ k, (laid s t g k).pend = s.pend ++ (List.range k).map fun j => (t + j, g j)
  | 0 => by simp [laid]
  | k + 1 => by simp [laid, Ds.wrote, laid_pend s t g k, List.range_succ]
theorem laid_len (s : Ds) (t : Nat) (g : Nat → ByteArray) (k : Nat) : (laid s t g k).pend.length = s.pend.length + k := by rw [laid_pend]; simp
theorem laid_ok {s : Ds} (h : s.ok) {t : Nat} {g : Nat → ByteArray} : ∀ {k : Nat}, t + k ≤ s.n → (∀ i, i < k → (g i).size = 80) → (laid s t g k).ok
  | 0, _, _ => h
  | k + 1, hn, hg => (laid_ok h (by omega) fun i hi => hg i (by omega)).wrote (by rw [laid_n]; omega) (hg k (by omega))
theorem look_wrote (s : Ds) (i : Nat) (d : ByteArray) (j : Nat) : (s.wrote i d).look j = if j = i then d else s.look j := by
  unfold Ds.look Ds.wrote
  simp only [last_snoc, Mem.upd]
  split <;> rfl
theorem laid_look (s : Ds) (t : Nat) (g : Nat → ByteArray) : ∀ k i, (laid s t g k).look i = if t ≤ i ∧ i < t + k then g (i - t) else s.look i
  | 0, i => by rw [if_neg (by omega)]; rfl
  | k + 1, i => by
    show ((laid s t g k).wrote (t + k) (g k)).look i = _
    rw [look_wrote, laid_look s t g k i]
    by_cases h : i = t + k
    · rw [if_pos h, if_pos (by omega)]; congr 1; omega
    · rw [if_neg h]
      by_cases h2 : t ≤ i ∧ i < t + k
      · rw [if_pos h2, if_pos (by omega)]
      · rw [if_neg h2, if_neg (by omega)]
theorem put_ne {d : Nat → ByteArray} {i j : Nat} {v : ByteArray} (h : j ≠ i) : put d i v j = d j := by unfold put; rw [if_neg h]
theorem put_eq {d : Nat → ByteArray} {i : Nat} {v : ByteArray} : put d i v i = v := by unfold put; rw [if_pos rfl]
/-- What a crash leaves of them, if nothing else was pending. -/
theorem laid_settle (f : Nat → Nat) (t : Nat) (g : Nat → ByteArray) (d : Nat → ByteArray) (m : Nat) : ∀ k, k ≤ m → ∀ i,
    Dz.settle f ((List.range m).map fun j => (t + j, g j)) d k i = if t ≤ i ∧ i < t + k then mix (f (i - t)) (g (i - t)) (d i) else d i
  | 0, _, i => by rw [if_neg (by omega)]; rfl
  | k + 1, hk, i => by
    have hl : k < ((List.range m).map fun j => (t + j, g j)).length := by simp; omega
    have ih := laid_settle f t g d m k (by omega)
    rw [settle_succ hl]
    have e : ((List.range m).map fun j => (t + j, g j))[k] = (t + k, g k) := by simp
    rw [e]
    by_cases h : i = t + k
    · subst h
      rw [put_eq, if_pos (by omega)]
      show mix (f k) (g k) (Dz.settle _ _ _ _ (t + k)) = _
      rw [ih (t + k), if_neg (by omega), show t + k - t = k by omega]
    · rw [put_ne h, ih i]
      by_cases h2 : t ≤ i ∧ i < t + k
      · rw [if_pos h2, if_pos (by omega)]
      · rw [if_neg h2, if_neg (by omega)]
theorem laid_settled {s : Ds} (hp : s.pend = []) (f : Nat → Nat) (t : Nat) (g : Nat → ByteArray) (k i : Nat) : ((laid s t g k).settled f).dur i = if t ≤ i ∧ i < t + k then mix (f (i - t)) (g (i - t)) (s.dur i) else s.dur i := by
  show Dz.settle f (laid s t g k).pend (laid s t g k).dur (laid s t g k).pend.length i = _
  rw [laid_pend, laid_dur, hp, List.nil_append]
  have e : ((List.range k).map fun j => (t + j, g j)).length = k := by simp
  rw [e]
  exact laid_settle f t g s.dur k k (Nat.le_refl _) i

theorem Z_str : Z = str (List.replicate 80 0) := rfl
theorem mix_str {n : Nat} {x y : List UInt8} : mix n (str x) (str y) = str (x.take n ++ y.drop n) := by
  unfold mix
  rw [cut_first, cut_rest]
  apply str_inj
  rw [ByteArray.data_append, Array.toList_append, list_str, list_str, list_str]
theorem mix_80 {x y : List UInt8} (hx : x.length = 80) (hy : y.length = 80) : mix 80 (str x) (str y) = str x := by
  rw [mix_str, List.take_of_length_le (by omega), List.drop_eq_nil_of_le (by omega), List.append_nil]
/-- What lies there holds nothing of the record b, l: zeros, or a sector of an older one. -/
inductive Old (b l : Int) : ByteArray → Prop
  | zero : Old b l Z
  | sec {ob ol : Int} {k : Nat} {d : ByteArray} {i : Nat} (hn : num ob ol) (hk : k < 256) (hd : d.size ≤ 4096) (hi : i < parts d.size) (h : ob < b ∨ ob = b ∧ ol ≠ l) : Old b l (Rc.sec ob ol k d i)
theorem Old.older {b l : Int} {s : ByteArray} (h : Old b l s) : older b l s := by
  cases h with
  | zero => exact older_zero
  | sec hn hk hd hi h => exact older_sec hn hk hd hi (h.elim .inl fun h => .inr h.2)
theorem Old.list {b l : Int} {s : ByteArray} (h : Old b l s) : ∃ y, s = str y ∧ y.length = 80 := by
  cases h with
  | zero => exact ⟨_, Z_str, by simp⟩
  | @sec _ _ k0 _ _ hn hk hd hi h =>
    have g := fr_good (k := k0) hn hd hi
    exact ⟨_, Fr.enc_good g, sec_len g.short⟩
/-- A torn sector of the record is wholly there, or holds nothing of it. -/
theorem torn_old {b l : Int} {k : Nat} {d : ByteArray} {i n : Nat} {s : ByteArray} (hn : num b l) (hd : d.size ≤ 4096) (hi : i < parts d.size) (ho : Old b l s) (h80 : n ≤ 80) :
    mix n (sec b l k d i) s = sec b l k d i ∨ older b l (mix n (sec b l k d i) s) := by
  have g := fr_good (k := k) hn hd hi
  have es : sec b l k d i = str (fr b l k d i).sec := Fr.enc_good g
  have hs := ho.older
  cases ho with
  | zero =>
    rw [es, Z_str, mix_str]
    by_cases h : (fr b l k d i).sec.take n ++ (List.replicate 80 0).drop n = (fr b l k d i).sec
    · exact .inl (by rw [h])
    · exact .inr (older_none (torn_zero g h80 h))
  | @sec ob ol ok od oi on okk odd oii h =>
    have g' := fr_good (k := ok) on odd oii
    have es' : Rc.sec ob ol ok od oi = str (fr ob ol ok od oi).sec := Fr.enc_good g'
    rw [es'] at hs
    rw [es, es', mix_str]
    by_cases h1 : (fr b l k d i).sec.take n ++ (fr ob ol ok od oi).sec.drop n = (fr b l k d i).sec
    · exact .inl (by rw [h1])
    · by_cases h2 : (fr b l k d i).sec.take n ++ (fr ob ol ok od oi).sec.drop n = (fr ob ol ok od oi).sec
      · exact .inr (by rw [h2]; exact hs)
      · refine .inr (older_none (torn_none g g' ?_ h80 h1 h2))
        rintro ⟨q1, q2, _⟩
        have q1 : b = ob := q1
        have q2 : l = ol := q2
        omega
/-- P6.5: after a crash the record is there as it was written, or not at all. -/
theorem crash_rec {s : Ds} (hp : s.pend = []) {f : Nat → Nat} (hf : ∀ k, f k ≤ 80) {t u : Nat} {b l : Int} {k : Nat} {d : ByteArray} (hn : num b l) (hk : k < 256) (hd : d.size ≤ 4096) (ho : ∀ i, i < u → Old b l (s.dur i)) {r : Fr}
    (h : rdOk ((laid s t (sec b l k d) (parts d.size)).settled f).dur t u l b r) : r = ⟨b, l, 0, parts d.size, k, d⟩ := by
  refine torn_rec hn hk hd (fun i h1 h2 => ?_) h
  rw [laid_settled hp]
  by_cases hi : t ≤ i ∧ i < t + parts d.size
  · rw [if_pos hi]
    rcases torn_old (k := k) hn hd (i := i - t) (by omega) (ho i h2) (hf (i - t)) with e | e
    · exact .inl ⟨h1, hi.2, e⟩
    · exact .inr e
  · rw [if_neg hi]; exact .inr (ho i h2).older
/-- If the crash keeps all of it, it is there. -/
theorem kept_rec {s : Ds} (hp : s.pend = []) {f : Nat → Nat} {t u : Nat} {b l : Int} {k : Nat} {d : ByteArray} (hf : ∀ i, i < parts d.size → f i = 80) (hn : num b l) (hk : k < 256) (hd : d.size ≤ 4096) (ho : ∀ i, i < u → Old b l (s.dur i)) (hu : t + parts d.size ≤ u) :
    rdOk ((laid s t (sec b l k d) (parts d.size)).settled f).dur t u l b ⟨b, l, 0, parts d.size, k, d⟩ := by
  refine rd_written hn hk hd (fun i hi => ?_) (Int.le_refl _) hu
  rw [laid_settled hp, if_pos (by omega), show t + i - t = i by omega, hf i hi]
  obtain ⟨y, ey, ly⟩ := (ho (t + i) (by omega)).list
  have g := fr_good (k := k) hn hd hi
  have es : sec b l k d i = str (fr b l k d i).sec := Fr.enc_good g
  rw [es, ey, mix_80 (sec_len g.short) ly]
/-- Zeros everywhere, then an older record that is written and synced. -/
theorem old_fresh {b l : Int} {n : Nat} {f : St} (i : Nat) : Old b l ((fresh n f).dur i) := .zero
theorem old_laid {b l ob ol : Int} {s : Ds} (hp : s.pend = []) {t : Nat} {k : Nat} {d : ByteArray} (hn : num ob ol) (hk : k < 256) (hd : d.size ≤ 4096) (h : ob < b ∨ ob = b ∧ ol ≠ l) (ho : ∀ i, Old b l (s.dur i)) (i : Nat) :
    Old b l (((laid s t (sec ob ol k d) (parts d.size)).settled fun _ => 80).dur i) := by
  rw [laid_settled hp]
  by_cases hi : t ≤ i ∧ i < t + parts d.size
  · rw [if_pos hi]
    obtain ⟨y, ey, ly⟩ := (ho i).list
    have g := fr_good (k := k) hn hd (i := i - t) (by omega)
    have es : sec ob ol k d (i - t) = str (fr ob ol k d (i - t)).sec := Fr.enc_good g
    have e : mix 80 (sec ob ol k d (i - t)) (s.dur i) = sec ob ol k d (i - t) := by rw [es, ey, mix_80 (sec_len g.short) ly]
    rw [e]; exact .sec hn hk hd (by omega) h
  · rw [if_neg hi]; exact ho i
end Go.Proofs.YtckbhjjflpobbaaGreat.Rc
