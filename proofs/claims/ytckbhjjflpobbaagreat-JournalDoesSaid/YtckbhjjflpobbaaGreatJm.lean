/-
  The journal's calls as plain functions of the disk (layer 8; nothing of the program).
-/
import Derived.Test.YtckbhjjflpobbaaGreatGd
import Derived.Test.YtckbhjjflpobbaaGreatKf
import Derived.Test.YtckbhjjflpobbaaGreatHp
namespace Go.Proofs.YtckbhjjflpobbaaGreat.Jk
open Go Go.Proofs.YtckbhjjflpobbaaGreat.Pk Go.Proofs.YtckbhjjflpobbaaGreat.Fk Go.Proofs.YtckbhjjflpobbaaGreat.Dz Go.Proofs.YtckbhjjflpobbaaGreat.Rc Go.Proofs.YtckbhjjflpobbaaGreat.Fz
open Go.Proofs.YtckbhjjflpobbaaGreat.Hk (Hd saves loads)

/-- Sectors g 0 .. g (k-1) are written from t on, until one cannot be. -/
def pour (s : Ds) (t : Int) (g : Nat → ByteArray) : Nat → Int × Ds
  | 0 => (0, s)
  | k + 1 => if (pour s t g k).1 ≠ 0 then pour s t g k else (pour s t g k).2.writes (t + (k : Int)) (g k)
theorem pour_succ {s : Ds} {t : Int} {g : Nat → ByteArray} {k : Nat} (h : (pour s t g k).1 = 0) : pour s t g (k + 1) = (pour s t g k).2.writes (t + (k : Int)) (g k) := by
  show (if _ then _ else _) = _
  rw [if_neg (by rw [h]; decide)]
theorem pour_stop {s : Ds} {t : Int} {g : Nat → ByteArray} {k m : Nat} (h : (pour s t g k).1 ≠ 0) (hm : k ≤ m) : pour s t g m = pour s t g k := by
  induction m with
  | zero =>
    have : k = 0 := by omega
    rw [this]
  | succ m ih =>
    by_cases e : k = m + 1
    · rw [e]
    · have := ih (by omega)
      show (if _ then _ else _) = _
      rw [this, if_pos h]
theorem pour_congr {s : Ds} {t : Int} {g f : Nat → ByteArray} : ∀ {k : Nat}, (∀ i, i < k → g i = f i) → pour s t g k = pour s t f k
  | 0, _ => rfl
  | k + 1, h => by
    have ih := pour_congr (s := s) (t := t) (k := k) fun i hi => h i (by omega)
    unfold pour
    rw [ih, h k (by omega)]
theorem pend_writes8 (s : Ds) (k : Int) (d : ByteArray) : (s.writes k d).2.pend.length ≤ s.pend.length + 1 := by
  unfold Ds.writes
  split
  · simp
  · split
    · simp
    · split <;> simp [Ds.wrote, Ds.burnt]
theorem pour_len (s : Ds) (t : Int) (g : Nat → ByteArray) : ∀ k, (pour s t g k).2.pend.length ≤ s.pend.length + k
  | 0 => Nat.le_refl _
  | k + 1 => by
    have ih := pour_len s t g k
    show (if _ then _ else _ : Int × Ds).2.pend.length ≤ _
    split
    · omega
    · have := pend_writes8 (pour s t g k).2 (t + (k : Int)) (g k)
      omega
theorem writes_n (s : Ds) (k : Int) (d : ByteArray) : (s.writes k d).2.n = s.n := by
  unfold Ds.writes
  split
  · rfl
  · split
    · rfl
    · split <;> rfl
theorem pour_n (s : Ds) (t : Int) (g : Nat → ByteArray) : ∀ k, (pour s t g k).2.n = s.n
  | 0 => rfl
  | k + 1 => by
    show (if _ then _ else _ : Int × Ds).2.n = _
    split
    · exact pour_n s t g k
    · rw [writes_n]; exact pour_n s t g k
/-- All is written and synced. -/
def poured (s : Ds) (t : Int) (g : Nat → ByteArray) (m : Nat) : Int × Ds := if (pour s t g m).1 ≠ 0 then pour s t g m else (pour s t g m).2.syncs

/-! The sectors of a row of records. -/
/-- How many sectors the first m records have. -/
def pre (x : Nat → ByteArray) : Nat → Nat
  | 0 => 0
  | m + 1 => pre x m + parts (x m).size
def secL (b n : Int) (kd : Nat) (d : ByteArray) : List ByteArray := (List.range (parts d.size)).map (sec b n kd d)
def allL (b n : Int) (kd : Nat) (x : Nat → ByteArray) : Nat → List ByteArray
  | 0 => []
  | m + 1 => allL b n kd x m ++ secL b (n + (m : Int)) kd (x m)
theorem secL_len (b n : Int) (kd : Nat) (d : ByteArray) : (secL b n kd d).length = parts d.size := by unfold secL; simp
theorem allL_len (b n : Int) (kd : Nat) (x : Nat → ByteArray) : ∀ m, (allL b n kd x m).length = pre x m
  | 0 => rfl
  | m + 1 => by rw [allL, List.length_append, allL_len, secL_len]; rfl
/-- The u-th sector of m records. -/
def flat (b n : Int) (kd : Nat) (x : Nat → ByteArray) (m u : Nat) : ByteArray := (allL b n kd x m).getD u ByteArray.empty
theorem pre_mono {x : Nat → ByteArray} {i : Nat} : ∀ {m : Nat}, i ≤ m → pre x i ≤ pre x m
  | 0, h => by
    have : i = 0 := by omega
    rw [this]; exact Nat.le_refl _
  | m + 1, h => by
    by_cases e : i = m + 1
    · rw [e]; exact Nat.le_refl _
    · have := pre_mono (x := x) (i := i) (m := m) (by omega)
      show _ ≤ pre x m + _
      omega
theorem flat_at {b n : Int} {kd : Nat} {x : Nat → ByteArray} {i k : Nat} (hk : k < parts (x i).size) : ∀ {m : Nat}, i < m → flat b n kd x m (pre x i + k) = sec b (n + (i : Int)) kd (x i) k
  | 0, h => absurd h (by omega)
  | m + 1, h => by
    unfold flat
    rw [allL]
    by_cases e : i = m
    · subst e
      rw [List.getD_eq_getElem?_getD, List.getElem?_append_right (by rw [allL_len]; omega), allL_len, show pre x i + k - pre x i = k by omega]
      unfold secL
      rw [List.getElem?_map, List.getElem?_range hk]
      rfl
    · have ih := flat_at (b := b) (n := n) (kd := kd) hk (m := m) (by omega)
      have hl : pre x i + k < (allL b n kd x m).length := by
        rw [allL_len]
        have : pre x (i + 1) ≤ pre x m := pre_mono (by omega)
        have e2 : pre x (i + 1) = pre x i + parts (x i).size := rfl
        omega
      rw [List.getD_eq_getElem?_getD, List.getElem?_append_left hl, ← List.getD_eq_getElem?_getD]
      exact ih

/-! The journal in memory, and its calls. -/
structure Jw where
  area : Nat
  h : Hd
  n : Int
  used : Nat
  dead : Bool
def Jw.base (j : Jw) (a : Int) : Int := 2 + (j.area : Int) * a
/-- The records fit their bound. -/
def fits (x : Nat → ByteArray) (m : Nat) : Prop := ∀ i, i < m → (x i).size ≤ 4096
instance (x : Nat → ByteArray) (m : Nat) : Decidable (fits x m) := Nat.decidableBallLT m fun i _ => (x i).size ≤ 4096
/-- What is behind a call that wrote: r is what the writing returned. -/
def Jw.told (j : Jw) (E : Int) : Jw := { j with dead := E == 10 }
/-- Append: what it returns, the journal, the disk. -/
def appends (j : Jw) (s : Ds) (d : ByteArray) : Int × Jw × Ds :=
  if j.dead = true then (10, j, s) else if 4096 < d.size then (5, j, s) else if s.full = true ∨ j.area < j.used + parts d.size then (9, j, s) else
    if (poured s (j.base j.h.area + (j.used : Int)) (sec j.h.boot (j.n + 1) 2 d) (parts d.size)).1 ≠ 0 then
      ((poured s (j.base j.h.area + (j.used : Int)) (sec j.h.boot (j.n + 1) 2 d) (parts d.size)).1, j.told (poured s (j.base j.h.area + (j.used : Int)) (sec j.h.boot (j.n + 1) 2 d) (parts d.size)).1, (poured s (j.base j.h.area + (j.used : Int)) (sec j.h.boot (j.n + 1) 2 d) (parts d.size)).2)
    else (0, { j with n := j.n + 1, used := j.used + parts d.size, dead := false }, (poured s (j.base j.h.area + (j.used : Int)) (sec j.h.boot (j.n + 1) 2 d) (parts d.size)).2)
/-- The header that Compact saves. -/
def Jw.next (j : Jw) (m : Nat) : Hd := ⟨j.h.seq + 1, j.h.boot, 1 - j.h.area, j.n + 1, (m : Int)⟩
/-- save: what it returns, the journal, the disk. -/
def jsaves (j : Jw) (s : Ds) (c : Hd) : Int × Jw × Ds := ((saves s c).1, { j with dead := (saves s c).1 == 10, h := if (saves s c).1 = 0 then c else j.h }, (saves s c).2)
/-- Compact. -/
def compacts (j : Jw) (s : Ds) (x : Nat → ByteArray) (m : Nat) : Int × Jw × Ds :=
  if j.dead = true then (10, j, s) else if ¬ fits x m then (5, j, s) else if j.area < pre x m then (9, j, s) else
    if (poured s (j.base (1 - j.h.area)) (flat j.h.boot (j.n + 1) 1 x m) (pre x m)).1 ≠ 0 then
      ((poured s (j.base (1 - j.h.area)) (flat j.h.boot (j.n + 1) 1 x m) (pre x m)).1, j.told (poured s (j.base (1 - j.h.area)) (flat j.h.boot (j.n + 1) 1 x m) (pre x m)).1, (poured s (j.base (1 - j.h.area)) (flat j.h.boot (j.n + 1) 1 x m) (pre x m)).2)
    else
      if (saves (poured s (j.base (1 - j.h.area)) (flat j.h.boot (j.n + 1) 1 x m) (pre x m)).2 (j.next m)).1 ≠ 0 then
        ((saves (poured s (j.base (1 - j.h.area)) (flat j.h.boot (j.n + 1) 1 x m) (pre x m)).2 (j.next m)).1, j.told (saves (poured s (j.base (1 - j.h.area)) (flat j.h.boot (j.n + 1) 1 x m) (pre x m)).2 (j.next m)).1, (saves (poured s (j.base (1 - j.h.area)) (flat j.h.boot (j.n + 1) 1 x m) (pre x m)).2 (j.next m)).2)
      else (0, { j with h := j.next m, n := j.n + (m : Int), used := pre x m, dead := false }, (saves (poured s (j.base (1 - j.h.area)) (flat j.h.boot (j.n + 1) 1 x m) (pre x m)).2 (j.next m)).2)
end Go.Proofs.YtckbhjjflpobbaaGreat.Jk
