/-
  The journal's calls with a fuse that is armed, and what a crash leaves of them (plain mathematics).
-/
import Derived.Test.YtckbhjjflpobbaaGreatJm
import Derived.Test.YtckbhjjflpobbaaGreatHq
import Derived.Test.YtckbhjjflpobbaaGreatKh
namespace Go.Proofs.YtckbhjjflpobbaaGreat.Jk
open Go Go.Proofs.YtckbhjjflpobbaaGreat.Pk Go.Proofs.YtckbhjjflpobbaaGreat.Fk Go.Proofs.YtckbhjjflpobbaaGreat.Dz Go.Proofs.YtckbhjjflpobbaaGreat.Rc Go.Proofs.YtckbhjjflpobbaaGreat.Fz
open Go.Proofs.YtckbhjjflpobbaaGreat.Hk (Hd Two Non Put saves saved saves_idle saved_put put_disk enc_size slot_nat)

def armed (s : Ds) (k : Nat) : Ds := { s with fu := .armed k }
def blown (s : Ds) : Ds := { s with fu := .blown }
theorem laid_armed (s : Ds) (f : St) (t : Nat) (g : Nat → ByteArray) : ∀ k, laid { s with fu := f } t g k = { laid s t g k with fu := f }
  | 0 => rfl
  | k + 1 => by
    show (laid { s with fu := f } t g k).wrote (t + k) (g k) = _
    rw [laid_armed s f t g k]; rfl
theorem writes_armed {s : Ds} {a : Nat} {i : Nat} {d : ByteArray} (hi : i < s.n) (hd : d.size = 80) : (armed s (a + 1)).writes (i : Int) d = (0, armed (s.wrote i d) a) := by
  unfold Ds.writes
  have ho : (armed s (a + 1)).out (i : Int) = false := Ds.out_in hi
  rw [ho, if_neg (by decide), if_neg (by rw [hd]; decide), if_neg (by exact fun h => h rfl), Int.toNat_natCast]
  rfl
theorem writes_blown {s : Ds} {i : Nat} {d : ByteArray} (hi : i < s.n) (hd : d.size = 80) : (armed s 0).writes (i : Int) d = (10, blown s) := by
  unfold Ds.writes
  have ho : (armed s 0).out (i : Int) = false := Ds.out_in hi
  rw [ho, if_neg (by decide), if_neg (by rw [hd]; decide), if_pos (by exact (by decide : (10 : Int) ≠ 0))]
  rfl
theorem pour_armed {s : Ds} {t m K : Nat} {g : Nat → ByteArray} (ht : t + m ≤ s.n) (hg : ∀ i, i < m → (g i).size = 80) : ∀ k, k ≤ m → k ≤ K → pour (armed s K) (t : Int) g k = (0, armed (laid s t g k) (K - k))
  | 0, _, _ => rfl
  | k + 1, hk, hK => by
    have ih := pour_armed ht hg k (by omega) (by omega) (K := K)
    rw [pour_succ (by rw [ih]), ih]
    obtain ⟨a, ha⟩ : ∃ a, K - k = a + 1 := ⟨K - k - 1, by omega⟩
    have e : (t : Int) + (k : Int) = ((t + k : Nat) : Int) := by push_cast; rfl
    show (armed (laid s t g k) (K - k)).writes _ _ = _
    rw [ha, e, writes_armed (by rw [laid_n]; omega) (hg k (by omega)), show K - (k + 1) = a by omega]
    rfl
/-- Cut: K operations of m writes and a sync. -/
theorem poured_cut {s : Ds} {t m K : Nat} {g : Nat → ByteArray} (ht : t + m ≤ s.n) (hg : ∀ i, i < m → (g i).size = 80) (hK : K ≤ m) : poured (armed s K) (t : Int) g m = (10, blown (laid s t g K)) := by
  by_cases e : K = m
  · subst e
    unfold poured
    rw [pour_armed ht hg K (Nat.le_refl _) (Nat.le_refl _), if_neg (by exact fun h => h rfl), Nat.sub_self]
    rfl
  · have h1 := pour_armed (K := K) ht hg K (by omega) (Nat.le_refl _)
    rw [Nat.sub_self] at h1
    have h2 : pour (armed s K) (t : Int) g (K + 1) = (10, blown (laid s t g K)) := by
      rw [pour_succ (by rw [h1]), h1]
      have e : (t : Int) + (K : Int) = ((t + K : Nat) : Int) := by push_cast; rfl
      show (armed (laid s t g K) 0).writes _ _ = _
      rw [e, writes_blown (by rw [laid_n]; omega) (hg K (by omega))]
    have h3 := pour_stop (s := armed s K) (t := (t : Int)) (g := g) (k := K + 1) (m := m) (by rw [h2]; exact (by decide : (10 : Int) ≠ 0)) (by omega)
    unfold poured
    rw [h3, h2, if_pos (by exact (by decide : (10 : Int) ≠ 0))]
/-- Whole. -/
theorem poured_whole {s : Ds} {t m K : Nat} {g : Nat → ByteArray} (ht : t + m ≤ s.n) (hg : ∀ i, i < m → (g i).size = 80) (hK : m < K) : poured (armed s K) (t : Int) g m = (0, armed ((laid s t g m).settled fun _ => 80) (K - m - 1)) := by
  unfold poured
  rw [pour_armed ht hg m (Nat.le_refl _) (by omega), if_neg (by exact fun h => h rfl)]
  obtain ⟨a, ha⟩ : ∃ a, K - m = a + 1 := ⟨K - m - 1, by omega⟩
  rw [ha]
  rfl
theorem poured_idle {s : Ds} (hf : s.fu = .idle) {t m : Nat} {g : Nat → ByteArray} (ht : t + m ≤ s.n) (hg : ∀ i, i < m → (g i).size = 80) : poured s (t : Int) g m = (0, (laid s t g m).settled fun _ => 80) := by
  have key : ∀ k, k ≤ m → pour s (t : Int) g k = (0, laid s t g k) := fun k => by
    induction k with
    | zero => intro _; rfl
    | succ k ih =>
      intro hk
      have ih := ih (by omega)
      rw [pour_succ (by rw [ih]), ih]
      have e : (t : Int) + (k : Int) = ((t + k : Nat) : Int) := by push_cast; rfl
      show (laid s t g k).writes _ _ = _
      rw [e, Ds.writes_idle (by rw [laid_fu]; exact hf) (by rw [laid_n]; omega) (hg k (by omega))]
      rfl
  unfold poured
  rw [key m (Nat.le_refl _), if_neg (by exact fun h => h rfl)]
  exact Ds.syncs_idle (by rw [laid_fu]; exact hf)
/-! Saving a header. -/
theorem saves_un {s : Ds} (hn : 2 ≤ s.n) {c : Hd} (g : c.good) : saves s c = if s.fu.says ≠ 0 then (s.fu.says, s.burnt) else (s.burnt.wrote (c.seq.toNat % 2) c.enc).syncs := by
  have e := slot_nat g
  have ho : s.out (c.seq % 2) = false := by rw [e]; exact Ds.out_in (by omega)
  rw [e] at ho
  have hw : s.writes (c.seq % 2) c.enc = if s.fu.says ≠ 0 then (s.fu.says, s.burnt) else (0, s.burnt.wrote (c.seq.toNat % 2) c.enc) := by
    unfold Ds.writes
    rw [e, ho]
    have h80 : ¬ c.enc.size ≠ 80 := by rw [enc_size g]; decide
    rw [if_neg h80, if_neg (by decide), Int.toNat_natCast]
  have he : ¬ c.err ≠ 0 := by rw [(Hd.err_zero c).mpr g]; decide
  unfold saves
  rw [if_neg he, if_neg (by omega), hw]
  by_cases h : s.fu.says ≠ 0
  · rw [if_pos h, if_pos h]; simp only [ne_eq, h, not_false_eq_true, if_true]
  · rw [if_neg h, if_neg h]; simp
theorem saves_0 {s : Ds} (hn : 2 ≤ s.n) {c : Hd} (g : c.good) : saves (armed s 0) c = (10, blown s) := by rw [saves_un (s := armed s 0) hn g]; rfl
theorem saves_1 {s : Ds} (hn : 2 ≤ s.n) {c : Hd} (g : c.good) : saves (armed s 1) c = (10, blown (s.wrote (c.seq.toNat % 2) c.enc)) := by rw [saves_un (s := armed s 1) hn g]; rfl
theorem saves_2 {s : Ds} (hn : 2 ≤ s.n) {c : Hd} (g : c.good) (k : Nat) : saves (armed s (k + 2)) c = (0, armed ((s.wrote (c.seq.toNat % 2) c.enc).settled fun _ => 80) k) := by rw [saves_un (s := armed s (k + 2)) hn g]; rfl
theorem saves_i {s : Ds} (hf : s.fu = .idle) (hn : 2 ≤ s.n) {c : Hd} (g : c.good) : saves s c = (0, (s.wrote (c.seq.toNat % 2) c.enc).settled fun _ => 80) := by
  rw [saves_un hn g, hf, if_neg (by decide), Ds.idle_burnt hf, Ds.syncs_idle (by exact hf)]
/-! The lists of a snapshot. -/
theorem snapF_app (b : Int) : ∀ (D : List ByteArray) (n : Int) (d : ByteArray), snapF b n (D ++ [d]) = snapF b n D ++ frames b (n + (D.length : Int)) 1 d
  | [], n, d => by
    show frames b n 1 d ++ [] = [] ++ frames b (n + ((0 : Nat) : Int)) 1 d
    rw [List.append_nil, List.nil_append, show n + ((0 : Nat) : Int) = n by omega]
  | e :: D, n, d => by
    show frames b n 1 e ++ snapF b (n + 1) (D ++ [d]) = (frames b n 1 e ++ snapF b (n + 1) D) ++ _
    rw [snapF_app b D, List.append_assoc, show n + 1 + (D.length : Int) = n + ((e :: D).length : Int) by rw [List.length_cons]; omega]
def dl (x : Nat → ByteArray) (m : Nat) : List ByteArray := (List.range m).map x
theorem dl_succ (x : Nat → ByteArray) (m : Nat) : dl x (m + 1) = dl x m ++ [x m] := by unfold dl; rw [List.range_succ, List.map_append]; rfl
theorem dl_len (x : Nat → ByteArray) (m : Nat) : (dl x m).length = m := by unfold dl; simp
theorem dl_mem {x : Nat → ByteArray} {m : Nat} {d : ByteArray} (h : d ∈ dl x m) : ∃ i, i < m ∧ d = x i := by
  unfold dl at h
  obtain ⟨i, hi, rfl⟩ := List.mem_map.1 h
  exact ⟨i, List.mem_range.1 hi, rfl⟩
theorem allL_snap {b n : Int} {x : Nat → ByteArray} : ∀ {m : Nat}, fits x m → (∀ i : Nat, i < m → num b (n + (i : Int))) → allL b n 1 x m = (snapF b n (dl x m)).map fun c => str c.sec
  | 0, _, _ => rfl
  | m + 1, hf, hn => by
    rw [allL, dl_succ, snapF_app, List.map_append, allL_snap (fun i hi => hf i (by omega)) (fun i hi => hn i (by omega)), dl_len]
    congr 1
    unfold secL frames
    rw [List.map_map]
    apply List.map_congr_left
    intro i hi
    exact Fr.enc_good (fr_good (hn m (by omega)) (hf m (by omega)) (List.mem_range.1 hi))
theorem snap_len {b n : Int} {x : Nat → ByteArray} : ∀ {m : Nat}, (snapF b n (dl x m)).length = pre x m
  | 0 => rfl
  | m + 1 => by rw [dl_succ, snapF_app, List.length_append, snap_len, frames_len]; rfl
theorem flat_snap {b n : Int} {x : Nat → ByteArray} {m : Nat} (hf : fits x m) (hn : ∀ i : Nat, i < m → num b (n + (i : Int))) (i : Nat) (hi : i < (snapF b n (dl x m)).length) : flat b n 1 x m i = str (snapF b n (dl x m))[i].sec := by
  unfold flat
  rw [allL_snap hf hn, List.getD_eq_getElem?_getD, List.getElem?_map, List.getElem?_eq_getElem hi]
  rfl
theorem snap_mem {x : Nat → ByteArray} {m : Nat} (hf : fits x m) : ∀ d ∈ dl x m, d.size ≤ 4096 := fun d hd => by
  obtain ⟨i, hi, rfl⟩ := dl_mem hd
  exact hf i hi
theorem flat_size {b n : Int} {x : Nat → ByteArray} {m : Nat} (hb : 1 ≤ b ∧ b ≤ 4294967295) (h1 : 1 ≤ n) (h2 : n + (m : Int) ≤ 281474976710656) (hf : fits x m) (i : Nat) (hi : i < pre x m) : (flat b n 1 x m i).size = 80 := by
  have hn : ∀ i : Nat, i < m → num b (n + (i : Int)) := fun i hi => ⟨hb.1, hb.2, by omega, by omega⟩
  have hi' : i < (snapF b n (dl x m)).length := by rw [snap_len]; exact hi
  rw [flat_snap hf hn i hi']
  obtain ⟨g, _⟩ := snapF_mem hb h1 (by rw [dl_len]; exact h2) (snap_mem hf) (List.getElem_mem hi')
  rw [size_str]; exact Fk.sec_len g.short
end Go.Proofs.YtckbhjjflpobbaaGreat.Jk
