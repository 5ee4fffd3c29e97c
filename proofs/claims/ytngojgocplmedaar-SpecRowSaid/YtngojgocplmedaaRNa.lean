/-
  Reading a specification number by number, as the program does (layer 13), plain mathematics: numbers are taken as they are, and looked at in the end.
-/
import Derived.Test.YtngojgocplmedaaRZl
namespace Go.Proofs.YtngojgocplmedaaR.Ls
open Go.RowKit Go.Proofs.YtngojgocplmedaaR.Mem Go.Proofs.YtngojgocplmedaaR.Bx Go.Proofs.YtngojgocplmedaaR.In Go.Proofs.YtngojgocplmedaaR.Sp Go.Proofs.YtngojgocplmedaaR.Nr Go.Proofs.YtngojgocplmedaaR.Pk
set_option linter.unusedVariables false

/-- A number that the reference's reader takes. -/
def ok62 (x : Int) : Bool := decide (0 ≤ x) && decide (x ≤ 4611686018427387904)
theorem ok62_iff {x : Int} : ok62 x = true ↔ 0 ≤ x ∧ x ≤ 4611686018427387904 := by unfold ok62; simp
/-- One of these is none. -/
def off62 (l : List Int) : Bool := l.any fun x => !ok62 x
theorem off62_no {l : List Int} : off62 l = false ↔ ∀ x ∈ l, 0 ≤ x ∧ x ≤ 4611686018427387904 := by
  unfold off62
  rw [List.any_eq_false]
  constructor
  · intro h x hx
    exact ok62_iff.1 (by simpa using h x hx)
  · intro h x hx
    simp [ok62_iff.2 (h x hx)]
/-- The int that a number of 64 bits becomes. -/
def asInt (n : Nat) : Int := if n < 9223372036854775808 then n else (n : Int) - 18446744073709551616
theorem asInt_ok {n : Nat} (hn : n < 18446744073709551616) : ok62 (asInt n) = true ↔ n ≤ top := by
  rw [ok62_iff]
  unfold asInt top
  split <;> omega
theorem asInt_nat {n : Nat} (hn : n ≤ top) : asInt n = n := by
  unfold asInt
  unfold top at hn
  rw [if_pos (by omega)]
/-- What has been read of s0, number by number: the ints l, and the rest s. -/
def PTrk (s0 : ByteArray) (l : List Int) (s : ByteArray) : Prop := Trk s0 l.length (nats l) s (off62 l)
theorem PTrk.start (s0 : ByteArray) : PTrk s0 [] s0 := Trk.start s0
theorem nats_snoc (l : List Int) (x : Int) : nats (l ++ [x]) = nats l ++ [x.toNat] := by simp [nats]
theorem off62_snoc (l : List Int) (x : Int) : off62 (l ++ [x]) = (off62 l || !ok62 x) := by simp [off62]
/-- There is room for a number more, whatever specification the bytes may be those of. -/
def Room (l : List Int) : Prop := off62 l = false → ∀ y : Sp, nats l = y.nums.take l.length → l.length + 1 ≤ y.nums.length
/-- No number is there. -/
theorem PTrk.none {s0 s : ByteArray} {l : List Int} (h : PTrk s0 l s) (hr : Room l) (hu : uv s = none) : NoRead s0 := by
  have k : NumR s (off62 l) 0 s true := .inr ⟨rfl, rfl, rfl, .inr (reads_none hu)⟩
  exact (Trk.num h k (fun hb y u _ e => hr hb y e)).bad rfl
/-- A number more. -/
theorem PTrk.num {s0 s t : ByteArray} {l : List Int} {n : Nat} (h : PTrk s0 l s) (hr : Room l) (hu : uv s = some (n, t)) (hn : n < 18446744073709551616) : PTrk s0 (l ++ [asInt n]) t := by
  unfold PTrk
  rw [List.length_append, List.length_singleton, nats_snoc, off62_snoc]
  by_cases ht : n ≤ top
  · rw [(asInt_ok hn).2 ht]
    rcases hb : off62 l with _ | _
    · have h' : Trk s0 l.length (nats l) s false := hb ▸ h
      have k : NumR s false (n : Int) t false := .inl ⟨rfl, rfl, n, rfl, ht, hu⟩
      have e := h'.num k (fun _ y u _ e => hr hb y e)
      rw [asInt_nat ht]; exact e
    · have h' : Trk s0 l.length (nats l) s true := hb ▸ h
      exact ⟨by simp, by simp, fun _ => h'.bad rfl⟩
  · have hf : ok62 (asInt n) = false := by
      rw [Bool.eq_false_iff]; intro e; exact ht ((asInt_ok hn).1 e)
    rw [hf]
    have k : NumR s (off62 l) 0 s true := .inr ⟨rfl, rfl, rfl, .inr (reads_big hu ht)⟩
    have b := (Trk.num h k (fun hb y u _ e => hr hb y e)).bad rfl
    exact ⟨by simp, by simp, fun _ => b⟩
theorem PTrk.bad {s0 s : ByteArray} {l : List Int} (h : PTrk s0 l s) (hb : off62 l = true) : NoRead s0 := Trk.bad h hb
/-! ### The rooms -/
theorem room_head {l : List Int} (h : l.length < 5) : Room l := fun _ y _ => room5 y h
theorem room_p {x0 x1 x2 x3 : Int} {n : Nat} {ps : List Int} (h : ps.length < n) : Room ([x0, x1, x2, x3, (n : Int)] ++ ps) := fun _ y e => by
  have e' : [x0.toNat, x1.toNat, x2.toNat, x3.toNat] ++ [n] ++ nats ps = y.nums.take ([x0, x1, x2, x3, (n : Int)] ++ ps).length := by
    rw [← e]; simp [nats]
  exact room_ports e' rfl (by simp; omega)
theorem room_n {x0 x1 x2 x3 : Int} {n : Nat} {ps : List Int} (h : ps.length = n) : Room ([x0, x1, x2, x3, (n : Int)] ++ ps) := fun _ y e => by
  have e' : [x0.toNat, x1.toNat, x2.toNat, x3.toNat] ++ [n] ++ nats ps = y.nums.take ([x0, x1, x2, x3, (n : Int)] ++ ps).length := by
    rw [← e]; simp [nats]
  exact room_ports e' rfl (by simp; omega)
theorem room_t {x0 x1 x2 x3 : Int} {n m : Nat} {ps rs : List Int} (h : ps.length = n) (hr : rs.length < 6 * m) : Room ([x0, x1, x2, x3, (n : Int)] ++ ps ++ [(m : Int)] ++ rs) := fun _ y e => by
  have e' : [x0.toNat, x1.toNat, x2.toNat, x3.toNat] ++ [n] ++ nats ps ++ [m] ++ nats rs = y.nums.take ([x0, x1, x2, x3, (n : Int)] ++ ps ++ [(m : Int)] ++ rs).length := by
    rw [← e]; simp [nats]
  exact room_tasks e' rfl (by simp [nats, h]) (by simp; omega)
/-! ### Counts and flags that are too great -/
theorem no_ports {s0 s : ByteArray} {x0 x1 x2 x3 x4 : Int} (h : PTrk s0 [x0, x1, x2, x3, x4] s) (hx : x4 < 0 ∨ 8 < x4) : NoRead s0 := by
  rcases hb : off62 [x0, x1, x2, x3, x4] with _ | _
  · have h4 := (off62_no.1 hb) x4 (by simp)
    have h' : Trk s0 5 ([x0.toNat, x1.toNat, x2.toNat, x3.toNat] ++ [x4.toNat] ++ []) s false := by
      have := h; unfold PTrk at this; rw [hb] at this; exact this
    exact big_ports h' rfl rfl (by omega)
  · exact h.bad hb
theorem no_tasks {s0 s : ByteArray} {x0 x1 x2 x3 x4 : Int} {n : Nat} {ps : List Int} (h : PTrk s0 ([x0, x1, x2, x3, (n : Int)] ++ ps ++ [x4]) s) (hp : ps.length = n) (hx : x4 < 0 ∨ 4 < x4) : NoRead s0 := by
  rcases hb : off62 ([x0, x1, x2, x3, (n : Int)] ++ ps ++ [x4]) with _ | _
  · have h4 := (off62_no.1 hb) x4 (by simp)
    have h' : Trk s0 ([x0, x1, x2, x3, (n : Int)] ++ ps ++ [x4]).length ([x0.toNat, x1.toNat, x2.toNat, x3.toNat] ++ [n] ++ nats ps ++ [x4.toNat] ++ []) s false := by
      have := h; unfold PTrk at this; rw [hb] at this
      have e : nats ([x0, x1, x2, x3, (n : Int)] ++ ps ++ [x4]) = [x0.toNat, x1.toNat, x2.toNat, x3.toNat] ++ [n] ++ nats ps ++ [x4.toNat] ++ [] := by simp [nats]
      rw [← e]; exact this
    exact big_tasks h' rfl rfl (by simp [nats, hp]) (by omega)
  · exact h.bad hb
/-- The numbers of tasks, as ints. -/
def Tsk.ints (t : Tsk) : List Int := [if t.always then 1 else 0, t.lim, t.win, t.bas, t.most, t.prb]
def irows (l : List Tsk) : List Int := l.flatMap Tsk.ints
theorem irows_len : ∀ l : List Tsk, (irows l).length = 6 * l.length
  | [] => rfl
  | t :: l => by
    have := irows_len l
    unfold irows at this ⊢
    rw [List.flatMap_cons, List.length_append, this]; simp [Tsk.ints]; omega
theorem irows_snoc (l : List Tsk) (t : Tsk) : irows (l ++ [t]) = irows l ++ Tsk.ints t := by simp [irows]
theorem irows_nats : ∀ l : List Tsk, nats (irows l) = rows l
  | [] => rfl
  | t :: l => by
    have := irows_nats l
    unfold irows at this ⊢
    rw [List.flatMap_cons, rows_cons, ← this]
    rcases t with ⟨a, _, _, _, _, _⟩
    cases a <;> simp [nats, Tsk.ints, Tsk.row]
theorem no_always {s0 s : ByteArray} {x0 x1 x2 x3 a : Int} {n m : Nat} {ps : List Int} {ts : List Tsk} (h : PTrk s0 ([x0, x1, x2, x3, (n : Int)] ++ ps ++ [(m : Int)] ++ (irows ts ++ [a])) s) (hp : ps.length = n) (ha : a < 0 ∨ 1 < a) : NoRead s0 := by
  rcases hb : off62 ([x0, x1, x2, x3, (n : Int)] ++ ps ++ [(m : Int)] ++ (irows ts ++ [a])) with _ | _
  · have h4 := (off62_no.1 hb) a (by simp)
    have h' : Trk s0 ([x0, x1, x2, x3, (n : Int)] ++ ps ++ [(m : Int)] ++ (irows ts ++ [a])).length ([x0.toNat, x1.toNat, x2.toNat, x3.toNat] ++ [n] ++ nats ps ++ [m] ++ (rows ts ++ [a.toNat])) s false := by
      have := h; unfold PTrk at this; rw [hb] at this
      have e : nats ([x0, x1, x2, x3, (n : Int)] ++ ps ++ [(m : Int)] ++ (irows ts ++ [a])) = [x0.toNat, x1.toNat, x2.toNat, x3.toNat] ++ [n] ++ nats ps ++ [m] ++ (rows ts ++ [a.toNat]) := by
        rw [← irows_nats]; simp [nats]
      rw [← e]; exact this
    exact big_always h' rfl rfl (by simp [nats, hp]) (by omega)
  · exact h.bad hb
/-! ### The end -/
def Sp.ints (S : Sp) : List Int := [S.id, S.c, S.m, S.d, (S.ports.length : Int)] ++ S.ports ++ [(S.tasks.length : Int)] ++ irows S.tasks
theorem ints_nums (S : Sp) : nats (Sp.ints S) = S.nums := by
  have e := irows_nats S.tasks
  unfold Sp.ints
  simp only [nats, List.map_append] at e ⊢
  rw [e]
  simp [Sp.nums, Sp.head, nats]
theorem ints_nn {S : Sp} (h : off62 (Sp.ints S) = false) : SpNn S := by
  have k := off62_no.1 h
  refine ⟨(k _ (by simp [Sp.ints])).1, (k _ (by simp [Sp.ints])).1, (k _ (by simp [Sp.ints])).1, (k _ (by simp [Sp.ints])).1, fun p hp => (k p (by simp [Sp.ints, hp])).1, fun t ht => ?_⟩
  have m : ∀ x ∈ Tsk.ints t, x ∈ Sp.ints S := fun x hx => by
    have : x ∈ irows S.tasks := List.mem_flatMap.2 ⟨t, ht, hx⟩
    simp [Sp.ints, this]
  exact ⟨(k _ (m _ (by simp [Tsk.ints]))).1, (k _ (m _ (by simp [Tsk.ints]))).1, (k _ (m _ (by simp [Tsk.ints]))).1, (k _ (m _ (by simp [Tsk.ints]))).1, (k _ (m _ (by simp [Tsk.ints]))).1⟩
theorem good_ints {S : Sp} (g : S.good) : off62 (Sp.ints S) = false := by
  refine off62_no.2 fun x hx => ?_
  have h1 := g.id; have h2 := g.c; have h3 := g.m; have h4 := g.d
  have h5 := g.few; have h6 := g.most
  simp only [Sp.ints, List.mem_append, List.mem_cons, List.not_mem_nil, or_false] at hx
  rcases hx with (((rfl | rfl | rfl | rfl | rfl) | hx) | rfl) | hx
  · omega
  · omega
  · omega
  · omega
  · omega
  · have := g.port x hx; omega
  · omega
  · obtain ⟨t, ht, hx⟩ := List.mem_flatMap.1 hx
    have gt := g.task t ht
    have k1 := gt.lim; have k2 := gt.win; have k3 := gt.bas; have k4 := gt.prb
    have k5 := gt.most
    simp only [Tsk.ints, List.mem_cons, List.not_mem_nil, or_false] at hx
    rcases hx with rfl | rfl | rfl | rfl | rfl | rfl
    · split <;> omega
    all_goals omega
/-- All has been read, and is looked at. -/
theorem PTrk.done {s0 s : ByteArray} {S : Sp} (h : PTrk s0 (Sp.ints S) s) : (spSays S = 0 → SpRead s0 S s) ∧ (spSays S ≠ 0 → NoRead s0) := by
  unfold PTrk at h
  rw [ints_nums] at h
  rcases hb : off62 (Sp.ints S) with _ | _
  · rw [hb] at h
    have d := Trk.done h (ints_nn hb)
    exact ⟨fun e => d.1 (by simp [e]), fun e => d.2 (by simp [e])⟩
  · rw [hb] at h
    refine ⟨fun e => ?_, fun _ => h.bad rfl⟩
    have := good_ints ((sp_say S).1 e)
    rw [this] at hb; cases hb
end Go.Proofs.YtngojgocplmedaaR.Ls
