/-
  Reading a specification number by number (layer 13), plain mathematics: what has been read so far, and when no specification's bytes begin what is read.
-/
import Derived.Test.YtngojgocplmedaaRZi
namespace Go.Proofs.YtngojgocplmedaaR.Ls
open Go.Proofs.YtngojgocplmedaaR.Sp Go.Proofs.YtngojgocplmedaaR.Nr Go.Proofs.YtngojgocplmedaaR.Pk
set_option linter.unusedVariables false

/-- The bytes s are those of the specification x, and t behind them. -/
abbrev SpRead (s : ByteArray) (x : Sp) (t : ByteArray) : Prop := Go.Proofs.YtngojgocplmedaaR.Sp.Read s x t
/-- No specification's bytes begin these. -/
def NoRead (s : ByteArray) : Prop := ∀ x t, ¬ SpRead s x t
/-- k numbers have been read of s0: they are l, the rest is s; or (b) it is known that there is no specification. -/
structure Trk (s0 : ByteArray) (k : Nat) (l : List Nat) (s : ByteArray) (b : Bool) : Prop where
  ok : b = false → reads k s0 = some (l, s)
  fit : b = false → ∀ x t, SpRead s0 x t → k ≤ x.nums.length
  bad : b = true → NoRead s0
theorem read_take {s0 s t : ByteArray} {x : Sp} {k : Nat} {l : List Nat} (h : SpRead s0 x t) (hr : reads k s0 = some (l, s)) (hk : k ≤ x.nums.length) : l = x.nums.take k ∧ s = encs (x.nums.drop k) ++ t := by
  have ht := nums_top h.1
  have e : s0 = encs (x.nums.take k) ++ (encs (x.nums.drop k) ++ t) := by
    rw [h.2, Sp.bytes, ← ByteArray.append_assoc, ← encs_append, List.take_append_drop]
  have h1 := reads_encs (x.nums.take k) (fun n hn => ht n (List.mem_of_mem_take hn)) (encs (x.nums.drop k) ++ t)
  rw [List.length_take, Nat.min_eq_left hk, ← e, hr] at h1
  obtain ⟨e1, e2⟩ := Prod.mk.inj (Option.some.inj h1)
  exact ⟨e1, e2⟩
theorem Trk.start (s0 : ByteArray) : Trk s0 0 [] s0 false := ⟨fun _ => rfl, fun _ _ _ _ => Nat.zero_le _, by simp⟩
theorem Trk.len {s0 s : ByteArray} {k : Nat} {l : List Nat} {b : Bool} (h : Trk s0 k l s b) (hb : b = false) : l.length = k := (reads_back (h.ok hb)).1
/-- A number more. -/
theorem Trk.num {s0 s t : ByteArray} {k : Nat} {l : List Nat} {b c : Bool} {x : Int} (h : Trk s0 k l s b) (hn : NumR s b x t c)
    (room : b = false → ∀ y u, SpRead s0 y u → l = y.nums.take k → k + 1 ≤ y.nums.length) : Trk s0 (k + 1) (l ++ [x.toNat]) t c := by
  rcases hn with ⟨hb, hc, n, rfl, hn, hu⟩ | ⟨hc, rfl, rfl, hbad⟩
  · have h1 := h.ok hb
    refine ⟨fun _ => ?_, fun _ y u hy => room hb y u hy (read_take hy h1 (h.fit hb y u hy)).1, by rw [hc]; simp⟩
    rw [Int.toNat_natCast]
    exact reads_add h1 (reads_one hu hn)
  · refine ⟨by rw [hc]; simp, by rw [hc]; simp, fun _ => ?_⟩
    rcases b with _ | _
    · intro y u hy
      have h1 := h.ok rfl
      have h2 := read_take hy h1 (h.fit rfl y u hy)
      have h3 := room rfl y u hy h2.1
      have h4 : reads 1 t = none := hbad.resolve_left (by simp)
      have ht := nums_top hy.1
      have hd : y.nums.drop k = y.nums[k] :: y.nums.drop (k + 1) := List.drop_eq_getElem_cons h3
      rw [h2.2, hd] at h4
      have h5 := reads_encs [y.nums[k]] (fun n hn => by rw [List.mem_singleton] at hn; subst hn; exact ht _ (List.getElem_mem _)) (encs (y.nums.drop (k + 1)) ++ u)
      have e : encs (y.nums[k] :: y.nums.drop (k + 1)) ++ u = encs [y.nums[k]] ++ (encs (y.nums.drop (k + 1)) ++ u) := by
        rw [← ByteArray.append_assoc, ← encs_append]; rfl
      rw [e] at h4
      have h5 : reads 1 (encs [y.nums[k]] ++ (encs (y.nums.drop (k + 1)) ++ u)) = _ := h5
      rw [h4] at h5
      cases h5
    · exact h.bad rfl
/-- A flag is raised. -/
theorem Trk.flag {s0 s : ByteArray} {k : Nat} {l : List Nat} {b q : Bool} (h : Trk s0 k l s b) (hq : b = false → q = true → NoRead s0) : Trk s0 k l s (b || q) := by
  cases b with
  | true => exact ⟨by simp, by simp, fun _ => h.bad rfl⟩
  | false =>
    cases q with
    | true => exact ⟨by simp, by simp, fun _ => hq rfl rfl⟩
    | false => exact h
/-! ### Where the counts stand -/
theorem nums_len (y : Sp) : y.nums.length = 6 + y.ports.length + 6 * y.tasks.length := by
  simp [Sp.nums, Sp.head, nats, rows_length]; omega
theorem room5 (y : Sp) {k : Nat} (hk : k < 5) : k + 1 ≤ y.nums.length := by rw [nums_len]; omega
theorem at4 (y : Sp) : y.nums[4]? = some y.ports.length := by simp [Sp.nums, Sp.head]
theorem ports_of {y : Sp} {h5 r : List Nat} {k n : Nat} (e : h5 ++ [n] ++ r = y.nums.take k) (h4 : h5.length = 4) : y.ports.length = n := by
  have h1 : (y.nums.take k)[4]? = some n := by rw [← e]; simp [h4]
  rw [List.getElem?_take] at h1
  split at h1
  · rw [at4] at h1; exact Option.some.inj h1
  · cases h1
theorem atM (y : Sp) : y.nums[5 + y.ports.length]? = some y.tasks.length := by
  unfold Sp.nums
  rw [List.getElem?_append_right (by simp [Sp.head]), List.getElem?_append_right (by simp [Sp.head, nats])]
  simp [Sp.head, nats]
theorem tasks_of {y : Sp} {h5 p r : List Nat} {k n m : Nat} (e : h5 ++ [n] ++ p ++ [m] ++ r = y.nums.take k) (h4 : h5.length = 4) (hp : p.length = n) : y.tasks.length = m := by
  have hn : y.ports.length = n := ports_of (r := p ++ [m] ++ r) (by simpa using e) h4
  have h1 : (y.nums.take k)[5 + n]? = some m := by
    rw [← e, List.append_assoc, List.append_assoc, List.append_assoc, List.getElem?_append_right (by omega), List.getElem?_append_right (by simp; omega), List.getElem?_append_right (by simp; omega)]
    rw [show 5 + n - h5.length - [n].length - p.length = 0 by simp; omega]; rfl
  rw [List.getElem?_take] at h1
  split at h1
  · rw [← hn, atM] at h1; exact Option.some.inj h1
  · cases h1
theorem room_ports {y : Sp} {h5 p : List Nat} {k n : Nat} (e : h5 ++ [n] ++ p = y.nums.take k) (h4 : h5.length = 4) (hk : k ≤ 5 + n) : k + 1 ≤ y.nums.length := by
  rw [nums_len, ports_of e h4]; omega
theorem room_tasks {y : Sp} {h5 p r : List Nat} {k n m : Nat} (e : h5 ++ [n] ++ p ++ [m] ++ r = y.nums.take k) (h4 : h5.length = 4) (hp : p.length = n) (hk : k < 6 + n + 6 * m) : k + 1 ≤ y.nums.length := by
  rw [nums_len, tasks_of e h4 hp, ports_of (r := p ++ [m] ++ r) (by simpa using e) h4]; omega
theorem big_ports {s0 s : ByteArray} {h5 p : List Nat} {k n : Nat} {b : Bool} (h : Trk s0 k (h5 ++ [n] ++ p) s b) (hb : b = false) (h4 : h5.length = 4) (hn : 8 < n) : NoRead s0 := fun y u hy => by
  have := ports_of (read_take hy (h.ok hb) (h.fit hb y u hy)).1 h4
  have := hy.1.few
  omega
theorem big_tasks {s0 s : ByteArray} {h5 p r : List Nat} {k n m : Nat} {b : Bool} (h : Trk s0 k (h5 ++ [n] ++ p ++ [m] ++ r) s b) (hb : b = false) (h4 : h5.length = 4) (hp : p.length = n) (hm : 4 < m) : NoRead s0 := fun y u hy => by
  have := tasks_of (read_take hy (h.ok hb) (h.fit hb y u hy)).1 h4 hp
  have := hy.1.most
  omega
theorem rows_at : ∀ (l : List Tsk) (i a : Nat), (rows l)[6 * i]? = some a → a ≤ 1
  | [], i, a, h => by simp [rows] at h
  | t :: l, 0, a, h => by
    rw [rows_cons] at h
    have h1 : some (if t.always then 1 else 0) = some a := h
    have := Option.some.inj h1
    split at this <;> omega
  | t :: l, i + 1, a, h => by
    rw [rows_cons, List.getElem?_append_right (by simp [Tsk.row]; omega)] at h
    exact rows_at l i a (by rw [← h]; congr 1)
theorem big_always {s0 s : ByteArray} {h5 p : List Nat} {ts : List Tsk} {k n m a : Nat} {b : Bool} (h : Trk s0 k (h5 ++ [n] ++ p ++ [m] ++ (rows ts ++ [a])) s b) (hb : b = false) (h4 : h5.length = 4) (hp : p.length = n) (ha : 1 < a) : NoRead s0 := fun y u hy => by
  have e := (read_take hy (h.ok hb) (h.fit hb y u hy)).1
  have hn := ports_of (r := p ++ [m] ++ (rows ts ++ [a])) (by simpa using e) h4
  have h1 : (y.nums.take k)[6 + n + 6 * ts.length]? = some a := by
    rw [← e, List.getElem?_append_right (by simp; omega), List.getElem?_append_right (by rw [rows_length]; simp; omega)]
    rw [show 6 + n + 6 * ts.length - (h5 ++ [n] ++ p ++ [m]).length - (rows ts).length = 0 by rw [rows_length]; simp; omega]; rfl
  rw [List.getElem?_take] at h1
  split at h1
  · unfold Sp.nums at h1
    rw [List.getElem?_append_right (by simp [Sp.head]; omega), List.getElem?_append_right (by simp [Sp.head, nats]; omega), List.getElem?_append_right (by simp [Sp.head, nats]; omega)] at h1
    have := rows_at y.tasks ts.length a (by rw [← h1]; congr 1; simp [Sp.head, nats]; omega)
    omega
  · cases h1
/-! ### The end -/
def Tsk.nn (t : Tsk) : Prop := 0 ≤ t.lim ∧ 0 ≤ t.win ∧ 0 ≤ t.bas ∧ 0 ≤ t.most ∧ 0 ≤ t.prb
structure SpNn (s : Sp) : Prop where
  id : 0 ≤ s.id
  c : 0 ≤ s.c
  m : 0 ≤ s.m
  d : 0 ≤ s.d
  ports : ∀ p ∈ s.ports, 0 ≤ p
  tasks : ∀ t ∈ s.tasks, Tsk.nn t
theorem good_nn {s : Sp} (g : s.good) : SpNn s := ⟨g.id.1, g.c.1, g.m.1, g.d.1, fun p hp => by have := g.port p hp; omega, fun t ht => by
  have g := g.task t ht
  have h1 := g.lim
  have h2 := g.win
  have h3 := g.bas
  have h4 := g.prb
  exact ⟨by omega, by omega, by omega, by omega, by omega⟩⟩
theorem row_inj {t u : Tsk} (ht : Tsk.nn t) (hu : Tsk.nn u) (h : t.row = u.row) : t = u := by
  obtain ⟨h1, h2, h3, h4, h5⟩ := ht
  obtain ⟨g1, g2, g3, g4, g5⟩ := hu
  simp only [Tsk.row, List.cons.injEq, and_true] at h
  obtain ⟨e0, e1, e2, e3, e4, e5⟩ := h
  cases t with
  | mk a b c d e f =>
    cases u with
    | mk a' b' c' d' e' f' =>
      simp only at h1 h2 h3 h4 h5 g1 g2 g3 g4 g5 e0 e1 e2 e3 e4 e5
      have ea : a = a' := by cases a <;> cases a' <;> simp_all
      simp only [Tsk.mk.injEq]
      exact ⟨ea, by omega, by omega, by omega, by omega, by omega⟩
theorem rows_inj : ∀ {l k : List Tsk}, (∀ t ∈ l, Tsk.nn t) → (∀ t ∈ k, Tsk.nn t) → rows l = rows k → l = k
  | [], [], _, _, _ => rfl
  | [], u :: k, _, _, h => by rw [rows_cons] at h; simp [rows, Tsk.row] at h
  | t :: l, [], _, _, h => by rw [rows_cons] at h; simp [rows, Tsk.row] at h
  | t :: l, u :: k, hl, hk, h => by
    rw [rows_cons, rows_cons] at h
    obtain ⟨h1, h2⟩ := List.append_inj h (by simp [Tsk.row])
    rw [row_inj (hl t (by simp)) (hk u (by simp)) h1, rows_inj (fun x hx => hl x (by simp [hx])) (fun x hx => hk x (by simp [hx])) h2]
theorem nats_inj {l k : List Int} (hl : ∀ p ∈ l, 0 ≤ p) (hk : ∀ p ∈ k, 0 ≤ p) (h : nats l = nats k) : l = k := by
  rw [← ints_nats hl, h, ints_nats hk]
theorem nums_inj {x y : Sp} (hx : SpNn x) (hy : SpNn y) (hp : x.ports.length = y.ports.length) (h : x.nums = y.nums) : x = y := by
  unfold Sp.nums at h
  obtain ⟨h1, h2⟩ := List.append_inj h (by simp [Sp.head])
  obtain ⟨h3, h4⟩ := List.append_inj h2 (by simp [nats, hp])
  obtain ⟨h5, h6⟩ := List.append_inj h4 rfl
  simp only [Sp.head, List.cons.injEq, and_true] at h1
  obtain ⟨e1, e2, e3, e4, _⟩ := h1
  have ep := nats_inj hx.ports hy.ports h3
  have et := rows_inj hx.tasks hy.tasks h6
  have k1 := hx.id
  have k2 := hx.c
  have k3 := hx.m
  have k4 := hx.d
  have j1 := hy.id
  have j2 := hy.c
  have j3 := hy.m
  have j4 := hy.d
  cases x; cases y
  simp only at e1 e2 e3 e4 ep et k1 k2 k3 k4 j1 j2 j3 j4
  simp only [Sp.mk.injEq]
  exact ⟨by omega, by omega, by omega, by omega, ep, et⟩
/-- All has been read, and is looked at. -/
theorem Trk.done {s0 s : ByteArray} {S : Sp} {k : Nat} {b : Bool} (h : Trk s0 k S.nums s b) (hS : SpNn S) :
    ((b || spSays S != 0) = false → SpRead s0 S s) ∧ ((b || spSays S != 0) = true → NoRead s0) := by
  cases b with
  | true => exact ⟨by simp, fun _ => h.bad rfl⟩
  | false =>
    rw [Bool.false_or]
    constructor
    · intro e
      have g : S.good := (sp_say S).1 (by simpa using e)
      exact ⟨g, (reads_back (h.ok rfl)).2.2⟩
    · intro e y u hy
      have hne : spSays S ≠ 0 := by simpa using e
      have e1 := (read_take hy (h.ok rfl) (h.fit rfl y u hy)).1
      have hk := h.len rfl
      have e2 : [S.id.toNat, S.c.toNat, S.m.toNat, S.d.toNat] ++ [S.ports.length] ++ nats S.ports ++ [S.tasks.length] ++ rows S.tasks = y.nums.take k := by
        rw [← e1]; simp [Sp.nums, Sp.head]
      have hn := ports_of (h5 := [S.id.toNat, S.c.toNat, S.m.toNat, S.d.toNat]) (n := S.ports.length) (r := nats S.ports ++ [S.tasks.length] ++ rows S.tasks) (y := y) (k := k) (by rw [← e2]; simp) rfl
      have hm := tasks_of e2 rfl (by simp [nats])
      have hlen : k = y.nums.length := by rw [← hk, nums_len, nums_len, hn, hm]
      rw [hlen, List.take_length] at e1
      have : y = S := nums_inj (good_nn hy.1) hS hn e1.symm
      subst this
      exact hne ((sp_say _).2 hy.1)
/-! ### A task -/
theorem Trk.relist {s0 s : ByteArray} {k : Nat} {l m : List Nat} {b : Bool} (h : Trk s0 k l s b) (e : b = false → l = m) : Trk s0 k m s b := by
  cases b with
  | false => rw [← e rfl]; exact h
  | true => exact ⟨by simp, by simp, fun _ => h.bad rfl⟩
theorem NumR.before {s t : ByteArray} {b c : Bool} {x : Int} (h : NumR s b x t c) (hc : c = false) : b = false := by
  rcases h with ⟨hb, _⟩ | ⟨hc', _⟩
  · exact hb
  · rw [hc] at hc'; cases hc'
theorem Trk.more {s0 s t : ByteArray} {h5 p r : List Nat} {k n m : Nat} {b c : Bool} {x : Int} (h : Trk s0 k (h5 ++ [n] ++ p ++ [m] ++ r) s b) (hn : NumR s b x t c) (h4 : h5.length = 4)
    (hp : b = false → p.length = n) (hk : b = false → k < 6 + n + 6 * m) : Trk s0 (k + 1) (h5 ++ [n] ++ p ++ [m] ++ (r ++ [x.toNat])) t c := by
  have h1 := h.num hn (fun hb _ u _ e => room_tasks e h4 (hp hb) (hk hb))
  rw [List.append_assoc] at h1
  exact h1
theorem Trk.task {s0 s t1 t2 t3 t4 t5 : ByteArray} {h5 p : List Nat} {ts : List Tsk} {k n m : Nat} {b c1 c2 c3 c4 c5 : Bool} {a y1 y2 y3 y4 y5 : Int} (h : Trk s0 (k + 1) (h5 ++ [n] ++ p ++ [m] ++ (rows ts ++ [a.toNat])) s b)
    (n1 : NumR s b y1 t1 c1) (n2 : NumR t1 c1 y2 t2 c2) (n3 : NumR t2 c2 y3 t3 c3) (n4 : NumR t3 c3 y4 t4 c4) (n5 : NumR t4 c4 y5 t5 c5) (h4 : h5.length = 4)
    (hp : b = false → p.length = n) (hk : b = false → k + 6 ≤ 6 + n + 6 * m) (ha : b = false → a ≤ 1) (ha0 : 0 ≤ a) :
    Trk s0 (k + 6) (h5 ++ [n] ++ p ++ [m] ++ rows (ts ++ [⟨a == 1, y1, y2, y3, y4, y5⟩])) t5 c5 := by
  have b1 := fun e => n1.before e
  have b2 := fun e => b1 (n2.before e)
  have b3 := fun e => b2 (n3.before e)
  have b4 := fun e => b3 (n4.before e)
  have b5 := fun e => b4 (n5.before e)
  have g1 := h.more n1 h4 hp (fun e => by have := hk e; omega)
  have g2 := g1.more n2 h4 (fun e => hp (b1 e)) (fun e => by have := hk (b1 e); omega)
  have g3 := g2.more n3 h4 (fun e => hp (b2 e)) (fun e => by have := hk (b2 e); omega)
  have g4 := g3.more n4 h4 (fun e => hp (b3 e)) (fun e => by have := hk (b3 e); omega)
  have g5 := g4.more n5 h4 (fun e => hp (b4 e)) (fun e => by have := hk (b4 e); omega)
  refine g5.relist fun e => ?_
  have ha1 := ha (b5 e)
  have e1 : a.toNat = if (a == 1) = true then 1 else 0 := by
    rcases (by omega : a = 0 ∨ a = 1) with rfl | rfl <;> rfl
  have e2 : rows (ts ++ [⟨a == 1, y1, y2, y3, y4, y5⟩]) = rows ts ++ (⟨a == 1, y1, y2, y3, y4, y5⟩ : Tsk).row := by simp [rows]
  rw [e2, e1]
  simp [Tsk.row]
end Go.Proofs.YtngojgocplmedaaR.Ls
