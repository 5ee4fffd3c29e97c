/-
  Layer 13, plain mathematics: specifications as rows of numbers, written and read. (Nothing here speaks of the program.)
-/
import Derived.Test.YtngojgocplmedaaRYe
namespace Go.Proofs.YtngojgocplmedaaR.Sp
open Go.Proofs.YtngojgocplmedaaR.Pk Go.Proofs.YtngojgocplmedaaR.Nr
set_option linter.unusedVariables false

structure Tsk where
  always : Bool
  lim : Int
  win : Int
  bas : Int
  most : Int
  prb : Int
deriving DecidableEq, Inhabited
structure Sp where
  id : Int
  c : Int
  m : Int
  d : Int
  ports : List Int
  tasks : List Tsk
deriving DecidableEq, Inhabited
structure Tsk.good (t : Tsk) : Prop where
  lim : 1 ≤ t.lim ∧ t.lim ≤ 8
  win : 1 ≤ t.win ∧ t.win ≤ 1099511627776
  bas : 1 ≤ t.bas ∧ t.bas ≤ t.most
  most : t.most ≤ 1099511627776
  prb : 0 ≤ t.prb ∧ t.prb ≤ 1000
structure Sp.good (s : Sp) : Prop where
  id : 0 ≤ s.id ∧ s.id ≤ 2147483648
  c : 0 ≤ s.c ∧ s.c ≤ 1099511627776
  m : 0 ≤ s.m ∧ s.m ≤ 1099511627776
  d : 0 ≤ s.d ∧ s.d ≤ 1099511627776
  few : s.ports.length ≤ 8
  port : ∀ p ∈ s.ports, 1 ≤ p ∧ p ≤ 65535
  asc : s.ports.Pairwise (· < ·)
  some : s.tasks ≠ []
  most : s.tasks.length ≤ 4
  task : ∀ t ∈ s.tasks, t.good
def Tsk.row (t : Tsk) : List Nat := [if t.always then 1 else 0, t.lim.toNat, t.win.toNat, t.bas.toNat, t.most.toNat, t.prb.toNat]
def rows (l : List Tsk) : List Nat := l.flatMap Tsk.row
theorem rows_cons (t : Tsk) (l : List Tsk) : rows (t :: l) = t.row ++ rows l := by simp [rows]
theorem rows_length (l : List Tsk) : (rows l).length = 6 * l.length := by
  induction l with
  | nil => rfl
  | cons t l ih => rw [rows_cons, List.length_append, ih, List.length_cons]; simp [Tsk.row]; omega
def Sp.head (s : Sp) : List Nat := [s.id.toNat, s.c.toNat, s.m.toNat, s.d.toNat, s.ports.length]
def nats (l : List Int) : List Nat := l.map Int.toNat
/-- The numbers of a specification. -/
def Sp.nums (s : Sp) : List Nat := s.head ++ (nats s.ports ++ ([s.tasks.length] ++ rows s.tasks))
def Sp.bytes (s : Sp) : ByteArray := encs s.nums
/-- Six numbers are a task. -/
def tasksOf : List Nat → Option (List Tsk)
  | a :: l :: w :: b :: m :: p :: r => if a ≤ 1 then (tasksOf r).map (⟨a == 1, l, w, b, m, p⟩ :: ·) else none
  | [] => some []
  | _ => none
theorem tasksOf_cons (a l w b m p : Nat) (r : List Nat) : tasksOf (a :: l :: w :: b :: m :: p :: r) = if a ≤ 1 then (tasksOf r).map (⟨a == 1, l, w, b, m, p⟩ :: ·) else none := rfl
theorem tasksOf_rows (l : List Tsk) (h : ∀ t ∈ l, t.good) : tasksOf (rows l) = some l := by
  induction l with
  | nil => rfl
  | cons t l ih =>
    have g := h t (by simp)
    have g1 := g.lim
    have g2 := g.win
    have g3 := g.bas
    have g4 := g.prb
    rw [rows_cons]
    show tasksOf ((if t.always then 1 else 0) :: t.lim.toNat :: t.win.toNat :: t.bas.toNat :: t.most.toNat :: t.prb.toNat :: rows l) = _
    rw [tasksOf_cons, if_pos (by split <;> omega), ih (fun x hx => h x (by simp [hx]))]
    have e : (⟨(if t.always then 1 else 0) == 1, t.lim.toNat, t.win.toNat, t.bas.toNat, t.most.toNat, t.prb.toNat⟩ : Tsk) = t := by
      cases t with
      | mk a l w b m p =>
        simp only at g1 g2 g3 g4
        simp only [Tsk.mk.injEq]
        refine ⟨by cases a <;> rfl, ?_, ?_, ?_, ?_, ?_⟩ <;> omega
    exact congrArg (fun z => some (z :: l)) e
theorem tasksOf_back : ∀ {r : List Nat} {l : List Tsk}, tasksOf r = some l → rows l = r ∧ ∀ t ∈ l, 0 ≤ t.lim ∧ 0 ≤ t.win ∧ 0 ≤ t.bas ∧ 0 ≤ t.most ∧ 0 ≤ t.prb
  | [], l, h => by
    have h1 : some [] = some l := h
    obtain rfl := Option.some.inj h1
    exact ⟨rfl, by simp⟩
  | [_], l, h => by cases h
  | [_, _], l, h => by cases h
  | [_, _, _], l, h => by cases h
  | [_, _, _, _], l, h => by cases h
  | [_, _, _, _, _], l, h => by cases h
  | a :: x :: w :: b :: m :: p :: r, l, h => by
    rw [tasksOf_cons] at h
    by_cases ha : a ≤ 1
    · rw [if_pos ha] at h
      cases e : tasksOf r with
      | none => rw [e] at h; cases h
      | some k =>
        rw [e] at h
        have h1 : some (_ :: k) = some l := h
        obtain rfl := Option.some.inj h1
        obtain ⟨h2, h3⟩ := tasksOf_back e
        refine ⟨?_, fun t ht => ?_⟩
        · rw [rows_cons, h2]
          have : (if (a == 1) = true then 1 else 0) = a := by
            rcases (by omega : a = 0 ∨ a = 1) with rfl | rfl <;> rfl
          show (if (a == 1) = true then 1 else 0) :: _ = _
          rw [this]; rfl
        · rcases List.mem_cons.1 ht with rfl | ht
          · refine ⟨?_, ?_, ?_, ?_, ?_⟩ <;> exact Int.natCast_nonneg _
          · exact h3 t ht
    · rw [if_neg ha] at h; cases h
/-! ### What is read -/
def ints (l : List Nat) : List Int := l.map fun (n : Nat) => (n : Int)
theorem ints_nats {l : List Int} (h : ∀ p ∈ l, 0 ≤ p) : ints (nats l) = l := by
  unfold ints nats
  rw [List.map_map]
  conv => rhs; rw [← List.map_id l]
  refine List.map_congr_left fun p hp => ?_
  show ((p.toNat : Nat) : Int) = p
  have := h p hp
  omega
theorem nats_ints (l : List Nat) : nats (ints l) = l := by
  unfold ints nats
  rw [List.map_map]
  conv => rhs; rw [← List.map_id l]
  refine List.map_congr_left fun n _ => ?_
  show ((n : Int)).toNat = n
  omega
/-- What reading bytes finds: the specification and the rest. (A proposition: good, and these are its bytes.) -/
def Read (s : ByteArray) (x : Sp) (t : ByteArray) : Prop := x.good ∧ s = x.bytes ++ t
theorem nums_top {x : Sp} (g : x.good) : ∀ n ∈ x.nums, n ≤ top := by
  intro n hn
  have h1 := g.id
  have h2 := g.c
  have h3 := g.m
  have h4 := g.d
  have h5 := g.few
  have h6 := g.most
  unfold top
  rw [Sp.nums, List.mem_append, List.mem_append, List.mem_append] at hn
  rcases hn with hn | hn | hn | hn
  · simp [Sp.head] at hn
    rcases hn with rfl | rfl | rfl | rfl | rfl <;> omega
  · obtain ⟨p, hp, rfl⟩ := List.mem_map.1 hn
    have := g.port p hp
    omega
  · rw [List.mem_singleton] at hn; subst hn; omega
  · obtain ⟨t, ht, hn⟩ := List.mem_flatMap.1 hn
    have gt := g.task t ht
    have k1 := gt.lim
    have k2 := gt.win
    have k3 := gt.bas
    have k4 := gt.most
    have k5 := gt.prb
    simp [Tsk.row] at hn
    rcases hn with rfl | rfl | rfl | rfl | rfl | rfl
    · split <;> omega
    all_goals omega
/-- The four reads in a row. -/
theorem reads_bytes {x : Sp} (g : x.good) (t : ByteArray) :
    ∃ s1 s2 s3, reads 5 (x.bytes ++ t) = some (x.head, s1) ∧ reads x.ports.length s1 = some (nats x.ports, s2) ∧ reads 1 s2 = some ([x.tasks.length], s3) ∧ reads (6 * x.tasks.length) s3 = some (rows x.tasks, t) := by
  have ht := nums_top g
  have m1 : ∀ n ∈ x.head, n ≤ top := fun n hn => ht n (by rw [Sp.nums]; simp [hn])
  have m2 : ∀ n ∈ nats x.ports, n ≤ top := fun n hn => ht n (by rw [Sp.nums]; simp [hn])
  have m3 : ∀ n ∈ [x.tasks.length], n ≤ top := fun n hn => ht n (by rw [Sp.nums]; rw [List.mem_append, List.mem_append, List.mem_append]; exact .inr (.inr (.inl hn)))
  have m4 : ∀ n ∈ rows x.tasks, n ≤ top := fun n hn => ht n (by rw [Sp.nums]; simp [hn])
  refine ⟨encs (nats x.ports) ++ (encs [x.tasks.length] ++ (encs (rows x.tasks) ++ t)), encs [x.tasks.length] ++ (encs (rows x.tasks) ++ t), encs (rows x.tasks) ++ t, ?_, ?_, reads_encs [x.tasks.length] m3 (encs (rows x.tasks) ++ t), ?_⟩
  · have := reads_encs x.head m1 (encs (nats x.ports) ++ (encs [x.tasks.length] ++ (encs (rows x.tasks) ++ t)))
    rw [show x.bytes ++ t = encs x.head ++ (encs (nats x.ports) ++ (encs [x.tasks.length] ++ (encs (rows x.tasks) ++ t))) by
      rw [Sp.bytes, Sp.nums, encs_append, encs_append, encs_append, ByteArray.append_assoc, ByteArray.append_assoc, ByteArray.append_assoc]]
    exact this
  · have := reads_encs (nats x.ports) m2 (encs [x.tasks.length] ++ (encs (rows x.tasks) ++ t))
    rw [show (nats x.ports).length = x.ports.length by simp [nats]] at this
    exact this
  · have := reads_encs (rows x.tasks) m4 t
    rw [rows_length] at this
    exact this
/-- What four reads in a row find is a specification's bytes. -/
theorem read_of {s s1 s2 s3 t : ByteArray} {a b c d k n : Nat} {p r : List Nat} {l : List Tsk} (h1 : reads 5 s = some ([a, b, c, d, n], s1)) (h2 : reads n s1 = some (p, s2)) (h3 : reads 1 s2 = some ([k], s3)) (h4 : reads (6 * k) s3 = some (r, t))
    (h5 : tasksOf r = some l) (g : (⟨a, b, c, d, ints p, l⟩ : Sp).good) : Read s ⟨a, b, c, d, ints p, l⟩ t := by
  refine ⟨g, ?_⟩
  obtain ⟨_, _, rfl⟩ := reads_back h1
  obtain ⟨e2, _, rfl⟩ := reads_back h2
  obtain ⟨_, _, rfl⟩ := reads_back h3
  obtain ⟨e4, _, rfl⟩ := reads_back h4
  obtain ⟨e5, _⟩ := tasksOf_back h5
  have hk : l.length = k := by rw [← e5, rows_length] at e4; omega
  have hp : (ints p).length = n := by simp [ints, e2]
  rw [Sp.bytes, Sp.nums, encs_append, encs_append, encs_append, ByteArray.append_assoc, ByteArray.append_assoc, ByteArray.append_assoc]
  have eh : (⟨a, b, c, d, ints p, l⟩ : Sp).head = [a, b, c, d, n] := by
    simp only [Sp.head, Int.toNat_natCast, hp]
  rw [eh]
  show _ = encs [a, b, c, d, n] ++ (encs (nats (ints p)) ++ (encs [l.length] ++ (encs (rows l) ++ t)))
  rw [nats_ints, hk, e5]
/-- Whatever begins with the bytes of a specification begins with those of one alone. -/
theorem read_one {s t u : ByteArray} {x y : Sp} (h : Read s x t) (k : Read s y u) : x = y ∧ t = u := by
  obtain ⟨gx, rfl⟩ := h
  obtain ⟨gy, e⟩ := k
  obtain ⟨s1, s2, s3, a1, a2, a3, a4⟩ := reads_bytes gx t
  obtain ⟨r1, r2, r3, b1, b2, b3, b4⟩ := reads_bytes gy u
  rw [← e, a1] at b1
  obtain ⟨c1, rfl⟩ := Prod.mk.inj (Option.some.inj b1)
  simp only [Sp.head, List.cons.injEq, and_true] at c1
  obtain ⟨d1, d2, d3, d4, d5⟩ := c1
  rw [← d5, a2] at b2
  obtain ⟨c2, rfl⟩ := Prod.mk.inj (Option.some.inj b2)
  rw [a3] at b3
  obtain ⟨c3, rfl⟩ := Prod.mk.inj (Option.some.inj b3)
  have c3 := (List.cons.inj c3).1
  rw [← c3, a4] at b4
  obtain ⟨c4, rfl⟩ := Prod.mk.inj (Option.some.inj b4)
  have et : x.tasks = y.tasks := by
    have := tasksOf_rows x.tasks gx.task
    rw [c4, tasksOf_rows y.tasks gy.task] at this
    exact (Option.some.inj this).symm
  have ep : x.ports = y.ports := by
    rw [← ints_nats (l := x.ports) (fun p hp => by have := gx.port p hp; omega), c2, ints_nats (fun p hp => by have := gy.port p hp; omega)]
  have h1 := gx.id
  have h2 := gx.c
  have h3 := gx.m
  have h4 := gx.d
  have k1 := gy.id
  have k2 := gy.c
  have k3 := gy.m
  have k4 := gy.d
  refine ⟨?_, rfl⟩
  cases x; cases y
  simp only at et ep d1 d2 d3 d4 h1 h2 h3 h4 k1 k2 k3 k4
  simp only [Sp.mk.injEq]
  exact ⟨by omega, by omega, by omega, by omega, ep, et⟩
end Go.Proofs.YtngojgocplmedaaR.Sp
