/-
  Layer 10, plain mathematics: lists in ascending order, each number once; Meet and Union as sets. (Nothing here speaks of the program.)
-/
import Derived.Test.YtngojgocplmedaaRBa
namespace Go.Proofs.YtngojgocplmedaaR.Po
set_option linter.unusedVariables false

def Asc (l : List Int) : Prop := l.Pairwise (· < ·)
/-- A number put into an ascending list, if it is not there. -/
def ins (n : Int) : List Int → List Int
  | [] => [n]
  | x :: l => if x < n then x :: ins n l else if x = n then x :: l else n :: x :: l
theorem mem_ins {n x : Int} {l : List Int} : x ∈ ins n l ↔ x = n ∨ x ∈ l := by
  induction l with
  | nil => simp [ins]
  | cons y l ih =>
    unfold ins
    split
    · rw [List.mem_cons, ih, List.mem_cons]
      constructor
      · rintro (h | h | h)
        · exact .inr (.inl h)
        · exact .inl h
        · exact .inr (.inr h)
      · rintro (h | h | h)
        · exact .inr (.inl h)
        · exact .inl h
        · exact .inr (.inr h)
    · split
      · rename_i h
        subst h
        rw [List.mem_cons]
        constructor
        · exact fun h => .inr h
        · rintro (h | h)
          · exact .inl h
          · exact h
      · rw [List.mem_cons]
theorem asc_ins {n : Int} {l : List Int} (h : Asc l) : Asc (ins n l) := by
  induction l with
  | nil => exact List.pairwise_singleton _ _
  | cons y l ih =>
    have h1 := List.pairwise_cons.1 h
    unfold ins
    split
    · rename_i hy
      refine List.pairwise_cons.2 ⟨fun z hz => ?_, ih h1.2⟩
      rcases mem_ins.1 hz with rfl | hz
      · exact hy
      · exact h1.1 z hz
    · split
      · exact h
      · refine List.pairwise_cons.2 ⟨fun z hz => ?_, h⟩
        rcases List.mem_cons.1 hz with rfl | hz
        · omega
        · have := h1.1 z hz; omega
theorem ins_mem {n : Int} {l : List Int} (ha : Asc l) (h : n ∈ l) : ins n l = l := by
  induction l with
  | nil => cases h
  | cons y l ih =>
    have h1 := List.pairwise_cons.1 ha
    unfold ins
    rcases List.mem_cons.1 h with rfl | h
    · rw [if_neg (by omega), if_pos rfl]
    · rw [if_pos (h1.1 n h), ih h1.2 h]
/-- The specification's way: the first k are less, the one behind them is not. -/
theorem ins_at {n : Int} (l r : List Int) (h : ∀ x ∈ l, x < n) (hr : ∀ x, r.head? = some x → n < x) : ins n (l ++ r) = l ++ n :: r := by
  induction l with
  | nil =>
    cases r with
    | nil => rfl
    | cons y r =>
      have := hr y rfl
      show (if y < n then y :: ins n r else if y = n then y :: r else n :: y :: r) = _
      rw [if_neg (by omega), if_neg (by omega)]; rfl
  | cons y l ih =>
    show (if y < n then y :: ins n (l ++ r) else _) = _
    rw [if_pos (h y (by simp)), ih (fun x hx => h x (by simp [hx]))]; rfl
def srt (l : List Int) : List Int := l.foldl (fun o x => ins x o) []
theorem srt_go {l : List Int} : ∀ {o : List Int}, Asc o → Asc (l.foldl (fun o x => ins x o) o) ∧ ∀ x, x ∈ l.foldl (fun o x => ins x o) o ↔ x ∈ o ∨ x ∈ l := by
  induction l with
  | nil => intro o h; exact ⟨h, fun x => by simp⟩
  | cons y l ih =>
    intro o h
    obtain ⟨h1, h2⟩ := ih (asc_ins (n := y) h)
    refine ⟨h1, fun x => ?_⟩
    rw [List.foldl_cons, h2, mem_ins, List.mem_cons]
    constructor
    · rintro ((h | h) | h)
      · exact .inr (.inl h)
      · exact .inl h
      · exact .inr (.inr h)
    · rintro (h | h | h)
      · exact .inl (.inr h)
      · exact .inl (.inl h)
      · exact .inr h
theorem asc_srt (l : List Int) : Asc (srt l) := (srt_go List.Pairwise.nil).1
theorem mem_srt {l : List Int} {x : Int} : x ∈ srt l ↔ x ∈ l := by rw [srt, (srt_go List.Pairwise.nil).2]; simp
theorem srt_snoc (l : List Int) (n : Int) : srt (l ++ [n]) = ins n (srt l) := by unfold srt; rw [List.foldl_append]; rfl
theorem asc_ext : ∀ {l m : List Int}, Asc l → Asc m → (∀ x, x ∈ l ↔ x ∈ m) → l = m
  | [], [], _, _, _ => rfl
  | [], y :: m, _, _, h => by have := (h y).2 (by simp); cases this
  | y :: l, [], _, _, h => by have := (h y).1 (by simp); cases this
  | x :: l, y :: m, h1, h2, h => by
    have a1 := List.pairwise_cons.1 h1
    have a2 := List.pairwise_cons.1 h2
    have e : x = y := by
      rcases List.mem_cons.1 ((h x).1 (by simp)) with e | hx
      · exact e
      · rcases List.mem_cons.1 ((h y).2 (by simp)) with e | hy
        · exact e.symm
        · have := a1.1 y hy; have := a2.1 x hx; omega
    subst e
    rw [asc_ext a1.2 a2.2 (fun z => ?_)]
    constructor
    · intro hz
      rcases List.mem_cons.1 ((h z).1 (by simp [hz])) with e | hm
      · subst e; have := a1.1 z hz; omega
      · exact hm
    · intro hz
      rcases List.mem_cons.1 ((h z).2 (by simp [hz])) with e | hm
      · subst e; have := a2.1 z hz; omega
      · exact hm
def meet (a b : List Int) : List Int := srt (a.filter fun x => decide (x ∈ b))
def union (ls : List (List Int)) : List Int := srt ls.flatten
theorem mem_meet {a b : List Int} {x : Int} : x ∈ meet a b ↔ x ∈ a ∧ x ∈ b := by unfold meet; rw [mem_srt, List.mem_filter, decide_eq_true_iff]
theorem mem_union {ls : List (List Int)} {x : Int} : x ∈ union ls ↔ ∃ l, l ∈ ls ∧ x ∈ l := by unfold union; rw [mem_srt, List.mem_flatten]
theorem asc_meet (a b : List Int) : Asc (meet a b) := asc_srt _
theorem asc_union (ls : List (List Int)) : Asc (union ls) := asc_srt _
theorem mem_union2 {a b : List Int} {x : Int} : x ∈ union [a, b] ↔ x ∈ a ∨ x ∈ b := by rw [mem_union]; simp
/-! ### Consequences -/
theorem meet_comm (a b : List Int) : meet a b = meet b a := asc_ext (asc_meet _ _) (asc_meet _ _) fun x => by rw [mem_meet, mem_meet, And.comm]
theorem meet_congr {a b c d : List Int} (h : ∀ x, x ∈ a ↔ x ∈ c) (k : ∀ x, x ∈ b ↔ x ∈ d) : meet a b = meet c d := asc_ext (asc_meet _ _) (asc_meet _ _) fun x => by rw [mem_meet, mem_meet, h, k]
theorem union_congr {l m : List (List Int)} (h : ∀ x, (∃ a, a ∈ l ∧ x ∈ a) ↔ (∃ a, a ∈ m ∧ x ∈ a)) : union l = union m := asc_ext (asc_union _) (asc_union _) fun x => by rw [mem_union, mem_union, h]
theorem meet_assoc (a b c : List Int) : meet (meet a b) c = meet a (meet b c) := asc_ext (asc_meet _ _) (asc_meet _ _) fun x => by rw [mem_meet, mem_meet, mem_meet, mem_meet, and_assoc]
theorem meet_self (a : List Int) : meet a a = union [a] := asc_ext (asc_meet _ _) (asc_union _) fun x => by rw [mem_meet, mem_union]; simp
theorem union_self (a : List Int) : union [a, a] = union [a] := union_congr fun x => by simp
theorem meet_union (a b c : List Int) : meet a (union [b, c]) = union [meet a b, meet a c] := asc_ext (asc_meet _ _) (asc_union _) fun x => by rw [mem_meet, mem_union2, mem_union2, mem_meet, mem_meet, and_or_left]
theorem union_meet (a b c : List Int) : union [a, meet b c] = meet (union [a, b]) (union [a, c]) := asc_ext (asc_union _) (asc_meet _ _) fun x => by rw [mem_meet, mem_union2, mem_union2, mem_union2, mem_meet, or_and_left]
theorem union_absorb (a b : List Int) : union [a, meet a b] = union [a] := asc_ext (asc_union _) (asc_union _) fun x => by rw [mem_union2, mem_meet, mem_union]; simp; exact fun h _ => h
theorem meet_absorb (a b : List Int) : meet a (union [a, b]) = union [a] := asc_ext (asc_meet _ _) (asc_union _) fun x => by rw [mem_meet, mem_union2, mem_union]; simp; exact fun h => .inl h
theorem union_step (a b c : List Int) : union [union [a, b], c] = union [a, b, c] := asc_ext (asc_union _) (asc_union _) fun x => by rw [mem_union2, mem_union2, mem_union]; simp [or_assoc]
/-! ### How long they are -/
theorem asc_le {l m : List Int} (hl : Asc l) (hm : Asc m) (h : ∀ x, x ∈ l → x ∈ m) : l.length ≤ m.length := by
  induction m generalizing l with
  | nil =>
    cases l with
    | nil => exact Nat.le_refl _
    | cons x l => have := h x (by simp); cases this
  | cons y m ih =>
    have a2 := List.pairwise_cons.1 hm
    cases l with
    | nil => exact Nat.zero_le _
    | cons x l =>
      have a1 := List.pairwise_cons.1 hl
      have key : ∀ z, z ∈ l → z ∈ m := fun z hz => by
        rcases List.mem_cons.1 (h z (by simp [hz])) with e | hz2
        · subst e
          rcases List.mem_cons.1 (h x (by simp)) with e | hx
          · subst e; have := a1.1 x hz; omega
          · have := a1.1 z hz; have := a2.1 x hx; omega
        · exact hz2
      have := ih a1.2 a2.2 key
      simp only [List.length_cons]; omega
theorem meet_le_union (a b : List Int) : (meet a b).length ≤ (union [a, b]).length := asc_le (asc_meet _ _) (asc_union _) fun x hx => mem_union2.2 (.inl (mem_meet.1 hx).1)
theorem ins_length {n : Int} {l : List Int} (h : ¬ n ∈ l) : (ins n l).length = l.length + 1 := by
  induction l with
  | nil => rfl
  | cons y l ih =>
    unfold ins
    have hy : ¬ y = n := fun e => h (by simp [e])
    have hl : ¬ n ∈ l := fun e => h (by simp [e])
    split
    · rw [List.length_cons, ih hl]; rfl
    · first | (rw [if_neg hy]; rfl) | rfl
theorem union_cons (x : Int) (a b : List Int) : union [x :: a, b] = ins x (union [a, b]) := asc_ext (asc_union _) (asc_ins (asc_union _)) fun y => by rw [mem_union2, mem_ins, mem_union2, List.mem_cons, or_assoc]
theorem meet_cons_in {x : Int} {a b : List Int} (h : x ∈ b) : meet (x :: a) b = ins x (meet a b) := asc_ext (asc_meet _ _) (asc_ins (asc_meet _ _)) fun y => by
  rw [mem_meet, mem_ins, mem_meet, List.mem_cons]
  constructor
  · rintro ⟨rfl | h1, h2⟩
    · exact .inl rfl
    · exact .inr ⟨h1, h2⟩
  · rintro (rfl | ⟨h1, h2⟩)
    · exact ⟨.inl rfl, h⟩
    · exact ⟨.inr h1, h2⟩
theorem meet_cons_out {x : Int} {a b : List Int} (h : ¬ x ∈ b) : meet (x :: a) b = meet a b := asc_ext (asc_meet _ _) (asc_meet _ _) fun y => by
  rw [mem_meet, mem_meet, List.mem_cons]
  constructor
  · rintro ⟨rfl | h1, h2⟩
    · exact absurd h2 h
    · exact ⟨h1, h2⟩
  · rintro ⟨h1, h2⟩
    exact ⟨.inr h1, h2⟩
theorem union_nil {b : List Int} (h : Asc b) : union [[], b] = b := asc_ext (asc_union _) h fun x => by rw [mem_union2]; simp
theorem meet_nil (b : List Int) : meet [] b = [] := asc_ext (asc_meet _ _) List.Pairwise.nil fun x => by rw [mem_meet]; simp
/-- Of two ascending lists, each number once. -/
theorem lengths {a b : List Int} (ha : Asc a) (hb : Asc b) : (meet a b).length + (union [a, b]).length = a.length + b.length := by
  induction a with
  | nil => rw [meet_nil, union_nil hb]; first | done | simp
  | cons x a ih =>
    have h1 := List.pairwise_cons.1 ha
    have hx : ¬ x ∈ a := fun h => by have := h1.1 x h; omega
    have := ih h1.2
    rw [union_cons, List.length_cons]
    by_cases h : x ∈ b
    · rw [meet_cons_in h, ins_length (fun k => hx (mem_meet.1 k).1), ins_mem (asc_union _) (mem_union2.2 (.inr h))]
      omega
    · rw [meet_cons_out h, ins_length (fun k => (mem_union2.1 k).elim hx h)]
      omega
/-- A set of ports. -/
def isSet (l : List Int) : Prop := l.length ≤ 8 ∧ Asc l ∧ ∀ x ∈ l, 1 ≤ x ∧ x ≤ 65535
theorem meet_set {a b : List Int} (ha : isSet a) (hb : isSet b) : isSet (meet a b) :=
  ⟨Nat.le_trans (asc_le (asc_meet _ _) ha.2.1 fun x hx => (mem_meet.1 hx).1) ha.1, asc_meet _ _, fun x hx => ha.2.2 x (mem_meet.1 hx).1⟩
end Go.Proofs.YtngojgocplmedaaR.Po
