/-
  Load, as the program does it.
-/
import Derived.Test.YtckbhjjflpobbaaGreatKd
import Derived.Test.YtckbhjjflpobbaaGreatDb
namespace Go.Proofs.YtckbhjjflpobbaaGreat.Hk
open Go.RowKit Go.Proofs.YtckbhjjflpobbaaGreat.Mem Go.Proofs.YtckbhjjflpobbaaGreat.Pk Go.Proofs.YtckbhjjflpobbaaGreat.Dz Go.Proofs.YtckbhjjflpobbaaGreat.Fz
open Go.Proofs.YtckbhjjflpobbaaGreat.Fk (set_block)

/-- Two headers compared. -/
def sameH (q b a f n q' b' a' f' n' : Int) : Bool := q == q' && (b == b' && (a == a' && (f == f' && n == n')))
theorem sameH_iff {x y : Hd} : sameH x.seq x.boot x.area x.first x.snaps y.seq y.boot y.area y.first y.snaps = true ↔ x = y := by
  unfold sameH
  cases x; cases y
  simp only [Bool.and_eq_true, beq_iff_eq, Hd.mk.injEq]
theorem eqlS (q b a f n q' b' a' f' n' : Int) (w : World) :
    (binOp .eql 136 (.agg #[.int .i64 q, .int .i64 b, .int .i64 a, .int .i64 f, .int .i64 n]) (.agg #[.int .i64 q', .int .i64 b', .int .i64 a', .int .i64 f', .int .i64 n'])).run Tryz.prog w = .ok (.bool (sameH q b a f n q' b' a' f' n')) w := by
  unfold sameH
  simp [go_sem, Tryz.underlying136]
  (repeat' split) <;> simp_all
theorem eqlH (q b a f n q' b' a' f' n' : Int) (w : World) :
    (binOp .eql 74 (.agg #[.int .i64 q, .int .i64 b, .int .i64 a, .int .i64 f, .int .i64 n]) (.agg #[.int .i64 q', .int .i64 b', .int .i64 a', .int .i64 f', .int .i64 n'])).run Tryz.prog w = .ok (.bool (sameH q b a f n q' b' a' f' n')) w := by
  unfold sameH
  simp [go_sem, Tryz.underlying74]
  (repeat' split) <;> simp_all

/-! What Load returns. -/
def slotF (S : Nat → ByteArray) (i : Nat) : Hd := (slot S i).getD Hd.nil
def top (S : Nat → ByteArray) : Hd := if (slotF S 0).seq < (slotF S 1).seq then slotF S 1 else slotF S 0
theorem slotF_or (S : Nat → ByteArray) (i : Nat) : (slot S i = none ∧ slotF S i = Hd.nil) ∨ (slot S i = some (slotF S i) ∧ 1 ≤ (slotF S i).seq) := by
  unfold slotF
  cases h : slot S i with
  | none => exact .inl ⟨rfl, rfl⟩
  | some c => exact .inr ⟨rfl, (slot_some h).1.s1⟩
theorem newest_top (S : Nat → ByteArray) : (newest S = none ∧ top S = Hd.nil) ∨ (newest S = some (top S) ∧ 1 ≤ (top S).seq) := by
  unfold newest top
  rcases slotF_or S 0 with ⟨h0, e0⟩ | ⟨h0, e0⟩ <;> rcases slotF_or S 1 with ⟨h1, e1⟩ | ⟨h1, e1⟩
  · rw [h0, h1, e0, e1]; exact .inl ⟨rfl, by split <;> rfl⟩
  · rw [h0, h1]
    have n0 : (slotF S 0).seq = 0 := by rw [e0]; rfl
    rw [n0, if_pos (by omega)]
    exact .inr ⟨rfl, e1⟩
  · rw [h0, h1]
    have n1 : (slotF S 1).seq = 0 := by rw [e1]; rfl
    rw [n1, if_neg (by omega)]
    exact .inr ⟨rfl, e0⟩
  · rw [h0, h1]
    simp only
    split
    · exact .inr ⟨rfl, e1⟩
    · exact .inr ⟨rfl, e0⟩
/-- What Load returns of a disk: the header and the error. -/
def loads (s : Ds) : Hd × Int := if s.n < 2 then (Hd.nil, 3) else if s.fu.dead = true then (Hd.nil, 10) else match newest s.look with
  | some h => (h, 0)
  | none => (Hd.nil, 6)
theorem loads_none {s : Ds} (h2 : ¬ s.n < 2) (hd : s.fu.dead = false) (h : newest s.look = none) : loads s = (Hd.nil, 6) := by unfold loads; rw [if_neg h2, if_neg (by rw [hd]; decide), h]
theorem loads_some {s : Ds} (h2 : ¬ s.n < 2) (hd : s.fu.dead = false) {c : Hd} (h : newest s.look = some c) : loads s = (c, 0) := by unfold loads; rw [if_neg h2, if_neg (by rw [hd]; decide), h]

/-! The walk. -/
set_option maxRecDepth 100000 in
theorem load_short (F D M1 M2 : Nat) (pv : Value) (s : Ds) (w : World) (hd : Dk F D M1 M2 pv s w) (h2 : s.n < 2) :
    Calls Tryz.prog 73 #[.pointer (some ⟨D, 0, none⟩)] w fun e w' => e = .returned (.tuple #[.agg #[.int .i64 0, .int .i64 0, .int .i64 0, .int .i64 0, .int .i64 0], .int .i64 3]) ∧ Kept w w' := by
  have k0 := (Kept.refl w).alloc (.cells #[.int .i64 0, .int .i64 0, .int .i64 0, .int .i64 0, .int .i64 0] 74)
  have cs := sectors_c F D M1 M2 pv s _ (hd.keep k0)
  have t1 : decide ((s.n : Int) < 2) = true := by simp; omega
  clear hd
  go_enter Tryz.func73, Tryz.ntmps73
  go_wp2_with (go_at_call 45; (with_reducible refine cs.mono ?_); rintro e u1 ⟨rfl, rfl⟩)
  exact bodyPost_ret (v := .tuple #[.agg #[.int .i64 0, .int .i64 0, .int .i64 0, .int .i64 0, .int .i64 0], .int .i64 3]) (by simp [results, Tryz.results73, go_sem]) rfl ⟨rfl, k0⟩

/-- Behind k rounds: the result's block, the array's block. -/
structure Ld (S : Nat → ByteArray) (w : World) (k : Nat) (W : World) : Prop where
  kept : Kept w W
  hR : W.heap[w.heap.size]? = some (.cells (hcells 0 0 0 0 0) 74 (0, 0))
  hA : W.heap[w.heap.size + 1]? = some (.cells (acells (if 0 < k then slotF S 0 else Hd.nil) (if 1 < k then slotF S 1 else Hd.nil)) 141 (0, 0))
/-- The sectors that a loop of Load reads. -/
theorem read_try {F D M1 M2 : Nat} {pv : Value} {s : Ds} {w : World} (hd : Dk F D M1 M2 pv s w) (h2 : ¬ s.n < 2) (ha : s.fu.dead = false) (m : Nat) (hm : m < 2) (W : World) (hW : Kept w W) :
    Calls Tryz.prog 46 #[.pointer (some ⟨D, 0, none⟩), .int .i64 (m : Int)] W fun e w' => e = .returned (.tuple #[.string (s.look m), .int .i64 0]) ∧ Kept W w' := by
  have e : s.reads (m : Int) = (s.look m, 0) := by simp [Ds.reads, Ds.out_in (show m < s.n by omega), ha]
  have := read_c F D M1 M2 pv s (m : Int) W (hd.keep hW)
  rw [e] at this
  exact this
theorem slot_bad {S : Nat → ByteArray} {i : Nat} (h : decE (S i) = 12) : slotF S i = Hd.nil := by
  have hd : dec (S i) = none := by
    rcases decE_or (S i) with ⟨h1, _⟩ | ⟨_, h1, _⟩
    · rw [h] at h1; cases h1
    · exact h1
  unfold slotF slot; rw [hd]; rfl
theorem slot_other {S : Nat → ByteArray} {i : Nat} (h : decE (S i) = 0) (hm : ¬ (decF (S i)).seq % 2 = (i : Int)) : slotF S i = Hd.nil := by
  have hd : dec (S i) = some (decF (S i)) := by
    rcases decE_or (S i) with ⟨_, h1⟩ | ⟨h1, _⟩
    · exact h1
    · rw [h] at h1; cases h1
  unfold slotF slot; rw [hd]; simp only; rw [if_neg hm]; rfl
theorem slot_own {S : Nat → ByteArray} {i : Nat} (h : decE (S i) = 0) (hm : (decF (S i)).seq % 2 = (i : Int)) : slotF S i = decF (S i) := by
  have hd : dec (S i) = some (decF (S i)) := by
    rcases decE_or (S i) with ⟨_, h1⟩ | ⟨h1, _⟩
    · exact h1
    · rw [h] at h1; cases h1
  unfold slotF slot; rw [hd]; simp only; rw [if_pos hm]; rfl
theorem seq_pos {s : ByteArray} (h : decE s = 0) : 1 ≤ (decF s).seq := by
  rcases decE_or s with ⟨_, h1⟩ | ⟨h1, _⟩
  · exact (dec_some h1).1.s1
  · rw [h] at h1; cases h1
theorem tmod2 {x : Int} (h : 1 ≤ x) : x.tmod 2 = x % 2 := Int.tmod_eq_emod_of_nonneg (by omega)
theorem Ld.start {S : Nat → ByteArray} {w v : World} (hv : v = (w.alloc (.cells #[.int .i64 0, .int .i64 0, .int .i64 0, .int .i64 0, .int .i64 0] 74)).alloc (.cells #[.int .i64 0, .int .i64 0, .int .i64 0, .int .i64 0, .int .i64 0, .int .i64 0, .int .i64 0, .int .i64 0, .int .i64 0, .int .i64 0] 141)) : Ld S w 0 v := by
  subst hv
  refine ⟨((Kept.refl w).alloc _).alloc _, ((Kept.refl _).alloc _).at (MapKept.heap_alloc w _).1, ?_⟩
  rw [if_neg (by omega), if_neg (by omega)]
  have := (MapKept.heap_alloc (w.alloc (.cells #[.int .i64 0, .int .i64 0, .int .i64 0, .int .i64 0, .int .i64 0] 74)) (.cells (acells Hd.nil Hd.nil) 141)).1
  simpa [acells, Hd.nil] using this
theorem Ld.same {S : Nat → ByteArray} {w W W' : World} {k : Nat} (h : Ld S w k W) (hk : Kept W W') (hn : slotF S k = Hd.nil) (h2 : k < 2) : Ld S w (k + 1) W' := by
  refine ⟨h.kept.trans hk, hk.at h.hR, ?_⟩
  have := hk.at h.hA
  rw [this]
  rcases (by omega : k = 0 ∨ k = 1) with rfl | rfl
  · rw [hn]; rfl
  · rw [hn]; rfl
def fiveAt (W : World) (B o : Nat) (h : Hd) : World := (((((W.setCell ⟨B, o, none⟩ (.int .i64 h.seq)).setCell ⟨B, o + 1, none⟩ (.int .i64 h.boot)).setCell ⟨B, o + 2, none⟩ (.int .i64 h.area)).setCell ⟨B, o + 3, none⟩ (.int .i64 h.first)).setCell ⟨B, o + 4, none⟩ (.int .i64 h.snaps))
theorem fiveAt_but (W : World) (B o : Nat) (h : Hd) : But B W (fiveAt W B o h) :=
  ((((But.set B o W _).trans (But.set B (o + 1) _ _)).trans (But.set B (o + 2) _ _)).trans (But.set B (o + 3) _ _)).trans (But.set B (o + 4) _ _)
theorem fiveAt_below {w W : World} {m B o : Nat} {h : Hd} (g : Below m w W) (hn : m ≤ B) : Below m w (fiveAt W B o h) :=
  ((((g.setCell hn _).setCell hn _).setCell hn _).setCell hn _).setCell hn _
theorem Ld.put {S : Nat → ByteArray} {w W W' : World} {k : Nat} {c : Hd} (h : Ld S w k W) (hk : Kept W W') (hn : slotF S k = c) (h2 : k < 2) : Ld S w (k + 1) (fiveAt W' (w.heap.size + 1) (5 * k) c) := by
  refine ⟨fiveAt_below (h.kept.trans hk) (by omega), (fiveAt_but _ _ _ _).at (hk.at h.hR) (by omega), ?_⟩
  have hA := hk.at h.hA
  have := set_block (v := .int .i64 c.snaps) (i := 5 * k + 4) (set_block (v := .int .i64 c.first) (i := 5 * k + 3) (set_block (v := .int .i64 c.area) (i := 5 * k + 2) (set_block (v := .int .i64 c.boot) (i := 5 * k + 1) (set_block (v := .int .i64 c.seq) (i := 5 * k) hA))))
  unfold fiveAt
  rw [this]
  rcases (by omega : k = 0 ∨ k = 1) with rfl | rfl
  · rw [hn]; rfl
  · rw [hn]; rfl
set_option maxHeartbeats 4000000 in
set_option maxRecDepth 100000 in
theorem load_try (F D M1 M2 : Nat) (pv : Value) (s : Ds) (w : World) (hd : Dk F D M1 M2 pv s w) (h2 : ¬ s.n < 2) (ha : s.fu.dead = false) :
    Calls Tryz.prog 73 #[.pointer (some ⟨D, 0, none⟩)] w fun e w' => e = .returned (.tuple #[.agg #[.int .i64 (loads s).1.seq, .int .i64 (loads s).1.boot, .int .i64 (loads s).1.area, .int .i64 (loads s).1.first, .int .i64 (loads s).1.snaps], .int .i64 (loads s).2]) ∧ Kept w w' := by
  have k0 := (Kept.refl w).alloc (.cells #[.int .i64 0, .int .i64 0, .int .i64 0, .int .i64 0, .int .i64 0] 74)
  have cs := sectors_c F D M1 M2 pv s _ (hd.keep k0)
  have t1 : decide ((s.n : Int) < 2) = false := by simp; omega
  have hrd := read_try hd h2 ha
  obtain ⟨v, hv⟩ : ∃ v, v = (w.alloc (.cells #[.int .i64 0, .int .i64 0, .int .i64 0, .int .i64 0, .int .i64 0] 74)).alloc (.cells #[.int .i64 0, .int .i64 0, .int .i64 0, .int .i64 0, .int .i64 0, .int .i64 0, .int .i64 0, .int .i64 0, .int .i64 0, .int .i64 0] 141) := ⟨_, rfl⟩
  have h0 := Ld.start (S := s.look) hv
  have hl : (newest s.look = none → loads s = (Hd.nil, 6)) ∧ ∀ c, newest s.look = some c → loads s = (c, 0) := ⟨loads_none h2 ha, fun c => loads_some h2 ha⟩
  have hnt := newest_top s.look
  have H0 := Lib.hid (And.intro hrd (And.intro hl hnt))
  clear hd h2 ha hrd hl hnt
  go_enter Tryz.func73, Tryz.ntmps73
  go_wp2_with (go_at_call 45; (with_reducible refine cs.mono ?_); rintro e u1 ⟨rfl, rfl⟩)
  rw [← hv]
  clear hv cs
  go_loopw [18] (fun i wr => ∃ k : Nat, k ≤ 2 ∧ i = .int .i64 (k : Int) ∧ Ld s.look w k wr) (fun i _ => 2 - (intOf i).toNat)
  case atStart => exact ⟨0, by omega, rfl, h0⟩
  case round =>
    obtain ⟨k, hk, rfl, hI⟩ := hrel
    rcases (by omega : k = 0 ∨ k = 1 ∨ k = 2) with rfl | rfl | rfl
    · have hc1 : Calls Tryz.prog 46 #[.pointer (some ⟨D, 0, none⟩), .int .i64 0] wr fun e w' => e = .returned (.tuple #[.string (s.look 0), .int .i64 0]) ∧ Kept wr w' := H0.out.1 0 (by omega) wr (hI.kept)
      have hcd := decode_c (s.look 0)
      rcases decE_or (s.look 0) with ⟨hE, _⟩ | ⟨hE, _⟩
      · have hcs := slot_c (decF (s.look 0)).seq (decF (s.look 0)).boot (decF (s.look 0)).area (decF (s.look 0)).first (decF (s.look 0)).snaps
        rw [tmod2 (seq_pos hE)] at hcs
        have hs1 := slot_own (S := s.look) (i := 0) hE
        have hs2 := slot_other (S := s.look) (i := 0) hE
        rw [hE] at hcd
        clear hE
        generalize decF (s.look 0) = X at hcd hcs hs1 hs2
        generalize s.look 0 = t at hc1 hcd
        by_cases hm : X.seq % 2 = (0 : Int)
        · have tm : (X.seq % 2 == (0 : Int)) = true := by simpa using hm
          have hN := Lib.hid (hs1 hm)
          clear hs1 hs2 hm
          go_wp2_with (first
            | (go_at_call 46; (with_reducible refine hc1.mono ?_); rintro e u1 ⟨rfl, k1⟩)
            | (go_at_call 92; (with_reducible refine (hcd _).mono ?_); rintro e u2 ⟨rfl, k2⟩; have hbx := Box.start u2 74 X.seq X.boot X.area X.first X.snaps; obtain ⟨_, _, _, _, _, _⟩ := hbx)
            | (go_at_call 85; (with_reducible refine (hcs _).mono ?_); rintro e u3 ⟨rfl, k3⟩; have hbx := Box.kept (Box.start u2 74 X.seq X.boot X.area X.first X.snaps) k3; obtain ⟨_, _, _, _, _, _⟩ := hbx; have kz := Lib.hid (((k1.trans k2).alloc (.cells #[.int .i64 X.seq, .int .i64 X.boot, .int .i64 X.area, .int .i64 X.first, .int .i64 X.snaps] 74)).trans k3); obtain ⟨_, _⟩ := ablock (kz.out.at hI.hA)))
          go_roundw
          case rel => exact ⟨1, by omega, rfl, hI.put kz.out hN.out (by omega)⟩
          case measure => simp [intOf]
        · have tm : (X.seq % 2 == (0 : Int)) = false := by simpa using hm
          have hN := Lib.hid (hs2 hm)
          clear hs1 hs2 hm
          go_wp2_with (first
            | (go_at_call 46; (with_reducible refine hc1.mono ?_); rintro e u1 ⟨rfl, k1⟩)
            | (go_at_call 92; (with_reducible refine (hcd _).mono ?_); rintro e u2 ⟨rfl, k2⟩; have hbx := Box.start u2 74 X.seq X.boot X.area X.first X.snaps; obtain ⟨_, _, _, _, _, _⟩ := hbx)
            | (go_at_call 85; (with_reducible refine (hcs _).mono ?_); rintro e u3 ⟨rfl, k3⟩; have kz := Lib.hid (((k1.trans k2).alloc (.cells #[.int .i64 X.seq, .int .i64 X.boot, .int .i64 X.area, .int .i64 X.first, .int .i64 X.snaps] 74)).trans k3)))
          go_roundw
          case rel => exact ⟨1, by omega, rfl, hI.same kz.out hN.out (by omega)⟩
          case measure => simp [intOf]
      · have hN := Lib.hid (slot_bad (S := s.look) (i := 0) hE)
        rw [hE] at hcd
        clear hE
        generalize decF (s.look 0) = X at hcd
        generalize s.look 0 = t at hc1 hcd
        go_wp2_with (first
          | (go_at_call 46; (with_reducible refine hc1.mono ?_); rintro e u1 ⟨rfl, k1⟩)
          | (go_at_call 92; (with_reducible refine (hcd _).mono ?_); rintro e u2 ⟨rfl, k2⟩; have kz := Lib.hid ((k1.trans k2).alloc (.cells #[.int .i64 X.seq, .int .i64 X.boot, .int .i64 X.area, .int .i64 X.first, .int .i64 X.snaps] 74))))
        go_roundw
        case rel => exact ⟨1, by omega, rfl, hI.same kz.out hN.out (by omega)⟩
        case measure => simp [intOf]
    · have hc1 : Calls Tryz.prog 46 #[.pointer (some ⟨D, 0, none⟩), .int .i64 1] wr fun e w' => e = .returned (.tuple #[.string (s.look 1), .int .i64 0]) ∧ Kept wr w' := H0.out.1 1 (by omega) wr (hI.kept)
      have hcd := decode_c (s.look 1)
      rcases decE_or (s.look 1) with ⟨hE, _⟩ | ⟨hE, _⟩
      · have hcs := slot_c (decF (s.look 1)).seq (decF (s.look 1)).boot (decF (s.look 1)).area (decF (s.look 1)).first (decF (s.look 1)).snaps
        rw [tmod2 (seq_pos hE)] at hcs
        have hs1 := slot_own (S := s.look) (i := 1) hE
        have hs2 := slot_other (S := s.look) (i := 1) hE
        rw [hE] at hcd
        clear hE
        generalize decF (s.look 1) = X at hcd hcs hs1 hs2
        generalize s.look 1 = t at hc1 hcd
        by_cases hm : X.seq % 2 = (1 : Int)
        · have tm : (X.seq % 2 == (1 : Int)) = true := by simpa using hm
          have hN := Lib.hid (hs1 hm)
          clear hs1 hs2 hm
          go_wp2_with (first
            | (go_at_call 46; (with_reducible refine hc1.mono ?_); rintro e u1 ⟨rfl, k1⟩)
            | (go_at_call 92; (with_reducible refine (hcd _).mono ?_); rintro e u2 ⟨rfl, k2⟩; have hbx := Box.start u2 74 X.seq X.boot X.area X.first X.snaps; obtain ⟨_, _, _, _, _, _⟩ := hbx)
            | (go_at_call 85; (with_reducible refine (hcs _).mono ?_); rintro e u3 ⟨rfl, k3⟩; have hbx := Box.kept (Box.start u2 74 X.seq X.boot X.area X.first X.snaps) k3; obtain ⟨_, _, _, _, _, _⟩ := hbx; have kz := Lib.hid (((k1.trans k2).alloc (.cells #[.int .i64 X.seq, .int .i64 X.boot, .int .i64 X.area, .int .i64 X.first, .int .i64 X.snaps] 74)).trans k3); obtain ⟨_, _⟩ := ablock (kz.out.at hI.hA)))
          go_roundw
          case rel => exact ⟨2, by omega, rfl, hI.put kz.out hN.out (by omega)⟩
          case measure => simp [intOf]
        · have tm : (X.seq % 2 == (1 : Int)) = false := by simpa using hm
          have hN := Lib.hid (hs2 hm)
          clear hs1 hs2 hm
          go_wp2_with (first
            | (go_at_call 46; (with_reducible refine hc1.mono ?_); rintro e u1 ⟨rfl, k1⟩)
            | (go_at_call 92; (with_reducible refine (hcd _).mono ?_); rintro e u2 ⟨rfl, k2⟩; have hbx := Box.start u2 74 X.seq X.boot X.area X.first X.snaps; obtain ⟨_, _, _, _, _, _⟩ := hbx)
            | (go_at_call 85; (with_reducible refine (hcs _).mono ?_); rintro e u3 ⟨rfl, k3⟩; have kz := Lib.hid (((k1.trans k2).alloc (.cells #[.int .i64 X.seq, .int .i64 X.boot, .int .i64 X.area, .int .i64 X.first, .int .i64 X.snaps] 74)).trans k3)))
          go_roundw
          case rel => exact ⟨2, by omega, rfl, hI.same kz.out hN.out (by omega)⟩
          case measure => simp [intOf]
      · have hN := Lib.hid (slot_bad (S := s.look) (i := 1) hE)
        rw [hE] at hcd
        clear hE
        generalize decF (s.look 1) = X at hcd
        generalize s.look 1 = t at hc1 hcd
        go_wp2_with (first
          | (go_at_call 46; (with_reducible refine hc1.mono ?_); rintro e u1 ⟨rfl, k1⟩)
          | (go_at_call 92; (with_reducible refine (hcd _).mono ?_); rintro e u2 ⟨rfl, k2⟩; have kz := Lib.hid ((k1.trans k2).alloc (.cells #[.int .i64 X.seq, .int .i64 X.boot, .int .i64 X.area, .int .i64 X.first, .int .i64 X.snaps] 74))))
        go_roundw
        case rel => exact ⟨2, by omega, rfl, hI.same kz.out hN.out (by omega)⟩
        case measure => simp [intOf]
    · have hX := hI.hA
      rw [if_pos (by omega), if_pos (by omega)] at hX
      have hm := max_c _ _ _ _ wr hX
      obtain ⟨N, hN⟩ : ∃ N, N = top s.look := ⟨_, rfl⟩
      have hm2 : Calls Tryz.prog 93 #[.slice (some ⟨w.heap.size + 1, 0, none⟩) 2 2, .func (.func 94) #[] #[]] wr fun e w' => e = .returned (.agg #[.int .i64 N.seq, .int .i64 N.boot, .int .i64 N.area, .int .i64 N.first, .int .i64 N.snaps]) ∧ Kept wr w' := hm.mono fun e w' ⟨h1, h2⟩ => ⟨by rw [h1, hN]; unfold top; split <;> rfl, h2⟩
      clear hm
      have hq := eqlS N.seq N.boot N.area N.first N.snaps 0 0 0 0 0
      have hnt := H0.out.2.2
      rw [← hN] at hnt
      have HN := Lib.hid hN
      clear hN
      rcases hnt with ⟨hn, hz⟩ | ⟨hn, hp⟩
      · have hls := H0.out.2.1.1 hn
        rw [show sameH N.seq N.boot N.area N.first N.snaps 0 0 0 0 0 = true from (sameH_iff (y := Hd.nil)).mpr hz] at hq
        clear hn hz
        go_wp2_with (go_at_call 93; (with_reducible refine hm2.mono ?_); rintro e u1 ⟨rfl, k1⟩; have hbx := Box.start u1 136 N.seq N.boot N.area N.first N.snaps; obtain ⟨_, _, _, _, _, _⟩ := hbx; have hR1 := (k1.alloc (.cells #[.int .i64 N.seq, .int .i64 N.boot, .int .i64 N.area, .int .i64 N.first, .int .i64 N.snaps] 136)).at hI.hR; obtain ⟨⟨r0, r1, r2, r3, r4⟩, fr⟩ := hblock hR1)
        clear r0 r1 r2 r3 r4 fr
        have k2 := hI.kept.trans (k1.alloc (.cells #[.int .i64 N.seq, .int .i64 N.boot, .int .i64 N.area, .int .i64 N.first, .int .i64 N.snaps] 136))
        generalize u1.alloc (.cells #[.int .i64 N.seq, .int .i64 N.boot, .int .i64 N.area, .int .i64 N.first, .int .i64 N.snaps] 136) = y1 at hR1 k2 ⊢
        have hy := five (q := 0) (b := 0) (a := 0) (f := 0) (n := 0) hR1
        have ky := five_below (q := 0) (b := 0) (a := 0) (f := 0) (n := 0) k2 (Nat.le_refl w.heap.size)
        generalize (((((y1.setCell ⟨w.heap.size, 0, none⟩ (.int .i64 0)).setCell ⟨w.heap.size, 1, none⟩ (.int .i64 0)).setCell ⟨w.heap.size, 2, none⟩ (.int .i64 0)).setCell ⟨w.heap.size, 3, none⟩ (.int .i64 0)).setCell ⟨w.heap.size, 4, none⟩ (.int .i64 0)) = Y at hy ky ⊢
        obtain ⟨⟨c0, c1, c2, c3, c4⟩, _⟩ := hblock hy
        exact bodyPost_ret (v := .tuple #[.agg #[.int .i64 0, .int .i64 0, .int .i64 0, .int .i64 0, .int .i64 0], .int .i64 6]) (by simp [results, Tryz.results73, go_sem, c0, c1, c2, c3, c4]) rfl ⟨by rw [hls]; rfl, ky⟩
      · have hls := H0.out.2.1.2 _ hn
        have hne : sameH N.seq N.boot N.area N.first N.snaps 0 0 0 0 0 = false := by
          cases hs : sameH N.seq N.boot N.area N.first N.snaps 0 0 0 0 0 with
          | false => rfl
          | true =>
            have := (sameH_iff (y := Hd.nil)).mp hs
            rw [this] at hp; exact absurd hp (by decide)
        rw [hne] at hq
        clear hn hne hp
        go_wp2_with (go_at_call 93; (with_reducible refine hm2.mono ?_); rintro e u1 ⟨rfl, k1⟩; have hbx := Box.start u1 136 N.seq N.boot N.area N.first N.snaps; obtain ⟨_, _, _, _, _, _⟩ := hbx; have hR1 := (k1.alloc (.cells #[.int .i64 N.seq, .int .i64 N.boot, .int .i64 N.area, .int .i64 N.first, .int .i64 N.snaps] 136)).at hI.hR; obtain ⟨⟨r0, r1, r2, r3, r4⟩, fr⟩ := hblock hR1)
        clear r0 r1 r2 r3 r4 fr
        have k2 := hI.kept.trans (k1.alloc (.cells #[.int .i64 N.seq, .int .i64 N.boot, .int .i64 N.area, .int .i64 N.first, .int .i64 N.snaps] 136))
        generalize u1.alloc (.cells #[.int .i64 N.seq, .int .i64 N.boot, .int .i64 N.area, .int .i64 N.first, .int .i64 N.snaps] 136) = y1 at hR1 k2 ⊢
        have hy := five (q := N.seq) (b := N.boot) (a := N.area) (f := N.first) (n := N.snaps) hR1
        have ky := five_below (q := N.seq) (b := N.boot) (a := N.area) (f := N.first) (n := N.snaps) k2 (Nat.le_refl w.heap.size)
        generalize (((((y1.setCell ⟨w.heap.size, 0, none⟩ (.int .i64 N.seq)).setCell ⟨w.heap.size, 1, none⟩ (.int .i64 N.boot)).setCell ⟨w.heap.size, 2, none⟩ (.int .i64 N.area)).setCell ⟨w.heap.size, 3, none⟩ (.int .i64 N.first)).setCell ⟨w.heap.size, 4, none⟩ (.int .i64 N.snaps)) = Y at hy ky ⊢
        obtain ⟨⟨c0, c1, c2, c3, c4⟩, _⟩ := hblock hy
        exact bodyPost_ret (v := .tuple #[.agg #[.int .i64 N.seq, .int .i64 N.boot, .int .i64 N.area, .int .i64 N.first, .int .i64 N.snaps], .int .i64 0]) (by simp [results, Tryz.results73, go_sem, c0, c1, c2, c3, c4]) rfl ⟨by rw [hls], ky⟩
set_option maxRecDepth 100000 in
theorem load_dead (F D M1 M2 : Nat) (pv : Value) (s : Ds) (w : World) (hd : Dk F D M1 M2 pv s w) (h2 : ¬ s.n < 2) (ha : s.fu.dead = true) :
    Calls Tryz.prog 73 #[.pointer (some ⟨D, 0, none⟩)] w fun e w' => e = .returned (.tuple #[.agg #[.int .i64 0, .int .i64 0, .int .i64 0, .int .i64 0, .int .i64 0], .int .i64 10]) ∧ Kept w w' := by
  have k0 := (Kept.refl w).alloc (.cells #[.int .i64 0, .int .i64 0, .int .i64 0, .int .i64 0, .int .i64 0] 74)
  have cs := sectors_c F D M1 M2 pv s _ (hd.keep k0)
  have t1 : decide ((s.n : Int) < 2) = false := by simp; omega
  obtain ⟨v, hv⟩ : ∃ v, v = (w.alloc (.cells #[.int .i64 0, .int .i64 0, .int .i64 0, .int .i64 0, .int .i64 0] 74)).alloc (.cells #[.int .i64 0, .int .i64 0, .int .i64 0, .int .i64 0, .int .i64 0, .int .i64 0, .int .i64 0, .int .i64 0, .int .i64 0, .int .i64 0] 141) := ⟨_, rfl⟩
  have h0 := Ld.start (S := s.look) hv
  have hrd : Calls Tryz.prog 46 #[.pointer (some ⟨D, 0, none⟩), .int .i64 0] v fun e w' => e = .returned (.tuple #[.string ByteArray.empty, .int .i64 10]) ∧ Kept v w' := by
    have ho : s.out 0 = false := Ds.out_in (i := 0) (by omega)
    have e : s.reads 0 = (ByteArray.empty, 10) := by simp [Ds.reads, ho, ha]
    have := read_c F D M1 M2 pv s 0 v (hd.keep h0.kept)
    rw [e] at this
    exact this
  clear hd h2 ha
  go_enter Tryz.func73, Tryz.ntmps73
  go_wp2_with (go_at_call 45; (with_reducible refine cs.mono ?_); rintro e u1 ⟨rfl, rfl⟩)
  rw [← hv]
  clear hv cs
  refine wp_loop_rounds 1 ?_
  rw [rounds_succ]
  go_wp2_with (go_at_call 46; (with_reducible refine hrd.mono ?_); rintro e u2 ⟨rfl, k1⟩; have hR1 := k1.at h0.hR; obtain ⟨⟨r0, r1, r2, r3, r4⟩, fr⟩ := hblock hR1)
  clear r0 r1 r2 r3 r4 fr
  have k2 := h0.kept.trans k1
  have hy := five (q := 0) (b := 0) (a := 0) (f := 0) (n := 0) hR1
  have ky := five_below (q := 0) (b := 0) (a := 0) (f := 0) (n := 0) k2 (Nat.le_refl w.heap.size)
  generalize (((((u2.setCell ⟨w.heap.size, 0, none⟩ (.int .i64 0)).setCell ⟨w.heap.size, 1, none⟩ (.int .i64 0)).setCell ⟨w.heap.size, 2, none⟩ (.int .i64 0)).setCell ⟨w.heap.size, 3, none⟩ (.int .i64 0)).setCell ⟨w.heap.size, 4, none⟩ (.int .i64 0)) = Y at hy ky ⊢
  obtain ⟨⟨c0, c1, c2, c3, c4⟩, _⟩ := hblock hy
  exact bodyPost_ret (v := .tuple #[.agg #[.int .i64 0, .int .i64 0, .int .i64 0, .int .i64 0, .int .i64 0], .int .i64 10]) (by simp [results, Tryz.results73, go_sem, c0, c1, c2, c3, c4]) rfl ⟨rfl, ky⟩
/-- Load. -/
theorem load_c (F D M1 M2 : Nat) (pv : Value) (s : Ds) (w : World) (hd : Dk F D M1 M2 pv s w) :
    Calls Tryz.prog 73 #[.pointer (some ⟨D, 0, none⟩)] w fun e w' => e = .returned (.tuple #[.agg #[.int .i64 (loads s).1.seq, .int .i64 (loads s).1.boot, .int .i64 (loads s).1.area, .int .i64 (loads s).1.first, .int .i64 (loads s).1.snaps], .int .i64 (loads s).2]) ∧ Kept w w' := by
  by_cases h2 : s.n < 2
  · have e : loads s = (Hd.nil, 3) := by unfold loads; rw [if_pos h2]
    rw [e]; exact load_short F D M1 M2 pv s w hd h2
  · cases ha : s.fu.dead with
    | true =>
      have e : loads s = (Hd.nil, 10) := by unfold loads; rw [if_neg h2, if_pos ha]
      rw [e]; exact load_dead F D M1 M2 pv s w hd h2 ha
    | false => exact load_try F D M1 M2 pv s w hd h2 ha
theorem o_load {w0 w : World} {L : List As} (h : Own w0 L w) (i : Nat) {F D : Nat} {s : Ds} (hi : L[i]? = some (dk F D s)) :
    Calls Tryz.prog 73 #[.pointer (some ⟨D, 0, none⟩)] w fun e w' => e = .returned (.tuple #[.agg #[.int .i64 (loads s).1.seq, .int .i64 (loads s).1.boot, .int .i64 (loads s).1.area, .int .i64 (loads s).1.first, .int .i64 (loads s).1.snaps], .int .i64 (loads s).2]) ∧ Own w0 L w' :=
  h.look i hi fun M1 M2 pv hd => load_c F D M1 M2 pv s w hd
set_option maxRecDepth 100000 in
theorem load_nil (w : World) : Calls Tryz.prog 73 #[.pointer none] w fun e w' => e = .returned (.tuple #[.agg #[.int .i64 0, .int .i64 0, .int .i64 0, .int .i64 0, .int .i64 0], .int .i64 1]) ∧ Kept w w' := by
  have k0 := (Kept.refl w).alloc (.cells #[.int .i64 0, .int .i64 0, .int .i64 0, .int .i64 0, .int .i64 0] 74)
  go_enter Tryz.func73, Tryz.ntmps73
  go_wp2
  exact bodyPost_ret (v := .tuple #[.agg #[.int .i64 0, .int .i64 0, .int .i64 0, .int .i64 0, .int .i64 0], .int .i64 1]) (by simp [results, Tryz.results73, go_sem]) rfl ⟨rfl, k0⟩
end Go.Proofs.YtckbhjjflpobbaaGreat.Hk
