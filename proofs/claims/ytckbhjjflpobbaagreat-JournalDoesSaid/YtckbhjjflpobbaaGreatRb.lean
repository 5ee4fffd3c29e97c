/-
  The specification's fuse (layer 3).
  The specification of layer 4 beside the disk: its disk in memory, its New; package disk's calls on nil; helpers of the statements.
  What the calls of the specification's disk do: those that change no sector.
  What the calls of the specification's disk do that settle what is pending: Sync, Crash.
  The crash of the specification's disk.
  Layer 4's statements: the disk and the specification's, made together.
  The specification's disk among several things of the call's own; the pair's Crash and Arm.
  The pair's comparison.
-/
import Derived.Test.YtckbhjjflpobbaaGreatDb
namespace Go.Proofs.YtckbhjjflpobbaaGreat.Fz
open Go.RowKit Go.Proofs.YtckbhjjflpobbaaGreat.Mem

def St.ref : St → Array Value
  | .idle => #[.bool false, .bool false, .int .i64 0]
  | .armed n => #[.bool true, .bool false, .int .i64 n]
  | .blown => #[.bool true, .bool true, .int .i64 0]
/-- Block B is the specification's fuse in state s. -/
def Rf (B : Nat) (s : St) (w : World) : Prop := w.heap[B]? = some (.cells s.ref 66 (0, 0))
theorem Rf.kept {B : Nat} {s : St} {w w' : World} (h : Rf B s w) (k : Kept w w') : Rf B s w' := Kept.block k h
theorem Rf.but {B C : Nat} {s : St} {w w' : World} (h : Rf B s w) (k : But C w w') (hn : B ≠ C) : Rf B s w' := k.at h hn
theorem Rf.lt {B : Nat} {s : St} {w : World} (h : Rf B s w) : B < w.heap.size := lt_of_block h
theorem Rf.cell {B : Nat} {s : St} {w : World} (h : Rf B s w) (i : Nat) : w.cell? ⟨B, i, none⟩ = s.ref[i]? := cell_of_row _ _ _ _ _ _ h
theorem Rf.free {B : Nat} {s : St} {w : World} (h : Rf B s w) (i : Nat) : w.frozen? ⟨B, i, none⟩ = false := frozen_of_row _ _ _ _ _ h
theorem Rf.dead {B : Nat} {s : St} {w : World} (h : Rf B s w) : w.cell? ⟨B, 1, none⟩ = some (.bool s.dead) := by
  rw [h.cell 1]; cases s <;> rfl

theorem rburn_c (B : Nat) (s : St) (hs : s.ok) (w : World) (h : Rf B s w) :
    Calls Tryz.prog 83 #[.pointer (some ⟨B, 0, none⟩)] w fun e w' => e = .returned (.int .i64 s.says) ∧ But B w w' ∧ Rf B s.burnt w' := by
  have h0 := h.cell 0
  have h1 := h.cell 1
  have h2 := h.cell 2
  have f0 := h.free 0
  have f1 := h.free 1
  have f2 := h.free 2
  have H := Lib.hid h
  clear h
  match s, hs with
  | .idle, _ =>
    simp [St.ref] at h0 h1 h2
    go_enter Tryz.func83, Tryz.ntmps83
    go_wp2
    go_ret
    exact ⟨rfl, But.refl _ _, H.out⟩
  | .armed 0, _ =>
    simp [St.ref] at h0 h1 h2
    go_enter Tryz.func83, Tryz.ntmps83
    go_wp2
    go_ret
    refine ⟨rfl, (But.refl B w).setc _ _, ?_⟩
    have := heap_setCell_same w B 1 _ _ (.bool true) H.out
    simpa [Rf, St.ref, St.burnt] using this
  | .armed (n + 1), hn =>
    have hn : n + 1 < 9223372036854775808 := hn
    simp [St.ref] at h0 h1 h2
    go_enter Tryz.func83, Tryz.ntmps83
    go_wp2
    go_ret
    refine ⟨rfl, (But.refl B w).setc _ _, ?_⟩
    have := heap_setCell_same w B 2 _ _ (.int .i64 n) H.out
    simpa [Rf, St.ref, St.burnt] using this
  | .blown, _ =>
    simp [St.ref] at h0 h1 h2
    go_enter Tryz.func83, Tryz.ntmps83
    go_wp2
    go_ret
    exact ⟨rfl, But.refl _ _, H.out⟩
theorem rarm_c (B : Nat) (s : St) (k : Int) (w : World) (h : Rf B s w) :
    Calls Tryz.prog 38 #[.pointer (some ⟨B, 0, none⟩), .int .i64 k] w fun e w' => e = .returned (.int .i64 (s.armSays k)) ∧ But B w w' ∧ Rf B (s.arm k) w' := by
  have h0 := h.cell 0
  have h1 := h.cell 1
  have h2 := h.cell 2
  have f0 := h.free 0
  have f1 := h.free 1
  have f2 := h.free 2
  by_cases hk : k < 0
  · have e1 : s.armSays k = 3 := by cases s <;> simp [St.armSays, hk]
    have e2 : s.arm k = s := by cases s <;> simp [St.arm, hk]
    rw [e1, e2]
    go_enter Tryz.func38, Tryz.ntmps38
    go_wp2
    go_ret
    exact ⟨rfl, But.refl _ _, h⟩
  · have hk0 : 0 ≤ k := by omega
    have H := Lib.hid h
    clear h
    have e : ((k.toNat : Nat) : Int) = k := by omega
    have E := Lib.hid e
    clear e
    cases s with
    | blown =>
      simp [St.ref] at h0 h1 h2
      have e1 : St.blown.armSays k = 7 := by simp [St.armSays]; omega
      have e2 : St.blown.arm k = .blown := rfl
      rw [e1, e2]
      go_enter Tryz.func38, Tryz.ntmps38
      go_wp2
      go_ret
      exact ⟨rfl, But.refl _ _, H.out⟩
    | idle =>
      simp [St.ref] at h0 h1 h2
      have e1 : St.idle.armSays k = 0 := by simp [St.armSays]; omega
      have e2 : St.idle.arm k = .armed k.toNat := by simp [St.arm]; omega
      rw [e1, e2]
      go_enter Tryz.func38, Tryz.ntmps38
      go_wp2
      go_ret
      refine ⟨rfl, ((But.refl B w).setc _ _).setc _ _, ?_⟩
      have := heap_setCell_same _ B 2 _ _ (.int .i64 k) (heap_setCell_same w B 0 _ _ (.bool true) H.out)
      simpa [Rf, St.ref, E.out] using this
    | armed n =>
      simp [St.ref] at h0 h1 h2
      have e1 : (St.armed n).armSays k = 0 := by simp [St.armSays]; omega
      have e2 : (St.armed n).arm k = .armed k.toNat := by simp [St.arm]; omega
      rw [e1, e2]
      go_enter Tryz.func38, Tryz.ntmps38
      go_wp2
      go_ret
      refine ⟨rfl, ((But.refl B w).setc _ _).setc _ _, ?_⟩
      have := heap_setCell_same _ B 2 _ _ (.int .i64 k) (heap_setCell_same w B 0 _ _ (.bool true) H.out)
      simpa [Rf, St.ref, E.out] using this
theorem rreset_c (B : Nat) (s : St) (w : World) (h : Rf B s w) :
    Calls Tryz.prog 42 #[.pointer (some ⟨B, 0, none⟩)] w fun e w' => e = .returned (.tuple #[]) ∧ But B w w' ∧ Rf B .idle w' := by
  have h0 := h.cell 0
  have h1 := h.cell 1
  have h2 := h.cell 2
  have f0 := h.free 0
  have f1 := h.free 1
  have f2 := h.free 2
  have H := Lib.hid h
  clear h
  have HC : ∃ a b c, s.ref = #[a, b, c] := by cases s <;> exact ⟨_, _, _, rfl⟩
  obtain ⟨a, b, c, hc⟩ := HC
  rw [hc] at h0 h1 h2
  simp at h0 h1 h2
  have HC := Lib.hid hc
  clear hc
  go_enter Tryz.func42, Tryz.ntmps42
  go_wp2
  go_end0
  refine ⟨rfl, (((But.refl B w).setc _ _).setc _ _).setc _ _, ?_⟩
  have H' : w.heap[B]? = some (.cells #[a, b, c] 66 (0, 0)) := by rw [← HC.out]; exact H.out
  have := heap_setCell_same _ B 2 _ _ (.int .i64 0) (heap_setCell_same _ B 1 _ _ (.bool false) (heap_setCell_same w B 0 _ _ (.bool false) H'))
  simpa [Rf, St.ref] using this

end Go.Proofs.YtckbhjjflpobbaaGreat.Fz

namespace Go.Proofs.YtckbhjjflpobbaaGreat.Dz
open Go.RowKit Go.ChangeShapes Go.WideShapes Go.ChangeAt Go.Proofs.YtckbhjjflpobbaaGreat.Mem Go.Proofs.YtckbhjjflpobbaaGreat.Fz
set_option linter.unusedVariables false

/-- The specification's fuse by itself. -/
def rfA (G : Nat) (s : St) : As where
  p S w := Rf G s w ∧ s.ok ∧ S G
  mono := fun S T w ⟨h, h1, h2⟩ hs => ⟨h, h1, hs _ h2⟩
  loc := fun S w w' ⟨h, h1, h2⟩ hs => ⟨(hs _ h2 h.lt).trans h, h1, h2⟩
def sarr (f : Nat → ByteArray) (n : Nat) : Array Value := ((List.range n).map fun i => Value.string (f i)).toArray
theorem sarr_size (f : Nat → ByteArray) (n : Nat) : (sarr f n).size = n := by simp [sarr]
theorem sarr_at (f : Nat → ByteArray) (n i : Nat) (h : i < n) : (sarr f n)[i]? = some (.string (f i)) := by simp [sarr, h]
theorem sarr_set (f : Nat → ByteArray) (n i : Nat) (v : ByteArray) : (sarr f n).setIfInBounds i (.string v) = sarr (put f i v) n := by
  apply Array.ext
  · simp [sarr]
  · intro j h1 h2
    have h3 : j < (sarr f n).size := by simpa using h1
    rw [Array.getElem_setIfInBounds h3]
    by_cases e : i = j
    · subst e; simp [sarr, put]
    · have e' : ¬ j = i := fun h => e h.symm
      simp [sarr, put, e, e']
theorem sarr_congr {f g : Nat → ByteArray} {n : Nat} (h : ∀ i, i < n → f i = g i) : sarr f n = sarr g n := by
  apply Array.ext
  · simp [sarr]
  · intro j h1 h2
    have : j < n := by simpa [sarr] using h1
    simp [sarr, h j this]
def rblock (G Sb : Nat) (pv : Value) (s : Ds) : Array Value := #[.slice (some ⟨Sb, 0, none⟩) s.n s.n, pv, .pointer (some ⟨G, 0, none⟩), .bool s.full]
/-- Block R is the specification's disk in state s. -/
structure Rk (R G Sb : Nat) (pv : Value) (s : Ds) (w : World) : Prop where
  rf : Rf G s.fu w
  blk : w.heap[R]? = some (.cells (rblock G Sb pv s) 55 (0, 0))
  srow : w.heap[Sb]? = some (.cells (sarr s.dur s.n) 9 (0, 0))
  prow : w.ownsRow 0 99 2 pv s.pend.length (cellsOf s.pend)
  ok : s.ok
structure RApart (R G Sb : Nat) (pv : Value) : Prop where
  RG : R ≠ G
  RS : R ≠ Sb
  GS : G ≠ Sb
  p : ∀ g, pv.ownBlock = some g → g ≠ R ∧ g ≠ G ∧ g ≠ Sb
theorem Rk.apart {R G Sb : Nat} {pv : Value} {s : Ds} {w : World} (h : Rk R G Sb pv s w) : RApart R G Sb pv := by
  have hf : w.heap[G]? = _ := h.rf
  refine ⟨ne_obj h.blk hf (by simp), ne_obj h.blk h.srow (by simp), ne_obj hf h.srow (by simp), fun g hg => ?_⟩
  obtain ⟨cur, hr⟩ := row_block h.prow hg
  exact ⟨ne_obj hr h.blk (by simp), ne_obj hr hf (by simp), ne_obj hr h.srow (by simp)⟩
theorem Rk.at {R G Sb : Nat} {pv : Value} {s : Ds} {w w' : World} (h : Rk R G Sb pv s w) (hG : w'.heap[G]? = w.heap[G]?) (hR : w'.heap[R]? = w.heap[R]?) (hS : w'.heap[Sb]? = w.heap[Sb]?)
    (hp : ∀ g, pv.ownBlock = some g → w'.heap[g]? = w.heap[g]?) : Rk R G Sb pv s w' := ⟨hG.trans h.rf, hR.trans h.blk, hS.trans h.srow, row_at h.prow hp, h.ok⟩
theorem Rk.lts {R G Sb : Nat} {pv : Value} {s : Ds} {w : World} (h : Rk R G Sb pv s w) : G < w.heap.size ∧ R < w.heap.size ∧ Sb < w.heap.size ∧ ∀ g, pv.ownBlock = some g → g < w.heap.size :=
  ⟨h.rf.lt, lt_of_block h.blk, lt_of_block h.srow, fun g hg => (h.prow.lt g hg).2⟩
def rk (G R : Nat) (s : Ds) : As where
  p S w := ∃ Sb pv, Rk R G Sb pv s w ∧ S G ∧ S R ∧ S Sb ∧ ∀ g, pv.ownBlock = some g → S g
  mono := fun S T w ⟨Sb, pv, h, h1, h2, h3, h4⟩ hs => ⟨Sb, pv, h, hs _ h1, hs _ h2, hs _ h3, fun g hg => hs _ (h4 g hg)⟩
  loc := fun S w w' ⟨Sb, pv, h, h1, h2, h3, h4⟩ hs =>
    have l := h.lts
    ⟨Sb, pv, h.at (hs _ h1 l.1) (hs _ h2 l.2.1) (hs _ h3 l.2.2.1) (fun g hg => hs _ (h4 g hg) (l.2.2.2 g hg)), h1, h2, h3, h4⟩
theorem make_strs (n : Nat) (hn : n ≤ 65536) (w : World) :
    (Instr.makeSlice 33 (.int .i64 (n : Int)) (.int .i64 (n : Int))).run Tryz.prog w = .ok (.slice (some ⟨w.heap.size, 0, none⟩) n n) (w.alloc (.cells (sarr (fun _ => ByteArray.empty) n) 9)) := by
  have h := run_make_row' (P := Tryz.prog) 33 9 (.string ByteArray.empty) 16 Tryz.underlying33 (by kernel_rfl) rfl .i64 .i64 n (by omega) (by omega) w
  have e : madeCells #[Value.string ByteArray.empty] n = sarr (fun _ => ByteArray.empty) n := by
    apply Array.toList_inj.1
    rw [toList_madeCells_one]
    simp [sarr, List.map_const']
  rw [e] at h
  exact h
set_option maxHeartbeats 1000000 in
set_option maxRecDepth 100000 in
theorem rnew_c (G : Nat) (st : St) (n : Nat) (h1 : 1 ≤ n) (h2 : n ≤ 65536) (S : Nat → Prop) (w : World) (h : Rf G st w) (hst : st.ok) (hG : S G) :
    Calls Tryz.prog 25 #[.int .i64 (n : Int), .pointer (some ⟨G, 0, none⟩)] w fun e w' => e = .returned (.tuple #[.pointer (some ⟨w.heap.size + 1, 0, none⟩), .int .i64 0]) ∧ Off S w w' ∧ (rk G (w.heap.size + 1) (fresh n st)).p (grew S w w') w' := by
  have hmk := make_strs n h2
  have a1 : decide ((n : Int) < 1) = false := by simp; omega
  have a3 : decide ((65536 : Int) < (n : Int)) = false := by simp; omega
  obtain ⟨w1, hw1⟩ : ∃ w1, w1 = (w.alloc (.cells (sarr (fun _ => ByteArray.empty) n) 9)).alloc (.cells (rblock G w.heap.size (.slice none 0 0) (fresh n st)) 55) := ⟨_, rfl⟩
  have k1 : Kept w w1 := by rw [hw1]; exact ((Kept.refl w).alloc _).alloc _
  have bR : w1.heap[w.heap.size + 1]? = some (.cells (rblock G w.heap.size (.slice none 0 0) (fresh n st)) 55 (0, 0)) := by
    rw [hw1]
    have := heap_alloc_new (w.alloc (.cells (sarr (fun _ => ByteArray.empty) n) 9)) (.cells (rblock G w.heap.size (.slice none 0 0) (fresh n st)) 55 (0, 0))
    simpa using this
  have bS : w1.heap[w.heap.size]? = some (.cells (sarr (fun j => if j < 0 then Z else ByteArray.empty) n) 9 (0, 0)) := by
    rw [hw1]
    have e : sarr (fun j => if j < 0 then Z else ByteArray.empty) n = sarr (fun _ => ByteArray.empty) n := sarr_congr fun i _ => by simp
    rw [e]
    exact ((Kept.refl _).alloc _).at (heap_alloc_new _ _)
  have H := Lib.hid (And.intro h (And.intro h1 (And.intro h2 (And.intro hst hG))))
  have HW := Lib.hid (And.intro k1 bR)
  have Hw1 := Lib.hid hw1
  have HS := Lib.hid bS
  clear h h1 h2 hst hG k1 bR bS hw1
  go_enter Tryz.func25, Tryz.ntmps25
  go_wp2
  go_loopw [7] (fun i wr => ∃ k : Nat, k ≤ n ∧ i = .int .i64 k ∧ Off (fun k => k = w.heap.size) w1 wr ∧ wr.heap[w.heap.size]? = some (.cells (sarr (fun j => if j < k then Z else ByteArray.empty) n) 9 (0, 0))) (fun i _ => n - (intOf i).toNat)
  case atStart =>
    have e := Hw1.out
    unfold rblock fresh at e
    dsimp only at e
    rw [← e]
    exact ⟨0, by omega, rfl, Off.refl _ _, HS.out⟩
  case round =>
    obtain ⟨k, hk, rfl, ho, hb⟩ := hrel
    have bR : ∀ W, Off (fun k => k = w.heap.size) w1 W → W.heap[w.heap.size + 1]? = some (.cells (rblock G w.heap.size (.slice none 0 0) (fresh n st)) 55 (0, 0)) := fun W hW => hW.at HW.out.2 (by omega)
    by_cases hlt : k < n
    · have cR : ∀ W, Kept wr W → W.cell? ⟨w.heap.size + 1, 0, none⟩ = some (.slice (some ⟨w.heap.size, 0, none⟩) n n) ∧ W.cell? ⟨w.heap.size, k, none⟩ = some (.string ByteArray.empty) ∧ W.frozen? ⟨w.heap.size, k, none⟩ = false := fun W hW => by
        have q := hW.at hb
        refine ⟨cell_of_row _ _ _ _ _ _ (bR W (ho.kept hW)), ?_, frozen_of_row _ _ _ _ _ q⟩
        rw [cell_of_row _ _ _ _ _ _ q, sarr_at _ _ _ hlt]; simp
      have hn6 : n ≤ 65536 := H.out.2.2.1
      have c0 := (cR wr (Kept.refl _)).1
      have c0' := (cR wr.drew (Kept.refl _).drew).1
      have c2 : ∀ W v, Kept wr W → (W.setCell ⟨w.heap.size, k, none⟩ v).cell? ⟨w.heap.size + 1, 0, none⟩ = some (.slice (some ⟨w.heap.size, 0, none⟩) n n) := fun W v hW => by
        rw [World.cell?_setCell_other _ _ _ _ (by simp)]; exact (cR W hW).1
      have HX := Lib.hid (And.intro cR (And.intro ho hb))
      have HY := Lib.hid c2
      clear cR bR ho hb c2
      go_wp2
      go_region_held3 (fun W => W.cell? ⟨w.heap.size + 1, 0, none⟩ = some (.slice (some ⟨w.heap.size, 0, none⟩) n n))
        (first | assumption | exact (HX.out.1 _ ((Kept.refl wr).drew.trans k3)).1 | exact HY.out _ _ ((Kept.refl wr).drew.trans k3))
        (first | (go_at_call 51; refine (rzeros_c _).mono ?_; rintro e u3 ⟨rfl, k3⟩; obtain ⟨_, d1, d2⟩ := HX.out.1 u3 ((Kept.refl wr).drew.trans k3)))
      go_wp2
      go_roundw
      case rel =>
        obtain ⟨_, ho, hb⟩ := HX.out
        have k3' : Kept wr u3 := (Kept.refl wr).drew.trans k3
        refine ⟨k + 1, by omega, by go_num, (ho.kept k3').setc w.heap.size k (.string Z) (.inl rfl), ?_⟩
        rw [heap_setCell_same u3 w.heap.size k _ _ (.string Z) (k3'.at hb), sarr_set]
        have e : sarr (put (fun j => if j < k then Z else ByteArray.empty) k Z) n = sarr (fun j => if j < k + 1 then Z else ByteArray.empty) n := sarr_congr fun i _ => by
          unfold put
          by_cases e : i = k
          · subst e; simp
          · have : i < k + 1 ↔ i < k := by omega
            simp [e, this]
        rw [e]
      case measure => simp [intOf]; omega
    · obtain rfl : k = n := by omega
      have bRw := cell_of_row wr (w.heap.size + 1) 0 _ _ _ (bR wr ho)
      have HX := Lib.hid (And.intro ho (And.intro hb (bR wr ho)))
      clear bR ho hb
      go_wp2
      go_ret2
      obtain ⟨ho, hb, hR⟩ := HX.out
      obtain ⟨h, h1, h2, hst, hG⟩ := H.out
      have kw : Kept w wr := Below.trans HW.out.1 (ho.below (fun i hi => Nat.le_of_eq hi.symm) HW.out.1.size)
      have e : sarr (fun j => if j < k then Z else ByteArray.empty) k = sarr (fun _ => Z) k := sarr_congr fun i hi => by simp [hi]
      rw [e] at hb
      have hD : Rk (w.heap.size + 1) G w.heap.size (.slice none 0 0) (fresh k st) wr := ⟨h.kept kw, hR, hb, World.ownsRow_nil _ _ _ _, ok_fresh h1 h2 hst⟩
      exact ⟨rfl, kw.off S, w.heap.size, _, hD, .inl hG, .inr ⟨by omega, hD.lts.2.1⟩, .inr ⟨Nat.le_refl _, hD.lts.2.2.1⟩, fun g hg => by simp [Value.ownBlock] at hg⟩
/-! Helpers. -/
def many (b : Nat) : ByteArray := ⟨(List.replicate 80 (UInt8.ofNat b)).toArray⟩
theorem many_size (b : Nat) : (many b).size = 80 := by simp [many, ByteArray.size]
def manyTo (b k : Nat) : List UInt8 := (List.range 80).map fun i => if i < k then UInt8.ofNat b else 0
theorem manyTo_len (b k : Nat) : (manyTo b k).length = 80 := by simp [manyTo]
theorem manyTo_zero (b : Nat) : manyTo b 0 = List.replicate 80 0 := by
  apply List.ext_getElem
  · simp [manyTo]
  · intro i h1 h2; rw [List.getElem_replicate]; simp [manyTo]
theorem manyTo_all (b : Nat) : manyTo b 80 = List.replicate 80 (UInt8.ofNat b) := by
  apply List.ext_getElem
  · simp [manyTo]
  · intro i h1 h2
    have : i < 80 := by simpa [manyTo] using h1
    rw [List.getElem_replicate]; simp [manyTo, this]
theorem manyTo_succ (b k : Nat) : (manyTo b k).set k (UInt8.ofNat b) = manyTo b (k + 1) := by
  apply List.ext_getElem
  · simp [manyTo]
  · intro i h1 h2
    rw [List.getElem_set]
    by_cases e : k = i
    · subst e; simp [manyTo]
    · have : i < k + 1 ↔ i < k := by omega
      simp [manyTo, e, this]
/-- Two slices of numbers are compared. -/
theorem equalints_c (a1 a2 : Option Addr) (l : List Nat) (n c1 c2 : Nat) (hn : l.length = n) (hl : n < 4294967296) (w : World) (h1 : ∀ k, (h : k < l.length) → ∃ g, a1 = some ⟨g, 0, none⟩ ∧ w.cell? ⟨g, k, none⟩ = some (.int .i64 (l[k] : Int))) (h2 : ∀ k, (h : k < l.length) → ∃ g, a2 = some ⟨g, 0, none⟩ ∧ w.cell? ⟨g, k, none⟩ = some (.int .i64 (l[k] : Int))) :
    Calls Tryz.prog 18 #[.slice a1 n c1, .slice a2 n c2] w fun e w' => e = .returned (.bool true) ∧ Kept w w' := by
  subst hn
  go_enter Tryz.func18, Tryz.ntmps18
  go_wp2
  go_loopw [5] (fun i wr => ∃ k : Nat, k ≤ l.length ∧ i = .int .i64 k ∧ ∃ m, wr = w.drewN m) (fun i _ => l.length - (intOf i).toNat)
  case atStart => exact ⟨0, by omega, rfl, 0, rfl⟩
  case round =>
    obtain ⟨k, hk, rfl, m, rfl⟩ := hrel
    by_cases hlt : k < l.length
    · obtain ⟨g, rfl, r1⟩ := h1 k hlt
      obtain ⟨g2, rfl, r2⟩ := h2 k hlt
      obtain ⟨x, hx⟩ : ∃ x, x = l[k] := ⟨_, rfl⟩
      rw [← hx] at r1 r2
      clear h1 h2 hx
      go_wp2
      go_region
      go_wp2
      go_roundw
      case rel => exact ⟨k + 1, by omega, by go_num, m + 1, rfl⟩
      case measure => simp [intOf]; omega
    · have hx : ¬ k < l.length := hlt
      go_wp2
      go_ret
      exact ⟨rfl, (Kept.refl w).drewN m⟩
/-! Nil. -/
theorem read_nil (k : Int) (w : World) : Calls Tryz.prog 46 #[.pointer none, .int .i64 k] w fun e w' => e = .returned (.tuple #[.string ⟨#[]⟩, .int .i64 1]) ∧ Kept w w' := by
  go_enter Tryz.func46, Tryz.ntmps46
  go_wp2
  go_ret2
  exact ⟨rfl, Kept.refl _⟩
theorem write_nil (k : Int) (d : ByteArray) (w : World) : Calls Tryz.prog 57 #[.pointer none, .int .i64 k, .string d] w fun e w' => e = .returned (.int .i64 1) ∧ Kept w w' := by
  go_enter Tryz.func57, Tryz.ntmps57
  go_wp2
  go_ret
  exact ⟨rfl, Kept.refl _⟩
theorem sync_nil (w : World) : Calls Tryz.prog 59 #[.pointer none] w fun e w' => e = .returned (.int .i64 1) ∧ Kept w w' := by
  go_enter Tryz.func59, Tryz.ntmps59
  go_wp2
  go_ret
  exact ⟨rfl, Kept.refl _⟩
theorem durable_nil (k : Int) (w : World) : Calls Tryz.prog 48 #[.pointer none, .int .i64 k] w fun e w' => e = .returned (.string ⟨#[]⟩) ∧ Kept w w' := by
  go_enter Tryz.func48, Tryz.ntmps48
  go_wp2
  go_ret
  exact ⟨rfl, Kept.refl _⟩
theorem sectors_nil (w : World) : Calls Tryz.prog 45 #[.pointer none] w fun e w' => e = .returned (.int .i64 0) ∧ Kept w w' := by
  go_enter Tryz.func45, Tryz.ntmps45
  go_wp2
  go_ret
  exact ⟨rfl, Kept.refl _⟩
theorem pending_nil (w : World) : Calls Tryz.prog 19 #[.pointer none] w fun e w' => e = .returned (.slice none 0 0) ∧ Kept w w' := by
  go_enter Tryz.func19, Tryz.ntmps19
  go_wp2
  go_ret
  exact ⟨rfl, Kept.refl _⟩
theorem full_nil (w : World) : Calls Tryz.prog 28 #[.pointer none] w fun e w' => e = .returned (.bool false) ∧ Kept w w' := by
  go_enter Tryz.func28, Tryz.ntmps28
  go_wp2
  go_ret
  exact ⟨rfl, Kept.refl _⟩
theorem setfull_nil (b : Bool) (w : World) : Calls Tryz.prog 16 #[.pointer none, .bool b] w fun e w' => e = .returned (.tuple #[]) ∧ Kept w w' := by
  go_enter Tryz.func16, Tryz.ntmps16
  go_wp2
  go_end0
  exact ⟨rfl, Kept.refl _⟩
theorem crash_nil (c : Ch) (w : World) : Calls Tryz.prog 39 #[.pointer none, .agg c.cells] w fun e w' => e = .returned (.tuple #[]) ∧ Kept w w' := by
  unfold Ch.cells
  go_enter Tryz.func39, Tryz.ntmps39
  go_wp2
  go_end0
  exact ⟨rfl, (Kept.refl w).alloc _⟩
end Go.Proofs.YtckbhjjflpobbaaGreat.Dz

namespace Go.Proofs.YtckbhjjflpobbaaGreat.Dz
open Go.RowKit Go.ChangeShapes Go.WideShapes Go.ChangeAt Go.Proofs.YtckbhjjflpobbaaGreat.Mem Go.Proofs.YtckbhjjflpobbaaGreat.Fz
set_option linter.unusedVariables false

theorem last_take_succ {l : Pend} {j : Nat} (h : j < l.length) (i : Nat) : last (l.take (j + 1)) i = if i = l[j].1 then some l[j].2 else last (l.take j) i := by
  unfold last
  rw [List.take_succ_eq_append_getElem h, List.foldl_append]; rfl
theorem Rk.rows {R G Sb : Nat} {pv : Value} {s : Ds} {w : World} (h : Rk R G Sb pv s w) : ∃ (ao : Option Addr) (cap : Nat), pv = .slice ao s.pend.length cap ∧ ∀ k (hk : k < s.pend.length), ∃ g, ao = some ⟨g, 0, none⟩ ∧ ∀ W, Off (fun k => k = Sb) w W → W.cell? ⟨g, k * 2, none⟩ = some (.int .i64 (s.pend[k].1 : Int)) ∧ W.cell? ⟨g, k * 2 + 1, none⟩ = some (.string s.pend[k].2) := by
  rcases row_slice h.prow with rfl | ⟨g, cap, rfl⟩
  · have h0 : s.pend.length = 0 := by
      rcases h.prow.2 with ⟨_, h0⟩ | ⟨_, _, _, e, _⟩
      · exact h0
      · simp at e
    exact ⟨none, 0, by rw [h0], fun k hk => by omega⟩
  · refine ⟨some ⟨g, 0, none⟩, cap, rfl, fun k hk => ⟨g, rfl, fun W hW => ?_⟩⟩
    have hg := h.prow.cells (g := g) rfl
    have ap := h.apart.p g rfl
    have q := cells_at s.pend k hk
    have a1 := hg _ _ q.1
    have a2 := hg _ _ q.2
    simp only [add_plain, Nat.zero_add] at a1 a2
    exact ⟨hW.cell a1 ap.2.2, hW.cell a2 ap.2.2⟩
theorem Rk.cells {R G Sb : Nat} {pv : Value} {s : Ds} {w : World} (h : Rk R G Sb pv s w) (W : World) (hW : Off (fun k => k = Sb) w W) : W.cell? ⟨R, 0, none⟩ = some (.slice (some ⟨Sb, 0, none⟩) s.n s.n) ∧ W.cell? ⟨R, 1, none⟩ = some pv ∧ W.cell? ⟨R, 2, none⟩ = some (.pointer (some ⟨G, 0, none⟩)) ∧ W.cell? ⟨R, 3, none⟩ = some (.bool s.full) ∧ ∀ i, W.frozen? ⟨R, i, none⟩ = false := by
  have hb := hW.at h.blk h.apart.RS
  exact ⟨cell_of_row _ _ _ _ _ _ hb, cell_of_row _ _ _ _ _ _ hb, cell_of_row _ _ _ _ _ _ hb, cell_of_row _ _ _ _ _ _ hb, fun i => frozen_of_row _ _ _ _ _ hb⟩
theorem Rk.sec {R G Sb : Nat} {pv : Value} {s : Ds} {w : World} (h : Rk R G Sb pv s w) {k : Nat} (hk : k < s.n) : w.cell? ⟨Sb, k, none⟩ = some (.string (s.dur k)) := by
  rw [cell_of_row _ _ _ _ _ _ h.srow, sarr_at _ _ _ hk]
theorem Rk.len {R G Sb : Nat} {pv : Value} {s : Ds} {w : World} (h : Rk R G Sb pv s w) : s.pend.length ≤ 9223372036854775807 := by
  rcases h.prow.2 with ⟨_, h0⟩ | ⟨_, _, _, _, _, _, h1, h2, _⟩
  · omega
  · unfold maxLen at h2; omega
theorem out_cases {s : Ds} {i : Int} (h : s.out i = true) : (decide (i < 0) = true) ∨ (decide (i < 0) = false ∧ decide (i ≥ (s.n : Int)) = true) := by
  unfold Ds.out at h
  by_cases h1 : i < 0
  · exact .inl (by simpa using h1)
  · refine .inr ⟨by simpa using h1, ?_⟩
    have : ¬ i < 0 := h1
    simp [this] at h
    simpa using h

set_option maxHeartbeats 1000000 in
set_option maxRecDepth 100000 in
theorem rread_c (R G Sb : Nat) (pv : Value) (s : Ds) (i : Int) (w : World) (h : Rk R G Sb pv s w) :
    Calls Tryz.prog 47 #[.pointer (some ⟨R, 0, none⟩), .int .i64 i] w fun e w' => e = .returned (.tuple #[.string (s.reads i).1, .int .i64 (s.reads i).2]) ∧ Kept w w' := by
  obtain ⟨c0, c1, c2, _⟩ := h.cells w (Off.refl _ _)
  cases ho : s.out i with
  | true =>
    have e1 : s.reads i = (ByteArray.empty, 3) := by simp [Ds.reads, ho]
    rw [e1]
    rcases out_cases ho with h1 | ⟨h1, h2⟩
    · clear h e1 ho
      go_enter Tryz.func47, Tryz.ntmps47
      go_wp2
      go_ret2
      exact ⟨rfl, Kept.refl _⟩
    · clear h e1 ho
      go_enter Tryz.func47, Tryz.ntmps47
      go_wp2
      go_ret2
      exact ⟨rfl, Kept.refl _⟩
  | false =>
    obtain ⟨sec, rfl, hk⟩ := Ds.out_nat ho
    have h1 : decide ((sec : Int) < 0) = false := by simp
    have h2 : decide (s.n ≤ sec) = false := by simp; omega
    have cd := h.rf.dead
    cases hd : s.fu.dead with
    | true =>
      rw [hd] at cd
      have e1 : s.reads (sec : Int) = (ByteArray.empty, 10) := by simp [Ds.reads, ho, hd]
      rw [e1]
      clear h e1 ho hd hk
      go_enter Tryz.func47, Tryz.ntmps47
      go_wp2
      go_ret2
      exact ⟨rfl, Kept.refl _⟩
    | false =>
      rw [hd] at cd
      have e1 : s.reads (sec : Int) = ((last s.pend sec).getD (s.dur sec), 0) := by simp [Ds.reads, ho, hd, Ds.look]
      rw [e1]
      have cs := h.sec hk
      have hlen := h.len
      obtain ⟨ao, cap, rfl, hrow⟩ := h.rows
      obtain ⟨v, hv⟩ : ∃ v, v = s.dur sec := ⟨_, rfl⟩
      rw [← hv] at cs ⊢
      have HC := Lib.hid (And.intro hrow (And.intro (h.cells) hlen))
      clear h e1 ho hd hv hrow hlen
      go_enter Tryz.func47, Tryz.ntmps47
      go_wp2
      go_loopw [6, 7] (fun x i wr => ∃ k : Nat, k ≤ s.pend.length ∧ i = .int .i64 k ∧ Kept w wr ∧ x = .string ((last (s.pend.take k) sec).getD v)) (fun _ i _ => s.pend.length - (intOf i).toNat)
      case atStart => exact ⟨0, by omega, rfl, Kept.refl _, by simp [last]⟩
      case round =>
        clear c0 c1 c2 cs cd h1 h2
        obtain ⟨k, hk, rfl, hp, rfl⟩ := hrel
        obtain ⟨_, c1, _⟩ := HC.out.2.1 wr (hp.off _)
        have hlen := HC.out.2.2
        by_cases hlt : k < s.pend.length
        · obtain ⟨g, rfl, hc⟩ := HC.out.1 k hlt
          obtain ⟨r0, r1⟩ := hc wr (hp.off _)
          obtain ⟨se, hsec⟩ : ∃ sec, sec = s.pend[k].1 := ⟨_, rfl⟩
          obtain ⟨dat, hdat⟩ : ∃ dat, dat = s.pend[k].2 := ⟨_, rfl⟩
          obtain ⟨o, hout⟩ : ∃ o, o = (last (s.pend.take k) sec).getD v := ⟨_, rfl⟩
          rw [← hsec] at r0
          rw [← hdat] at r1
          rw [← hout]
          have hl := last_take_succ hlt sec
          rw [← hsec, ← hdat] at hl
          by_cases hq : (se : Int) = (sec : Int)
          · have hq' : ((se : Int) == (sec : Int)) = true := by simpa using hq
            have en : (last (s.pend.take (k + 1)) sec).getD v = dat := by rw [hl, if_pos (by omega)]; rfl
            have Hs := Lib.hid (And.intro hp en)
            clear hc hsec hdat hp hl hq hout en hk
            go_wp2
            go_roundw
            case rel => exact ⟨k + 1, by omega, by go_num, Hs.out.1, by rw [Hs.out.2]⟩
            case measure => simp [intOf]; omega
          · have hq' : ((se : Int) == (sec : Int)) = false := by simpa using hq
            have en : (last (s.pend.take (k + 1)) sec).getD v = o := by rw [hl, if_neg (by omega), hout]
            have Hs := Lib.hid (And.intro hp en)
            clear hc hsec hdat hp hl hq hout en hk
            go_wp2
            go_roundw
            case rel => exact ⟨k + 1, by omega, by go_num, Hs.out.1, by rw [Hs.out.2]⟩
            case measure => simp [intOf]; omega
        · obtain rfl : k = s.pend.length := by omega
          have e : s.pend.take s.pend.length = s.pend := List.take_length
          rw [e]
          obtain ⟨o, hout⟩ : ∃ o, o = (last s.pend sec).getD v := ⟨_, rfl⟩
          rw [← hout]
          have Hx := Lib.hid (And.intro hp hout)
          clear hp hout e
          go_wp2
          go_ret2
          exact ⟨congrArg (fun x => Ending.returned (.tuple #[.string x, .int .i64 0])) Hx.out.2, Hx.out.1⟩

set_option maxHeartbeats 1000000 in
set_option maxRecDepth 100000 in
theorem rpending_c (R G Sb : Nat) (pv : Value) (s : Ds) (hroom : s.pend.length < 4294967296) (w : World) (h : Rk R G Sb pv s w) :
    Calls Tryz.prog 20 #[.pointer (some ⟨R, 0, none⟩)] w fun e w' => ∃ ao cap, e = .returned (.slice ao s.pend.length cap) ∧ Kept w w' ∧ Ints w.heap.size ao (s.pend.map (·.1)) w' := by
  obtain ⟨ao, cap, rfl, hrow⟩ := h.rows
  have HC := Lib.hid (And.intro hrow (And.intro hroom h.cells))
  obtain ⟨i0, hi, hz0, hz1, hz2⟩ := info_parts int_info
  clear h hrow
  go_enter Tryz.func20, Tryz.ntmps20
  go_wp2
  go_loopw [3, 4] (fun v i wr => ∃ k : Nat, k ≤ s.pend.length ∧ i = .int .i64 k ∧ Kept w wr ∧ wr.ownsRow w.heap.size 3 1 v k (nums ((s.pend.take k).map (·.1)))) (fun _ i _ => s.pend.length - (intOf i).toNat)
  case atStart => exact ⟨0, by omega, rfl, Kept.refl _, by simpa [nums] using World.ownsRow_nil _ _ _ _⟩
  case round =>
    obtain ⟨k, hk, rfl, hp, hown⟩ := hrel
    obtain ⟨_, c1, _⟩ := HC.out.2.2 wr (hp.off _)
    by_cases hlt : k < s.pend.length
    · obtain ⟨g, rfl, hc⟩ := HC.out.1 k hlt
      obtain ⟨r0, r1⟩ := hc wr (hp.off _)
      obtain ⟨sec, hsec⟩ : ∃ sec, sec = s.pend[k].1 := ⟨_, rfl⟩
      rw [← hsec] at r0
      have Hs := Lib.hid hsec
      have Hp := Lib.hid hp
      have Ho := Lib.hid hown
      clear hc hsec hp hown r1
      go_wp2_with (at_builtin; refine wpList_append_own_at _ rfl _ _ 57 rfl w.heap.size 3 i0 (.int .i64 0) 1 8 Tryz.underlying57 hi hz0 hz1 hz2 rfl (by decide) _ _ _ rfl (Ho.out.alloc _) ⟨wr.heap.size, 0, none⟩ 1 1 [.int .i64 (sec : Int)] rfl rfl (cell_one_new _ _ _) (by intro x hx; simp at hx; subst hx; rfl) (by have := HC.out.2.1; unfold maxLen; omega) (by have := HC.out.2.1; omega) (by have := Hp.out.size; simp; omega) ?_; intro v' w1 hown1 hgrow hnil hloc)
      go_roundw
      case rel =>
        refine ⟨k + 1, by omega, by go_num, grown_kept (Hp.out.alloc _) hgrow (fun g hg => (Ho.out.lt g hg).1), ?_⟩
        have e : nums ((s.pend.take (k + 1)).map (·.1)) = nums ((s.pend.take k).map (·.1)) ++ [.int .i64 (sec : Int)] := by
          rw [List.take_succ_eq_append_getElem hlt, List.map_append, Hs.out]; simp [nums]
        rw [e]; exact hown1
      case measure => simp [intOf]; omega
    · obtain rfl : k = s.pend.length := by omega
      have e : s.pend.take s.pend.length = s.pend := List.take_length
      rw [e] at hown
      have hown' : wr.ownsRow w.heap.size 3 1 u3 (s.pend.map (·.1)).length (nums (s.pend.map (·.1))) := by simpa using hown
      have Hx := Lib.hid (And.intro hp (ints_of hown'))
      clear hp hown hown' e
      go_wp2
      go_ret
      obtain ⟨hp, ao, cap', rfl, hi⟩ := Hx.out
      exact ⟨ao, cap', by simp, hp, hi⟩

theorem rwrite_info : (Tryz.prog.info? 99).map (fun i => (i.zero, i.size, i.bytes)) = some (some (.agg #[.int .i64 0, .string ByteArray.empty]), 2, 24) := by kernel_rfl
theorem wrote_rk {R G Sb : Nat} {pv v' : Value} {s : Ds} {i : Nat} {d : ByteArray} {u w1 : World} (h : Rk R G Sb pv s u) (hi : i < s.n) (hd : d.size = 80)
    (hrow : w1.ownsRow 0 99 2 v' (s.pend.length + 1) (cellsOf s.pend ++ [.int .i64 (i : Int), .string d])) (hg : u.grownBy w1 pv.ownBlock) (hv : v'.ownBlock = pv.ownBlock ∨ ∃ g, v'.ownBlock = some g ∧ u.heap.size ≤ g) :
    Rk R G Sb v' (s.wrote i d) (w1.setCell ⟨R, 1, none⟩ v') := by
  have a := h.apart
  obtain ⟨l1, l2, l3, l4⟩ := h.lts
  have hv' : ∀ g, v'.ownBlock = some g → g ≠ R := fun g hg' => by
    rcases hv with e | ⟨g', e, hlt⟩
    · exact (a.p g (by rw [← e]; exact hg')).1
    · rw [e] at hg'
      obtain rfl : g' = g := by simpa using hg'
      omega
  have nn : ∀ k, (k = R ∨ k = G ∨ k = Sb) → some k ≠ pv.ownBlock := fun k hk e => by
    obtain ⟨p1, p2, p3⟩ := a.p k e.symm
    rcases hk with rfl | rfl | rfl
    · exact p1 rfl
    · exact p2 rfl
    · exact p3 rfl
  have hblk : w1.heap[R]? = some (.cells (rblock G Sb pv s) 55 (0, 0)) := (hg.block R l2 (nn R (by simp))).trans h.blk
  refine ⟨?_, ?_, ?_, ?_, h.ok.wrote hi hd⟩
  · show (w1.setCell _ _).heap[G]? = _
    rw [heap_setCell_other _ _ _ _ a.RG.symm, hg.block G l1 (nn G (by simp))]
    exact h.rf
  · have := heap_setCell_same w1 R 1 _ _ v' hblk
    simpa [rblock, Ds.wrote] using this
  · rw [heap_setCell_other _ _ _ _ a.RS.symm, hg.block Sb l3 (nn Sb (by simp))]
    exact h.srow
  · have e1 : (s.wrote i d).pend.length = s.pend.length + 1 := by simp [Ds.wrote]
    have e2 : cellsOf (s.wrote i d).pend = cellsOf s.pend ++ [.int .i64 (i : Int), .string d] := cells_snoc _ _ _
    rw [e1, e2]
    exact row_at hrow fun g hg' => heap_setCell_other _ _ _ _ (hv' g hg')
theorem Rk.burnt {R G Sb : Nat} {pv : Value} {s : Ds} {w w' : World} (h : Rk R G Sb pv s w) (k : But G w w') {f : St} (hf : Rf G f w') (hk : f.ok) : Rk R G Sb pv { s with fu := f } w' :=
  have a := h.apart
  ⟨hf, k.at h.blk a.RG, k.at h.srow a.GS.symm, row_at h.prow (fun g hg => k.block g (h.lts.2.2.2 g hg) (a.p g hg).2.1), ⟨h.ok.lo, h.ok.hi, hk, h.ok.dur, h.ok.pend⟩⟩
set_option maxHeartbeats 1000000 in
set_option maxRecDepth 100000 in
theorem rwrite_c (R G Sb : Nat) (pv : Value) (s : Ds) (i : Int) (d : ByteArray) (hroom : s.pend.length < 4294967296) (S : Nat → Prop) (w : World) (h : Rk R G Sb pv s w)
    (hS : S G ∧ S R ∧ S Sb ∧ ∀ g, pv.ownBlock = some g → S g) :
    Calls Tryz.prog 62 #[.pointer (some ⟨R, 0, none⟩), .int .i64 i, .string d] w fun e w' => e = .returned (.int .i64 (s.writes i d).1) ∧ Off S w w' ∧ (rk G R (s.writes i d).2).p (grew S w w') w' := by
  have same : (rk G R s).p S w := ⟨Sb, pv, h, hS⟩
  obtain ⟨c0, c1, c2, _⟩ := h.cells w (Off.refl _ _)
  cases ho : s.out i with
  | true =>
    have e1 : s.writes i d = (3, s) := by simp [Ds.writes, ho]
    rw [e1]
    have H := Lib.hid same
    rcases out_cases ho with h1 | ⟨h1, h2⟩
    · clear h same e1 ho
      go_enter Tryz.func62, Tryz.ntmps62
      go_wp2
      go_ret
      exact ⟨rfl, Off.refl _ _, (rk G R s).mono _ _ _ H.out fun k hk => .inl hk⟩
    · clear h same e1 ho
      go_enter Tryz.func62, Tryz.ntmps62
      go_wp2
      go_ret
      exact ⟨rfl, Off.refl _ _, (rk G R s).mono _ _ _ H.out fun k hk => .inl hk⟩
  | false =>
    obtain ⟨k, rfl, hk⟩ := Ds.out_nat ho
    have h1 : decide ((k : Int) < 0) = false := by simp
    have h2 : decide (s.n ≤ k) = false := by simp; omega
    by_cases hd : d.size = 80
    · have hb := rburn_c G s.fu h.ok.fu w h.rf
      have hsz : ((d.size : Int) != 80) = false := by simp; omega
      rcases says_ok s.fu with h0 | h10
      · have e1 : s.writes (k : Int) d = (0, s.burnt.wrote k d) := by simp [Ds.writes, ho, hd, h0]
        rw [e1]
        rw [h0] at hb
        have H := Lib.hid (And.intro h (And.intro hS (And.intro hroom (And.intro hd hk))))
        obtain ⟨i0, hi, hz0, hz1, hz2⟩ := info_parts rwrite_info
        clear h same e1 ho h0 hk hroom hd hS c1
        go_enter Tryz.func62, Tryz.ntmps62
        go_wp2_with (first
          | (go_at_call 83; refine hb.mono ?_; rintro e u ⟨rfl, hbu, hfu⟩; have hq := (H.out.1).burnt hbu hfu (ok_burnt H.out.1.ok.fu); obtain ⟨_, c1, _⟩ := hq.cells u (Off.refl _ _); have Hq := Lib.hid hq; clear hq)
          | (at_builtin; refine wpList_append_own_at _ rfl _ _ 53 rfl 0 99 i0 (.agg #[.int .i64 0, .string ByteArray.empty]) 2 24 Tryz.underlying53 hi hz0 hz1 hz2 rfl (by decide) _ _ _ rfl (Hq.out.prow.alloc _) ⟨u.heap.size, 0, none⟩ 1 1 [.int .i64 (k : Int), .string d] rfl rfl (cell_two_new _ _ _ _) (by intro x hx; simp at hx; rcases hx with rfl | rfl <;> rfl) (by have := H.out.2.2.1; unfold maxLen; simp; omega) (by have := H.out.2.2.1; simp; omega) (Nat.zero_le _) ?_; intro v' w1 hrow hgrow hnil hloc
             have hq := Hq.out
             have hgr : u.grownBy w1 pv.ownBlock := (World.grownBy_alloc _ _ _).trans hgrow
             have hblk : w1.heap[R]? = _ := (hgr.block R hq.lts.2.1 (fun e => (hq.apart.p R e.symm).1 rfl)).trans hq.blk
             have d1 : w1.cell? ⟨R, 1, none⟩ = some pv := cell_of_row _ _ _ _ _ _ hblk
             have f1 : w1.frozen? ⟨R, 1, none⟩ = false := frozen_of_row _ _ _ _ _ hblk
             have hl : v'.ownBlock = pv.ownBlock ∨ ∃ g, v'.ownBlock = some g ∧ u.heap.size ≤ g := hloc.imp id fun e => ⟨_, e, by simp⟩
             obtain ⟨g1, cap1, rfl⟩ := row_pos hrow (Nat.succ_pos _)
             have Hx := Lib.hid (And.intro hrow (And.intro hgr hl))
             clear hrow hgr hgrow hloc hl hq hblk hnil))
        go_ret
        obtain ⟨hrow, hgr, hl⟩ := Hx.out
        obtain ⟨h, hS, _, hd, hk⟩ := H.out
        have hD := wrote_rk (s := s.burnt) Hq.out hk hd hrow hgr hl
        have ho := (grown_off (hbu.off hS.1) hgr fun g hg => .inl (hS.2.2.2 g hg)).setc R 1 (.slice (some ⟨g1, 0, none⟩) (s.pend.length + 1) cap1) (.inl hS.2.1)
        refine ⟨rfl, ho, Sb, _, hD, .inl hS.1, .inl hS.2.1, .inl hS.2.2.1, fun g hg => ?_⟩
        rcases hl with e | ⟨g', e, hlt⟩
        · exact .inl (hS.2.2.2 g (by rw [← e]; exact hg))
        · rw [e] at hg
          obtain rfl : g' = g := by simpa using hg
          exact .inr ⟨Nat.le_trans hbu.size hlt, hD.lts.2.2.2 g' e⟩
      · have e1 : s.writes (k : Int) d = (10, s.burnt) := by simp [Ds.writes, ho, hd, h10]
        rw [e1]
        rw [h10] at hb
        have H := Lib.hid (And.intro h hS)
        clear h same e1 ho h10 hk hroom hd hS c1
        go_enter Tryz.func62, Tryz.ntmps62
        go_wp2_with (go_at_call 83; refine hb.mono ?_; rintro e u ⟨rfl, hbu, hfu⟩)
        go_ret
        obtain ⟨h, hS⟩ := H.out
        exact ⟨rfl, hbu.off hS.1, (rk G R s.burnt).mono S _ _ ⟨Sb, pv, h.burnt hbu hfu (ok_burnt h.ok.fu), hS⟩ fun k hk => .inl hk⟩
    · have e1 : s.writes (k : Int) d = (2, s) := by simp [Ds.writes, ho, hd]
      rw [e1]
      have hsz : ((d.size : Int) != 80) = true := by simp; omega
      have H := Lib.hid same
      clear h same e1 ho hd
      go_enter Tryz.func62, Tryz.ntmps62
      go_wp2
      go_ret
      exact ⟨rfl, Off.refl _ _, (rk G R s).mono _ _ _ H.out fun k hk => .inl hk⟩
end Go.Proofs.YtckbhjjflpobbaaGreat.Dz

namespace Go.Proofs.YtckbhjjflpobbaaGreat.Dz
open Go.RowKit Go.ChangeShapes Go.WideShapes Go.ChangeAt Go.Proofs.YtckbhjjflpobbaaGreat.Mem Go.Proofs.YtckbhjjflpobbaaGreat.Fz
set_option linter.unusedVariables false

structure Rd (Sb : Nat) (s : Ds) (f : Nat → Nat) (w : World) (k : Nat) (wr : World) : Prop where
  off : Off (fun k => k = Sb) w wr
  row : wr.heap[Sb]? = some (.cells (sarr (settle f s.pend s.dur k) s.n) 9 (0, 0))
theorem Rd.kept {Sb : Nat} {s : Ds} {f : Nat → Nat} {w a b : World} {k : Nat} (h : Rd Sb s f w k a) (kk : Kept a b) : Rd Sb s f w k b := ⟨h.off.kept kk, kk.at h.row⟩
theorem Rd.put {Sb : Nat} {s : Ds} {f : Nat → Nat} {w a : World} {k : Nat} (h : Rd Sb s f w k a) (hlt : k < s.pend.length) {sec : Nat} {v : ByteArray} (hs : sec = s.pend[k].1)
    (hv : v = mix (f k) s.pend[k].2 (settle f s.pend s.dur k s.pend[k].1)) : Rd Sb s f w (k + 1) (a.setCell ⟨Sb, sec, none⟩ (.string v)) := by
  subst hs hv
  refine ⟨h.off.setc Sb _ _ (.inl rfl), ?_⟩
  rw [heap_setCell_same a Sb _ _ _ _ h.row, sarr_set, settle_succ hlt]
theorem Rd.skip {Sb : Nat} {s : Ds} {f : Nat → Nat} {w a : World} {k : Nat} (h : Rd Sb s f w k a) (hlt : k < s.pend.length) (hv : settle f s.pend s.dur k s.pend[k].1 = mix (f k) s.pend[k].2 (settle f s.pend s.dur k s.pend[k].1)) : Rd Sb s f w (k + 1) a := by
  refine ⟨h.off, ?_⟩
  rw [settle_succ hlt, ← hv, h.row]
  have e : Go.Proofs.YtckbhjjflpobbaaGreat.Dz.put (settle f s.pend s.dur k) s.pend[k].1 (settle f s.pend s.dur k s.pend[k].1) = settle f s.pend s.dur k := by
    funext j; unfold Go.Proofs.YtckbhjjflpobbaaGreat.Dz.put; split
    · next e => rw [e]
    · rfl
  rw [e]
theorem Rd.cell {Sb : Nat} {s : Ds} {f : Nat → Nat} {w a : World} {k : Nat} (h : Rd Sb s f w k a) {i : Nat} (hi : i < s.n) : a.cell? ⟨Sb, i, none⟩ = some (.string (settle f s.pend s.dur k i)) ∧ a.frozen? ⟨Sb, i, none⟩ = false := by
  refine ⟨?_, frozen_of_row _ _ _ _ _ h.row⟩
  rw [cell_of_row _ _ _ _ _ _ h.row, sarr_at _ _ _ hi]
theorem rsettled {R G Sb : Nat} {pv : Value} {s : Ds} {f : Nat → Nat} (hf : ∀ k, f k ≤ 80) {w w1 : World} (h : Rk R G Sb pv s w) (hs : Rd Sb s f w s.pend.length w1) :
    Rk R G Sb (.slice none 0 0) (s.settled f) (w1.setCell ⟨R, 1, none⟩ (.slice none 0 0)) := by
  have a := h.apart
  refine ⟨?_, ?_, ?_, World.ownsRow_nil _ _ _ _, h.ok.settled hf⟩
  · show (w1.setCell _ _).heap[G]? = _
    rw [heap_setCell_other _ _ _ _ a.RG.symm]
    exact hs.off.at h.rf a.GS
  · have := heap_setCell_same w1 R 1 _ _ (.slice none 0 0) (hs.off.at h.blk a.RS)
    simpa [rblock, Ds.settled] using this
  · rw [heap_setCell_other _ _ _ _ a.RS.symm]
    exact hs.row
theorem rsettled_rk {R G Sb : Nat} {pv : Value} {s : Ds} {f : Nat → Nat} (hf : ∀ k, f k ≤ 80) {w0 w w1 : World} {S : Nat → Prop} (h : Rk R G Sb pv s w) (hs : Rd Sb s f w s.pend.length w1) (ho : Off S w0 w) (hS : S G ∧ S R ∧ S Sb) :
    Off S w0 (w1.setCell ⟨R, 1, none⟩ (.slice none 0 0)) ∧ (rk G R (s.settled f)).p (grew S w0 (w1.setCell ⟨R, 1, none⟩ (.slice none 0 0))) (w1.setCell ⟨R, 1, none⟩ (.slice none 0 0)) :=
  ⟨(ho.trans (hs.off.mono fun k _ hk => by rcases hk with rfl; exact hS.2.2)).setc R 1 _ (.inl hS.2.1), Sb, _, rsettled hf h hs, .inl hS.1, .inl hS.2.1, .inl hS.2.2, fun g hg => by simp [Value.ownBlock] at hg⟩
theorem mix80 {a b : ByteArray} (ha : a.size = 80) (hb : b.size = 80) : mix 80 a b = a := mix_all ha hb
theorem mix0 {a b : ByteArray} : mix 0 a b = b := by
  unfold mix
  simp

set_option maxHeartbeats 2000000 in
set_option maxRecDepth 100000 in
theorem rsync_c (R G Sb : Nat) (pv : Value) (s : Ds) (S : Nat → Prop) (w : World) (h : Rk R G Sb pv s w)
    (hS : S G ∧ S R ∧ S Sb ∧ ∀ g, pv.ownBlock = some g → S g) :
    Calls Tryz.prog 63 #[.pointer (some ⟨R, 0, none⟩)] w fun e w' => e = .returned (.int .i64 s.syncs.1) ∧ Off S w w' ∧ (rk G R s.syncs.2).p (grew S w w') w' := by
  have hb := rburn_c G s.fu h.ok.fu w h.rf
  obtain ⟨_, _, c2, _⟩ := h.cells w (Off.refl _ _)
  have H := Lib.hid (And.intro h hS)
  clear h hS
  rcases says_ok s.fu with h0 | h10
  · have e1 : s.syncs = (0, s.burnt.settled fun _ => 80) := by simp [Ds.syncs, h0]
    rw [e1]
    rw [h0] at hb
    have hbt : ∀ u, But G w u → Rf G s.fu.burnt u → Rk R G Sb pv s.burnt u := fun u hbu hfu => H.out.1.burnt hbu hfu (ok_burnt H.out.1.ok.fu)
    obtain ⟨t, ht⟩ : ∃ t, t = s.burnt := ⟨_, rfl⟩
    rw [← ht] at hbt ⊢
    have HB := Lib.hid hbt
    clear e1 h0 ht hbt
    go_enter Tryz.func63, Tryz.ntmps63
    go_wp2_with (first
      | (go_at_call 83; refine hb.mono ?_; rintro e u ⟨rfl, hbu, hfu⟩; have hq := HB.out u hbu hfu; obtain ⟨ao, cap, rfl, hrow⟩ := hq.rows; have HC := Lib.hid (And.intro hrow (And.intro hq.cells hq)); have HU := Lib.hid hbu; clear hrow hq hbu hfu hb c2))
    go_loopw [4] (fun i wr => ∃ k : Nat, k ≤ t.pend.length ∧ i = .int .i64 k ∧ Rd Sb t (fun _ => 80) u k wr) (fun i _ => t.pend.length - (intOf i).toNat)
    case atStart => exact ⟨0, by omega, rfl, Off.refl _ _, HC.out.2.2.srow⟩
    case round =>
      obtain ⟨k, hk, rfl, hp⟩ := hrel
      have hlen := HC.out.2.2.len
      obtain ⟨c0, c1, _, _, f1⟩ := HC.out.2.1 wr hp.off
      by_cases hlt : k < t.pend.length
      · obtain ⟨g, rfl, hc⟩ := HC.out.1 k hlt
        obtain ⟨r0, r1⟩ := hc wr hp.off
        have okp : t.pend[k].1 < t.n ∧ t.pend[k].2.size = 80 := HC.out.2.2.ok.pend _ (List.getElem_mem hlt)
        have hold := size_settle (fun _ => Nat.le_refl 80) HC.out.2.2.ok.pend HC.out.2.2.ok.dur k _ okp.1
        obtain ⟨cs, fs⟩ := hp.cell okp.1
        have hmix := mix80 okp.2 hold
        obtain ⟨se, hsec⟩ : ∃ sec, sec = t.pend[k].1 := ⟨_, rfl⟩
        obtain ⟨dat, hdat⟩ : ∃ dat, dat = t.pend[k].2 := ⟨_, rfl⟩
        obtain ⟨old, hol⟩ : ∃ o, o = settle (fun _ => 80) t.pend t.dur k t.pend[k].1 := ⟨_, rfl⟩
        rw [← hol] at cs
        rw [← hsec] at r0 cs fs
        rw [← hdat] at r1
        have hse : se < t.n := by rw [hsec]; exact okp.1
        have Hs := Lib.hid (And.intro hp (And.intro hsec (hdat.trans hmix.symm)))
        clear hc hp hsec hdat hol hmix hold okp f1 hk
        go_wp2
        go_region
        go_wp2
        go_roundw
        case rel => exact ⟨k + 1, by omega, by go_num, (Hs.out.1.kept (Kept.refl _).drew).put hlt Hs.out.2.1 Hs.out.2.2⟩
        case measure => simp [intOf]; omega
      · obtain rfl : k = t.pend.length := by omega
        have f1' := f1 1
        have Hx := Lib.hid hp
        clear hp f1
        go_wp2
        go_ret
        obtain ⟨h, hS⟩ := H.out
        exact ⟨rfl, rsettled_rk (fun _ => Nat.le_refl 80) HC.out.2.2 Hx.out (HU.out.off hS.1) ⟨hS.1, hS.2.1, hS.2.2.1⟩⟩
  · have e1 : s.syncs = (10, s.burnt) := by simp [Ds.syncs, h10]
    rw [e1]
    rw [h10] at hb
    clear e1 h10
    go_enter Tryz.func63, Tryz.ntmps63
    go_wp2_with (go_at_call 83; refine hb.mono ?_; rintro e u ⟨rfl, hbu, hfu⟩)
    go_ret
    obtain ⟨h, hS⟩ := H.out
    exact ⟨rfl, hbu.off hS.1, (rk G R s.burnt).mono S _ _ ⟨Sb, pv, h.burnt hbu hfu (ok_burnt h.ok.fu), hS⟩ fun k hk => .inl hk⟩
end Go.Proofs.YtckbhjjflpobbaaGreat.Dz

namespace Go.Proofs.YtckbhjjflpobbaaGreat.Dz
open Go.RowKit Go.ChangeShapes Go.WideShapes Go.ChangeAt Go.Proofs.YtckbhjjflpobbaaGreat.Mem Go.Proofs.YtckbhjjflpobbaaGreat.Fz
set_option linter.unusedVariables false

set_option maxHeartbeats 3000000 in
set_option maxRecDepth 100000 in
theorem rcrash_c (c : Ch) (hc : c.ok) (R G Sb : Nat) (pv : Value) (s : Ds) (S : Nat → Prop) (w : World) (h : Rk R G Sb pv s w)
    (hS : S G ∧ S R ∧ S Sb ∧ ∀ g, pv.ownBlock = some g → S g) :
    Calls Tryz.prog 40 #[.pointer (some ⟨R, 0, none⟩), .agg c.cells] w fun e w' => e = .returned (.tuple #[]) ∧ Off S w w' ∧ (rk G R (s.settled c.left)).p (grew S w w') w' := by
  obtain ⟨u, hu⟩ : ∃ u, u = w.alloc (.cells c.cells 36 (0, 0)) := ⟨_, rfl⟩
  have ku : Kept w u := by rw [hu]; exact (Kept.refl w).alloc _
  have hbx : u.heap[w.heap.size]? = some (.cells c.cells 36 (0, 0)) := by rw [hu]; exact heap_alloc_new _ _
  have hq : Rk R G Sb pv s u := h.at (Below.block ku _ h.lts.1) (Below.block ku _ h.lts.2.1) (Below.block ku _ h.lts.2.2.1) (fun g hg => Below.block ku _ (h.lts.2.2.2 g hg))
  have hCS : w.heap.size ≠ Sb := Nat.ne_of_gt h.lts.2.2.1
  have cC : ∀ W, Off (fun k => k = Sb) u W → W.cell? ⟨w.heap.size, 0, none⟩ = some (.int .u64 (c.keep : Int)) ∧ W.cell? ⟨w.heap.size, 1, none⟩ = some (.int .i64 c.torn) ∧ W.cell? ⟨w.heap.size, 2, none⟩ = some (.int .i64 c.bytes) := fun W hW => by
    have hb := hW.at hbx hCS
    exact ⟨cell_of_row _ _ _ _ _ _ hb, cell_of_row _ _ _ _ _ _ hb, cell_of_row _ _ _ _ _ _ hb⟩
  obtain ⟨m, hm⟩ : ∃ m : Nat, m = (c.bytes % 80).toNat := ⟨_, rfl⟩
  have hm80 : m < 80 := by omega
  have hv : (c.bytes.tmod 80 + 80).tmod 80 = (m : Int) := by rw [tmod80]; omega
  obtain ⟨b1, b2⟩ := tmod80_b c.bytes
  have c2 := (cC u (Off.refl _ _)).2.2
  obtain ⟨ao, cap, rfl, hrow⟩ := hq.rows
  have hlt1 : ∀ k : Nat, (k : Int) = c.torn → c.left k = m := fun k e => by simp [Ch.left, e, hm]
  have hlt2 : ∀ k : Nat, ¬ (k : Int) = c.torn → c.left k = if c.keep.testBit (k % 64) then 80 else 0 := fun k e => by simp [Ch.left, e]
  have HL := Lib.hid (And.intro hlt1 (And.intro hlt2 (And.intro c.left_le (And.intro hm80 hc.keep))))
  have H := Lib.hid (And.intro h (And.intro hS ku))
  have HC := Lib.hid (And.intro hrow (And.intro hq.cells (And.intro hq cC)))
  have Hu := Lib.hid hu
  have HU := Lib.hid (lt_of_block hbx)
  unfold Ch.cells at hu ⊢
  obtain ⟨keep, torn, bytes⟩ := c
  dsimp only at *
  clear h hS ku hbx hq hCS cC hm hlt1 hlt2 hrow
  obtain ⟨f, hf⟩ : ∃ f, f = Ch.left ⟨keep, torn, bytes⟩ := ⟨_, rfl⟩
  rw [← hf] at HL ⊢
  clear hf
  go_enter Tryz.func40, Tryz.ntmps40
  go_wp2
  rw [← hu]
  clear Hu hv b1 b2 c2
  go_loopw [5] (fun i wr => ∃ k : Nat, k ≤ s.pend.length ∧ i = .int .i64 k ∧ Rd Sb s f u k wr) (fun i _ => s.pend.length - (intOf i).toNat)
  case atStart => exact ⟨0, by omega, rfl, Off.refl _ _, HC.out.2.2.1.srow⟩
  case round =>
    obtain ⟨k, hk, rfl, hp⟩ := hrel
    have hlen := HC.out.2.2.1.len
    obtain ⟨c0, c1, _, _, f1⟩ := HC.out.2.1 wr hp.off
    by_cases hlt : k < s.pend.length
    · obtain ⟨g, rfl, hc⟩ := HC.out.1 k hlt
      obtain ⟨r0, r1⟩ := hc wr hp.off
      obtain ⟨q0, q1, q2⟩ := HC.out.2.2.2 wr hp.off
      have hsz : w.heap.size < wr.heap.size := Nat.lt_of_lt_of_le HU.out hp.off.size
      have n1 : ¬ w.heap.size = wr.heap.size := by omega
      have n2 : ¬ wr.heap.size = w.heap.size := by omega
      clear hsz
      have okp : s.pend[k].1 < s.n ∧ s.pend[k].2.size = 80 := HC.out.2.2.1.ok.pend _ (List.getElem_mem hlt)
      have hold := size_settle HL.out.2.2.1 HC.out.2.2.1.ok.pend HC.out.2.2.1.ok.dur k _ okp.1
      obtain ⟨se, hsec⟩ : ∃ sec, sec = s.pend[k].1 := ⟨_, rfl⟩
      obtain ⟨dat, hdat⟩ : ∃ dat, dat = s.pend[k].2 := ⟨_, rfl⟩
      obtain ⟨old, hol⟩ : ∃ o, o = settle f s.pend s.dur k s.pend[k].1 := ⟨_, rfl⟩
      rw [← hsec] at r0
      rw [← hdat] at r1
      rw [← hol] at hold
      have hse : se < s.n := by rw [hsec]; exact okp.1
      have hdz : dat.size = 80 := by rw [hdat]; exact okp.2
      have hmx : mix (f k) dat old = mix (f k) s.pend[k].2 (settle f s.pend s.dur k s.pend[k].1) := by rw [hdat, hol]
      have hos : settle f s.pend s.dur k se = old := by rw [hsec, hol]
      obtain ⟨x, hx⟩ : ∃ x, x = wr.alloc (.cells #[.int .i64 (se : Int), .string dat] 99) := ⟨_, rfl⟩
      have kx : Kept wr x := by rw [hx]; exact (Kept.refl wr).alloc _
      have hpx : Rd Sb s f u k x := hp.kept kx
      have bx : x.heap[wr.heap.size]? = some (.cells #[.int .i64 (se : Int), .string dat] 99 (0, 0)) := by rw [hx]; exact heap_alloc_new _ _
      obtain ⟨d0, d1, _⟩ := HC.out.2.1 x hpx.off
      obtain ⟨e0, e1, e2⟩ := HC.out.2.2.2 x hpx.off
      have x0 : x.cell? ⟨wr.heap.size, 0, none⟩ = some (.int .i64 (se : Int)) := cell_of_row _ _ _ _ _ _ bx
      have x1 : x.cell? ⟨wr.heap.size, 1, none⟩ = some (.string dat) := cell_of_row _ _ _ _ _ _ bx
      obtain ⟨cs, fs⟩ := hpx.cell hse
      rw [hos] at cs
      have Hs := Lib.hid (And.intro hpx (And.intro hsec (And.intro hmx (And.intro hol hdat))))
      have y0 : (wr.alloc (.cells #[.int .i64 (se : Int), .string dat] 99)).cell? ⟨w.heap.size, 0, none⟩ = some (.int .u64 (keep : Int)) := by rw [← hx]; exact e0
      have y1 : (wr.alloc (.cells #[.int .i64 (se : Int), .string dat] 99)).cell? ⟨w.heap.size, 1, none⟩ = some (.int .i64 torn) := by rw [← hx]; exact e1
      have Hx := Lib.hid hx
      clear hc hp hsec hdat hol okp f1 hk hmx hos kx hpx bx
      by_cases ht : (k : Int) = torn
      · have hl := HL.out.1 k ht
        have ht' : ((k : Int) == torn) = true := by simpa using ht
        have hm80 := HL.out.2.2.2.1
        have hs1 : ∀ W, (Instr.slice 9 (.string dat) none (some (.int .i64 (m : Int))) none).run Tryz.prog W = .ok (.string (dat.extract 0 m)) W := slice_h dat m (by omega)
        have hs2 : ∀ W, (Instr.slice 9 (.string old) (some (.int .i64 (m : Int))) none none).run Tryz.prog W = .ok (.string (old.extract m old.size)) W := slice_l old m (by omega)
        obtain ⟨pa, hpa⟩ : ∃ pa, pa = dat.extract 0 m := ⟨_, rfl⟩
        obtain ⟨pb, hpb⟩ : ∃ pb, pb = old.extract m old.size := ⟨_, rfl⟩
        obtain ⟨v, hv⟩ : ∃ v, v = pa ++ pb := ⟨_, rfl⟩
        have hcm : v = mix m dat old := by rw [hv, hpa, hpb]; rfl
        have csz : v.size = 80 := by rw [hcm]; exact size_mix (by omega) hdz hold
        rw [← hpa] at hs1
        rw [← hpb] at hs2
        have psz : pa.size + pb.size = 80 := by rw [← ByteArray.size_append, ← hv]; exact csz
        have hadd : ∀ W, (Op.stringOp .add pa pb).run Tryz.prog W = .ok (.string v) W := fun W => by
          rw [hv]; exact run_string_add_sum W pa pb (by omega)
        have Ht := Lib.hid (And.intro hcm hl)
        clear psz csz hcm hv hpa hpb hl hm80 hdz hold ht
        go_wp2
        rw [← hx]
        clear hx
        go_region
        go_wp2
        go_roundw
        case rel => exact ⟨k + 1, by omega, by go_num, (Hs.out.1.kept (Kept.refl _).drew).put hlt Hs.out.2.1 (by rw [← Hs.out.2.2.1, Ht.out.2]; exact Ht.out.1)⟩
        case measure => simp [intOf]; omega
      · have hl := HL.out.2.1 k ht
        have ht' : ((k : Int) == torn) = false := by simpa using ht
        have hb := keep_bit keep (k % 64) HL.out.2.2.2.2
        clear ht hm80
        cases hq : keep.testBit (k % 64) with
        | true =>
          rw [hq] at hb hl
          have Ht := Lib.hid (And.intro hl (mix80 hdz hold))
          clear hl hdz hold hq
          go_wp2
          rw [← hx]
          clear hx
          go_region
          go_wp2
          go_roundw
          case rel => exact ⟨k + 1, by omega, by go_num, (Hs.out.1.kept (Kept.refl _).drew).put hlt Hs.out.2.1 (by rw [← Hs.out.2.2.1, Ht.out.1]; exact Ht.out.2.symm)⟩
          case measure => simp [intOf]; omega
        | false =>
          rw [hq] at hb hl
          have Ht := Lib.hid hl
          clear hl hdz hold hq
          go_wp2
          rw [← hx]
          go_roundw
          case rel => exact ⟨k + 1, by omega, by go_num, Hs.out.1.skip hlt (by rw [← Hs.out.2.2.1, Ht.out]; exact Hs.out.2.2.2.1.symm.trans mix0.symm)⟩
          case measure => simp [intOf]; omega
    · obtain rfl : k = s.pend.length := by omega
      have f1' := f1 1
      have Hx := Lib.hid hp
      clear hp f1
      go_wp2
      go_end0
      obtain ⟨h, hS, ku⟩ := H.out
      exact ⟨rfl, rsettled_rk HL.out.2.2.1 HC.out.2.2.1 Hx.out (ku.off S) ⟨hS.1, hS.2.1, hS.2.2.1⟩⟩
end Go.Proofs.YtckbhjjflpobbaaGreat.Dz

namespace Go.Proofs.YtckbhjjflpobbaaGreat.Dz
open Go.RowKit Go.ChangeShapes Go.WideShapes Go.ChangeAt Go.Proofs.YtckbhjjflpobbaaGreat.Mem Go.Proofs.YtckbhjjflpobbaaGreat.Fz
set_option linter.unusedVariables false

theorem o_rnew {w0 w : World} {L : List As} (h : Own w0 L w) (i : Nat) {G : Nat} {st : St} (hi : L[i]? = some (rfA G st)) {n : Nat} (h1 : 1 ≤ n) (h2 : n ≤ 65536) :
    Calls Tryz.prog 25 #[.int .i64 (n : Int), .pointer (some ⟨G, 0, none⟩)] w fun e w' => ∃ R, e = .returned (.tuple #[.pointer (some ⟨R, 0, none⟩), .int .i64 0]) ∧ Own w0 (L.set i (rk G R (fresh n st))) w' :=
  (h.lift1 i hi fun S ⟨hf, ho, hF⟩ _ => rnew_c G st n h1 h2 S w hf ho hF).mono fun e w' ⟨he, hk⟩ => ⟨_, he, hk⟩
def bothOf (F D G R : Value) : Array Value := #[F, D, G, R]
theorem Own.both {w0 w : World} {L : List As} (h : Own w0 L w) (F : Nat) :
    Own w0 (boxA (w.heap.size + 1) #[.pointer (some ⟨F, 0, none⟩), .pointer none, .pointer (some ⟨w.heap.size, 0, none⟩), .pointer none] 51 :: rfA w.heap.size .idle :: L)
      ((w.alloc (.cells #[.bool false, .bool false, .int .i64 0] 66)).alloc (.cells #[.pointer (some ⟨F, 0, none⟩), .pointer none, .pointer (some ⟨w.heap.size, 0, none⟩), .pointer none] 51)) := by
  have q := (h.push (b := rfA w.heap.size .idle) ((Kept.refl w).alloc (.cells #[.bool false, .bool false, .int .i64 0] 66)) ⟨heap_alloc_new _ _, trivial, .inr ⟨Nat.le_refl _, by simp⟩⟩).front
  have q2 := q.box #[.pointer (some ⟨F, 0, none⟩), .pointer none, .pointer (some ⟨w.heap.size, 0, none⟩), .pointer none] 51
  rw [World.size_alloc] at q2
  exact q2
theorem box4 {u : World} {B : Nat} {x y z t : Value} {T : TypeId} (h : u.heap[B]? = some (.cells #[x, y, z, t] T (0, 0))) : u.cell? ⟨B, 0, none⟩ = some x ∧ u.cell? ⟨B, 1, none⟩ = some y ∧ u.cell? ⟨B, 2, none⟩ = some z ∧ u.cell? ⟨B, 3, none⟩ = some t ∧ ∀ i, u.frozen? ⟨B, i, none⟩ = false :=
  ⟨cell_of_row _ _ _ _ _ _ h, cell_of_row _ _ _ _ _ _ h, cell_of_row _ _ _ _ _ _ h, cell_of_row _ _ _ _ _ _ h, fun i => frozen_of_row _ _ _ _ _ h⟩
set_option maxHeartbeats 2000000 in
set_option maxRecDepth 100000 in
theorem bnew_c {w0 w : World} {L : List As} (h : Own w0 L w) (n : Nat) (h1 : 1 ≤ n) (h2 : n ≤ 65536) :
    Calls Tryz.prog 6 #[.int .i64 (n : Int)] w fun e w' => ∃ X F D G R, e = .returned (.pointer (some ⟨X, 0, none⟩)) ∧
      Own w0 (boxA X #[.pointer (some ⟨F, 0, none⟩), .pointer (some ⟨D, 0, none⟩), .pointer (some ⟨G, 0, none⟩), .pointer (some ⟨R, 0, none⟩)] 51 :: rk G R (fresh n .idle) :: dk F D (fresh n .idle) :: L) w' := by
  have hfn : Calls Tryz.prog 23 #[] w fun e w' => ∃ F, e = .returned (.pointer (some ⟨F, 0, none⟩)) ∧ Own w0 (fzA F .idle :: L) w' := (o_fnew h).mono fun e w' ⟨F, he, hk⟩ => ⟨F, he, hk.front⟩
  have hnew : ∀ {A B : As} {F : Nat} {W : World}, Own w0 (A :: B :: fzA F .idle :: L) W → Calls Tryz.prog 22 #[.int .i64 (n : Int), .pointer (some ⟨F, 0, none⟩)] W fun e w' => ∃ D, e = .returned (.tuple #[.pointer (some ⟨D, 0, none⟩), .int .i64 0]) ∧ Own w0 (A :: B :: dk F D (fresh n .idle) :: L) w' := fun h => o_new h 2 rfl h1 h2
  have hrn : ∀ {A B : As} {G : Nat} {W : World}, Own w0 (A :: rfA G .idle :: B :: L) W → Calls Tryz.prog 25 #[.int .i64 (n : Int), .pointer (some ⟨G, 0, none⟩)] W fun e w' => ∃ R, e = .returned (.tuple #[.pointer (some ⟨R, 0, none⟩), .int .i64 0]) ∧ Own w0 (A :: rk G R (fresh n .idle) :: B :: L) w' := fun h => o_rnew h 1 rfl h1 h2
  clear h h1 h2
  go_enter Tryz.func6, Tryz.ntmps6
  go_wp2_with (first
    | (go_at_call 23; (with_reducible refine hfn.mono ?_); rintro e u1 ⟨F, rfl, k1⟩)
    | (go_at_call 22; (with_reducible refine (hnew (Own.both k1 F)).mono ?_); rintro e u2 ⟨D, rfl, k2⟩; obtain ⟨b0, b1, b2, b3, bf⟩ := box4 (Own.boxed k2 0 rfl))
    | (go_at_call 25; (with_reducible refine (hrn k2).mono ?_); rintro e u3 ⟨R, rfl, k3⟩; obtain ⟨d0, d1, d2, d3, df⟩ := box4 (Own.boxed k3 0 rfl); have df1 := df 1; have df3 := df 3))
  go_ret
  refine ⟨u1.heap.size + 1, F, D, u1.heap.size, R, rfl, ?_⟩
  have q := (k3.boxset 0 rfl 1 (.pointer (some ⟨D, 0, none⟩))).boxset 0 rfl 3 (.pointer (some ⟨R, 0, none⟩))
  simpa using q
end Go.Proofs.YtckbhjjflpobbaaGreat.Dz

namespace Go.Proofs.YtckbhjjflpobbaaGreat.Dz
open Go.RowKit Go.ChangeShapes Go.WideShapes Go.ChangeAt Go.Proofs.YtckbhjjflpobbaaGreat.Mem Go.Proofs.YtckbhjjflpobbaaGreat.Fz
set_option linter.unusedVariables false

theorem _root_.Go.Proofs.YtckbhjjflpobbaaGreat.Mem.Own.rlook {P : Program} {fn : Nat} {args : Array Value} {w0 w : World} {L : List As} (h : Own w0 L w) (i : Nat) {G R : Nat} {s : Ds} (hi : L[i]? = some (rk G R s)) {Q : Ending → World → Prop}
    (c : ∀ Sb pv, Rk R G Sb pv s w → Calls P fn args w fun e w' => Q e w' ∧ Kept w w') : Calls P fn args w fun e w' => Q e w' ∧ Own w0 L w' := by
  obtain ⟨S, ⟨Sb, pv, hd, _⟩, _⟩ := h.see i hi
  exact (c Sb pv hd).mono fun e w' ⟨hr, hk⟩ => ⟨hr, h.later hk⟩
theorem o_rread {w0 w : World} {L : List As} (h : Own w0 L w) (i : Nat) {G R : Nat} {s : Ds} (hi : L[i]? = some (rk G R s)) (k : Int) :
    Calls Tryz.prog 47 #[.pointer (some ⟨R, 0, none⟩), .int .i64 k] w fun e w' => e = .returned (.tuple #[.string (s.reads k).1, .int .i64 (s.reads k).2]) ∧ Own w0 L w' :=
  h.rlook i hi fun Sb pv hd => rread_c R G Sb pv s k w hd
theorem o_rpending {w0 w : World} {L : List As} (h : Own w0 L w) (i : Nat) {G R : Nat} {s : Ds} (hi : L[i]? = some (rk G R s)) (hroom : s.pend.length < 4294967296) :
    Calls Tryz.prog 20 #[.pointer (some ⟨R, 0, none⟩)] w fun e w' => (∃ ao cap, e = .returned (.slice ao s.pend.length cap) ∧ Ints w.heap.size ao (s.pend.map (·.1)) w') ∧ Own w0 L w' :=
  h.rlook i hi fun Sb pv hd => (rpending_c R G Sb pv s hroom w hd).mono fun e w' ⟨ao, cap, he, hk, hi⟩ => ⟨⟨ao, cap, he, hi⟩, hk⟩
theorem o_rwrite {w0 w : World} {L : List As} (h : Own w0 L w) (i : Nat) {G R : Nat} {s : Ds} (hi : L[i]? = some (rk G R s)) (hroom : s.pend.length < 4294967296) (k : Int) (d : ByteArray) :
    Calls Tryz.prog 62 #[.pointer (some ⟨R, 0, none⟩), .int .i64 k, .string d] w fun e w' => e = .returned (.int .i64 (s.writes k d).1) ∧ Own w0 (L.set i (rk G R (s.writes k d).2)) w' :=
  h.lift1 i hi fun S ⟨Sb, pv, hd, hS⟩ _ => rwrite_c R G Sb pv s k d hroom S w hd hS
theorem o_rsync {w0 w : World} {L : List As} (h : Own w0 L w) (i : Nat) {G R : Nat} {s : Ds} (hi : L[i]? = some (rk G R s)) :
    Calls Tryz.prog 63 #[.pointer (some ⟨R, 0, none⟩)] w fun e w' => e = .returned (.int .i64 s.syncs.1) ∧ Own w0 (L.set i (rk G R s.syncs.2)) w' :=
  h.lift1 i hi fun S ⟨Sb, pv, hd, hS⟩ _ => rsync_c R G Sb pv s S w hd hS
theorem o_rcrash {w0 w : World} {L : List As} (h : Own w0 L w) (i : Nat) {G R : Nat} {s : Ds} (hi : L[i]? = some (rk G R s)) {c : Ch} (hc : c.ok) :
    Calls Tryz.prog 40 #[.pointer (some ⟨R, 0, none⟩), .agg c.cells] w fun e w' => e = .returned (.tuple #[]) ∧ Own w0 (L.set i (rk G R (s.settled c.left))) w' :=
  h.lift1 i hi fun S ⟨Sb, pv, hd, hS⟩ _ => rcrash_c c hc R G Sb pv s S w hd hS
theorem o_rfuse {fn : Nat} {args : Array Value} {w0 w : World} {L : List As} (h : Own w0 L w) (i : Nat) {G R : Nat} {s : Ds} (hi : L[i]? = some (rk G R s)) {Q : Ending → Prop} {f : St} (hf : f.ok)
    (c : Rf G s.fu w → Calls Tryz.prog fn args w fun e w' => Q e ∧ But G w w' ∧ Rf G f w') : Calls Tryz.prog fn args w fun e w' => Q e ∧ Own w0 (L.set i (rk G R { s with fu := f })) w' :=
  h.lift1 i hi fun S ⟨Sb, pv, hd, h1, h2, h3, h4⟩ _ => (c hd.rf).mono fun e w' ⟨he, hk, hf'⟩ => ⟨he, hk.off h1, Sb, pv, hd.burnt hk hf' hf, .inl h1, .inl h2, .inl h3, fun g hg => .inl (h4 g hg)⟩
theorem ok_arm {s : St} (h : s.ok) {k : Int} (hk : k < 9223372036854775808) : (s.arm k).ok := by
  cases s <;> simp only [St.arm] <;> (try split) <;> first | exact h | trivial | (show _ < 9223372036854775808; omega)
/-- The pair: its box, the specification's disk, the disk. -/
def pair (X F D G R : Nat) (s : Ds) (L : List As) : List As :=
  boxA X #[.pointer (some ⟨F, 0, none⟩), .pointer (some ⟨D, 0, none⟩), .pointer (some ⟨G, 0, none⟩), .pointer (some ⟨R, 0, none⟩)] 51 :: rk G R s :: dk F D s :: L
theorem pair_cells {w0 u : World} {X F D G R : Nat} {L : List As} (h : Own w0 (boxA X #[.pointer (some ⟨F, 0, none⟩), .pointer (some ⟨D, 0, none⟩), .pointer (some ⟨G, 0, none⟩), .pointer (some ⟨R, 0, none⟩)] 51 :: L) u) (W : World) (hW : Kept u W) :
    W.cell? ⟨X, 0, none⟩ = some (.pointer (some ⟨F, 0, none⟩)) ∧ W.cell? ⟨X, 1, none⟩ = some (.pointer (some ⟨D, 0, none⟩)) ∧ W.cell? ⟨X, 2, none⟩ = some (.pointer (some ⟨G, 0, none⟩)) ∧ W.cell? ⟨X, 3, none⟩ = some (.pointer (some ⟨R, 0, none⟩)) := by
  obtain ⟨h0, h1, h2, h3, _⟩ := box4 (Own.boxed (h.later hW) 0 rfl)
  exact ⟨h0, h1, h2, h3⟩
set_option maxHeartbeats 2000000 in
set_option maxRecDepth 100000 in
theorem barm_c {w0 w : World} {X F D G R : Nat} {s : Ds} {L : List As} (h : Own w0 (pair X F D G R s L) w) (hs : s.fu.ok) (k : Int) (hk : k < 9223372036854775808) :
    Calls Tryz.prog 14 #[.pointer (some ⟨X, 0, none⟩), .int .i64 k] w fun e w' => e = .returned (.bool true) ∧ Own w0 (pair X F D G R { s with fu := s.fu.arm k } L) w' := by
  unfold pair at h ⊢
  obtain ⟨t, ht⟩ : ∃ t : Ds, t = { s with fu := s.fu.arm k } := ⟨_, rfl⟩
  have hA : ∀ {A B : As} {W : World}, Own w0 (A :: B :: dk F D s :: L) W → Calls Tryz.prog 37 #[.pointer (some ⟨F, 0, none⟩), .int .i64 k] W fun e w' => e = .returned (.int .i64 (s.fu.armSays k)) ∧ Own w0 (A :: B :: dk F D t :: L) w' := fun h => by
    rw [ht]; exact o_fuse h 2 rfl (ok_arm hs hk) fun hf _ => arm_c _ _ k _ hf
  have hB : ∀ {A : As} {B : List As} {W : World}, Own w0 (A :: rk G R s :: B) W → Calls Tryz.prog 38 #[.pointer (some ⟨G, 0, none⟩), .int .i64 k] W fun e w' => e = .returned (.int .i64 (s.fu.armSays k)) ∧ Own w0 (A :: rk G R t :: B) w' := fun h => by
    rw [ht]; exact o_rfuse h 1 rfl (ok_arm hs hk) fun hf => rarm_c _ _ k _ hf
  rw [← ht]
  obtain ⟨q, hq⟩ : ∃ q, q = s.fu.armSays k := ⟨_, rfl⟩
  rw [← hq] at hA hB
  have hd := h.later (Kept.refl w).drew
  have c0 := (pair_cells h w (Kept.refl w)).1
  have c2 := (pair_cells h w (Kept.refl w)).2.2.1
  have S1 := And.intro c0 c2
  have S1' := And.intro (pair_cells h w.drew (Kept.refl w).drew).1 (pair_cells h w.drew (Kept.refl w).drew).2.2.1
  clear h ht hq hs hk
  go_enter Tryz.func14, Tryz.ntmps14
  go_wp2
  go_region_held3 (fun W => W.cell? ⟨X, 0, none⟩ = some (.pointer (some ⟨F, 0, none⟩)) ∧ W.cell? ⟨X, 2, none⟩ = some (.pointer (some ⟨G, 0, none⟩)))
    (first | assumption | exact ⟨(pair_cells k1 _ (Kept.refl _)).1, (pair_cells k1 _ (Kept.refl _)).2.2.1⟩ | exact ⟨(pair_cells k2 _ (Kept.refl _)).1, (pair_cells k2 _ (Kept.refl _)).2.2.1⟩)
    (first
      | (go_at_call 37; (with_reducible refine (hA hd).mono ?_); rintro e u1 ⟨rfl, k1⟩)
      | (go_at_call 38; (with_reducible refine (hB k1).mono ?_); rintro e u2 ⟨rfl, k2⟩))
  go_wp2
  go_ret
  exact ⟨by simp, k2⟩
theorem pairc_cells {w0 u : World} {X F D G R C keep : Nat} {torn bytes : Int} {L : List As} (h : Own w0 (boxA C #[.int .u64 (keep : Int), .int .i64 torn, .int .i64 bytes] 36 :: boxA X #[.pointer (some ⟨F, 0, none⟩), .pointer (some ⟨D, 0, none⟩), .pointer (some ⟨G, 0, none⟩), .pointer (some ⟨R, 0, none⟩)] 51 :: L) u) :
    (u.cell? ⟨C, 0, none⟩ = some (.int .u64 (keep : Int)) ∧ u.cell? ⟨C, 1, none⟩ = some (.int .i64 torn) ∧ u.cell? ⟨C, 2, none⟩ = some (.int .i64 bytes)) ∧ u.cell? ⟨X, 0, none⟩ = some (.pointer (some ⟨F, 0, none⟩)) ∧ u.cell? ⟨X, 1, none⟩ = some (.pointer (some ⟨D, 0, none⟩)) ∧ u.cell? ⟨X, 2, none⟩ = some (.pointer (some ⟨G, 0, none⟩)) ∧ u.cell? ⟨X, 3, none⟩ = some (.pointer (some ⟨R, 0, none⟩)) := by
  obtain ⟨h0, h1, h2, h3, _⟩ := box4 (Own.boxed h 1 rfl)
  have hb := Own.boxed h 0 rfl
  exact ⟨⟨cell_of_row _ _ _ _ _ _ hb, cell_of_row _ _ _ _ _ _ hb, cell_of_row _ _ _ _ _ _ hb⟩, h0, h1, h2, h3⟩
set_option maxHeartbeats 2000000 in
set_option maxRecDepth 100000 in
theorem bcrash_c {w0 w : World} {X F D G R : Nat} {s : Ds} {L : List As} (h : Own w0 (pair X F D G R s L) w) {c : Ch} (hc : c.ok) :
    Calls Tryz.prog 15 #[.pointer (some ⟨X, 0, none⟩), .agg c.cells] w fun e w' => e = .returned (.tuple #[]) ∧ Own w0 (pair X F D G R { s.settled c.left with fu := .idle } L) w' := by
  unfold pair at h ⊢
  obtain ⟨t, ht⟩ : ∃ t : Ds, t = s.settled c.left := ⟨_, rfl⟩
  obtain ⟨t2, ht2⟩ : ∃ t2 : Ds, t2 = { t with fu := .idle } := ⟨_, rfl⟩
  have hA : ∀ {C A B : As} {W : World}, Own w0 (C :: A :: B :: dk F D s :: L) W → Calls Tryz.prog 39 #[.pointer (some ⟨D, 0, none⟩), .agg c.cells] W fun e w' => e = .returned (.tuple #[]) ∧ Own w0 (C :: A :: B :: dk F D t :: L) w' := fun h => by
    rw [ht]; exact o_crash h 3 rfl hc
  have hB : ∀ {C A : As} {B : List As} {W : World}, Own w0 (C :: A :: rk G R s :: B) W → Calls Tryz.prog 40 #[.pointer (some ⟨R, 0, none⟩), .agg c.cells] W fun e w' => e = .returned (.tuple #[]) ∧ Own w0 (C :: A :: rk G R t :: B) w' := fun h => by
    rw [ht]; exact o_rcrash h 2 rfl hc
  have hA2 : ∀ {C A B : As} {W : World}, Own w0 (C :: A :: B :: dk F D t :: L) W → Calls Tryz.prog 41 #[.pointer (some ⟨F, 0, none⟩)] W fun e w' => e = .returned (.tuple #[]) ∧ Own w0 (C :: A :: B :: dk F D t2 :: L) w' := fun h => by
    rw [ht2]; exact o_fuse h 3 rfl (f := .idle) trivial fun hf _ => reset_c _ _ _ hf
  have hB2 : ∀ {C A : As} {B : List As} {W : World}, Own w0 (C :: A :: rk G R t :: B) W → Calls Tryz.prog 42 #[.pointer (some ⟨G, 0, none⟩)] W fun e w' => e = .returned (.tuple #[]) ∧ Own w0 (C :: A :: rk G R t2 :: B) w' := fun h => by
    rw [ht2]; exact o_rfuse h 2 rfl (f := .idle) trivial fun hf => rreset_c _ _ _ hf
  rw [← ht, ← ht2]
  obtain ⟨keep, torn, bytes⟩ := c
  unfold Ch.cells at hA hB ⊢
  dsimp only at hA hB ⊢
  obtain ⟨x, hx⟩ : ∃ x, x = w.alloc (.cells #[.int .u64 (keep : Int), .int .i64 torn, .int .i64 bytes] 36) := ⟨_, rfl⟩
  have kx : Kept w x := by rw [hx]; exact (Kept.refl w).alloc _
  have bx : x.heap[w.heap.size]? = some (.cells #[.int .u64 (keep : Int), .int .i64 torn, .int .i64 bytes] 36 (0, 0)) := by rw [hx]; exact heap_alloc_new _ _
  have hX := h.box #[.int .u64 (keep : Int), .int .i64 torn, .int .i64 bytes] 36
  rw [← hx] at hX
  clear ht ht2 hc
  go_enter Tryz.func15, Tryz.ntmps15
  go_wp2
  rw [← hx]
  clear hx kx bx h
  have hXd := hX.later (Kept.refl x).drew
  obtain ⟨⟨a0, a1, a2⟩, a3, a4, a5, a6⟩ := pairc_cells hX
  have S1 := And.intro (And.intro a0 (And.intro a1 a2)) a4
  have S1' := And.intro (pairc_cells hXd).1 (pairc_cells hXd).2.2.1
  go_region_held3 (fun W => (W.cell? ⟨w.heap.size, 0, none⟩ = some (.int .u64 (keep : Int)) ∧ W.cell? ⟨w.heap.size, 1, none⟩ = some (.int .i64 torn) ∧ W.cell? ⟨w.heap.size, 2, none⟩ = some (.int .i64 bytes)) ∧ W.cell? ⟨X, 1, none⟩ = some (.pointer (some ⟨D, 0, none⟩)))
    (first | assumption | exact ⟨(pairc_cells k1).1, (pairc_cells k1).2.2.1⟩)
    (first | (go_at_call 39; (with_reducible refine (hA hXd).mono ?_); rintro e u1 ⟨rfl, k1⟩))
  clear a0 a1 a2 a3 a4 a5 a6 S1 S1' hXd hX
  have hXd := k1.later (Kept.refl u1).drew
  obtain ⟨⟨a0, a1, a2⟩, a3, a4, a5, a6⟩ := pairc_cells k1
  have S1 := And.intro (And.intro a0 (And.intro a1 a2)) a6
  have S1' := And.intro (pairc_cells hXd).1 (pairc_cells hXd).2.2.2.2
  go_wp2
  go_region_held3 (fun W => (W.cell? ⟨w.heap.size, 0, none⟩ = some (.int .u64 (keep : Int)) ∧ W.cell? ⟨w.heap.size, 1, none⟩ = some (.int .i64 torn) ∧ W.cell? ⟨w.heap.size, 2, none⟩ = some (.int .i64 bytes)) ∧ W.cell? ⟨X, 3, none⟩ = some (.pointer (some ⟨R, 0, none⟩)))
    (first | assumption | exact ⟨(pairc_cells k2).1, (pairc_cells k2).2.2.2.2⟩)
    (first | (go_at_call 40; (with_reducible refine (hB hXd).mono ?_); rintro e u2 ⟨rfl, k2⟩))
  clear a0 a1 a2 a3 a4 a5 a6 S1 S1' hXd k1
  obtain ⟨_, a3, _⟩ := pairc_cells k2
  go_wp2_with (first
    | (go_at_call 41; (with_reducible refine (hA2 k2).mono ?_); rintro e u3 ⟨rfl, k3⟩; obtain ⟨_, _, _, a5, _⟩ := pairc_cells k3)
    | (go_at_call 42; (with_reducible refine (hB2 k3).mono ?_); rintro e u4 ⟨rfl, k4⟩))
  go_end0
  exact ⟨rfl, k4.tail⟩
end Go.Proofs.YtckbhjjflpobbaaGreat.Dz

namespace Go.Proofs.YtckbhjjflpobbaaGreat.Dz
open Go.RowKit Go.ChangeShapes Go.WideShapes Go.ChangeAt Go.Proofs.YtckbhjjflpobbaaGreat.Mem Go.Proofs.YtckbhjjflpobbaaGreat.Fz
set_option linter.unusedVariables false

theorem Rk.keep {R G Sb : Nat} {pv : Value} {s : Ds} {w W : World} (h : Rk R G Sb pv s w) (k : Kept w W) : Rk R G Sb pv s W :=
  h.at (Below.block k _ h.lts.1) (Below.block k _ h.lts.2.1) (Below.block k _ h.lts.2.2.1) (fun g hg => Below.block k _ (h.lts.2.2.2 g hg))
set_option maxHeartbeats 3000000 in
set_option maxRecDepth 100000 in
theorem same_c (X F D G R M1 M2 Sb : Nat) (pv qv : Value) (s : Ds) (hroom : s.pend.length < 4294967296) (w : World) (hd : Dk F D M1 M2 pv s w) (hr : Rk R G Sb qv s w)
    (hx : w.heap[X]? = some (.cells #[.pointer (some ⟨F, 0, none⟩), .pointer (some ⟨D, 0, none⟩), .pointer (some ⟨G, 0, none⟩), .pointer (some ⟨R, 0, none⟩)] 51 (0, 0))) :
    Calls Tryz.prog 21 #[.pointer (some ⟨X, 0, none⟩)] w fun e w' => e = .returned (.bool true) ∧ Kept w w' := by
  have cX : ∀ W, Kept w W → W.cell? ⟨X, 1, none⟩ = some (.pointer (some ⟨D, 0, none⟩)) ∧ W.cell? ⟨X, 3, none⟩ = some (.pointer (some ⟨R, 0, none⟩)) ∧ W.cell? ⟨R, 0, none⟩ = some (.slice (some ⟨Sb, 0, none⟩) s.n s.n) ∧ W.cell? ⟨R, 3, none⟩ = some (.bool s.full) := fun W hW => by
    obtain ⟨_, h1, _, h3, _⟩ := box4 (hW.at hx)
    obtain ⟨c0, _, _, c3, _⟩ := (hr.keep hW).cells W (Off.refl _ _)
    exact ⟨h1, h3, c0, c3⟩
  have cS : ∀ W, Kept w W → ∀ k, k < s.n → W.cell? ⟨Sb, k, none⟩ = some (.string (s.dur k)) := fun W hW k hk => (hr.keep hW).sec hk
  have hS : ∀ W, Kept w W → Calls Tryz.prog 45 #[.pointer (some ⟨D, 0, none⟩)] W fun e w' => e = .returned (.int .i64 (s.n : Int)) ∧ Kept W w' := fun W hW => (sectors_c F D M1 M2 pv s W (hd.keep hW)).mono fun e w' ⟨he, hw⟩ => ⟨he, hw ▸ Kept.refl _⟩
  have hF : ∀ W, Kept w W → Calls Tryz.prog 28 #[.pointer (some ⟨D, 0, none⟩)] W fun e w' => e = .returned (.bool s.full) ∧ Kept W w' := fun W hW => (full_c F D M1 M2 pv s W (hd.keep hW)).mono fun e w' ⟨he, hw⟩ => ⟨he, hw ▸ Kept.refl _⟩
  have hP : ∀ W, Kept w W → Calls Tryz.prog 19 #[.pointer (some ⟨D, 0, none⟩)] W fun e w' => ∃ ao cap, e = .returned (.slice ao s.pend.length cap) ∧ Kept W w' ∧ Ints W.heap.size ao (s.pend.map (·.1)) w' := fun W hW => pending_c F D M1 M2 pv s hroom W (hd.keep hW)
  have hRP : ∀ W, Kept w W → Calls Tryz.prog 20 #[.pointer (some ⟨R, 0, none⟩)] W fun e w' => ∃ ao cap, e = .returned (.slice ao s.pend.length cap) ∧ Kept W w' ∧ Ints W.heap.size ao (s.pend.map (·.1)) w' := fun W hW => rpending_c R G Sb qv s hroom W (hr.keep hW)
  have hE : ∀ (a1 a2 : Option Addr) (c1 c2 b1 b2 : Nat) W, Ints b1 a1 (s.pend.map (·.1)) W → Ints b2 a2 (s.pend.map (·.1)) W → Calls Tryz.prog 18 #[.slice a1 s.pend.length c1, .slice a2 s.pend.length c2] W fun e w' => e = .returned (.bool true) ∧ Kept W w' := fun a1 a2 c1 c2 b1 b2 W i1 i2 =>
    equalints_c a1 a2 (s.pend.map (·.1)) s.pend.length c1 c2 (by simp) hroom W (fun k hk => by
      obtain ⟨g, h1, _, _, h4⟩ := i1.cell k hk
      exact ⟨g, h1, h4⟩) (fun k hk => by
      obtain ⟨g, h1, _, _, h4⟩ := i2.cell k hk
      exact ⟨g, h1, h4⟩)
  have hR : ∀ (k : Nat) W, Kept w W → Calls Tryz.prog 46 #[.pointer (some ⟨D, 0, none⟩), .int .i64 (k : Int)] W fun e w' => e = .returned (.tuple #[.string (s.reads (k : Int)).1, .int .i64 (s.reads (k : Int)).2]) ∧ Kept W w' := fun k W hW => read_c F D M1 M2 pv s k W (hd.keep hW)
  have hRR : ∀ (k : Nat) W, Kept w W → Calls Tryz.prog 47 #[.pointer (some ⟨R, 0, none⟩), .int .i64 (k : Int)] W fun e w' => e = .returned (.tuple #[.string (s.reads (k : Int)).1, .int .i64 (s.reads (k : Int)).2]) ∧ Kept W w' := fun k W hW => rread_c R G Sb qv s k W (hr.keep hW)
  have hDu : ∀ (k : Nat) W, k < s.n → Kept w W → Calls Tryz.prog 48 #[.pointer (some ⟨D, 0, none⟩), .int .i64 (k : Int)] W fun e w' => e = .returned (.string (s.dur k)) ∧ Kept W w' := fun k W hk hW => by
    have q := durable_c F D M1 M2 pv s k W (hd.keep hW)
    rw [Ds.durs_in hk] at q
    exact q
  have hn := hd.ok.hi
  have S1 := cX w (Kept.refl w)
  have S1' := cX w.drew (Kept.refl w).drew
  have HX := Lib.hid (And.intro cX cS)
  clear hd hr hx cX cS hroom
  go_enter Tryz.func21, Tryz.ntmps21
  go_wp2
  go_region_held3 (fun W => W.cell? ⟨X, 1, none⟩ = some (.pointer (some ⟨D, 0, none⟩)) ∧ W.cell? ⟨X, 3, none⟩ = some (.pointer (some ⟨R, 0, none⟩)) ∧ W.cell? ⟨R, 0, none⟩ = some (.slice (some ⟨Sb, 0, none⟩) s.n s.n) ∧ W.cell? ⟨R, 3, none⟩ = some (.bool s.full))
    (first | assumption | exact HX.out.1 _ k5 | exact HX.out.1 _ k4 | exact HX.out.1 _ k3 | exact HX.out.1 _ k2 | exact HX.out.1 _ k1)
    (first
      | (go_at_call 45; (with_reducible refine (hS _ (Kept.refl w).drew).mono ?_); rintro e u1 ⟨rfl, q⟩; have k1 := (Kept.refl w).drew.trans q; clear q)
      | (go_at_call 19; (with_reducible refine (hP _ k1).mono ?_); rintro e u2 ⟨ao, cap, rfl, q, i1⟩; have k2 := k1.trans q; clear q)
      | (go_at_call 20; (with_reducible refine (hRP _ k2).mono ?_); rintro e u3 ⟨ao', cap', rfl, q, i2⟩; have k3 := k2.trans q; have i1' := i1.kept q; clear q i1)
      | (go_at_call 18; (with_reducible refine (hE _ _ _ _ _ _ _ i1' i2).mono ?_); rintro e u4 ⟨rfl, q⟩; have k4 := k3.trans q; clear q)
      | (go_at_call 28; (with_reducible refine (hF _ k4).mono ?_); rintro e u5 ⟨rfl, q⟩; have k5 := k4.trans q; clear q))
  clear S1 S1'
  go_wp2
  go_loopw [3] (fun i wr => ∃ k : Nat, k ≤ s.n ∧ i = .int .i64 k ∧ Kept w wr) (fun i _ => s.n - (intOf i).toNat)
  case atStart => exact ⟨0, by omega, rfl, k5⟩
  case round =>
    obtain ⟨k, hk, rfl, hp⟩ := hrel
    obtain ⟨c1, c3, c0, _⟩ := HX.out.1 wr hp
    by_cases hlt : k < s.n
    · have hRk := hR k
      have hRRk := hRR k
      have hDk := fun W => hDu k W hlt
      have hSk : ∀ W, Kept w W → W.cell? ⟨Sb, k, none⟩ = some (.string (s.dur k)) := fun W hW => HX.out.2 W hW k hlt
      obtain ⟨a, ha⟩ : ∃ a, a = (s.reads (k : Int)).1 := ⟨_, rfl⟩
      obtain ⟨er, her⟩ : ∃ a, a = (s.reads (k : Int)).2 := ⟨_, rfl⟩
      obtain ⟨du, hdu⟩ : ∃ a, a = s.dur k := ⟨_, rfl⟩
      rw [← ha, ← her] at hRk hRRk
      rw [← hdu] at hDk hSk
      have HY := Lib.hid hSk
      clear ha her hdu hSk hk
      go_wp2_with (first
        | (go_at_call 46; (with_reducible refine (hRk _ hp).mono ?_); rintro e v1 ⟨rfl, q⟩; have m1 := hp.trans q; clear q; obtain ⟨_, d3, _⟩ := HX.out.1 _ m1)
        | (go_at_call 47; (with_reducible refine (hRRk _ m1).mono ?_); rintro e v2 ⟨rfl, q⟩; have m2 := m1.trans q; clear q))
      have m2d := m2.drew
      have T1 := And.intro (HX.out.1 _ m2) (HY.out _ m2)
      have T1' := And.intro (HX.out.1 _ m2d) (HY.out _ m2d)
      go_region_held3 (fun W => (W.cell? ⟨X, 1, none⟩ = some (.pointer (some ⟨D, 0, none⟩)) ∧ W.cell? ⟨X, 3, none⟩ = some (.pointer (some ⟨R, 0, none⟩)) ∧ W.cell? ⟨R, 0, none⟩ = some (.slice (some ⟨Sb, 0, none⟩) s.n s.n) ∧ W.cell? ⟨R, 3, none⟩ = some (.bool s.full)) ∧ W.cell? ⟨Sb, k, none⟩ = some (.string du))
        (first | assumption | exact And.intro (HX.out.1 _ m3) (HY.out _ m3))
        (first
          | (go_at_call 48; (with_reducible refine (hDk _ m2d).mono ?_); rintro e v3 ⟨rfl, q⟩; have m3 := m2d.trans q; clear q))
      go_wp2
      go_roundw
      case rel => exact ⟨k + 1, by omega, by go_num, m3⟩
      case measure => simp [intOf]; omega
    · obtain rfl : k = s.n := by omega
      go_wp2
      go_ret
      exact ⟨rfl, hp⟩
theorem bsame_c {w0 w : World} {X F D G R : Nat} {s : Ds} {L : List As} (h : Own w0 (pair X F D G R s L) w) (hroom : s.pend.length < 4294967296) :
    Calls Tryz.prog 21 #[.pointer (some ⟨X, 0, none⟩)] w fun e w' => e = .returned (.bool true) ∧ Own w0 (pair X F D G R s L) w' := by
  obtain ⟨_, ⟨M1, M2, pv, hd, _⟩, _⟩ := h.see 2 rfl
  obtain ⟨_, ⟨Sb, qv, hr, _⟩, _⟩ := h.see 1 rfl
  have hb := Own.boxed h 0 rfl
  exact (same_c X F D G R M1 M2 Sb pv qv s hroom w hd hr hb).mono fun e w' ⟨he, hk⟩ => ⟨he, h.later hk⟩
end Go.Proofs.YtckbhjjflpobbaaGreat.Dz
