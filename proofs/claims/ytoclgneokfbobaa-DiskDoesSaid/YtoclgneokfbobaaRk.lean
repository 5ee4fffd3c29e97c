/-
  The specification of layer 4 beside the disk: its disk in memory, its New; package disk's calls on nil; helpers of the statements.
-/
import Derived.Test.YtoclgneokfbobaaFs
import Derived.Test.YtoclgneokfbobaaDk
namespace Go.Proofs.Ytoclgneokfbobaa.Dz
open Go.RowKit Go.ChangeShapes Go.WideShapes Go.ChangeAt Go.Proofs.Ytoclgneokfbobaa.Mem Go.Proofs.Ytoclgneokfbobaa.Fz
set_option linter.unusedVariables false

/-- The specification's fuse by itself. -/
def rfA (G : Nat) (s : St) : As where
  p S w := Rf G s w ∧ s.ok ∧ S G
  mono := fun S T w ⟨h, h1, h2⟩ hs => ⟨h, h1, hs _ h2⟩
  loc := fun S w w' ⟨h, h1, h2⟩ hs => ⟨(hs _ h2 h.lt).trans h, h1, h2⟩
def sarr (f : Nat → ByteArray) (n : Nat) : Array Value := ((List.range n).map fun i => Value.string (f i)).toArray
theorem sarr_size (f : Nat → ByteArray) (n : Nat) : (sarr f n).size = n := by simp [sarr]
theorem sarr_at (f : Nat → ByteArray) (n i : Nat) (h : i < n) : (sarr f n)[i]? = some (.string (f i)) := by simp [sarr, h]
theorem sarr_set (f : Nat → ByteArray) (n i : Nat) (v : ByteArray) : (sarr f n).setIfInBounds i (.string v) = sarr (put f i v) n := by
  apply Array.ext
  · simp [sarr]
  · intro j h1 h2
    have h3 : j < (sarr f n).size := by simpa using h1
    rw [Array.getElem_setIfInBounds h3]
    by_cases e : i = j
    · subst e; simp [sarr, put]
    · have e' : ¬ j = i := fun h => e h.symm
      simp [sarr, put, e, e']
theorem sarr_congr {f g : Nat → ByteArray} {n : Nat} (h : ∀ i, i < n → f i = g i) : sarr f n = sarr g n := by
  apply Array.ext
  · simp [sarr]
  · intro j h1 h2
    have : j < n := by simpa [sarr] using h1
    simp [sarr, h j this]
def rblock (G Sb : Nat) (pv : Value) (s : Ds) : Array Value := #[.slice (some ⟨Sb, 0, none⟩) s.n s.n, pv, .pointer (some ⟨G, 0, none⟩), .bool s.full]
/-- Block R is the specification's disk in state s. -/
structure Rk (R G Sb : Nat) (pv : Value) (s : Ds) (w : World) : Prop where
  rf : Rf G s.fu w
  blk : w.heap[R]? = some (.cells (rblock G Sb pv s) 77 (0, 0))
  srow : w.heap[Sb]? = some (.cells (sarr s.dur s.n) 9 (0, 0))
  prow : w.ownsRow 0 97 2 pv s.pend.length (cellsOf s.pend)
  ok : s.ok
structure RApart (R G Sb : Nat) (pv : Value) : Prop where
  RG : R ≠ G
  RS : R ≠ Sb
  GS : G ≠ Sb
  p : ∀ g, pv.ownBlock = some g → g ≠ R ∧ g ≠ G ∧ g ≠ Sb
theorem Rk.apart {R G Sb : Nat} {pv : Value} {s : Ds} {w : World} (h : Rk R G Sb pv s w) : RApart R G Sb pv := by
  have hf : w.heap[G]? = _ := h.rf
  refine ⟨ne_obj h.blk hf (by simp), ne_obj h.blk h.srow (by simp), ne_obj hf h.srow (by simp), fun g hg => ?_⟩
  obtain ⟨cur, hr⟩ := row_block h.prow hg
  exact ⟨ne_obj hr h.blk (by simp), ne_obj hr hf (by simp), ne_obj hr h.srow (by simp)⟩
theorem Rk.at {R G Sb : Nat} {pv : Value} {s : Ds} {w w' : World} (h : Rk R G Sb pv s w) (hG : w'.heap[G]? = w.heap[G]?) (hR : w'.heap[R]? = w.heap[R]?) (hS : w'.heap[Sb]? = w.heap[Sb]?)
    (hp : ∀ g, pv.ownBlock = some g → w'.heap[g]? = w.heap[g]?) : Rk R G Sb pv s w' := ⟨hG.trans h.rf, hR.trans h.blk, hS.trans h.srow, row_at h.prow hp, h.ok⟩
theorem Rk.lts {R G Sb : Nat} {pv : Value} {s : Ds} {w : World} (h : Rk R G Sb pv s w) : G < w.heap.size ∧ R < w.heap.size ∧ Sb < w.heap.size ∧ ∀ g, pv.ownBlock = some g → g < w.heap.size :=
  ⟨h.rf.lt, lt_of_block h.blk, lt_of_block h.srow, fun g hg => (h.prow.lt g hg).2⟩
def rk (G R : Nat) (s : Ds) : As where
  p S w := ∃ Sb pv, Rk R G Sb pv s w ∧ S G ∧ S R ∧ S Sb ∧ ∀ g, pv.ownBlock = some g → S g
  mono := fun S T w ⟨Sb, pv, h, h1, h2, h3, h4⟩ hs => ⟨Sb, pv, h, hs _ h1, hs _ h2, hs _ h3, fun g hg => hs _ (h4 g hg)⟩
  loc := fun S w w' ⟨Sb, pv, h, h1, h2, h3, h4⟩ hs =>
    have l := h.lts
    ⟨Sb, pv, h.at (hs _ h1 l.1) (hs _ h2 l.2.1) (hs _ h3 l.2.2.1) (fun g hg => hs _ (h4 g hg) (l.2.2.2 g hg)), h1, h2, h3, h4⟩
theorem make_strs (n : Nat) (hn : n ≤ 65536) (w : World) :
    (Instr.makeSlice 59 (.int .i64 (n : Int)) (.int .i64 (n : Int))).run Try.prog w = .ok (.slice (some ⟨w.heap.size, 0, none⟩) n n) (w.alloc (.cells (sarr (fun _ => ByteArray.empty) n) 9)) := by
  have h := run_make_row' (P := Try.prog) 59 9 (.string ByteArray.empty) 16 Try.underlying59 (by kernel_rfl) rfl .i64 .i64 n (by omega) (by omega) w
  have e : madeCells #[Value.string ByteArray.empty] n = sarr (fun _ => ByteArray.empty) n := by
    apply Array.toList_inj.1
    rw [toList_madeCells_one]
    simp [sarr, List.map_const']
  rw [e] at h
  exact h
set_option maxHeartbeats 1000000 in
set_option maxRecDepth 100000 in
theorem rnew_c (G : Nat) (st : St) (n : Nat) (h1 : 1 ≤ n) (h2 : n ≤ 65536) (S : Nat → Prop) (w : World) (h : Rf G st w) (hst : st.ok) (hG : S G) :
    Calls Try.prog 31 #[.int .i64 (n : Int), .pointer (some ⟨G, 0, none⟩)] w fun e w' => e = .returned (.tuple #[.pointer (some ⟨w.heap.size + 1, 0, none⟩), .int .i64 0]) ∧ Off S w w' ∧ (rk G (w.heap.size + 1) (fresh n st)).p (grew S w w') w' := by
  have hmk := make_strs n h2
  have a1 : decide ((n : Int) < 1) = false := by simp; omega
  have a3 : decide ((65536 : Int) < (n : Int)) = false := by simp; omega
  obtain ⟨w1, hw1⟩ : ∃ w1, w1 = (w.alloc (.cells (sarr (fun _ => ByteArray.empty) n) 9)).alloc (.cells (rblock G w.heap.size (.slice none 0 0) (fresh n st)) 77) := ⟨_, rfl⟩
  have k1 : Kept w w1 := by rw [hw1]; exact ((Kept.refl w).alloc _).alloc _
  have bR : w1.heap[w.heap.size + 1]? = some (.cells (rblock G w.heap.size (.slice none 0 0) (fresh n st)) 77 (0, 0)) := by
    rw [hw1]
    have := heap_alloc_new (w.alloc (.cells (sarr (fun _ => ByteArray.empty) n) 9)) (.cells (rblock G w.heap.size (.slice none 0 0) (fresh n st)) 77 (0, 0))
    simpa using this
  have bS : w1.heap[w.heap.size]? = some (.cells (sarr (fun j => if j < 0 then Z else ByteArray.empty) n) 9 (0, 0)) := by
    rw [hw1]
    have e : sarr (fun j => if j < 0 then Z else ByteArray.empty) n = sarr (fun _ => ByteArray.empty) n := sarr_congr fun i _ => by simp
    rw [e]
    exact ((Kept.refl _).alloc _).at (heap_alloc_new _ _)
  have H := Lib.hid (And.intro h (And.intro h1 (And.intro h2 (And.intro hst hG))))
  have HW := Lib.hid (And.intro k1 bR)
  have Hw1 := Lib.hid hw1
  have HS := Lib.hid bS
  clear h h1 h2 hst hG k1 bR bS hw1
  go_enter Try.func31, Try.ntmps31
  go_wp2
  go_loopw [7] (fun i wr => ∃ k : Nat, k ≤ n ∧ i = .int .i64 k ∧ Off (fun k => k = w.heap.size) w1 wr ∧ wr.heap[w.heap.size]? = some (.cells (sarr (fun j => if j < k then Z else ByteArray.empty) n) 9 (0, 0))) (fun i _ => n - (intOf i).toNat)
  case atStart =>
    have e := Hw1.out
    unfold rblock fresh at e
    dsimp only at e
    rw [← e]
    exact ⟨0, by omega, rfl, Off.refl _ _, HS.out⟩
  case round =>
    obtain ⟨k, hk, rfl, ho, hb⟩ := hrel
    have bR : ∀ W, Off (fun k => k = w.heap.size) w1 W → W.heap[w.heap.size + 1]? = some (.cells (rblock G w.heap.size (.slice none 0 0) (fresh n st)) 77 (0, 0)) := fun W hW => hW.at HW.out.2 (by omega)
    by_cases hlt : k < n
    · have cR : ∀ W, Kept wr W → W.cell? ⟨w.heap.size + 1, 0, none⟩ = some (.slice (some ⟨w.heap.size, 0, none⟩) n n) ∧ W.cell? ⟨w.heap.size, k, none⟩ = some (.string ByteArray.empty) ∧ W.frozen? ⟨w.heap.size, k, none⟩ = false := fun W hW => by
        have q := hW.at hb
        refine ⟨cell_of_row _ _ _ _ _ _ (bR W (ho.kept hW)), ?_, frozen_of_row _ _ _ _ _ q⟩
        rw [cell_of_row _ _ _ _ _ _ q, sarr_at _ _ _ hlt]; simp
      have hn6 : n ≤ 65536 := H.out.2.2.1
      have c0 := (cR wr (Kept.refl _)).1
      have c0' := (cR wr.drew (Kept.refl _).drew).1
      have c2 : ∀ W v, Kept wr W → (W.setCell ⟨w.heap.size, k, none⟩ v).cell? ⟨w.heap.size + 1, 0, none⟩ = some (.slice (some ⟨w.heap.size, 0, none⟩) n n) := fun W v hW => by
        rw [World.cell?_setCell_other _ _ _ _ (by simp)]; exact (cR W hW).1
      have HX := Lib.hid (And.intro cR (And.intro ho hb))
      have HY := Lib.hid c2
      clear cR bR ho hb c2
      go_wp2
      go_region_held3 (fun W => W.cell? ⟨w.heap.size + 1, 0, none⟩ = some (.slice (some ⟨w.heap.size, 0, none⟩) n n))
        (first | assumption | exact (HX.out.1 _ ((Kept.refl wr).drew.trans k3)).1 | exact HY.out _ _ ((Kept.refl wr).drew.trans k3))
        (first | (go_at_call 14; refine (rzeros_c _).mono ?_; rintro e u3 ⟨rfl, k3⟩; obtain ⟨_, d1, d2⟩ := HX.out.1 u3 ((Kept.refl wr).drew.trans k3)))
      go_wp2
      go_roundw
      case rel =>
        obtain ⟨_, ho, hb⟩ := HX.out
        have k3' : Kept wr u3 := (Kept.refl wr).drew.trans k3
        refine ⟨k + 1, by omega, by go_num, (ho.kept k3').setc w.heap.size k (.string Z) (.inl rfl), ?_⟩
        rw [heap_setCell_same u3 w.heap.size k _ _ (.string Z) (k3'.at hb), sarr_set]
        have e : sarr (put (fun j => if j < k then Z else ByteArray.empty) k Z) n = sarr (fun j => if j < k + 1 then Z else ByteArray.empty) n := sarr_congr fun i _ => by
          unfold put
          by_cases e : i = k
          · subst e; simp
          · have : i < k + 1 ↔ i < k := by omega
            simp [e, this]
        rw [e]
      case measure => simp [intOf]; omega
    · obtain rfl : k = n := by omega
      have bRw := cell_of_row wr (w.heap.size + 1) 0 _ _ _ (bR wr ho)
      have HX := Lib.hid (And.intro ho (And.intro hb (bR wr ho)))
      clear bR ho hb
      go_wp2
      go_ret2
      obtain ⟨ho, hb, hR⟩ := HX.out
      obtain ⟨h, h1, h2, hst, hG⟩ := H.out
      have kw : Kept w wr := Below.trans HW.out.1 (ho.below (fun i hi => Nat.le_of_eq hi.symm) HW.out.1.size)
      have e : sarr (fun j => if j < k then Z else ByteArray.empty) k = sarr (fun _ => Z) k := sarr_congr fun i hi => by simp [hi]
      rw [e] at hb
      have hD : Rk (w.heap.size + 1) G w.heap.size (.slice none 0 0) (fresh k st) wr := ⟨h.kept kw, hR, hb, World.ownsRow_nil _ _ _ _, ok_fresh h1 h2 hst⟩
      exact ⟨rfl, kw.off S, w.heap.size, _, hD, .inl hG, .inr ⟨by omega, hD.lts.2.1⟩, .inr ⟨Nat.le_refl _, hD.lts.2.2.1⟩, fun g hg => by simp [Value.ownBlock] at hg⟩
/-! Helpers. -/
def many (b : Nat) : ByteArray := ⟨(List.replicate 80 (UInt8.ofNat b)).toArray⟩
theorem many_size (b : Nat) : (many b).size = 80 := by simp [many, ByteArray.size]
def manyTo (b k : Nat) : List UInt8 := (List.range 80).map fun i => if i < k then UInt8.ofNat b else 0
theorem manyTo_len (b k : Nat) : (manyTo b k).length = 80 := by simp [manyTo]
theorem manyTo_zero (b : Nat) : manyTo b 0 = List.replicate 80 0 := by
  apply List.ext_getElem
  · simp [manyTo]
  · intro i h1 h2; rw [List.getElem_replicate]; simp [manyTo]
theorem manyTo_all (b : Nat) : manyTo b 80 = List.replicate 80 (UInt8.ofNat b) := by
  apply List.ext_getElem
  · simp [manyTo]
  · intro i h1 h2
    have : i < 80 := by simpa [manyTo] using h1
    rw [List.getElem_replicate]; simp [manyTo, this]
theorem manyTo_succ (b k : Nat) : (manyTo b k).set k (UInt8.ofNat b) = manyTo b (k + 1) := by
  apply List.ext_getElem
  · simp [manyTo]
  · intro i h1 h2
    rw [List.getElem_set]
    by_cases e : k = i
    · subst e; simp [manyTo]
    · have : i < k + 1 ↔ i < k := by omega
      simp [manyTo, e, this]
set_option maxRecDepth 100000 in
theorem many_c (b : Nat) (hb : b ≤ 255) (w : World) : Calls Try.prog 13 #[.int .u8 (b : Int), .int .i64 80] w fun e w' => e = .returned (.string (many b)) ∧ Kept w w' := by
  have hm := make_80
  have hst : Row w w.heap.size (manyTo b 0) (w.alloc (.cells (Array.replicate 80 (.int .u8 0)) 5)) := by rw [manyTo_zero]; exact zero_row w
  go_enter Try.func13, Try.ntmps13
  go_wp2
  go_loopw [6] (fun i wr => ∃ k : Nat, k ≤ 80 ∧ i = .int .i64 k ∧ Row w w.heap.size (manyTo b k) wr) (fun i _ => 80 - (intOf i).toNat)
  case atStart => exact ⟨0, by omega, rfl, hst⟩
  case round =>
    clear hst
    obtain ⟨k, hk, rfl, hr⟩ := hrel
    by_cases hlt : k < 80
    · obtain ⟨⟨v, hc⟩, hf⟩ := hr.at k (by rw [manyTo_len]; exact hlt)
      have Hr := Lib.hid hr
      clear hr
      go_wp2
      go_roundw
      case rel =>
        refine ⟨k + 1, by omega, by go_num, ?_⟩
        rw [← manyTo_succ]
        exact Hr.out.set k _ (by rw [UInt8.toNat_ofNat']; omega) (by rw [manyTo_len]; exact hlt)
      case measure => simp [intOf]; omega
    · obtain rfl : k = 80 := by omega
      have hs := hr.str 80 80 (by rw [manyTo_len]; exact Nat.le_refl _)
      rw [List.take_of_length_le (by rw [manyTo_len]; exact Nat.le_refl _), manyTo_all] at hs
      have Hr := Lib.hid hr
      clear hr
      go_wp2
      go_ret
      exact ⟨rfl, Hr.out.keptOf⟩
/-- Two slices of numbers are compared. -/
theorem equalints_c (a1 a2 : Option Addr) (l : List Nat) (n c1 c2 : Nat) (hn : l.length = n) (hl : n < 4294967296) (w : World) (h1 : ∀ k, (h : k < l.length) → ∃ g, a1 = some ⟨g, 0, none⟩ ∧ w.cell? ⟨g, k, none⟩ = some (.int .i64 (l[k] : Int))) (h2 : ∀ k, (h : k < l.length) → ∃ g, a2 = some ⟨g, 0, none⟩ ∧ w.cell? ⟨g, k, none⟩ = some (.int .i64 (l[k] : Int))) :
    Calls Try.prog 16 #[.slice a1 n c1, .slice a2 n c2] w fun e w' => e = .returned (.bool true) ∧ Kept w w' := by
  subst hn
  go_enter Try.func16, Try.ntmps16
  go_wp2
  go_loopw [5] (fun i wr => ∃ k : Nat, k ≤ l.length ∧ i = .int .i64 k ∧ ∃ m, wr = w.drewN m) (fun i _ => l.length - (intOf i).toNat)
  case atStart => exact ⟨0, by omega, rfl, 0, rfl⟩
  case round =>
    obtain ⟨k, hk, rfl, m, rfl⟩ := hrel
    by_cases hlt : k < l.length
    · obtain ⟨g, rfl, r1⟩ := h1 k hlt
      obtain ⟨g2, rfl, r2⟩ := h2 k hlt
      obtain ⟨x, hx⟩ : ∃ x, x = l[k] := ⟨_, rfl⟩
      rw [← hx] at r1 r2
      clear h1 h2 hx
      go_wp2
      go_region
      go_wp2
      go_roundw
      case rel => exact ⟨k + 1, by omega, by go_num, m + 1, rfl⟩
      case measure => simp [intOf]; omega
    · have hx : ¬ k < l.length := hlt
      go_wp2
      go_ret
      exact ⟨rfl, (Kept.refl w).drewN m⟩
/-! Nil. -/
theorem read_nil (k : Int) (w : World) : Calls Try.prog 19 #[.pointer none, .int .i64 k] w fun e w' => e = .returned (.tuple #[.string ⟨#[]⟩, .int .i64 1]) ∧ Kept w w' := by
  go_enter Try.func19, Try.ntmps19
  go_wp2
  go_ret2
  exact ⟨rfl, Kept.refl _⟩
theorem write_nil (k : Int) (d : ByteArray) (w : World) : Calls Try.prog 15 #[.pointer none, .int .i64 k, .string d] w fun e w' => e = .returned (.int .i64 1) ∧ Kept w w' := by
  go_enter Try.func15, Try.ntmps15
  go_wp2
  go_ret
  exact ⟨rfl, Kept.refl _⟩
theorem sync_nil (w : World) : Calls Try.prog 23 #[.pointer none] w fun e w' => e = .returned (.int .i64 1) ∧ Kept w w' := by
  go_enter Try.func23, Try.ntmps23
  go_wp2
  go_ret
  exact ⟨rfl, Kept.refl _⟩
theorem durable_nil (k : Int) (w : World) : Calls Try.prog 18 #[.pointer none, .int .i64 k] w fun e w' => e = .returned (.string ⟨#[]⟩) ∧ Kept w w' := by
  go_enter Try.func18, Try.ntmps18
  go_wp2
  go_ret
  exact ⟨rfl, Kept.refl _⟩
theorem sectors_nil (w : World) : Calls Try.prog 28 #[.pointer none] w fun e w' => e = .returned (.int .i64 0) ∧ Kept w w' := by
  go_enter Try.func28, Try.ntmps28
  go_wp2
  go_ret
  exact ⟨rfl, Kept.refl _⟩
theorem pending_nil (w : World) : Calls Try.prog 17 #[.pointer none] w fun e w' => e = .returned (.slice none 0 0) ∧ Kept w w' := by
  go_enter Try.func17, Try.ntmps17
  go_wp2
  go_ret
  exact ⟨rfl, Kept.refl _⟩
theorem full_nil (w : World) : Calls Try.prog 27 #[.pointer none] w fun e w' => e = .returned (.bool false) ∧ Kept w w' := by
  go_enter Try.func27, Try.ntmps27
  go_wp2
  go_ret
  exact ⟨rfl, Kept.refl _⟩
theorem setfull_nil (b : Bool) (w : World) : Calls Try.prog 26 #[.pointer none, .bool b] w fun e w' => e = .returned (.tuple #[]) ∧ Kept w w' := by
  go_enter Try.func26, Try.ntmps26
  go_wp2
  go_end0
  exact ⟨rfl, Kept.refl _⟩
theorem crash_nil (c : Ch) (w : World) : Calls Try.prog 22 #[.pointer none, .agg c.cells] w fun e w' => e = .returned (.tuple #[]) ∧ Kept w w' := by
  unfold Ch.cells
  go_enter Try.func22, Try.ntmps22
  go_wp2
  go_end0
  exact ⟨rfl, (Kept.refl w).alloc _⟩
theorem copy_nil (p : Option Addr) (w : World) : Calls Try.prog 20 #[.pointer none, .pointer p] w fun e w' => e = .returned (.pointer none) ∧ Kept w w' := by
  go_enter Try.func20, Try.ntmps20
  go_wp2
  go_ret
  exact ⟨rfl, Kept.refl _⟩
theorem copy_none (D : Nat) (w : World) : Calls Try.prog 20 #[.pointer (some ⟨D, 0, none⟩), .pointer none] w fun e w' => e = .returned (.pointer none) ∧ Kept w w' := by
  go_enter Try.func20, Try.ntmps20
  go_wp2
  go_ret
  exact ⟨rfl, Kept.refl _⟩
end Go.Proofs.Ytoclgneokfbobaa.Dz
