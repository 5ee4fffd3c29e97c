/-
  The chapter's examples: the states, and what the calls return there. (Written by gen_kx.py.)
-/
import Derived.Test.YtmmlgnoicecgfaaKl
import Derived.Test.YtmmlgnoicecgfaaKi
import Derived.Test.YtmmlgnoicecgfaaRb
import Derived.Test.YtmmlgnoicecgfaaFb
namespace Go.Proofs.Ytmmlgnoicecgfaa.Hk
open Go.RowKit Go.Proofs.Ytmmlgnoicecgfaa.Mem Go.Proofs.Ytmmlgnoicecgfaa.Pk Go.Proofs.Ytmmlgnoicecgfaa.Dz Go.Proofs.Ytmmlgnoicecgfaa.Fz
def xf (n : Nat) : Ds := fresh n .idle
def xs1 : Ds := saved (xf 2) h11
def xs2 : Ds := armed xs1 1
def h22 : Hd := ⟨2, 2, 0, 1, 0⟩
def xs3 : Ds := (saves xs2 h22).2
def x60 : Ch := ⟨0, 0, 60⟩
def xs4 : Ds := { xs3.settled x60.left with fu := .idle }
def ys : Ds := (xf 2).wrote 0 h11.enc
theorem x60_ok : x60.ok := ⟨by decide, by decide, by decide, by decide, by decide⟩
theorem h22_good : h22.good := ⟨by decide, by decide, by decide, by decide, by decide, by decide, by decide, by decide, by decide, by decide⟩
theorem calm1 : Calm xs1 h11 := first_calm
theorem lx0 : loads (xf 2) = (Hd.nil, 6) := loads_none (by decide) rfl (by
  rw [look_dur (s := xf 2) rfl]; exact (Non.fresh 2 .idle).newest)
theorem lx1 : loads xs1 = (h11, 0) := calm1.load
theorem sx3 : (saves xs2 h22).1 = 10 := by
  have := says_try calm1.n h22_good (k := 1) (by decide)
  rw [if_neg (by decide)] at this
  exact this
theorem xs3_eq : xs3 = { (xs1.wrote (h22.seq.toNat % 2) h22.enc) with fu := .blown } := by
  have := save_1 calm1.n h22_good
  unfold xs3 xs2
  rw [this]
theorem lx3 : loads xs3 = (Hd.nil, 10) := by
  have h2 : ¬ xs3.n < 2 := by rw [xs3_eq]; show ¬ (2 : Nat) < 2; decide
  have hd : xs3.fu.dead = true := by rw [xs3_eq]; rfl
  unfold loads
  rw [if_neg h2, if_pos hd]
theorem lx4 : loads xs4 = (h11, 0) := by
  have p : Put xs1.dur ((xs1.wrote (h22.seq.toNat % 2) h22.enc).settled x60.left).dur h22 (x60.left 0) := put_disk calm1.pend h22 x60.left (x60.left_le 0)
  have t : Two ((xs1.wrote (h22.seq.toNat % 2) h22.enc).settled x60.left).dur h11 := calm1.two.cut h22_good rfl p (by decide)
  have hd : xs4.dur = ((xs1.wrote (h22.seq.toNat % 2) h22.enc).settled x60.left).dur := by unfold xs4; rw [xs3_eq]; rfl
  have hp : xs4.pend = [] := rfl
  refine loads_some (by show ¬ xs3.n < 2; rw [xs3_eq]; show ¬ (2 : Nat) < 2; decide) rfl ?_
  rw [look_dur hp, hd]
  exact t.newest
theorem wys : (xf 2).writes 0 h11.enc = (0, ys) := Ds.writes_idle (s := xf 2) rfl (i := 0) (by decide) (enc_size h11_good)
theorem lys : loads ys = (Hd.nil, 6) := by
  have l0 : ys.look 0 = str h11.sec := by
    have : ys.look 0 = h11.enc := by
      unfold Ds.look ys Ds.wrote
      simp [last, xf, fresh]
    rw [this, Hd.enc_good h11_good]
  have l1 : ys.look 1 = str (List.replicate 80 0) := by
    have : ys.look 1 = (xf 2).dur 1 := by
      unfold Ds.look ys Ds.wrote
      simp [last, xf, fresh]
    rw [this]; rfl
  have s0 : slot ys.look 0 = none := by
    unfold slot
    rw [l0, dec_sec h11_good]
    rfl
  have s1 : slot ys.look 1 = none := by
    unfold slot
    rw [l1, zeros_dec]
  refine loads_none (by show ¬ (2 : Nat) < 2; decide) rfl ?_
  unfold newest
  rw [s0, s1]
theorem lzs : loads (xf 1) = (Hd.nil, 3) := by
  have h : (xf 1).n < 2 := by decide
  unfold loads
  rw [if_pos h]
theorem szs1 : saves (xf 1) h11 = (3, xf 1) := by
  unfold saves
  rw [if_neg (by rw [(Hd.err_zero h11).mpr h11_good]; decide), if_pos (by decide)]
def h01 : Hd := ⟨0, 1, 0, 1, 0⟩
theorem e01 : h01.err = 2 := rfl
theorem szs0 : saves (xf 1) h01 = (2, xf 1) := by
  unfold saves
  rw [if_pos (by rw [e01]; decide), e01]
def hA2 : Hd := ⟨1, 1, 2, 1, 0⟩
def hS6 : Hd := ⟨1, 1, 0, 1, 65536⟩
theorem eA2 : hA2.err = 2 := rfl
theorem eS6 : hS6.err = 2 := rfl
theorem dz80 : decE (str (List.replicate 80 0)) = 12 ∧ decF (str (List.replicate 80 0)) = Hd.nil := by
  unfold decE decF
  rw [zeros_dec]
  exact ⟨rfl, rfl⟩
-- The pair, where its disks differ: its Crash.
set_option maxHeartbeats 2000000 in
set_option maxRecDepth 100000 in
theorem bcrash2_c {w0 w : World} {X F D G R : Nat} {r s : Ds} {L : List As} (h : Own w0 (boxA X #[.pointer (some ⟨F, 0, none⟩), .pointer (some ⟨D, 0, none⟩), .pointer (some ⟨G, 0, none⟩), .pointer (some ⟨R, 0, none⟩)] 38 :: rk G R r :: dk F D s :: L) w) {c : Ch} (hc : c.ok) :
    Calls Try.prog 28 #[.pointer (some ⟨X, 0, none⟩), .agg c.cells] w fun e w' => e = .returned (.tuple #[]) ∧ Own w0 (boxA X #[.pointer (some ⟨F, 0, none⟩), .pointer (some ⟨D, 0, none⟩), .pointer (some ⟨G, 0, none⟩), .pointer (some ⟨R, 0, none⟩)] 38 :: rk G R { r.settled c.left with fu := .idle } :: dk F D { s.settled c.left with fu := .idle } :: L) w' := by
  obtain ⟨t, ht⟩ : ∃ t : Ds, t = s.settled c.left := ⟨_, rfl⟩
  obtain ⟨t2, ht2⟩ : ∃ t2 : Ds, t2 = { t with fu := .idle } := ⟨_, rfl⟩
  obtain ⟨v, hv⟩ : ∃ v : Ds, v = r.settled c.left := ⟨_, rfl⟩
  obtain ⟨v2, hv2⟩ : ∃ v2 : Ds, v2 = { v with fu := .idle } := ⟨_, rfl⟩
  have hA : ∀ {C A B : As} {W : World}, Own w0 (C :: A :: B :: dk F D s :: L) W → Calls Try.prog 36 #[.pointer (some ⟨D, 0, none⟩), .agg c.cells] W fun e w' => e = .returned (.tuple #[]) ∧ Own w0 (C :: A :: B :: dk F D t :: L) w' := fun h => by
    rw [ht]; exact o_crash h 3 rfl hc
  have hB : ∀ {C A : As} {B : List As} {W : World}, Own w0 (C :: A :: rk G R r :: B) W → Calls Try.prog 60 #[.pointer (some ⟨R, 0, none⟩), .agg c.cells] W fun e w' => e = .returned (.tuple #[]) ∧ Own w0 (C :: A :: rk G R v :: B) w' := fun h => by
    rw [hv]; exact o_rcrash h 2 rfl hc
  have hA2 : ∀ {C A B : As} {W : World}, Own w0 (C :: A :: B :: dk F D t :: L) W → Calls Try.prog 37 #[.pointer (some ⟨F, 0, none⟩)] W fun e w' => e = .returned (.tuple #[]) ∧ Own w0 (C :: A :: B :: dk F D t2 :: L) w' := fun h => by
    rw [ht2]; exact o_fuse h 3 rfl (f := .idle) trivial fun hf _ => reset_c _ _ _ hf
  have hB2 : ∀ {C A : As} {B : List As} {W : World}, Own w0 (C :: A :: rk G R v :: B) W → Calls Try.prog 61 #[.pointer (some ⟨G, 0, none⟩)] W fun e w' => e = .returned (.tuple #[]) ∧ Own w0 (C :: A :: rk G R v2 :: B) w' := fun h => by
    rw [hv2]; exact o_rfuse h 2 rfl (f := .idle) trivial fun hf => rreset_c _ _ _ hf
  rw [← ht, ← ht2, ← hv, ← hv2]
  obtain ⟨keep, torn, bytes⟩ := c
  unfold Ch.cells at hA hB ⊢
  dsimp only at hA hB ⊢
  obtain ⟨x, hx⟩ : ∃ x, x = w.alloc (.cells #[.int .u64 (keep : Int), .int .i64 torn, .int .i64 bytes] 59) := ⟨_, rfl⟩
  have kx : Kept w x := by rw [hx]; exact (Kept.refl w).alloc _
  have bx : x.heap[w.heap.size]? = some (.cells #[.int .u64 (keep : Int), .int .i64 torn, .int .i64 bytes] 59 (0, 0)) := by rw [hx]; exact heap_alloc_new _ _
  have hX := h.box #[.int .u64 (keep : Int), .int .i64 torn, .int .i64 bytes] 59
  rw [← hx] at hX
  clear ht ht2 hv hv2 hc
  go_enter Try.func28, Try.ntmps28
  go_wp2
  rw [← hx]
  clear hx kx bx h
  have hXd := hX.later (Kept.refl x).drew
  obtain ⟨⟨a0, a1, a2⟩, a3, a4, a5, a6⟩ := pairc_cells hX
  have S1 := And.intro (And.intro a0 (And.intro a1 a2)) a4
  have S1' := And.intro (pairc_cells hXd).1 (pairc_cells hXd).2.2.1
  go_region_held3 (fun W => (W.cell? ⟨w.heap.size, 0, none⟩ = some (.int .u64 (keep : Int)) ∧ W.cell? ⟨w.heap.size, 1, none⟩ = some (.int .i64 torn) ∧ W.cell? ⟨w.heap.size, 2, none⟩ = some (.int .i64 bytes)) ∧ W.cell? ⟨X, 1, none⟩ = some (.pointer (some ⟨D, 0, none⟩)))
    (first | assumption | exact ⟨(pairc_cells k1).1, (pairc_cells k1).2.2.1⟩)
    (first | (go_at_call 36; (with_reducible refine (hA hXd).mono ?_); rintro e u1 ⟨rfl, k1⟩))
  clear a0 a1 a2 a3 a4 a5 a6 S1 S1' hXd hX
  have hXd := k1.later (Kept.refl u1).drew
  obtain ⟨⟨a0, a1, a2⟩, a3, a4, a5, a6⟩ := pairc_cells k1
  have S1 := And.intro (And.intro a0 (And.intro a1 a2)) a6
  have S1' := And.intro (pairc_cells hXd).1 (pairc_cells hXd).2.2.2.2
  go_wp2
  go_region_held3 (fun W => (W.cell? ⟨w.heap.size, 0, none⟩ = some (.int .u64 (keep : Int)) ∧ W.cell? ⟨w.heap.size, 1, none⟩ = some (.int .i64 torn) ∧ W.cell? ⟨w.heap.size, 2, none⟩ = some (.int .i64 bytes)) ∧ W.cell? ⟨X, 3, none⟩ = some (.pointer (some ⟨R, 0, none⟩)))
    (first | assumption | exact ⟨(pairc_cells k2).1, (pairc_cells k2).2.2.2.2⟩)
    (first | (go_at_call 60; (with_reducible refine (hB hXd).mono ?_); rintro e u2 ⟨rfl, k2⟩))
  clear a0 a1 a2 a3 a4 a5 a6 S1 S1' hXd k1
  obtain ⟨_, a3, _⟩ := pairc_cells k2
  go_wp2_with (first
    | (go_at_call 37; (with_reducible refine (hA2 k2).mono ?_); rintro e u3 ⟨rfl, k3⟩; obtain ⟨_, _, _, a5, _⟩ := pairc_cells k3)
    | (go_at_call 61; (with_reducible refine (hB2 k3).mono ?_); rintro e u4 ⟨rfl, k4⟩))
  go_end0
  exact ⟨rfl, k4.tail⟩
end Go.Proofs.Ytmmlgnoicecgfaa.Hk
