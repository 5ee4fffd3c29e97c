/-
  A saving that is cut (plain mathematics).
-/
import Derived.Test.YtmmlgnoicecgfaaKi
namespace Go.Proofs.Ytmmlgnoicecgfaa.Hk
open Go Go.Proofs.Ytmmlgnoicecgfaa.Pk Go.Proofs.Ytmmlgnoicecgfaa.Dz Go.Proofs.Ytmmlgnoicecgfaa.Fz

/-- The disk ahead of a try: h is the newest header. -/
structure Calm (s : Ds) (h : Hd) : Prop where
  n : s.n = 2
  fu : s.fu = .idle
  pend : s.pend = []
  ok : s.ok
  two : Two s.dur h
def armed (s : Ds) (k : Nat) : Ds := { s with fu := .armed k }
/-- Behind the try: Save with the fuse at k, the crash, the fuse reset. -/
def tried (s : Ds) (k : Nat) (c : Hd) (ch : Ch) : Ds := { ((saves (armed s k) c).2.settled ch.left) with fu := .idle }
theorem Calm.arm {s : Ds} {h : Hd} (r : Calm s h) (k : Nat) : s.fu.armSays (k : Int) = 0 ∧ s.fu.arm (k : Int) = .armed k := by
  rw [r.fu]
  have : ¬ (k : Int) < 0 := by omega
  constructor
  · show (if (k : Int) < 0 then 3 else 0) = _; rw [if_neg this]
  · show (if (k : Int) < 0 then St.idle else .armed (k : Int).toNat) = _; rw [if_neg this]; rfl
theorem out_slot {s : Ds} (hn : s.n = 2) {c : Hd} (g : c.good) : s.out (c.seq % 2) = false := by
  rw [slot_nat g]; exact Ds.out_in (by omega)
theorem save_unfold {s : Ds} (hn : s.n = 2) {c : Hd} (g : c.good) : saves s c = if s.fu.says ≠ 0 then (s.fu.says, s.burnt) else (s.burnt.wrote (c.seq.toNat % 2) c.enc).syncs := by
  have e := slot_nat g
  have ho := out_slot hn g
  rw [e] at ho
  have hw : s.writes (c.seq % 2) c.enc = if s.fu.says ≠ 0 then (s.fu.says, s.burnt) else (0, s.burnt.wrote (c.seq.toNat % 2) c.enc) := by
    unfold Ds.writes
    rw [e, ho]
    have h80 : ¬ c.enc.size ≠ 80 := by rw [enc_size g]; decide
    rw [if_neg h80, if_neg (by decide), Int.toNat_natCast]
  have he : ¬ c.err ≠ 0 := by rw [(Hd.err_zero c).mpr g]; decide
  unfold saves
  rw [if_neg he, if_neg (by omega), hw]
  by_cases h : s.fu.says ≠ 0
  · rw [if_pos h, if_pos h]; simp only [ne_eq, h, not_false_eq_true, if_true]
  · rw [if_neg h, if_neg h]; simp
theorem save_0 {s : Ds} (hn : s.n = 2) {c : Hd} (g : c.good) : saves (armed s 0) c = (10, { s with fu := .blown }) := by
  rw [save_unfold (s := armed s 0) hn g]; rfl
theorem save_1 {s : Ds} (hn : s.n = 2) {c : Hd} (g : c.good) : saves (armed s 1) c = (10, { (s.wrote (c.seq.toNat % 2) c.enc) with fu := .blown }) := by
  rw [save_unfold (s := armed s 1) hn g]; rfl
theorem save_2 {s : Ds} (hn : s.n = 2) {c : Hd} (g : c.good) : saves (armed s 2) c = (0, { saved s c with fu := .armed 0 }) := by
  rw [save_unfold (s := armed s 2) hn g]; rfl
theorem settled_nil {s : Ds} (h : s.pend = []) (f : Nat → Nat) : (s.settled f).dur = s.dur := by unfold Ds.settled; rw [h]; rfl
theorem says_try {s : Ds} (hn : s.n = 2) {c : Hd} (g : c.good) {k : Nat} (hk : k < 3) : (saves (armed s k) c).1 = if k = 2 then 0 else 10 := by
  match k, hk with
  | 0, _ => rw [save_0 hn g]; rfl
  | 1, _ => rw [save_1 hn g]; rfl
  | 2, _ => rw [save_2 hn g]; rfl
/-- One try. -/
theorem Calm.tried {s : Ds} {h c : Hd} (r : Calm s h) (g : c.good) (hc : c.seq = h.seq + 1) (hm : c.seq < 281474976710655) {k : Nat} (hk : k < 3) (ch : Ch) :
    (Calm (tried s k c ch) h ∧ k ≠ 2 ∨ Calm (tried s k c ch) c ∧ k ≠ 0) ∧ (tried s k c ch).dur (h.seq.toNat % 2) = s.dur (h.seq.toNat % 2) := by
  have s1 := r.two.good.s1
  match k, hk with
  | 0, _ =>
    have e : Hk.tried s 0 c ch = { (s.settled ch.left) with fu := .idle } := by unfold Hk.tried; rw [save_0 r.n g]; rfl
    have ed : (Hk.tried s 0 c ch).dur = s.dur := by rw [e]; exact settled_nil r.pend _
    refine ⟨.inl ⟨⟨by rw [e]; exact r.n, by rw [e], by rw [e]; rfl, ?_, by rw [ed]; exact r.two⟩, by decide⟩, by rw [ed]⟩
    rw [e]
    have := r.ok.settled (f := ch.left) ch.left_le
    exact ⟨this.lo, this.hi, trivial, this.dur, this.pend⟩
  | 1, _ =>
    have e : Hk.tried s 1 c ch = { ((s.wrote (c.seq.toNat % 2) c.enc).settled ch.left) with fu := .idle } := by unfold Hk.tried; rw [save_1 r.n g]; rfl
    have p : Put s.dur (Hk.tried s 1 c ch).dur c (ch.left 0) := by rw [e]; exact put_disk r.pend c ch.left (ch.left_le 0)
    have ok : (Hk.tried s 1 c ch).ok := by
      rw [e]
      have := (r.ok.wrote (i := c.seq.toNat % 2) (by rw [r.n]; omega) (enc_size g)).settled (f := ch.left) ch.left_le
      exact ⟨this.lo, this.hi, trivial, this.dur, this.pend⟩
    have hn : (Hk.tried s 1 c ch).n = 2 := by rw [e]; exact r.n
    have hf : (Hk.tried s 1 c ch).fu = .idle := by rw [e]
    have hp : (Hk.tried s 1 c ch).pend = [] := by rw [e]; rfl
    refine ⟨?_, p.away _ (by omega)⟩
    by_cases h80 : ch.left 0 < 80
    · exact .inl ⟨⟨hn, hf, hp, ok, r.two.cut g hc p h80⟩, by decide⟩
    · have : ch.left 0 = 80 := by have := ch.left_le 0; omega
      rw [this] at p
      exact .inr ⟨⟨hn, hf, hp, ok, r.two.saved g hc hm p⟩, by decide⟩
  | 2, _ =>
    have e : Hk.tried s 2 c ch = { ((saved s c).settled ch.left) with fu := .idle } := by unfold Hk.tried; rw [save_2 r.n g]; rfl
    have ed : (Hk.tried s 2 c ch).dur = (saved s c).dur := by rw [e]; exact settled_nil (s := saved s c) rfl ch.left
    have p : Put s.dur (Hk.tried s 2 c ch).dur c 80 := by rw [ed]; exact saved_put r.pend c
    refine ⟨.inr ⟨⟨by rw [e]; exact r.n, by rw [e], by rw [e]; rfl, ?_, r.two.saved g hc hm p⟩, by decide⟩, p.away _ (by omega)⟩
    rw [e]
    have := (saved_ok r.ok g (by rw [r.n]; exact Nat.le_refl _)).settled (f := ch.left) ch.left_le
    exact ⟨this.lo, this.hi, trivial, this.dur, this.pend⟩
theorem Calm.load {s : Ds} {h : Hd} (r : Calm s h) : loads s = (h, 0) := loads_some (by rw [r.n]; decide) (by rw [r.fu]; rfl) (by rw [look_dur r.pend]; exact r.two.newest)
theorem Calm.durs {s : Ds} {h : Hd} (r : Calm s h) (t : Ds) (hn : t.n = 2) : t.durs (h.seq % 2) = t.dur (h.seq.toNat % 2) := by
  rw [slot_nat r.two.good, Ds.durs_in (by omega)]
/-- The first header. -/
def h11 : Hd := ⟨1, 1, 0, 1, 0⟩
theorem h11_good : h11.good := ⟨by decide, by decide, by decide, by decide, by decide, by decide, by decide, by decide, by decide, by decide⟩
theorem first_saves : saves (fresh 2 .idle) h11 = (0, saved (fresh 2 .idle) h11) := saves_idle rfl h11_good (by decide)
theorem first_calm : Calm (saved (fresh 2 .idle) h11) h11 := by
  have p := saved_put (s := fresh 2 .idle) rfl h11
  exact ⟨rfl, rfl, rfl, saved_ok (ok_fresh (n := 2) (f := .idle) (by decide) (by decide) trivial) h11_good (by decide), (Non.fresh 2 .idle).saved h11_good rfl p⟩
end Go.Proofs.Ytmmlgnoicecgfaa.Hk
