/-
  The two rounds of JournalCounts; calls of the disk's fuse.
-/
import Derived.Test.YtjbcpfndpfeepaaGreatJq
import Derived.Test.YtjbcpfndpfeepaaGreatJe
namespace Go.Proofs.YtjbcpfndpfeepaaGreat.Jk
open Go Go.RowKit Go.ChangeShapes Go.WideShapes Go.ChangeAt Go.Proofs.YtjbcpfndpfeepaaGreat.Mem Go.Proofs.YtjbcpfndpfeepaaGreat.Pk Go.Proofs.YtjbcpfndpfeepaaGreat.Fk Go.Proofs.YtjbcpfndpfeepaaGreat.Dz Go.Proofs.YtjbcpfndpfeepaaGreat.Fz Go.Proofs.YtjbcpfndpfeepaaGreat.Rc
open Go.Proofs.YtjbcpfndpfeepaaGreat.Hk (Hd saves loads o_save o_load hblock)

theorem arm_idle (k : Nat) : (St.idle).armSays (k : Int) = 0 ∧ (St.idle).arm (k : Int) = .armed k := by
  have : ¬ (k : Int) < 0 := by omega
  constructor
  · show (if (k : Int) < 0 then 3 else 0) = _; rw [if_neg this]
  · show (if (k : Int) < 0 then St.idle else .armed (k : Int).toNat) = _; rw [if_neg this]; rfl
theorem o_arm {w0 w : World} {L : List As} (h : Mem.Own w0 L w) (i : Nat) {F D : Nat} {s : Ds} (hi : L[i]? = some (dk F D s)) (hf : s.fu = .idle) (k : Nat) (hk : k < 9223372036854775808) :
    Calls Tryz.prog 28 #[.pointer (some ⟨F, 0, none⟩), .int .i64 (k : Int)] w fun e w' => e = .returned (.int .i64 0) ∧ Mem.Own w0 (L.set i (dk F D (armed s k))) w' := by
  have hok : (s.fu.arm (k : Int)).ok := by rw [hf, (arm_idle k).2]; exact hk
  have := o_fuse h i hi hok (R := fun e => e = .returned (.int .i64 (s.fu.armSays (k : Int)))) fun hf ho => arm_c F s.fu (k : Int) w hf
  rw [hf, (arm_idle k).1, (arm_idle k).2] at this
  exact this
theorem o_reset {w0 w : World} {L : List As} (h : Mem.Own w0 L w) (i : Nat) {F D : Nat} {s : Ds} (hi : L[i]? = some (dk F D s)) :
    Calls Tryz.prog 30 #[.pointer (some ⟨F, 0, none⟩)] w fun e w' => e = .returned (.tuple #[]) ∧ Mem.Own w0 (L.set i (dk F D { s with fu := .idle })) w' :=
  o_fuse h i hi (f := .idle) trivial fun hf _ => reset_c _ _ _ hf
theorem o_blown {w0 w : World} {L : List As} (h : Mem.Own w0 L w) (i : Nat) {F D : Nat} {s : Ds} (hi : L[i]? = some (dk F D s)) :
    Calls Tryz.prog 73 #[.pointer (some ⟨F, 0, none⟩)] w fun e w' => e = .returned (.bool s.fu.dead) ∧ Mem.Own w0 L w' :=
  h.look i hi fun _ _ _ hd => (blown_c F s.fu w hd.fz).mono fun _ _ ⟨he, hw⟩ => ⟨he, hw ▸ Kept.refl _⟩
theorem armed_idle {s : Ds} (h : s.fu = .idle) (k : Nat) : ({ armed s k with fu := .idle } : Ds) = s := by cases s; simp only at h; subst h; rfl
/-- What a round's disks are: the first journal's (append), the second's (compact, open). -/
structure Round (d : ByteArray) (x : Nat → ByteArray) (m : Nat) (s : Ds) (cut : Nat) : Prop where
  app : ∃ E j' s', appends (jw 64 h11 []) (armed s (parts d.size + 1 - cut)) d = (E, j', s') ∧ (decide (E = 0)) = (decide (cut = 0)) ∧ s'.fu.dead = decide (cut = 1)
  com : ∃ E j' s' c R, compacts (jw 64 h11 []) (armed s (pre x m + 3 - cut)) x m = (E, j', s') ∧ (decide (E = 0)) = (decide (cut = 0)) ∧ s'.fu.dead = decide (cut = 1) ∧
    (cut = 0 → j'.n = (m : Int) ∧ j'.area = 64 ∧ j'.used = pre x m) ∧
    (armed { s' with fu := .idle } (2 - cut)).ok ∧ s'.n = 2 + 2 * 64 ∧ s'.pend.length < 4294967296 ∧ newestHd (armed { s' with fu := .idle } (2 - cut)) = (c, 0) ∧ Hok c c.snaps.toNat ∧
    Found (armed { s' with fu := .idle } (2 - cut)).look (beg 64 c.area + 64) (beg 64 c.area) c.first 1 c.snaps.toNat R ∧ c.snaps.toNat ≤ R.length ∧ (decide ((saves (armed { s' with fu := .idle } (2 - cut)) (nextHd c)).1 = 0)) = (decide (cut = 0))
theorem armed_ok {s : Ds} (h : s.ok) {k : Nat} (hk : k < 9223372036854775808) : (armed s k).ok := ⟨h.lo, h.hi, hk, h.dur, h.pend⟩
theorem round {d : ByteArray} {x : Nat → ByteArray} {m : Nat} {s : Ds} (l : Live 64 s h11 []) (hd : d.size ≤ 1000) (hm : m ≤ 5) (hf : fits x m) (hp : pre x m ≤ 64) {cut : Nat} (hc : cut < 2) : Round d x m s cut := by
  have hpd : parts d.size ≤ 23 := by unfold parts; omega
  obtain ⟨s1, l1, a0, aw, ac⟩ := l.append (small11 1 (by decide)) (d := d) (by omega) (by show 0 + parts d.size ≤ 64; omega)
  obtain ⟨s2, l2, b0, bw, bc, j3, T, i, e, bx, hs2, hT, hi, he⟩ := l.compact (small11 m (by omega)) (by omega) hf hp
  obtain ⟨c, hcd⟩ : ∃ c, c = (jw 64 h11 []).next m := ⟨_, rfl⟩
  obtain ⟨R, hR⟩ : ∃ R, R = recsOf h11.boot (lsnOf h11 [] + 1) (dl x m) := ⟨_, rfl⟩
  rw [← hcd, ← hR] at l2
  have hsm : c.boot < 4294967295 ∧ c.seq < 281474976710000 := by rw [hcd]; exact ⟨(by decide : (1 : Int) < 4294967295), (by decide : (1 : Int) + 1 < 281474976710000)⟩
  obtain ⟨g1, g2, g3, g4⟩ := l2.lain.finds hsm
  have gg := next_good l2.jo.jv hsm
  have hn2 : 2 ≤ s2.n := by rw [l2.calm.n]; decide
  rcases (by omega : cut = 0 ∨ cut = 1) with rfl | rfl
  · refine ⟨⟨0, _, _, aw (parts d.size + 1) (by omega), rfl, rfl⟩, ⟨0, jw 64 ((jw 64 h11 []).next m) (recsOf h11.boot (lsnOf h11 [] + 1) (dl x m)), armed s2 0, c, R, ?_, rfl, rfl, fun _ => ⟨?_, rfl, ?_⟩, ?_, l2.calm.n, by show s2.pend.length < _; rw [l2.calm.pend]; decide, ?_, g2, ?_, g4, ?_⟩⟩
    · have := bw (pre x m + 3) (Nat.le_refl _)
      rw [show pre x m + 3 - pre x m - 3 = 0 by omega] at this
      exact this
    · show lsnOf ((jw 64 h11 []).next m) (recsOf h11.boot (lsnOf h11 [] + 1) (dl x m)) = _
      unfold lsnOf
      rw [recsOf_len, dl_len]
      show (0 : Int) + 1 - 1 + _ = _
      omega
    · show total (recsOf h11.boot (lsnOf h11 [] + 1) (dl x m)) = _
      rw [total_recsOf, snap_len]
    · rw [armed_idle l2.calm.fu]; exact armed_ok l2.calm.ok (by decide)
    · rw [armed_idle l2.calm.fu]
      exact (newest_same (s := armed s2 2) (t := s2) rfl (by rw [l2.calm.fu]; rfl) rfl).trans g1
    · rw [armed_idle l2.calm.fu]; exact g3
    · rw [armed_idle l2.calm.fu, saves_2 hn2 gg 0]; rfl
  · obtain ⟨s3, c1, c2, _⟩ := ac (parts d.size) (Nat.le_refl _)
    have hw : (T.wrote i e).ok := hT.ok.wrote hi he
    have hlook : (T.wrote i e).look = s2.look := by rw [hs2]; exact look_settled hT.pend hT.ok hi he
    have hnT : T.n = 2 + 2 * 64 := hT.n
    refine ⟨⟨10, _, s3, c1, rfl, by rw [c2]; rfl⟩, ⟨10, j3, blown (T.wrote i e), c, R, bx, rfl, rfl, fun h => absurd h (by decide), ?_, hnT, ?_, ?_, g2, ?_, g4, ?_⟩⟩
    · exact armed_ok (ok_idle (blown_ok hw)) (by decide)
    · show (T.pend ++ [_]).length < _; rw [hT.pend]; show 1 < _; decide
    · exact (newest_same (s := armed { blown (T.wrote i e) with fu := .idle } 1) (t := s2) (by show T.n = s2.n; rw [hnT, l2.calm.n]) (by rw [l2.calm.fu]; rfl) hlook).trans g1
    · show Found (T.wrote i e).look _ _ _ _ _ _
      rw [hlook]; exact g3
    · have q := saves_1 (s := T.wrote i e) (by show 2 ≤ T.n; rw [hnT]; decide) gg
      show decide ((saves (armed (T.wrote i e) 1) (nextHd c)).1 = 0) = _
      rw [q]; rfl
end Go.Proofs.YtjbcpfndpfeepaaGreat.Jk
