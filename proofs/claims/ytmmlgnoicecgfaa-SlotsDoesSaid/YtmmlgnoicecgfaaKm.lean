/-
  One try: all calls of its round (SlotsOne).
-/
import Derived.Test.YtmmlgnoicecgfaaKl
namespace Go.Proofs.Ytmmlgnoicecgfaa.Hk
open Go.RowKit Go.Proofs.Ytmmlgnoicecgfaa.Mem Go.Proofs.Ytmmlgnoicecgfaa.Pk Go.Proofs.Ytmmlgnoicecgfaa.Dz Go.Proofs.Ytmmlgnoicecgfaa.Fz

theorem two_heads {w0 W : World} {B A : Nat} {q b a f n q' b' a' f' n' : Int} {T T' : TypeId} {L : List As} (h : Own w0 (boxA B #[.int .i64 q, .int .i64 b, .int .i64 a, .int .i64 f, .int .i64 n] T :: boxA A #[.int .i64 q', .int .i64 b', .int .i64 a', .int .i64 f', .int .i64 n'] T' :: L) W) :
    (W.cell? ⟨B, 0, none⟩ = some (.int .i64 q) ∧ W.cell? ⟨B, 1, none⟩ = some (.int .i64 b) ∧ W.cell? ⟨B, 2, none⟩ = some (.int .i64 a) ∧ W.cell? ⟨B, 3, none⟩ = some (.int .i64 f) ∧ W.cell? ⟨B, 4, none⟩ = some (.int .i64 n)) ∧
    (W.cell? ⟨A, 0, none⟩ = some (.int .i64 q') ∧ W.cell? ⟨A, 1, none⟩ = some (.int .i64 b') ∧ W.cell? ⟨A, 2, none⟩ = some (.int .i64 a') ∧ W.cell? ⟨A, 3, none⟩ = some (.int .i64 f') ∧ W.cell? ⟨A, 4, none⟩ = some (.int .i64 n')) :=
  ⟨(hblock (h.boxed 0 rfl)).1, (hblock (h.boxed 1 rfl)).1⟩
/-- Which of the two is there. -/
def Went (k E : Int) (h c r : Hd) : Prop := (k = 0 ∧ E = 10 ∧ r = h) ∨ (k = 1 ∧ E = 10 ∧ r = h) ∨ (k = 1 ∧ E = 10 ∧ r = c) ∨ (k = 2 ∧ E = 0 ∧ r = c)
/-- The calls of a round: A, B are the boxes of the two headers. -/
structure Turn (w : World) (D F : Nat) (k E : Int) (h c r : Hd) (ch : Ch) (kp : ByteArray) (s s1 s2 s3 s4 : Ds) : Prop where
  dur : ∀ (A B : As) (W : World), Own w [A, B, dk F D s] W → Calls Try.prog 35 #[.pointer (some ⟨D, 0, none⟩), .int .i64 (h.seq % 2)] W fun e w' => e = .returned (.string kp) ∧ Own w [A, B, dk F D s] w'
  arm : ∀ (A B : As) (W : World), Own w [A, B, dk F D s] W → Calls Try.prog 16 #[.pointer (some ⟨F, 0, none⟩), .int .i64 k] W fun e w' => e = .returned (.int .i64 0) ∧ Own w [A, B, dk F D s1] w'
  save : ∀ (A B : As) (W : World), Own w [A, B, dk F D s1] W → Calls Try.prog 23 #[.pointer (some ⟨D, 0, none⟩), .agg #[.int .i64 c.seq, .int .i64 c.boot, .int .i64 c.area, .int .i64 c.first, .int .i64 c.snaps]] W fun e w' => e = .returned (.int .i64 E) ∧ Own w [A, B, dk F D s2] w'
  crash : ∀ (A B : As) (W : World), Own w [A, B, dk F D s2] W → Calls Try.prog 36 #[.pointer (some ⟨D, 0, none⟩), .agg ch.cells] W fun e w' => e = .returned (.tuple #[]) ∧ Own w [A, B, dk F D s3] w'
  reset : ∀ (A B : As) (W : World), Own w [A, B, dk F D s3] W → Calls Try.prog 37 #[.pointer (some ⟨F, 0, none⟩)] W fun e w' => e = .returned (.tuple #[]) ∧ Own w [A, B, dk F D s4] w'
  load : ∀ (A B : As) (W : World), Own w [A, B, dk F D s4] W → Calls Try.prog 25 #[.pointer (some ⟨D, 0, none⟩)] W fun e w' => e = .returned (.tuple #[.agg #[.int .i64 r.seq, .int .i64 r.boot, .int .i64 r.area, .int .i64 r.first, .int .i64 r.snaps], .int .i64 0]) ∧ Own w [A, B, dk F D s4] w'
  again : ∀ (A B C : As) (W : World), Own w [A, B, C, dk F D s4] W → Calls Try.prog 35 #[.pointer (some ⟨D, 0, none⟩), .int .i64 (h.seq % 2)] W fun e w' => e = .returned (.string kp) ∧ Own w [A, B, C, dk F D s4] w'
theorem Calm.turn {s : Ds} {h c : Hd} (r : Calm s h) (g : c.good) (hc : c.seq = h.seq + 1) (hm : c.seq < 281474976710655) {K : Nat} (hK : K < 3) {ch : Ch} (hch : ch.ok) :
    ∃ (E : Int) (h' : Hd) (kp : ByteArray) (s1 s2 s3 s4 : Ds), Went (K : Int) E h c h' ∧ Calm s4 h' ∧ ∀ (w : World) (D F : Nat), Turn w D F (K : Int) E h c h' ch kp s s1 s2 s3 s4 := by
  obtain ⟨a1, a2⟩ := r.arm K
  obtain ⟨t1, t2⟩ := r.tried g hc hm hK ch
  have e1 : (Hk.tried s K c ch).n = 2 := by rcases t1 with ⟨t, _⟩ | ⟨t, _⟩ <;> exact t.n
  have key : ∀ h', Calm (Hk.tried s K c ch) h' → ∀ (w : World) (D F : Nat), Turn w D F (K : Int) (if K = 2 then 0 else 10) h c h' ch (s.dur (h.seq.toNat % 2)) s (armed s K) (saves (armed s K) c).2 ((saves (armed s K) c).2.settled ch.left) (Hk.tried s K c ch) := by
    intro h' r' w D F
    refine ⟨fun A B W hW => ?_, fun A B W hW => ?_, fun A B W hW => ?_, fun A B W hW => ?_, fun A B W hW => ?_, fun A B W hW => ?_, fun A B C W hW => ?_⟩
    · have := o_durable hW 2 rfl (h.seq % 2)
      rwa [r.durs s r.n] at this
    · have hok : (s.fu.arm (K : Int)).ok := by rw [a2]; show K < 9223372036854775808; omega
      have := o_fuse hW 2 rfl hok (R := fun e => e = .returned (.int .i64 (s.fu.armSays (K : Int)))) fun hf ho => arm_c F s.fu (K : Int) W hf
      rw [a1, a2] at this
      exact this
    · have := o_save hW 2 rfl (by show s.pend.length < _; rw [r.pend]; decide) c
      rw [says_try r.n g hK] at this
      exact this
    · exact o_crash hW 2 rfl hch
    · exact o_fuse hW 2 rfl (f := .idle) trivial fun hf _ => reset_c _ _ _ hf
    · have := o_load hW 2 rfl
      rwa [r'.load] at this
    · have := o_durable hW 3 rfl (h.seq % 2)
      rwa [r.durs _ e1, t2] at this
  rcases t1 with ⟨t, hk⟩ | ⟨t, hk⟩
  · refine ⟨_, h, _, _, _, _, _, ?_, t, key h t⟩
    rw [if_neg hk]
    rcases (by omega : K = 0 ∨ K = 1) with rfl | rfl
    · exact .inl ⟨rfl, rfl, rfl⟩
    · exact .inr (.inl ⟨rfl, rfl, rfl⟩)
  · refine ⟨_, c, _, _, _, _, _, ?_, t, key c t⟩
    rcases (by omega : K = 1 ∨ K = 2) with rfl | rfl
    · exact .inr (.inr (.inl ⟨rfl, rfl, rfl⟩))
    · exact .inr (.inr (.inr ⟨rfl, rfl, rfl⟩))
end Go.Proofs.Ytmmlgnoicecgfaa.Hk
