/-
  Package disk's Sync, Crash, Pending.
-/
import Derived.Test.YtoclgneokfbobaaDt
namespace Go.Proofs.Ytoclgneokfbobaa.Dz
open Go.RowKit Go.ChangeShapes Go.WideShapes Go.ChangeAt Go.Proofs.Ytoclgneokfbobaa.Mem Go.Proofs.Ytoclgneokfbobaa.Fz
set_option linter.unusedVariables false

theorem settled_dk {F D M1 M2 : Nat} {pv : Value} {s : Ds} {f : Nat → Nat} (hf : ∀ k, f k ≤ 80) {w w1 : World} (h : Dk F D M1 M2 pv s w) (hs : Sd M1 M2 s f w s.pend.length w1) :
    Dk F D M1 M2 (.slice none 0 0) (s.settled f) (w1.setCell ⟨D, 4, none⟩ (.slice none 0 0)) := by
  have a := h.apart
  have nmD : ¬ maps M1 M2 D := fun e => by rcases e with e | e; exact a.DM1 e; exact a.DM2 e
  have nmF : ¬ maps M1 M2 F := fun e => by rcases e with e | e; exact a.FM1 e; exact a.FM2 e
  have b := But.set D 4 w1 (.slice none 0 0)
  refine ⟨Fz.but (hs.off.at h.fz nmF) b a.FD, ?_, ?_, ?_, ?_, h.ok.settled hf, h.ne⟩
  · have := heap_setCell_same w1 D 4 _ _ (.slice none 0 0) (hs.off.at h.blk nmD)
    simpa [blockOf, Ds.settled] using this
  · exact (hs.dur.but b a.DM1.symm)
  · exact (hs.lat.but b a.DM2.symm).same fun i _ => by simp [Ds.settled, rest_all, last]
  · exact World.ownsRow_nil _ _ _ _
theorem sync1_c (k : Nat) (w : World) : Calls Try.prog 50 #[.int .i64 (k : Int)] w fun e w' => e = .returned (.int .i64 (80 : Nat)) ∧ Kept w w' := by
  go_enter Try.func50, Try.ntmps50
  go_wp2
  go_ret
  exact ⟨rfl, Kept.refl _⟩
theorem keep_bit (n j : Nat) (hn : n < 18446744073709551616) : (bits .and .u64 ((n : Int) / 2 ^ j) 1 == 1) = n.testBit j := by
  have hd : n / 2 ^ j < 18446744073709551616 := Nat.lt_of_le_of_lt (Nat.div_le_self _ _) hn
  have e : ((n : Int) / 2 ^ j) = ((n / 2 ^ j : Nat) : Int) := by simp
  have h1 : (1 : Int) = ((1 : Nat) : Int) := rfl
  rw [e, h1, u64_and_nat _ _ hd (by decide), Nat.and_one_is_mod, Nat.testBit_eq_decide_div_mod_eq]
  rcases Nat.mod_two_eq_zero_or_one (n / 2 ^ j) with h | h <;> rw [h] <;> decide
theorem tmod80 (b : Int) : (b.tmod 80 + 80).tmod 80 = b % 80 := by
  rcases Int.le_total 0 b with h | h
  · rw [Int.tmod_eq_emod_of_nonneg h, Int.tmod_eq_emod_of_nonneg (by omega)]; omega
  · obtain ⟨m, rfl⟩ : ∃ m, b = -m := ⟨-b, by omega⟩
    rw [Int.neg_tmod, Int.tmod_eq_emod_of_nonneg (a := m) (by omega), Int.tmod_eq_emod_of_nonneg (by omega)]; omega
theorem tmod80_b (b : Int) : -80 < b.tmod 80 ∧ b.tmod 80 < 80 := by
  rcases Int.le_total 0 b with h | h
  · rw [Int.tmod_eq_emod_of_nonneg h]; omega
  · obtain ⟨m, rfl⟩ : ∃ m, b = -m := ⟨-b, by omega⟩
    rw [Int.neg_tmod, Int.tmod_eq_emod_of_nonneg (by omega)]; omega
def Ch.cells (c : Ch) : Array Value := #[.int .u64 (c.keep : Int), .int .i64 c.torn, .int .i64 c.bytes]
set_option maxRecDepth 100000 in
theorem left_c (c : Ch) (hc : c.ok) (k : Nat) (w : World) : Calls Try.prog 49 #[.agg c.cells, .int .i64 (k : Int)] w fun e w' => e = .returned (.int .i64 (c.left k : Int)) ∧ Kept w w' := by
  obtain ⟨keep, torn, bytes⟩ := c
  have hk := hc.keep
  simp only at hk
  unfold Ch.cells
  dsimp only
  cases ht : ((k : Int) == torn) with
  | true =>
    have e : (⟨keep, torn, bytes⟩ : Ch).left k = (bytes % 80).toNat := by
      have : (k : Int) = torn := by simpa using ht
      simp [Ch.left, this]
    have hv : (bytes.tmod 80 + 80).tmod 80 = ((bytes % 80).toNat : Int) := by rw [tmod80]; omega
    rw [e]
    obtain ⟨b1, b2⟩ := tmod80_b bytes
    go_enter Try.func49, Try.ntmps49
    go_wp2
    go_ret
    have hm : max (bytes % 80) 0 = ((bytes % 80).toNat : Int) := by omega
    exact ⟨congrArg (fun x : Int => Ending.returned (.int .i64 x)) hm, (Kept.refl w).alloc _⟩
  | false =>
    have hb := keep_bit keep (k % 64) hk
    have e : (⟨keep, torn, bytes⟩ : Ch).left k = if keep.testBit (k % 64) then 80 else 0 := by
      have : ¬ (k : Int) = torn := by simpa using ht
      simp [Ch.left, this]
    rw [e]
    cases hq : keep.testBit (k % 64) with
    | true =>
      rw [hq] at hb
      go_enter Try.func49, Try.ntmps49
      go_wp2
      go_ret
      exact ⟨rfl, (Kept.refl w).alloc _⟩
    | false =>
      rw [hq] at hb
      go_enter Try.func49, Try.ntmps49
      go_wp2
      go_ret
      exact ⟨rfl, (Kept.refl w).alloc _⟩
theorem crash1_c (c : Ch) (hc : c.ok) (k C : Nat) (w : World) (hC : w.heap[C]? = some (.cells c.cells 29 (0, 0))) :
    Calls Try.prog 48 #[.int .i64 (k : Int), .pointer (some ⟨C, 0, none⟩)] w fun e w' => e = .returned (.int .i64 (c.left k : Int)) ∧ Kept w w' := by
  have c0 : w.cell? ⟨C, 0, none⟩ = some (.int .u64 (c.keep : Int)) := cell_of_row _ _ _ _ _ _ hC
  have c1 : w.cell? ⟨C, 1, none⟩ = some (.int .i64 c.torn) := cell_of_row _ _ _ _ _ _ hC
  have c2 : w.cell? ⟨C, 2, none⟩ = some (.int .i64 c.bytes) := cell_of_row _ _ _ _ _ _ hC
  have hl := left_c c hc k
  unfold Ch.cells at hl
  clear hC
  go_enter Try.func48, Try.ntmps48
  go_wp2_with (go_at_call 49; refine (hl _).mono ?_; rintro e u ⟨rfl, hk⟩)
  go_ret
  exact ⟨rfl, hk⟩
set_option maxHeartbeats 1000000 in
set_option maxRecDepth 100000 in
theorem sync_c (F D M1 M2 : Nat) (pv : Value) (s : Ds) (S : Nat → Prop) (w : World) (h : Dk F D M1 M2 pv s w)
    (hS : S F ∧ S D ∧ S M1 ∧ S M2 ∧ ∀ g, pv.ownBlock = some g → S g) :
    Calls Try.prog 23 #[.pointer (some ⟨D, 0, none⟩)] w fun e w' => e = .returned (.int .i64 s.syncs.1) ∧ Off S w w' ∧ (dk F D s.syncs.2).p (grew S w w') w' := by
  have hb := burn_c F s.fu h.ok.fu w h.fz
  have c0 := h.cell 0
  simp [blockOf] at c0
  have H := Lib.hid (And.intro h hS)
  clear h hS
  rcases says_ok s.fu with h0 | h10
  · have e1 : s.syncs = (0, s.burnt.settled fun _ => 80) := by simp [Ds.syncs, h0]
    rw [e1]
    rw [h0] at hb
    clear e1 h0
    go_enter Try.func23, Try.ntmps23
    go_wp2_with (first
      | (go_at_call 41; refine hb.mono ?_; rintro e u ⟨rfl, hbu, hfu⟩; have hq := Lib.hid ((H.out.1).burnt hbu hfu (ok_burnt H.out.1.ok.fu)))
      | (go_at_call 47; refine (settle_sync F D M1 M2 pv s.burnt (fun _ => 80) (fun _ => Nat.le_refl _) _ hq.out (fun k W _ _ => sync1_c k W)).mono ?_; rintro e u2 ⟨rfl, w1, hsd, hu2⟩; have Hu := Lib.hid (And.intro hsd hu2); clear hsd hu2))
    go_ret
    obtain ⟨h, hS⟩ := H.out
    obtain ⟨hsd, rfl⟩ := Hu.out
    have hD := settled_dk (fun _ => Nat.le_refl _) hq.out hsd
    refine ⟨rfl, ((hbu.off hS.1).trans (hsd.off.mono fun k _ hk => by rcases hk with rfl | rfl; exact hS.2.2.1; exact hS.2.2.2.1)).setc D 4 _ (.inl hS.2.1), M1, M2, _, hD, .inl hS.1, .inl hS.2.1, .inl hS.2.2.1, .inl hS.2.2.2.1, fun g hg => by simp [Value.ownBlock] at hg⟩
  · have e1 : s.syncs = (10, s.burnt) := by simp [Ds.syncs, h10]
    rw [e1]
    rw [h10] at hb
    clear e1 h10
    go_enter Try.func23, Try.ntmps23
    go_wp2_with (go_at_call 41; refine hb.mono ?_; rintro e u ⟨rfl, hbu, hfu⟩)
    go_ret
    obtain ⟨h, hS⟩ := H.out
    exact ⟨rfl, hbu.off hS.1, (dk F D s.burnt).mono S _ _ ⟨M1, M2, pv, h.burnt hbu hfu (ok_burnt h.ok.fu), hS⟩ fun k hk => .inl hk⟩
set_option maxHeartbeats 1000000 in
set_option maxRecDepth 100000 in
theorem crash_c (c : Ch) (hc : c.ok) (F D M1 M2 : Nat) (pv : Value) (s : Ds) (S : Nat → Prop) (w : World) (h : Dk F D M1 M2 pv s w)
    (hS : S F ∧ S D ∧ S M1 ∧ S M2 ∧ ∀ g, pv.ownBlock = some g → S g) :
    Calls Try.prog 22 #[.pointer (some ⟨D, 0, none⟩), .agg c.cells] w fun e w' => e = .returned (.tuple #[]) ∧ Off S w w' ∧ (dk F D (s.settled c.left)).p (grew S w w') w' := by
  have hal : Kept w (w.alloc (.cells c.cells 29)) := (Kept.refl w).alloc _
  have hset := settle_crash F D M1 M2 pv s c.left c.left_le w.heap.size (w.alloc (.cells c.cells 29)) (h.keep hal) (fun k W _ hW => crash1_c c hc k _ W (hW.at (heap_alloc_new _ _) fun e => by
    rcases e with e | e
    · exact Nat.ne_of_lt h.lts.2.2.1 e.symm
    · exact Nat.ne_of_lt h.lts.2.2.2.1 e.symm))
  have H := Lib.hid (And.intro h hS)
  unfold Ch.cells at hset ⊢
  clear h hS hal
  go_enter Try.func22, Try.ntmps22
  go_wp2_with (go_at_call 47; refine hset.mono ?_; rintro e u2 ⟨rfl, w1, hsd, hu2⟩; have Hu := Lib.hid (And.intro hsd hu2); clear hsd hu2)
  go_end0
  obtain ⟨h, hS⟩ := H.out
  obtain ⟨hsd, rfl⟩ := Hu.out
  have hal : Kept w (w.alloc (.cells c.cells 29)) := (Kept.refl w).alloc _
  have hD := settled_dk c.left_le (h.keep hal) hsd
  refine ⟨rfl, ((hal.off S).trans (hsd.off.mono fun k _ hk => by rcases hk with rfl | rfl; exact hS.2.2.1; exact hS.2.2.2.1)).setc D 4 _ (.inl hS.2.1), M1, M2, _, hD, .inl hS.1, .inl hS.2.1, .inl hS.2.2.1, .inl hS.2.2.2.1, fun g hg => by simp [Value.ownBlock] at hg⟩
end Go.Proofs.Ytoclgneokfbobaa.Dz
