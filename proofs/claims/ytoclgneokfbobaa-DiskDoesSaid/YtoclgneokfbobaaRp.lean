/-
  The specification's disk among several things of the call's own; the pair's Crash and Arm.
-/
import Derived.Test.YtoclgneokfbobaaRt
import Derived.Test.YtoclgneokfbobaaRn
import Derived.Test.YtoclgneokfbobaaDo
namespace Go.Proofs.Ytoclgneokfbobaa.Dz
open Go.RowKit Go.ChangeShapes Go.WideShapes Go.ChangeAt Go.Proofs.Ytoclgneokfbobaa.Mem Go.Proofs.Ytoclgneokfbobaa.Fz
set_option linter.unusedVariables false

theorem _root_.Go.Proofs.Ytoclgneokfbobaa.Mem.Own.rlook {P : Program} {fn : Nat} {args : Array Value} {w0 w : World} {L : List As} (h : Own w0 L w) (i : Nat) {G R : Nat} {s : Ds} (hi : L[i]? = some (rk G R s)) {Q : Ending → World → Prop}
    (c : ∀ Sb pv, Rk R G Sb pv s w → Calls P fn args w fun e w' => Q e w' ∧ Kept w w') : Calls P fn args w fun e w' => Q e w' ∧ Own w0 L w' := by
  obtain ⟨S, ⟨Sb, pv, hd, _⟩, _⟩ := h.see i hi
  exact (c Sb pv hd).mono fun e w' ⟨hr, hk⟩ => ⟨hr, h.later hk⟩
theorem o_rread {w0 w : World} {L : List As} (h : Own w0 L w) (i : Nat) {G R : Nat} {s : Ds} (hi : L[i]? = some (rk G R s)) (k : Int) :
    Calls Try.prog 32 #[.pointer (some ⟨R, 0, none⟩), .int .i64 k] w fun e w' => e = .returned (.tuple #[.string (s.reads k).1, .int .i64 (s.reads k).2]) ∧ Own w0 L w' :=
  h.rlook i hi fun Sb pv hd => rread_c R G Sb pv s k w hd
theorem o_rdurable {w0 w : World} {L : List As} (h : Own w0 L w) (i : Nat) {G R : Nat} {s : Ds} (hi : L[i]? = some (rk G R s)) (k : Int) :
    Calls Try.prog 33 #[.pointer (some ⟨R, 0, none⟩), .int .i64 k] w fun e w' => e = .returned (.string (s.durs k)) ∧ Own w0 L w' :=
  h.rlook i hi fun Sb pv hd => rdurable_c R G Sb pv s k w hd
theorem o_rpending {w0 w : World} {L : List As} (h : Own w0 L w) (i : Nat) {G R : Nat} {s : Ds} (hi : L[i]? = some (rk G R s)) (hroom : s.pend.length < 4294967296) :
    Calls Try.prog 39 #[.pointer (some ⟨R, 0, none⟩)] w fun e w' => (∃ ao cap, e = .returned (.slice ao s.pend.length cap) ∧ Ints w.heap.size ao (s.pend.map (·.1)) w') ∧ Own w0 L w' :=
  h.rlook i hi fun Sb pv hd => (rpending_c R G Sb pv s hroom w hd).mono fun e w' ⟨ao, cap, he, hk, hi⟩ => ⟨⟨ao, cap, he, hi⟩, hk⟩
theorem o_rwrite {w0 w : World} {L : List As} (h : Own w0 L w) (i : Nat) {G R : Nat} {s : Ds} (hi : L[i]? = some (rk G R s)) (hroom : s.pend.length < 4294967296) (k : Int) (d : ByteArray) :
    Calls Try.prog 34 #[.pointer (some ⟨R, 0, none⟩), .int .i64 k, .string d] w fun e w' => e = .returned (.int .i64 (s.writes k d).1) ∧ Own w0 (L.set i (rk G R (s.writes k d).2)) w' :=
  h.lift1 i hi fun S ⟨Sb, pv, hd, hS⟩ _ => rwrite_c R G Sb pv s k d hroom S w hd hS
theorem o_rsync {w0 w : World} {L : List As} (h : Own w0 L w) (i : Nat) {G R : Nat} {s : Ds} (hi : L[i]? = some (rk G R s)) :
    Calls Try.prog 35 #[.pointer (some ⟨R, 0, none⟩)] w fun e w' => e = .returned (.int .i64 s.syncs.1) ∧ Own w0 (L.set i (rk G R s.syncs.2)) w' :=
  h.lift1 i hi fun S ⟨Sb, pv, hd, hS⟩ _ => rsync_c R G Sb pv s S w hd hS
theorem o_rcrash {w0 w : World} {L : List As} (h : Own w0 L w) (i : Nat) {G R : Nat} {s : Ds} (hi : L[i]? = some (rk G R s)) {c : Ch} (hc : c.ok) :
    Calls Try.prog 53 #[.pointer (some ⟨R, 0, none⟩), .agg c.cells] w fun e w' => e = .returned (.tuple #[]) ∧ Own w0 (L.set i (rk G R (s.settled c.left))) w' :=
  h.lift1 i hi fun S ⟨Sb, pv, hd, hS⟩ _ => rcrash_c c hc R G Sb pv s S w hd hS
theorem o_rfuse {fn : Nat} {args : Array Value} {w0 w : World} {L : List As} (h : Own w0 L w) (i : Nat) {G R : Nat} {s : Ds} (hi : L[i]? = some (rk G R s)) {Q : Ending → Prop} {f : St} (hf : f.ok)
    (c : Rf G s.fu w → Calls Try.prog fn args w fun e w' => Q e ∧ But G w w' ∧ Rf G f w') : Calls Try.prog fn args w fun e w' => Q e ∧ Own w0 (L.set i (rk G R { s with fu := f })) w' :=
  h.lift1 i hi fun S ⟨Sb, pv, hd, h1, h2, h3, h4⟩ _ => (c hd.rf).mono fun e w' ⟨he, hk, hf'⟩ => ⟨he, hk.off h1, Sb, pv, hd.burnt hk hf' hf, .inl h1, .inl h2, .inl h3, fun g hg => .inl (h4 g hg)⟩
theorem ok_arm {s : St} (h : s.ok) {k : Int} (hk : k < 9223372036854775808) : (s.arm k).ok := by
  cases s <;> simp only [St.arm] <;> (try split) <;> first | exact h | trivial | (show _ < 9223372036854775808; omega)
/-- The pair: its box, the specification's disk, the disk. -/
def pair (X F D G R : Nat) (s : Ds) (L : List As) : List As :=
  boxA X #[.pointer (some ⟨F, 0, none⟩), .pointer (some ⟨D, 0, none⟩), .pointer (some ⟨G, 0, none⟩), .pointer (some ⟨R, 0, none⟩)] 40 :: rk G R s :: dk F D s :: L
theorem pair_cells {w0 u : World} {X F D G R : Nat} {L : List As} (h : Own w0 (boxA X #[.pointer (some ⟨F, 0, none⟩), .pointer (some ⟨D, 0, none⟩), .pointer (some ⟨G, 0, none⟩), .pointer (some ⟨R, 0, none⟩)] 40 :: L) u) (W : World) (hW : Kept u W) :
    W.cell? ⟨X, 0, none⟩ = some (.pointer (some ⟨F, 0, none⟩)) ∧ W.cell? ⟨X, 1, none⟩ = some (.pointer (some ⟨D, 0, none⟩)) ∧ W.cell? ⟨X, 2, none⟩ = some (.pointer (some ⟨G, 0, none⟩)) ∧ W.cell? ⟨X, 3, none⟩ = some (.pointer (some ⟨R, 0, none⟩)) := by
  obtain ⟨h0, h1, h2, h3, _⟩ := box4 (Own.boxed (h.later hW) 0 rfl)
  exact ⟨h0, h1, h2, h3⟩
set_option maxHeartbeats 2000000 in
set_option maxRecDepth 100000 in
theorem barm_c {w0 w : World} {X F D G R : Nat} {s : Ds} {L : List As} (h : Own w0 (pair X F D G R s L) w) (hs : s.fu.ok) (k : Int) (hk : k < 9223372036854775808) :
    Calls Try.prog 37 #[.pointer (some ⟨X, 0, none⟩), .int .i64 k] w fun e w' => e = .returned (.bool true) ∧ Own w0 (pair X F D G R { s with fu := s.fu.arm k } L) w' := by
  unfold pair at h ⊢
  obtain ⟨t, ht⟩ : ∃ t : Ds, t = { s with fu := s.fu.arm k } := ⟨_, rfl⟩
  have hA : ∀ {A B : As} {W : World}, Own w0 (A :: B :: dk F D s :: L) W → Calls Try.prog 25 #[.pointer (some ⟨F, 0, none⟩), .int .i64 k] W fun e w' => e = .returned (.int .i64 (s.fu.armSays k)) ∧ Own w0 (A :: B :: dk F D t :: L) w' := fun h => by
    rw [ht]; exact o_fuse h 2 rfl (ok_arm hs hk) fun hf _ => arm_c _ _ k _ hf
  have hB : ∀ {A : As} {B : List As} {W : World}, Own w0 (A :: rk G R s :: B) W → Calls Try.prog 56 #[.pointer (some ⟨G, 0, none⟩), .int .i64 k] W fun e w' => e = .returned (.int .i64 (s.fu.armSays k)) ∧ Own w0 (A :: rk G R t :: B) w' := fun h => by
    rw [ht]; exact o_rfuse h 1 rfl (ok_arm hs hk) fun hf => rarm_c _ _ k _ hf
  rw [← ht]
  obtain ⟨q, hq⟩ : ∃ q, q = s.fu.armSays k := ⟨_, rfl⟩
  rw [← hq] at hA hB
  have hd := h.later (Kept.refl w).drew
  have c0 := (pair_cells h w (Kept.refl w)).1
  have c2 := (pair_cells h w (Kept.refl w)).2.2.1
  have S1 := And.intro c0 c2
  have S1' := And.intro (pair_cells h w.drew (Kept.refl w).drew).1 (pair_cells h w.drew (Kept.refl w).drew).2.2.1
  clear h ht hq hs hk
  go_enter Try.func37, Try.ntmps37
  go_wp2
  go_region_held3 (fun W => W.cell? ⟨X, 0, none⟩ = some (.pointer (some ⟨F, 0, none⟩)) ∧ W.cell? ⟨X, 2, none⟩ = some (.pointer (some ⟨G, 0, none⟩)))
    (first | assumption | exact ⟨(pair_cells k1 _ (Kept.refl _)).1, (pair_cells k1 _ (Kept.refl _)).2.2.1⟩ | exact ⟨(pair_cells k2 _ (Kept.refl _)).1, (pair_cells k2 _ (Kept.refl _)).2.2.1⟩)
    (first
      | (go_at_call 25; (with_reducible refine (hA hd).mono ?_); rintro e u1 ⟨rfl, k1⟩)
      | (go_at_call 56; (with_reducible refine (hB k1).mono ?_); rintro e u2 ⟨rfl, k2⟩))
  go_wp2
  go_ret
  exact ⟨by simp, k2⟩
theorem pairc_cells {w0 u : World} {X F D G R C keep : Nat} {torn bytes : Int} {L : List As} (h : Own w0 (boxA C #[.int .u64 (keep : Int), .int .i64 torn, .int .i64 bytes] 29 :: boxA X #[.pointer (some ⟨F, 0, none⟩), .pointer (some ⟨D, 0, none⟩), .pointer (some ⟨G, 0, none⟩), .pointer (some ⟨R, 0, none⟩)] 40 :: L) u) :
    (u.cell? ⟨C, 0, none⟩ = some (.int .u64 (keep : Int)) ∧ u.cell? ⟨C, 1, none⟩ = some (.int .i64 torn) ∧ u.cell? ⟨C, 2, none⟩ = some (.int .i64 bytes)) ∧ u.cell? ⟨X, 0, none⟩ = some (.pointer (some ⟨F, 0, none⟩)) ∧ u.cell? ⟨X, 1, none⟩ = some (.pointer (some ⟨D, 0, none⟩)) ∧ u.cell? ⟨X, 2, none⟩ = some (.pointer (some ⟨G, 0, none⟩)) ∧ u.cell? ⟨X, 3, none⟩ = some (.pointer (some ⟨R, 0, none⟩)) := by
  obtain ⟨h0, h1, h2, h3, _⟩ := box4 (Own.boxed h 1 rfl)
  have hb := Own.boxed h 0 rfl
  exact ⟨⟨cell_of_row _ _ _ _ _ _ hb, cell_of_row _ _ _ _ _ _ hb, cell_of_row _ _ _ _ _ _ hb⟩, h0, h1, h2, h3⟩
set_option maxHeartbeats 2000000 in
set_option maxRecDepth 100000 in
theorem bcrash_c {w0 w : World} {X F D G R : Nat} {s : Ds} {L : List As} (h : Own w0 (pair X F D G R s L) w) {c : Ch} (hc : c.ok) :
    Calls Try.prog 36 #[.pointer (some ⟨X, 0, none⟩), .agg c.cells] w fun e w' => e = .returned (.tuple #[]) ∧ Own w0 (pair X F D G R { s.settled c.left with fu := .idle } L) w' := by
  unfold pair at h ⊢
  obtain ⟨t, ht⟩ : ∃ t : Ds, t = s.settled c.left := ⟨_, rfl⟩
  obtain ⟨t2, ht2⟩ : ∃ t2 : Ds, t2 = { t with fu := .idle } := ⟨_, rfl⟩
  have hA : ∀ {C A B : As} {W : World}, Own w0 (C :: A :: B :: dk F D s :: L) W → Calls Try.prog 22 #[.pointer (some ⟨D, 0, none⟩), .agg c.cells] W fun e w' => e = .returned (.tuple #[]) ∧ Own w0 (C :: A :: B :: dk F D t :: L) w' := fun h => by
    rw [ht]; exact o_crash h 3 rfl hc
  have hB : ∀ {C A : As} {B : List As} {W : World}, Own w0 (C :: A :: rk G R s :: B) W → Calls Try.prog 53 #[.pointer (some ⟨R, 0, none⟩), .agg c.cells] W fun e w' => e = .returned (.tuple #[]) ∧ Own w0 (C :: A :: rk G R t :: B) w' := fun h => by
    rw [ht]; exact o_rcrash h 2 rfl hc
  have hA2 : ∀ {C A B : As} {W : World}, Own w0 (C :: A :: B :: dk F D t :: L) W → Calls Try.prog 54 #[.pointer (some ⟨F, 0, none⟩)] W fun e w' => e = .returned (.tuple #[]) ∧ Own w0 (C :: A :: B :: dk F D t2 :: L) w' := fun h => by
    rw [ht2]; exact o_fuse h 3 rfl (f := .idle) trivial fun hf _ => reset_c _ _ _ hf
  have hB2 : ∀ {C A : As} {B : List As} {W : World}, Own w0 (C :: A :: rk G R t :: B) W → Calls Try.prog 55 #[.pointer (some ⟨G, 0, none⟩)] W fun e w' => e = .returned (.tuple #[]) ∧ Own w0 (C :: A :: rk G R t2 :: B) w' := fun h => by
    rw [ht2]; exact o_rfuse h 2 rfl (f := .idle) trivial fun hf => rreset_c _ _ _ hf
  rw [← ht, ← ht2]
  obtain ⟨keep, torn, bytes⟩ := c
  unfold Ch.cells at hA hB ⊢
  dsimp only at hA hB ⊢
  obtain ⟨x, hx⟩ : ∃ x, x = w.alloc (.cells #[.int .u64 (keep : Int), .int .i64 torn, .int .i64 bytes] 29) := ⟨_, rfl⟩
  have kx : Kept w x := by rw [hx]; exact (Kept.refl w).alloc _
  have bx : x.heap[w.heap.size]? = some (.cells #[.int .u64 (keep : Int), .int .i64 torn, .int .i64 bytes] 29 (0, 0)) := by rw [hx]; exact heap_alloc_new _ _
  have hX := h.box #[.int .u64 (keep : Int), .int .i64 torn, .int .i64 bytes] 29
  rw [← hx] at hX
  clear ht ht2 hc
  go_enter Try.func36, Try.ntmps36
  go_wp2
  rw [← hx]
  clear hx kx bx h
  have hXd := hX.later (Kept.refl x).drew
  obtain ⟨⟨a0, a1, a2⟩, a3, a4, a5, a6⟩ := pairc_cells hX
  have S1 := And.intro (And.intro a0 (And.intro a1 a2)) a4
  have S1' := And.intro (pairc_cells hXd).1 (pairc_cells hXd).2.2.1
  go_region_held3 (fun W => (W.cell? ⟨w.heap.size, 0, none⟩ = some (.int .u64 (keep : Int)) ∧ W.cell? ⟨w.heap.size, 1, none⟩ = some (.int .i64 torn) ∧ W.cell? ⟨w.heap.size, 2, none⟩ = some (.int .i64 bytes)) ∧ W.cell? ⟨X, 1, none⟩ = some (.pointer (some ⟨D, 0, none⟩)))
    (first | assumption | exact ⟨(pairc_cells k1).1, (pairc_cells k1).2.2.1⟩)
    (first | (go_at_call 22; (with_reducible refine (hA hXd).mono ?_); rintro e u1 ⟨rfl, k1⟩))
  clear a0 a1 a2 a3 a4 a5 a6 S1 S1' hXd hX
  have hXd := k1.later (Kept.refl u1).drew
  obtain ⟨⟨a0, a1, a2⟩, a3, a4, a5, a6⟩ := pairc_cells k1
  have S1 := And.intro (And.intro a0 (And.intro a1 a2)) a6
  have S1' := And.intro (pairc_cells hXd).1 (pairc_cells hXd).2.2.2.2
  go_wp2
  go_region_held3 (fun W => (W.cell? ⟨w.heap.size, 0, none⟩ = some (.int .u64 (keep : Int)) ∧ W.cell? ⟨w.heap.size, 1, none⟩ = some (.int .i64 torn) ∧ W.cell? ⟨w.heap.size, 2, none⟩ = some (.int .i64 bytes)) ∧ W.cell? ⟨X, 3, none⟩ = some (.pointer (some ⟨R, 0, none⟩)))
    (first | assumption | exact ⟨(pairc_cells k2).1, (pairc_cells k2).2.2.2.2⟩)
    (first | (go_at_call 53; (with_reducible refine (hB hXd).mono ?_); rintro e u2 ⟨rfl, k2⟩))
  clear a0 a1 a2 a3 a4 a5 a6 S1 S1' hXd k1
  obtain ⟨_, a3, _⟩ := pairc_cells k2
  go_wp2_with (first
    | (go_at_call 54; (with_reducible refine (hA2 k2).mono ?_); rintro e u3 ⟨rfl, k3⟩; obtain ⟨_, _, _, a5, _⟩ := pairc_cells k3)
    | (go_at_call 55; (with_reducible refine (hB2 k3).mono ?_); rintro e u4 ⟨rfl, k4⟩))
  go_end0
  exact ⟨rfl, k4.tail⟩
end Go.Proofs.Ytoclgneokfbobaa.Dz
