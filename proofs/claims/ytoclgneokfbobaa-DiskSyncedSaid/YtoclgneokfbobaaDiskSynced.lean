/-
  PROVED: the statement 'DiskSyncedSaid': for every input the law DiskSynced returns true, and each argument reads afterwards as it read before. No condition.
-/
import Derived.Test.YtoclgneokfbobaaDm
import Derived.Test.YtoclgneokfbobaaDh
import Derived.Test.YtoclgneokfbobaaRows
import Derived.WalkKit
import Derived.Deep.RegionHeld3
import Derived.BigQuiet
import Derived.ProofKit
import Derived.OpenShut
import Derived.ShutString
namespace Go.Proofs.Ytoclgneokfbobaa.diskSynced
open Go.ChangeShapes Go.WideShapes Go.ChangeAt Go.RowKit
open Go.Proofs.Ytoclgneokfbobaa.Mem Go.Proofs.Ytoclgneokfbobaa.Fz Go.Proofs.Ytoclgneokfbobaa.Dz
set_option linter.unusedVariables false

theorem own : ownKnob Try.prog.godebug = none := by kernel_rfl
theorem laidOut : laidOutB Try.prog = true := by kernel_rfl

set_option maxHeartbeats 1000000 in
set_option maxRecDepth 100000 in
theorem long (w : World) (n : Nat) (hn : n ≤ 255) (ao : Option Addr) (len cap : Nat) (h : 60 < len) (c : Ch) :
    Calls Try.prog 5 #[.int .u8 (n : Int), .slice ao len cap, .agg c.cells] w fun e w' => e = .returned (.bool true) ∧ Kept w w' := by
  have h1 : decide (60 < (len : Int)) = true := by simp; omega
  unfold Ch.cells
  clear h
  go_enter Try.func5, Try.ntmps5
  go_wp2_with (go_at_call 9; refine (known_c _).mono ?_; rintro e u ⟨rfl, hk⟩)
  go_ret
  exact ⟨rfl, ((Kept.refl w).alloc _).trans hk⟩
theorem row_cells {w0 w : World} {L : List As} {i : Nat} {v : Value} {n : Nat} {s : Ds} (h : Own w0 L w) (hi : L[i]? = some (rowA 9 1 v n (lks s n))) (hn : 1 ≤ n) : ∃ g cap, v = .slice (some ⟨g, 0, none⟩) n cap ∧ ∀ (W : World) (M : List As) (j : Nat), Own w0 M W → M[j]? = some (rowA 9 1 v n (lks s n)) → ∀ k, k < n → W.cell? ⟨g, k, none⟩ = some (.string (s.look k)) := by
  obtain ⟨g, cap, rfl⟩ := row_pos (Own.row h i hi) hn
  refine ⟨g, cap, rfl, fun W M j hW hj k hk => ?_⟩
  have q := (Own.row hW _ hj).cells (g := g) rfl k (.string (s.look k)) (by simp [lks, hk])
  simpa only [add_plain, Nat.zero_add] using q
set_option maxHeartbeats 1000000 in
set_option maxRecDepth 100000 in
theorem rounds (w : World) (n : Nat) (hn : n ≤ 255) (ao : Option Addr) (len cap : Nat) (X : Nat → Put) (h60 : len ≤ 60)
    (hX : ∀ i, i < len → ∃ b off, ao = some ⟨b, off, none⟩ ∧ b < w.heap.size ∧ (X i).at b (off + i * 2) w) (hok : ∀ i, i < len → (X i).ok) (c : Ch) (hc : c.ok) :
    Calls Try.prog 5 #[.int .u8 (n : Int), .slice ao len cap, .agg c.cells] w fun e w' => e = .returned (.bool true) ∧ Kept w w' := by
  have h1 : decide (60 < (len : Int)) = false := by simp; omega
  obtain ⟨N, hN, hN1, hN2⟩ : ∃ N : Nat, (n : Int) % 12 + 1 = (N : Int) ∧ 1 ≤ N ∧ N ≤ 12 := ⟨n % 12 + 1, by omega, by omega, by omega⟩
  obtain ⟨wB, hwB⟩ : ∃ wB, wB = w.alloc (.cells c.cells 29) := ⟨_, rfl⟩
  have kB : Kept w wB := by rw [hwB]; exact (Kept.refl w).alloc _
  have bB : wB.heap[w.heap.size]? = some (.cells c.cells 29 (0, 0)) := by rw [hwB]; exact heap_alloc_new _ _
  obtain ⟨s, hs⟩ : ∃ s, s = fillTo N X 0 len := ⟨_, rfl⟩
  have hfull : Full N len s := by rw [hs]; exact full_to hN1 (by omega) len
  have hfill : ∀ {L : List As} {W : World}, Own wB L W → Calls Try.prog 29 #[.int .i64 (N : Int), .slice ao len cap, .int .i64 0] W fun e w' => ∃ F D v, e = .returned (.tuple #[.pointer (some ⟨D, 0, none⟩), v]) ∧ Own wB (rowA 9 1 v N (lks s N) :: dk F D s :: L) w' := fun h => by
    have q := filled_c h N hN1 (by omega) ao len cap (by omega) X (fun i hi => by
      obtain ⟨b, off, e, hb, hx⟩ := hX i hi
      exact ⟨b, off, e, Nat.lt_of_lt_of_le hb kB.size, hx.kept kB hb⟩) hok 0 (by omega)
    rw [← hs] at q
    exact q
  have hstart : Own wB [] wB := Own.nil wB
  have cB : ∀ (L : List As) (W : World), Own wB L W → W.cell? ⟨w.heap.size, 0, none⟩ = some (.int .u64 (c.keep : Int)) ∧ W.cell? ⟨w.heap.size, 1, none⟩ = some (.int .i64 c.torn) ∧ W.cell? ⟨w.heap.size, 2, none⟩ = some (.int .i64 c.bytes) := fun _ _ h =>
    ⟨cell_of_row _ _ _ _ _ _ (h.kept.at bB), cell_of_row _ _ _ _ _ _ (h.kept.at bB), cell_of_row _ _ _ _ _ _ (h.kept.at bB)⟩
  have hsy : ∀ {A B C : As} {L : List As} {F D : Nat} {W : World}, Own wB (A :: B :: C :: dk F D s :: L) W → Calls Try.prog 23 #[.pointer (some ⟨D, 0, none⟩)] W fun e w' => e = .returned (.int .i64 0) ∧ Own wB (A :: B :: C :: dk F D (s.settled fun _ => 80) :: L) w' := fun h => o_s3 h hfull.idle
  have hcr : ∀ {A B C : As} {L : List As} {F D : Nat} {W : World}, Own wB (A :: B :: C :: dk F D (s.settled fun _ => 80) :: L) W → Calls Try.prog 22 #[.pointer (some ⟨D, 0, none⟩), .agg c.cells] W fun e w' => e = .returned (.tuple #[]) ∧ Own wB (A :: B :: C :: dk F D (s.settled fun _ => 80) :: L) w' := fun h => o_c3 h hc
  have hcp : ∀ {A : As} {L : List As} {F D : Nat} {W : World}, Own wB (A :: dk F D s :: L) W → Calls Try.prog 22 #[.pointer (some ⟨D, 0, none⟩), .agg #[.int .u64 18446744073709551615, .int .i64 (-1), .int .i64 0]] W fun e w' => e = .returned (.tuple #[]) ∧ Own wB (A :: dk F D (s.settled (⟨18446744073709551615, -1, 0⟩ : Ch).left) :: L) w' := fun h => o_c1 h ok_all
  obtain ⟨t, ht⟩ : ∃ t, t = s.settled fun _ => 80 := ⟨_, rfl⟩
  obtain ⟨t2, ht2⟩ : ∃ t, t = s.settled (⟨18446744073709551615, -1, 0⟩ : Ch).left := ⟨_, rfl⟩
  have fu1 : t.fu = .idle ∧ t.n = N ∧ t.pend = [] := by rw [ht]; exact ⟨hfull.idle, hfull.n, rfl⟩
  have fu2 : t2.fu = .idle ∧ t2.n = N ∧ t2.pend = [] := by rw [ht2]; exact ⟨hfull.idle, hfull.n, rfl⟩
  have lk1 : ∀ k, k < N → t.look k = s.look k ∧ t.dur k = s.look k := fun k hk => by
    have q := settled_look (f := fun _ => 80) (fun _ => rfl) hfull.ok (i := k) (by rw [hfull.n]; exact hk)
    rw [← ht] at q
    exact ⟨by rw [ht, look_settled, ← ht]; exact q, q⟩
  have lk2 : ∀ k, k < N → t2.look k = s.look k := fun k hk => by
    have q := settled_look left_all hfull.ok (i := k) (by rw [hfull.n]; exact hk)
    rw [← ht2] at q
    rw [ht2, look_settled, ← ht2]; exact q
  rw [← ht] at hsy hcr
  rw [← ht2] at hcp
  have hr3 : ∀ {A B C : As} {L : List As} {F D : Nat} {W : World} (k : Nat), k < N → Own wB (A :: B :: C :: dk F D t :: L) W → Calls Try.prog 19 #[.pointer (some ⟨D, 0, none⟩), .int .i64 (k : Int)] W fun e w' => e = .returned (.tuple #[.string (s.look k), .int .i64 0]) ∧ Own wB (A :: B :: C :: dk F D t :: L) w' := fun k hk h => by
    have q := o_r3 h fu1.1 (k := k) (by rw [fu1.2.1]; exact hk)
    rw [(lk1 k hk).1] at q
    exact q
  have hr1 : ∀ {A : As} {L : List As} {F D : Nat} {W : World} (k : Nat), k < N → Own wB (A :: dk F D t2 :: L) W → Calls Try.prog 19 #[.pointer (some ⟨D, 0, none⟩), .int .i64 (k : Int)] W fun e w' => e = .returned (.tuple #[.string (s.look k), .int .i64 0]) ∧ Own wB (A :: dk F D t2 :: L) w' := fun k hk h => by
    have q := o_r1 h fu2.1 (k := k) (by rw [fu2.2.1]; exact hk)
    rw [lk2 k hk] at q
    exact q
  have hd3 : ∀ {A B C : As} {L : List As} {F D : Nat} {W : World} (k : Nat), k < N → Own wB (A :: B :: C :: dk F D t :: L) W → Calls Try.prog 18 #[.pointer (some ⟨D, 0, none⟩), .int .i64 (k : Int)] W fun e w' => e = .returned (.string (s.look k)) ∧ Own wB (A :: B :: C :: dk F D t :: L) w' := fun k hk h => by
    have q := o_d3 h (k := k) (by rw [fu1.2.1]; exact hk)
    rw [(lk1 k hk).2] at q
    exact q
  have hp3 : ∀ {A B C : As} {L : List As} {F D : Nat} {W : World}, Own wB (A :: B :: C :: dk F D t :: L) W → Calls Try.prog 17 #[.pointer (some ⟨D, 0, none⟩)] W fun e w' => ∃ ao cap, e = .returned (.slice ao 0 cap) ∧ Own wB (A :: B :: C :: dk F D t :: L) w' := fun h => (o_pending h 3 rfl (by rw [fu1.2.2]; decide)).mono fun e w' ⟨⟨ao, cap, he, _⟩, hk⟩ => ⟨ao, cap, by rw [fu1.2.2] at he; exact he, hk⟩
  have hp1 : ∀ {A : As} {L : List As} {F D : Nat} {W : World}, Own wB (A :: dk F D t2 :: L) W → Calls Try.prog 17 #[.pointer (some ⟨D, 0, none⟩)] W fun e w' => ∃ ao cap, e = .returned (.slice ao 0 cap) ∧ Own wB (A :: dk F D t2 :: L) w' := fun h => (o_pending h 1 rfl (by rw [fu2.2.2]; decide)).mono fun e w' ⟨⟨ao, cap, he, _⟩, hk⟩ => ⟨ao, cap, by rw [fu2.2.2] at he; exact he, hk⟩
  have hkn : ∀ W, Calls Try.prog 9 #[] W fun e w' => e = .returned (.bool true) ∧ Kept W w' := known_c
  have HB := Lib.hid kB
  have CB := Lib.hid cB
  rw [hwB] at hstart
  clear kB bB hX hok hc hs hfull cB ht ht2 fu1 fu2 lk1 lk2
  unfold Ch.cells at hwB hstart hcr ⊢
  have hW := Lib.hid hwB
  rw [← hwB] at hstart
  have hstart' : Own wB [] (w.alloc (.cells #[.int .u64 (c.keep : Int), .int .i64 c.torn, .int .i64 c.bytes] 29)) := by rw [← hwB]; exact hstart
  clear hwB hstart
  go_enter Try.func5, Try.ntmps5
  go_wp2_with (first
    | (go_at_call 29; (with_reducible refine (hfill hstart').mono ?_); rintro e u1 ⟨F, D, v, rfl, k1⟩; obtain ⟨g, cap', hv, hcell⟩ := row_cells k1 (i := 0) rfl hN1; rw [hv] at k1 hcell ⊢; have HC := Lib.hid hcell; clear hv hcell)
    | (go_at_call 29; (with_reducible refine (hfill k1).mono ?_); rintro e u2 ⟨E, P, v2, rfl, k2⟩)
    | (go_at_call 23; (with_reducible refine (hsy ‹_›).mono ?_); rintro e u3 ⟨rfl, k3⟩; obtain ⟨b0, b1, b2⟩ := CB.out _ _ k3)
    | (go_at_call 22; first | ((with_reducible refine (hcr ‹_›).mono ?_); rintro e u4 ⟨rfl, k4⟩) | ((with_reducible refine (hcp ‹_›).mono ?_); rintro e u5 ⟨rfl, k5⟩)))
  go_loopw [12] (fun i wr => ∃ k : Nat, k ≤ N ∧ i = .int .i64 k ∧ Own wB [rowA 9 1 v2 N (lks s N), dk E P t2, rowA 9 1 (.slice (some ⟨g, 0, none⟩) N cap') N (lks s N), dk F D t] wr) (fun i _ => N - (intOf i).toNat)
  case atStart => exact ⟨0, by omega, rfl, k5⟩
  case round =>
    clear k1 k2 k3 k4 k5 b0 b1 b2 hstart'
    obtain ⟨k, hk, rfl, hp⟩ := hrel
    by_cases hlt : k < N
    · have hr3k := fun {A B C : As} {L : List As} {F D : Nat} {W : World} => @hr3 A B C L F D W k hlt
      have hr1k := fun {A : As} {L : List As} {F D : Nat} {W : World} => @hr1 A L F D W k hlt
      have hd3k := fun {A B C : As} {L : List As} {F D : Nat} {W : World} => @hd3 A B C L F D W k hlt
      have hcell : ∀ W, Own wB [rowA 9 1 v2 N (lks s N), dk E P t2, rowA 9 1 (.slice (some ⟨g, 0, none⟩) N cap') N (lks s N), dk F D t] W → W.cell? ⟨g, k, none⟩ = some (.string (s.look k)) := fun W h => HC.out W _ 2 h rfl k hlt
      obtain ⟨x, hx⟩ : ∃ x, x = s.look k := ⟨_, rfl⟩
      rw [← hx] at hr3k hr1k hd3k
      simp only [← hx] at hcell
      have HX := Lib.hid hcell
      clear hr3 hr1 hd3 hfill hsy hcr hcp hx hcell
      go_wp2_with (first
        | (go_at_call 19; first | ((with_reducible refine (hr3k ‹_›).mono ?_); rintro e u6 ⟨rfl, k6⟩) | ((with_reducible refine (hr1k ‹_›).mono ?_); rintro e u7 ⟨rfl, k7⟩)))
      have c7 := HX.out _ k7
      have c7' := HX.out _ k7.drew
      have k7' := k7.drew
      go_region_held3 (fun W => W.cell? ⟨g, k, none⟩ = some (.string x)) (first | assumption | (refine HX.out _ ?_; exact k8))
        (first | (go_at_call 18; (with_reducible refine (hd3k ‹_›).mono ?_); rintro e u8 ⟨rfl, k8⟩))
      go_wp2
      go_roundw
      case rel => exact ⟨k + 1, by omega, by go_num, k8⟩
      case measure => simp [intOf]; omega
    · have hx : ¬ (k < N) := hlt
      clear hr3 hr1 hd3 hfill hsy hcr hcp
      go_wp2_with (first
        | (go_at_call 17; first | ((with_reducible refine (hp3 ‹_›).mono ?_); rintro e u7 ⟨a7, c7, rfl, k7⟩) | ((with_reducible refine (hp1 ‹_›).mono ?_); rintro e u8 ⟨a8, c8, rfl, k8⟩))
        | (go_at_call 9; (with_reducible refine (hkn _).mono ?_); rintro e u9 ⟨rfl, k9⟩))
      go_ret
      exact ⟨rfl, (HB.out.trans k8.kept).trans k9⟩
theorem walk (w : World) (n : Nat) (hn : n ≤ 255) (ao : Option Addr) (len cap : Nat) (X : Nat → Put) (hX : 0 < len → ∃ b off, ao = some ⟨b, off, none⟩ ∧ b < w.heap.size ∧ ∀ i, i < len → (X i).at b (off + i * 2) w)
    (hok : ∀ i, i < len → (X i).ok) (_hm : len ≤ maxLen) (c : Ch) (hc : c.ok) :
    Calls Try.prog 5 #[.int .u8 (n : Int), .slice ao len cap, .agg c.cells] w fun e w' => e = .returned (.bool true) ∧ Kept w w' := by
  by_cases h60 : 60 < len
  · exact long w n hn ao len cap h60 c
  · refine rounds w n hn ao len cap X (by omega) (fun i hi => ?_) hok c hc
    obtain ⟨b, off, e, hb, hx⟩ := hX (by omega)
    exact ⟨b, off, e, hb, hx i hi⟩

set_option maxRecDepth 100000 in
theorem lifted (os : Os) (started : os.Started) (H : Type) (enc : TypeId × Value → H) :
    ReturnsInHanded {} Try.checked os 5 .any (Rows.diskSyncedSpec.pre6 enc Try.prog Try.f5 Rows.diskSyncedRow.domain false) (Rows.diskSyncedSpec.post enc Try.prog Try.f5 false true false false) := by
  refine returnsInHanded_of_change (C := Try.checked) own started (by kernel_rfl) Try.func5
    (ChangeSpec.witness6 (enc := enc) (C := Try.checked) false ⟨#[], #[.int .u8 0, .slice none 0 0, .agg #[.int .u64 0, .int .i64 0, .int .i64 0]], []⟩ 8 (by kernel_rfl) (by kernel_rfl) (by kernel_rfl) (by kernel_rfl)) ?_
  intro W base args ds gs before hval0 hW hcnd _
  have hval : ∀ (j : Nat) t v, Try.f5.params[j]? = some t → args[j]? = some v → Value.okWide Try.prog W .any base t v := hval0
  have hW' := hW
  obtain ⟨p, q, hA0, hV, rfl, hfz, hnd⟩ := hW
  have hA : DataW.TrodAll enc Try.prog W 0 (fun _ => true) true Try.f5.params.toList args.toList ds p := hA0
  rw [Try.params5] at hA hval
  obtain ⟨v0, vs0, d0, ds0, p0, q0, hargs0, rfl, rfl, h0, r0⟩ := trodAll_cons hA
  obtain ⟨v1, vs1, d1, ds1, p1, q1, hargs1, rfl, rfl, h1, r1⟩ := trodAll_cons r0
  obtain ⟨v2, vs2, d2, ds2, p2, q2, hargs2, rfl, rfl, h2, r2⟩ := trodAll_cons r1
  obtain ⟨rfl, rfl, rfl⟩ := trodAll_nil r2
  obtain rfl : args = #[v0, v1, v2] := by cases args; simp_all
  obtain ⟨rfl, rfl⟩ := trodVars_none hV
  obtain ⟨n0, b0, e0⟩ := open_u8 (hval 0 5 v0 rfl rfl) h0
  obtain ⟨ao1, len1, cap1, X1, e1, c1, o1, m1⟩ := open_puts (hval 1 58 v1 rfl rfl) h1
  obtain ⟨n2, b2, e2⟩ := open_choice choice_struct (hval 2 29 v2 rfl rfl) h2
  clear hA0 hval0
  simp only [List.append_nil] at hW'
  have hlt0 : ∀ x ∈ p0, x.block < W.heap.size := fun x hx => hW'.lt x (by simp [hx])
  have hlt1 : ∀ x ∈ p1, x.block < W.heap.size := fun x hx => hW'.lt x (by simp [hx])
  have hlt2 : ∀ x ∈ p2, x.block < W.heap.size := fun x hx => hW'.lt x (by simp [hx])
  have hwalk := walk W n0 b0 ao1 len1 cap1 X1 c1 o1 m1 n2 b2
  rw [← e0, ← e1, ← e2] at hwalk
  refine hwalk.mono fun e W' ⟨he, hg⟩ => ?_
  subst he
  exact ⟨_, rfl, _, _, _, [], _, [], hW', (trodAll_cons_mk (shut_bool Try.underlying4 _) trodAll_mk0), (trodAll_cons_mk (Below.trod laidOut (by kernel_rfl) (of_decide_eq_true (by kernel_rfl)) h0 hg hlt0) (trodAll_cons_mk (Below.trod laidOut (by kernel_rfl) (of_decide_eq_true (by kernel_rfl)) h1 hg hlt1) (trodAll_cons_mk (Below.trod laidOut (by kernel_rfl) (of_decide_eq_true (by kernel_rfl)) h2 hg hlt2) trodAll_mk0))), rfl, Below.frame hg _, fun h => by cases h⟩

theorem over : Rows.diskSyncedRow.holds Try.pinned (OpenSpec.ofChange Rows.diskSyncedSpec) :=
  OpenClaim.holds_of_wide 5 Try.f5 rfl rfl rfl rfl rfl rfl rfl ⟨rfl, rfl, rfl, rfl, rfl⟩ rfl rfl rfl rfl rfl (by kernel_rfl) Try.func5 (by kernel_rfl)
    (of_decide_eq_true (by kernel_rfl)) (by unfold Func.isWrapper; first | (rw [if_pos (by decide +kernel)]; kernel_rfl) | (rw [if_neg (by decide +kernel)]; exact ⟨rfl, rfl⟩))
    (fun os started H enc _ => lifted os started H enc)

/-- ████ THE STATEMENT ████ -/
theorem proved : Rows.DiskSyncedSaid :=
  over
#print axioms proved
end Go.Proofs.Ytoclgneokfbobaa.diskSynced
