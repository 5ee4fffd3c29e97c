/-
  PROVED: the statement 'DiskAgainSaid': for every input the law DiskAgain returns true, and each argument reads afterwards as it read before. No condition.
-/
import Derived.Test.YtoclgneokfbobaaDm
import Derived.Test.YtoclgneokfbobaaDh
import Derived.Test.YtoclgneokfbobaaRows
import Derived.WalkKit
import Derived.Deep.RegionHeld3
import Derived.BigQuiet
import Derived.ProofKit
import Derived.OpenShut
import Derived.ShutString
namespace Go.Proofs.Ytoclgneokfbobaa.diskAgain
open Go.ChangeShapes Go.WideShapes Go.ChangeAt Go.RowKit
open Go.Proofs.Ytoclgneokfbobaa.Mem Go.Proofs.Ytoclgneokfbobaa.Fz Go.Proofs.Ytoclgneokfbobaa.Dz
set_option linter.unusedVariables false

theorem own : ownKnob Try.prog.godebug = none := by kernel_rfl
theorem laidOut : laidOutB Try.prog = true := by kernel_rfl

set_option maxHeartbeats 1000000 in
set_option maxRecDepth 100000 in
theorem long (w : World) (n : Nat) (hn : n ≤ 255) (ao : Option Addr) (len cap : Nat) (h : 40 < len) (c c2 : Ch) (one : Nat) :
    Calls Try.prog 8 #[.int .u8 (n : Int), .slice ao len cap, .agg c.cells, .agg c2.cells, .int .u8 (one : Int)] w fun e w' => e = .returned (.bool true) ∧ Kept w w' := by
  have h1 : decide (40 < (len : Int)) = true := by simp; omega
  unfold Ch.cells
  clear h
  go_enter Try.func8, Try.ntmps8
  go_wp2_with (go_at_call 9; refine (known_c _).mono ?_; rintro e u ⟨rfl, hk⟩)
  go_ret
  exact ⟨rfl, (((Kept.refl w).alloc _).alloc _).trans hk⟩
theorem sizes_of {u : World} {a : Nat} {v : Value} (h : u.cell? ⟨a, 0, none⟩ = some v) : a < u.heap.size ∧ ¬ a = u.heap.size ∧ ¬ u.heap.size = a ∧ ¬ a = u.heap.size + 1 ∧ ¬ u.heap.size + 1 = a := by
  have h0 : a < u.heap.size := World.block_lt_of_cell? u ⟨a, 0, none⟩ h
  omega

theorem box3 {u : World} {B : Nat} {x y z : Value} {T : TypeId} (h : u.heap[B]? = some (.cells #[x, y, z] T (0, 0))) : u.cell? ⟨B, 0, none⟩ = some x ∧ u.cell? ⟨B, 1, none⟩ = some y ∧ u.cell? ⟨B, 2, none⟩ = some z :=
  ⟨cell_of_row _ _ _ _ _ _ h, cell_of_row _ _ _ _ _ _ h, cell_of_row _ _ _ _ _ _ h⟩
theorem Own.boxes {w0 w : World} {L : List As} (h : Own w0 L w) (A B : Array Value) (T : TypeId) : Own w0 (boxA (w.heap.size + 1) B T :: boxA w.heap.size A T :: L) ((w.alloc (.cells A T)).alloc (.cells B T)) := by
  have q := (h.box A T).box B T
  rw [World.size_alloc] at q
  exact q
theorem and_not {k : Nat} (hk : k < 18446744073709551616) {t : Int} (h0 : 0 ≤ t) (h1 : t < 64) : bits BinOp.andNot IntKind.u64 (k : Int) (IntKind.u64.wrap (2 ^ min (IntKind.u64.wrap t).toNat 64)) = ((k &&& (18446744073709551615 - 2 ^ t.toNat) : Nat) : Int) := by
  obtain ⟨n, rfl⟩ := Int.eq_ofNat_of_zero_le h0
  have e1 : IntKind.u64.wrap (n : Int) = (n : Int) := by rw [IntKind.wrap_u64]; omega
  have e2 : min ((n : Int)).toNat 64 = n := by simp; omega
  have hp : 2 ^ n < 18446744073709551616 := Nat.lt_of_lt_of_le (Nat.pow_lt_pow_right (by decide) (show n < 64 by omega)) (by decide)
  have e3 : IntKind.u64.wrap ((2 : Int) ^ n) = ((2 ^ n : Nat) : Int) := by
    have e : ((2 : Int) ^ n) = ((2 ^ n : Nat) : Int) := by simp
    rw [IntKind.wrap_u64, e]
    generalize 2 ^ n = P at hp ⊢
    omega
  rw [e1, e2, e3, u64_andNot_nat _ _ hk hp]
  simp
theorem row_cells {w0 w : World} {L : List As} {i : Nat} {v : Value} {n : Nat} {s : Ds} (h : Own w0 L w) (hi : L[i]? = some (rowA 9 1 v n (lks s n))) (hn : 1 ≤ n) : ∃ g cap, v = .slice (some ⟨g, 0, none⟩) n cap ∧ ∀ (W : World) (M : List As) (j : Nat), Own w0 M W → M[j]? = some (rowA 9 1 v n (lks s n)) → ∀ k, k < n → W.cell? ⟨g, k, none⟩ = some (.string (s.look k)) := by
  obtain ⟨g, cap, rfl⟩ := row_pos (Own.row h i hi) hn
  refine ⟨g, cap, rfl, fun W M j hW hj k hk => ?_⟩
  have q := (Own.row hW _ hj).cells (g := g) rfl k (.string (s.look k)) (by simp [lks, hk])
  simpa only [add_plain, Nat.zero_add] using q
theorem Own.unfix {w0 w : World} {L M : List As} (h : Own w0 L w) (e : L = M) : Own w0 M w := e ▸ h
set_option maxHeartbeats 8000000 in
set_option maxRecDepth 100000 in
theorem rounds (w : World) (n : Nat) (hn : n ≤ 255) (ao : Option Addr) (len cap : Nat) (X : Nat → Put) (h40 : len ≤ 40)
    (hX : ∀ i, i < len → ∃ b off, ao = some ⟨b, off, none⟩ ∧ b < w.heap.size ∧ (X i).at b (off + i * 2) w) (hok : ∀ i, i < len → (X i).ok) (c : Ch) (hc : c.ok) (c2 : Ch) (hc2 : c2.ok) (one : Nat) (hone : one ≤ 255) :
    Calls Try.prog 8 #[.int .u8 (n : Int), .slice ao len cap, .agg c.cells, .agg c2.cells, .int .u8 (one : Int)] w fun e w' => e = .returned (.bool true) ∧ Kept w w' := by
  have h1 : decide (40 < (len : Int)) = false := by simp; omega
  obtain ⟨N, hN, hN1, hN2⟩ : ∃ N : Nat, (n : Int) % 12 + 1 = (N : Int) ∧ 1 ≤ N ∧ N ≤ 12 := ⟨n % 12 + 1, by omega, by omega, by omega⟩
  obtain ⟨wB, hwB⟩ : ∃ wB, wB = (w.alloc (.cells c.cells 29)).alloc (.cells c2.cells 29) := ⟨_, rfl⟩
  have kB : Kept w wB := by rw [hwB]; exact ((Kept.refl w).alloc _).alloc _
  have bB : wB.heap[w.heap.size]? = some (.cells c.cells 29 (0, 0)) := by rw [hwB]; exact ((Kept.refl _).alloc _).at (heap_alloc_new _ _)
  have bC : wB.heap[w.heap.size + 1]? = some (.cells c2.cells 29 (0, 0)) := by
    rw [hwB]
    have := heap_alloc_new (w.alloc (.cells c.cells 29)) (.cells c2.cells 29 (0, 0))
    simpa using this
  obtain ⟨s, hs⟩ : ∃ s, s = fillTo N X 0 len := ⟨_, rfl⟩
  have hfull : Full N len s := by rw [hs]; exact full_to hN1 (by omega) len
  have hfill : ∀ {L : List As} {W : World}, Own wB L W → Calls Try.prog 29 #[.int .i64 (N : Int), .slice ao len cap, .int .i64 0] W fun e w' => ∃ F D v, e = .returned (.tuple #[.pointer (some ⟨D, 0, none⟩), v]) ∧ Own wB (dk F D s :: L) w' := fun h => by
    have q := filled_c h N hN1 (by omega) ao len cap (by omega) X (fun i hi => by
      obtain ⟨b, off, e, hb, hx⟩ := hX i hi
      exact ⟨b, off, e, Nat.lt_of_lt_of_le hb kB.size, hx.kept kB hb⟩) hok 0 (by omega)
    rw [← hs] at q
    exact q.mono fun e w' ⟨F, D, v, he, hk⟩ => ⟨F, D, v, he, hk.tail⟩
  have hstart : Own wB [] wB := Own.nil wB
  have cB : ∀ (L : List As) (W : World), Own wB L W → (W.cell? ⟨w.heap.size, 0, none⟩ = some (.int .u64 (c.keep : Int)) ∧ W.cell? ⟨w.heap.size, 1, none⟩ = some (.int .i64 c.torn) ∧ W.cell? ⟨w.heap.size, 2, none⟩ = some (.int .i64 c.bytes)) ∧
      W.cell? ⟨w.heap.size + 1, 0, none⟩ = some (.int .u64 (c2.keep : Int)) ∧ W.cell? ⟨w.heap.size + 1, 1, none⟩ = some (.int .i64 c2.torn) ∧ W.cell? ⟨w.heap.size + 1, 2, none⟩ = some (.int .i64 c2.bytes) := fun _ _ h =>
    ⟨⟨cell_of_row _ _ _ _ _ _ (h.kept.at bB), cell_of_row _ _ _ _ _ _ (h.kept.at bB), cell_of_row _ _ _ _ _ _ (h.kept.at bB)⟩, cell_of_row _ _ _ _ _ _ (h.kept.at bC), cell_of_row _ _ _ _ _ _ (h.kept.at bC), cell_of_row _ _ _ _ _ _ (h.kept.at bC)⟩
  obtain ⟨lo, hlo⟩ : ∃ lo, lo = c.lost len := ⟨_, rfl⟩
  obtain ⟨ze, hze⟩ : ∃ ze, ze = c.zero := ⟨_, rfl⟩
  have zecells : ze.cells = #[.int .u64 (c.keep : Int), .int .i64 c.torn, .int .i64 0] := by rw [hze]; rfl
  obtain ⟨t, ht⟩ : ∃ t, t = s.settled c.left := ⟨_, rfl⟩
  obtain ⟨tx, htx⟩ : ∃ t, t = s.settled lo.left := ⟨_, rfl⟩
  have hty : s.settled ze.left = tx := by
    rw [htx, hlo, hze]
    have hl : s.pend.length ≤ len := hfull.len
    have e : Dz.settle c.zero.left s.pend s.dur s.pend.length = Dz.settle (c.lost len).left s.pend s.dur s.pend.length := settle_congr (fun k hk => (lost_zero c (by omega) (by omega)).symm) _
    unfold Ds.settled
    rw [e]
  have hcr : ∀ {A B C E : As} {L : List As} {F D : Nat} {W : World}, Own wB (A :: B :: C :: E :: dk F D s :: L) W → Calls Try.prog 22 #[.pointer (some ⟨D, 0, none⟩), .agg c.cells] W fun e w' => e = .returned (.tuple #[]) ∧ Own wB (A :: B :: C :: E :: dk F D t :: L) w' := fun h => by
    have q := o_c4 h hc
    rw [← ht] at q
    exact q
  have hcx : ∀ {A B C : As} {L : List As} {F D : Nat} {W : World}, Own wB (A :: B :: C :: dk F D s :: L) W → Calls Try.prog 22 #[.pointer (some ⟨D, 0, none⟩), .agg lo.cells] W fun e w' => e = .returned (.tuple #[]) ∧ Own wB (A :: B :: C :: dk F D tx :: L) w' := fun h => by
    have q := o_c3 h (c1 := lo) (by rw [hlo]; exact ok_lost hc len)
    rw [← htx] at q
    exact q
  have hcy : ∀ {A B : As} {L : List As} {F D : Nat} {W : World}, Own wB (A :: B :: dk F D s :: L) W → Calls Try.prog 22 #[.pointer (some ⟨D, 0, none⟩), .agg ze.cells] W fun e w' => e = .returned (.tuple #[]) ∧ Own wB (A :: B :: dk F D tx :: L) w' := fun h => by
    have q := o_c2 h (c1 := ze) (by rw [hze]; exact ok_zero hc)
    rw [hty] at q
    exact q
  have hfn : ∀ {L : List As} {W : World}, Own wB L W → Calls Try.prog 21 #[] W fun e w' => ∃ F, e = .returned (.pointer (some ⟨F, 0, none⟩)) ∧ Own wB (fzA F .idle :: L) w' := fun h => (o_fnew h).mono fun e w' ⟨F, he, hk⟩ => ⟨F, he, hk.front⟩
  obtain ⟨p, hp, hpN⟩ : ∃ p, p = one % N ∧ p < N := ⟨_, rfl, Nat.mod_lt _ (by omega)⟩
  have hnew : ∀ {L : List As} {F : Nat} {W : World}, Own wB (fzA F .idle :: L) W → Calls Try.prog 24 #[.int .i64 (N : Int), .pointer (some ⟨F, 0, none⟩)] W fun e w' => ∃ D, e = .returned (.tuple #[.pointer (some ⟨D, 0, none⟩), .int .i64 0]) ∧ Own wB (dk F D (fillTo N (only N X p) 0 0) :: L) w' := fun h => o_new h 0 rfl hN1 (by omega)
  have tpend : t.pend = [] ∧ t.n = N ∧ t.fu = .idle := by rw [ht]; exact ⟨rfl, hfull.n, hfull.idle⟩
  have txn : tx.n = N := by rw [htx]; exact hfull.n
  have tlook : ∀ k, t.look k = t.dur k := fun k => by rw [ht, look_settled]
  obtain ⟨ta, hta⟩ : ∃ ta, ta = (fillTo N (only N X p) 0 len).settled c.left := ⟨_, rfl⟩
  have fulla : ∀ k, Full N k (fillTo N (only N X p) 0 k) := fun k => full_to hN1 (by omega) k
  have tan : ta.n = N := by rw [hta]; exact (fulla len).n
  have hca : ∀ {L : List As} {F D : Nat} {W : World}, Own wB (dk F D (fillTo N (only N X p) 0 len) :: L) W → Calls Try.prog 22 #[.pointer (some ⟨D, 0, none⟩), .agg c.cells] W fun e w' => e = .returned (.tuple #[]) ∧ Own wB (dk F D ta :: L) w' := fun h => by
    have q := o_c0 h hc
    rw [← hta] at q
    exact q
  have hap : ta.dur p = t.dur p := by rw [hta, ht, hs]; exact only_settled N X p len c.left
  obtain ⟨x0, hx0⟩ : ∃ x, x = t.dur p := ⟨_, rfl⟩
  have hda : ∀ {L : List As} {F D : Nat} {W : World}, Own wB (dk F D ta :: L) W → Calls Try.prog 18 #[.pointer (some ⟨D, 0, none⟩), .int .i64 (p : Int)] W fun e w' => e = .returned (.string x0) ∧ Own wB (dk F D ta :: L) w' := fun h => by
    have q := o_d0 h (k := p) (by rw [tan]; exact hpN)
    rw [hap, ← hx0] at q
    exact q
  have hdd : ∀ {A B C : As} {L : List As} {F D : Nat} {W : World}, Own wB (A :: B :: C :: dk F D t :: L) W → Calls Try.prog 18 #[.pointer (some ⟨D, 0, none⟩), .int .i64 (p : Int)] W fun e w' => e = .returned (.string x0) ∧ Own wB (A :: B :: C :: dk F D t :: L) w' := fun h => by
    have q := o_d3 h (k := p) (by rw [tpend.2.1]; exact hpN)
    rw [← hx0] at q
    exact q
  have hd4 : ∀ {A B C E : As} {L : List As} {F D : Nat} {W : World} (k : Nat), k < N → Own wB (A :: B :: C :: E :: dk F D t :: L) W → Calls Try.prog 18 #[.pointer (some ⟨D, 0, none⟩), .int .i64 (k : Int)] W fun e w' => e = .returned (.string (t.look k)) ∧ Own wB (A :: B :: C :: E :: dk F D t :: L) w' := fun k hk h => by
    have q := o_d4 h (k := k) (by rw [tpend.2.1]; exact hk)
    rw [← tlook] at q
    exact q
  have hd3 : ∀ {A B C : As} {L : List As} {F D : Nat} {W : World} (k : Nat), k < N → Own wB (A :: B :: C :: dk F D tx :: L) W → Calls Try.prog 18 #[.pointer (some ⟨D, 0, none⟩), .int .i64 (k : Int)] W fun e w' => e = .returned (.string (tx.dur k)) ∧ Own wB (A :: B :: C :: dk F D tx :: L) w' := fun k hk h => o_d3 h (by rw [txn]; exact hk)
  have hd2 : ∀ {A B : As} {L : List As} {F D : Nat} {W : World} (k : Nat), k < N → Own wB (A :: B :: dk F D tx :: L) W → Calls Try.prog 18 #[.pointer (some ⟨D, 0, none⟩), .int .i64 (k : Int)] W fun e w' => e = .returned (.string (tx.dur k)) ∧ Own wB (A :: B :: dk F D tx :: L) w' := fun k hk h => o_d2 h (by rw [txn]; exact hk)
  have hr4 : ∀ {A B C E : As} {L : List As} {F D : Nat} {W : World} (k : Nat), k < N → Own wB (A :: B :: C :: E :: dk F D t :: L) W → Calls Try.prog 19 #[.pointer (some ⟨D, 0, none⟩), .int .i64 (k : Int)] W fun e w' => e = .returned (.tuple #[.string (t.look k), .int .i64 0]) ∧ Own wB (A :: B :: C :: E :: dk F D t :: L) w' := fun k hk h => o_r4 h tpend.2.2 (by rw [tpend.2.1]; exact hk)
  have hc4 : ∀ {A B C E : As} {L : List As} {F D : Nat} {W : World}, Own wB (A :: B :: C :: E :: dk F D t :: L) W → Calls Try.prog 22 #[.pointer (some ⟨D, 0, none⟩), .agg c2.cells] W fun e w' => e = .returned (.tuple #[]) ∧ Own wB (A :: B :: C :: E :: dk F D t :: L) w' := fun h => by
    have q := o_c4 h hc2
    have e : t.settled c2.left = t := by rw [ht]; rfl
    rw [e] at q
    exact q
  have hkn : ∀ W, Calls Try.prog 9 #[] W fun e w' => e = .returned (.bool true) ∧ Kept W w' := known_c
  have hN0 : ¬ N = 0 := by omega
  have hpm : (one : Int).tmod (N : Int) = (p : Int) := by rw [Int.tmod_eq_emod_of_nonneg (by omega), hp]; rfl
  have hpm2 : (one : Int) % (N : Int) = (p : Int) := by rw [hp]; rfl
  have HA := Lib.hid (And.intro hX (And.intro hok (And.intro hs (And.intro hfull (And.intro ht (And.intro htx (And.intro hc hc2)))))))
  have HB := Lib.hid kB
  have CB := Lib.hid cB
  have hcase : (decide (c.torn ≥ 0) = false ∧ lo.cells = #[.int .u64 (c.keep : Int), .int .i64 (-1), .int .i64 0]) ∨ (decide (c.torn ≥ 0) = true ∧ decide (c.torn < 64) = false ∧ lo.cells = #[.int .u64 (c.keep : Int), .int .i64 (-1), .int .i64 0]) ∨
      (decide (c.torn ≥ 0) = true ∧ decide (c.torn < 64) = true ∧ decide (c.torn < (len : Int)) = false ∧ lo.cells = #[.int .u64 (c.keep : Int), .int .i64 (-1), .int .i64 0]) ∨
      (decide (c.torn ≥ 0) = true ∧ decide (c.torn < 64) = true ∧ decide (c.torn < (len : Int)) = true ∧ lo.cells = #[.int .u64 (bits BinOp.andNot IntKind.u64 (c.keep : Int) (IntKind.u64.wrap (2 ^ min (IntKind.u64.wrap c.torn).toNat 64))), .int .i64 (-1), .int .i64 0]) := by
    rw [hlo]
    unfold Ch.lost
    by_cases a1 : c.torn ≥ 0
    · by_cases a2 : c.torn < 64
      · by_cases a3 : c.torn < (len : Int)
        · right; right; right
          refine ⟨by simpa using a1, by simpa using a2, by simpa using a3, ?_⟩
          rw [if_pos ⟨a1, a3⟩, and_not hc.keep a1 a2]
          rfl
        · right; right; left
          refine ⟨by simpa using a1, by simpa using a2, by simpa using a3, ?_⟩
          rw [if_neg (fun h => a3 h.2)]
          rfl
      · right; left
        have a3 : ¬ c.torn < (len : Int) := by omega
        refine ⟨by simpa using a1, by simpa using a2, ?_⟩
        rw [if_neg (fun h => a3 h.2)]
        rfl
    · left
      refine ⟨by simpa using a1, ?_⟩
      rw [if_neg (fun h => a1 h.1)]
      rfl
  rw [zecells] at hcy
  clear hp hfull hs hX hok hc hc2 hlo hze ht htx hty kB bB bC cB tpend txn tlook hta tan hap hx0 fulla zecells
  rcases hcase with ⟨a1, hl⟩ | ⟨a1, a2, hl⟩ | ⟨a1, a2, a3, hl⟩ | ⟨a1, a2, a3, hl⟩
  all_goals
    rw [hl] at hcx
    clear hl
    unfold Ch.cells at hwB hcr hca hc4 ⊢
    have hstart' : Own wB [] ((w.alloc (.cells #[.int .u64 (c.keep : Int), .int .i64 c.torn, .int .i64 c.bytes] 29)).alloc (.cells #[.int .u64 (c2.keep : Int), .int .i64 c2.torn, .int .i64 c2.bytes] 29)) := by rw [← hwB]; exact hstart
    clear hwB hstart
    go_enter Try.func8, Try.ntmps8
    go_wp2_with (first
      | (go_at_call 29; first
          | ((with_reducible refine (hfill hstart').mono ?_); rintro e u1 ⟨F1, D1, v1, rfl, k1⟩)
          | ((with_reducible refine (hfill k1).mono ?_); rintro e u2 ⟨F2, D2, v2, rfl, k2⟩)
          | ((with_reducible refine (hfill k2).mono ?_); rintro e u3 ⟨F3, D3, v3, rfl, k3⟩; obtain ⟨⟨b0, b1, b2⟩, _⟩ := CB.out _ _ k3; obtain ⟨z0, z1, z2, z3, z4⟩ := sizes_of b0))
      | (go_at_call 22; first
          | ((with_reducible refine (hcr (Own.boxes k3 _ _ _)).mono ?_); rintro e u4 ⟨rfl, k4⟩; obtain ⟨l0, l1, l2⟩ := box3 (Own.boxed k4 1 rfl))
          | ((with_reducible refine (hcx k4).mono ?_); rintro e u5 ⟨rfl, k5⟩; obtain ⟨y0, y1, y2⟩ := box3 (Own.boxed k5 0 rfl))
          | ((with_reducible refine (hcy k5).mono ?_); rintro e u6 ⟨rfl, k6⟩; have k6' := Own.tail (Own.tail k6)))
      | (go_at_call 21; (with_reducible refine (hfn k6').mono ?_); rintro e u7 ⟨FA, rfl, k7⟩)
      | (go_at_call 24; (with_reducible refine (hnew k7).mono ?_); rintro e u8 ⟨DA, rfl, k8⟩))
    clear b0 b1 b2 z0 z1 z2 z3 z4 l0 l1 l2 y0 y1 y2 k1 k2 k3 k4 k5 k6 k6' k7 hstart' hfill hcr hcx hcy hfn hnew
    go_loopw [23] (fun i wr => ∃ k : Nat, k ≤ len ∧ i = .int .i64 k ∧ Own wB [dk FA DA (fillTo N (only N X p) 0 k), dk F3 D3 tx, dk F2 D2 tx, dk F1 D1 t] wr) (fun i _ => len - (intOf i).toNat)
    case atStart => exact ⟨0, by omega, rfl, k8⟩
    case round =>
      clear k8
      obtain ⟨k, hk, rfl, hp⟩ := hrel
      by_cases hlt : k < len
      · obtain ⟨b, off, rfl, hb, hx⟩ := HA.out.1 k hlt
        have hI := (HA.out.2.1 k hlt).hi_i
        have hB := (HA.out.2.1 k hlt).hi_b
        have hm := Nat.mod_lt (X k).i (Nat.lt_of_lt_of_le Nat.zero_lt_one hN1)
        have ci : ∀ W, Kept wB W → W.cell? ⟨b, off + k * 2, none⟩ = some (.int .u8 ((X k).i : Int)) ∧ W.cell? ⟨b, off + k * 2 + 1, none⟩ = some (.int .u8 ((X k).b : Int)) := fun W hW => by
          have := hx.kept (HB.out.trans hW) hb
          exact ⟨this.ci, this.cb⟩
        have hfull := full_to (X := only N X p) (some := 0) hN1 (by omega) k
        obtain ⟨s1, hs1⟩ : ∃ s1, s1 = fillTo N (only N X p) 0 k := ⟨_, rfl⟩
        obtain ⟨I, hI'⟩ : ∃ I, I = (X k).i := ⟨_, rfl⟩
        obtain ⟨B, hB'⟩ : ∃ B, B = (X k).b := ⟨_, rfl⟩
        obtain ⟨m, hm'⟩ : ∃ m, m = (X k).i % N := ⟨_, rfl⟩
        have hnext : fillTo N (only N X p) 0 (k + 1) = s1.wrote m (sec (if m = p then B else 0)) := by
          rw [hs1, hm', hB']; simp [fillTo, only]
        rw [← hs1] at hp hfull
        rw [← hI'] at hI
        rw [← hB'] at hB
        rw [← hm'] at hm
        simp only [← hI', ← hB'] at ci
        have hrem : ((I : Int)).tmod (N : Int) = (m : Int) := by rw [Int.tmod_eq_emod_of_nonneg (by omega), hm', ← hI']; rfl
        have hrem2 : ((I : Int)) % (N : Int) = (m : Int) := by rw [hm', ← hI']; rfl
        have hwrap : IntKind.i64.wrap (I : Int) = (I : Int) := by rw [IntKind.wrap_i64]; omega
        have c1 := ci wr hp.kept
        have c1' := ci wr.drew hp.kept.drew
        have hwr : ∀ (d : ByteArray), d.size = 80 → ∀ W, Own wB [dk FA DA s1, dk F3 D3 tx, dk F2 D2 tx, dk F1 D1 t] W → Calls Try.prog 15 #[.pointer (some ⟨DA, 0, none⟩), .int .i64 (m : Int), .string d] W fun e w' => e = .returned (.int .i64 0) ∧ Own wB [dk FA DA (s1.wrote m d), dk F3 D3 tx, dk F2 D2 tx, dk F1 D1 t] w' :=
          fun d hd W h => o_w0 h hfull.idle (Nat.lt_of_le_of_lt hfull.len (by omega)) (by rw [hfull.n]; exact hm) hd
        have HX := Lib.hid (And.intro ci (And.intro hp hnext))
        have hpd := hp.drew
        clear ci hp hnext hx hs1 hI' hB' hm' hfull hca hda hdd hd4 hd3 hd2 hr4 hc4
        by_cases hq : m = p
        · have hq' : ((m : Int) != (p : Int)) = false := by simp; omega
          have hsec : ∀ W, Calls Try.prog 30 #[.int .u8 (B : Int)] W fun e w' => e = .returned (.string (sec B)) ∧ Kept W w' := fun W => sector_c B hB W
          have hwr' := hwr (sec B) (sec_size B)
          obtain ⟨sb, hsb⟩ : ∃ sb, sb = sec B := ⟨_, rfl⟩
          rw [← hsb] at hsec hwr'
          have HQ := Lib.hid (And.intro hq hsb)
          clear hq hsb hwr
          go_wp2
          go_region_held3 (fun W => W.cell? ⟨b, off + k * 2, none⟩ = some (.int .u8 (I : Int)) ∧ W.cell? ⟨b, off + k * 2 + 1, none⟩ = some (.int .u8 (B : Int)))
            (first | assumption | (refine HX.out.1 _ ?_; exact hpd.kept.trans k3) | (refine HX.out.1 _ ?_; exact k4.kept))
            (first
              | (go_at_call 30; refine (hsec _).mono ?_; rintro e u3 ⟨rfl, k3⟩)
              | (go_at_call 15; refine (hwr' _ (hpd.later k3)).mono ?_; rintro e u4 ⟨rfl, k4⟩))
          go_wp2
          go_roundw
          case rel =>
            refine ⟨k + 1, by omega, by go_num, ?_⟩
            rw [HX.out.2.2, if_pos HQ.out.1, ← HQ.out.2]; exact k4
          case measure => simp [intOf]; omega
        · have hq' : ((m : Int) != (p : Int)) = true := by simp; omega
          have hsec : ∀ W, Calls Try.prog 30 #[.int .u8 0] W fun e w' => e = .returned (.string (sec 0)) ∧ Kept W w' := fun W => sector_c 0 (by decide) W
          have hwr' := hwr (sec 0) (sec_size 0)
          obtain ⟨sb, hsb⟩ : ∃ sb, sb = sec 0 := ⟨_, rfl⟩
          rw [← hsb] at hsec hwr'
          have HQ := Lib.hid (And.intro hq hsb)
          clear hq hsb hwr
          go_wp2
          go_region_held3 (fun W => W.cell? ⟨b, off + k * 2, none⟩ = some (.int .u8 (I : Int)) ∧ W.cell? ⟨b, off + k * 2 + 1, none⟩ = some (.int .u8 (B : Int)))
            (first | assumption | (refine HX.out.1 _ ?_; exact hpd.kept.trans k3) | (refine HX.out.1 _ ?_; exact k4.kept))
            (first
              | (go_at_call 30; refine (hsec _).mono ?_; rintro e u3 ⟨rfl, k3⟩)
              | (go_at_call 15; refine (hwr' _ (hpd.later k3)).mono ?_; rintro e u4 ⟨rfl, k4⟩))
          go_wp2
          go_roundw
          case rel =>
            refine ⟨k + 1, by omega, by go_num, ?_⟩
            rw [HX.out.2.2, if_neg HQ.out.1, ← HQ.out.2]; exact k4
          case measure => simp [intOf]; omega
      · obtain rfl : k = len := by omega
        obtain ⟨⟨b0, b1, b2⟩, _⟩ := CB.out _ _ hp
        clear hlt hk
        obtain ⟨i0, hi, hz0, hz1, hz2⟩ := info_parts string_info
        go_wp2_with (first
          | (go_at_call 22; (with_reducible refine (hca ‹_›).mono ?_); rintro e u1 ⟨rfl, k1⟩)
          | (go_at_call 18; first | ((with_reducible refine (hda ‹_›).mono ?_); rintro e u2 ⟨rfl, k2⟩) | ((with_reducible refine (hdd ‹_›).mono ?_); rintro e u3 ⟨rfl, k3⟩)))
        have hst := (Own.newRow k3 9 1).front
        clear b0 b1 b2 hca hda hdd hp k1 k2 k3
        go_loopw [25, 26] (fun v i wr => ∃ j : Nat, j ≤ N ∧ i = .int .i64 j ∧ Own wB [rowA 9 1 v j (lks t j), dk FA DA ta, dk F3 D3 tx, dk F2 D2 tx, dk F1 D1 t] wr) (fun _ i _ => N - (intOf i).toNat)
        case atStart => exact ⟨0, by omega, rfl, hst⟩
        case round =>
          clear hst
          obtain ⟨j, hj, rfl, hp⟩ := hrel
          by_cases hlj : j < N
          · have hd4' := fun {A B C E : As} {L : List As} {F D : Nat} {W : World} => @hd4 A B C E L F D W j hlj
            have hd3' := fun {A B C : As} {L : List As} {F D : Nat} {W : World} => @hd3 A B C L F D W j hlj
            have hd2' := fun {A B : As} {L : List As} {F D : Nat} {W : World} => @hd2 A B L F D W j hlj
            obtain ⟨y, hy⟩ : ∃ y, y = tx.dur j := ⟨_, rfl⟩
            rw [← hy] at hd3' hd2'
            obtain ⟨x, hx⟩ : ∃ x, x = t.look j := ⟨_, rfl⟩
            rw [← hx] at hd4'
            have Hx := Lib.hid hx
            clear hd4 hd3 hd2 hr4 hc4 hy hx
            go_wp2_with (first
              | (go_at_call 18; first | ((with_reducible refine (hd4' ‹_›).mono ?_); rintro e u1 ⟨rfl, k1⟩; have K1 := Lib.hid k1; clear k1) | ((with_reducible refine (hd3' ‹_›).mono ?_); rintro e u2 ⟨rfl, k2⟩) | ((with_reducible refine (hd2' ‹_›).mono ?_); rintro e u3 ⟨rfl, k3⟩))
              | (at_builtin; refine wpList_append_own_at _ rfl _ _ 59 rfl 0 9 i0 (.string ByteArray.empty) 1 16 Try.underlying59 hi hz0 hz1 hz2 rfl (by decide) _ _ _ rfl ((Own.row K1.out 0 rfl).alloc _) ⟨u1.heap.size, 0, none⟩ 1 1 [.string x] rfl rfl (cell_one_new _ _ _) (by intro z hz; simp at hz; subst hz; rfl) (by unfold maxLen; omega) (by omega) (Nat.zero_le _) ?_; intro v' w1 hown1 hgrow hnil hloc
                 have kA : Own wB [rowA 9 1 v' (j + 1) (lks t (j + 1)), dk FA DA ta, dk F3 D3 tx, dk F2 D2 tx, dk F1 D1 t] w1 := by
                   rw [lks_succ, ← Hx.out]
                   exact Own.appended K1.out 0 rfl ((Kept.refl _).alloc _) hown1 hgrow hloc
                 clear hown1 hgrow hnil hloc))
            go_roundw
            case rel => exact ⟨j + 1, by omega, by go_num, k3⟩
            case measure => simp [intOf]; omega
          · obtain rfl : j = N := by omega
            obtain ⟨_, b0, b1, b2⟩ := CB.out _ _ hp
            obtain ⟨g, cap', hv, hcell⟩ := row_cells hp (i := 0) rfl hN1
            subst hv
            have HC := Lib.hid hcell
            clear hcell hlj hj hd3 hd2
            go_wp2_with (go_at_call 22; (with_reducible refine (hc4 ‹_›).mono ?_); rintro e u1 ⟨rfl, k1⟩)
            clear hp b0 b1 b2 hc4
            go_loopw [27] (fun i wr => ∃ q : Nat, q ≤ j ∧ i = .int .i64 q ∧ Own wB [rowA 9 1 (.slice (some ⟨g, 0, none⟩) j cap') j (lks t j), dk FA DA ta, dk F3 D3 tx, dk F2 D2 tx, dk F1 D1 t] wr) (fun i _ => j - (intOf i).toNat)
            case atStart => exact ⟨0, by omega, rfl, k1⟩
            case round =>
              clear k1
              obtain ⟨q, hq, rfl, hp⟩ := hrel
              by_cases hlq : q < j
              · have hd4' := fun {A B C E : As} {L : List As} {F D : Nat} {W : World} => @hd4 A B C E L F D W q hlq
                have hr4' := fun {A B C E : As} {L : List As} {F D : Nat} {W : World} => @hr4 A B C E L F D W q hlq
                have hcell : ∀ W, Own wB [rowA 9 1 (.slice (some ⟨g, 0, none⟩) j cap') j (lks t j), dk FA DA ta, dk F3 D3 tx, dk F2 D2 tx, dk F1 D1 t] W → W.cell? ⟨g, q, none⟩ = some (.string (t.look q)) := fun W h => HC.out W _ 0 h rfl q hlq
                obtain ⟨x, hx⟩ : ∃ x, x = t.look q := ⟨_, rfl⟩
                rw [← hx] at hd4' hr4'
                simp only [← hx] at hcell
                have HX := Lib.hid hcell
                clear hd4 hr4 hx hcell
                go_wp2_with (go_at_call 19; (with_reducible refine (hr4' ‹_›).mono ?_); rintro e u7 ⟨rfl, k7⟩)
                have c7 := HX.out _ k7
                have c7' := HX.out _ k7.drew
                have k7' := k7.drew
                go_region_held3 (fun W => W.cell? ⟨g, q, none⟩ = some (.string x)) (first | assumption | (refine HX.out _ ?_; exact k8))
                  (first | (go_at_call 18; (with_reducible refine (hd4' ‹_›).mono ?_); rintro e u8 ⟨rfl, k8⟩))
                go_wp2
                go_roundw
                case rel => exact ⟨q + 1, by omega, by go_num, k8⟩
                case measure => simp [intOf]; omega
              · have hx : ¬ (q < j) := hlq
                clear hd4 hr4
                go_wp2_with (go_at_call 9; (with_reducible refine (hkn _).mono ?_); rintro e u9 ⟨rfl, k9⟩)
                go_ret
                exact ⟨rfl, (HB.out.trans hp.kept).trans k9⟩
theorem walk (w : World) (n : Nat) (hn : n ≤ 255) (ao : Option Addr) (len cap : Nat) (X : Nat → Put) (hX : 0 < len → ∃ b off, ao = some ⟨b, off, none⟩ ∧ b < w.heap.size ∧ ∀ i, i < len → (X i).at b (off + i * 2) w)
    (hok : ∀ i, i < len → (X i).ok) (_hm : len ≤ maxLen) (c : Ch) (hc : c.ok) (c2 : Ch) (hc2 : c2.ok) (one : Nat) (hone : one ≤ 255) :
    Calls Try.prog 8 #[.int .u8 (n : Int), .slice ao len cap, .agg c.cells, .agg c2.cells, .int .u8 (one : Int)] w fun e w' => e = .returned (.bool true) ∧ Kept w w' := by
  by_cases h40 : 40 < len
  · exact long w n hn ao len cap h40 c c2 one
  · refine rounds w n hn ao len cap X (by omega) (fun i hi => ?_) hok c hc c2 hc2 one hone
    obtain ⟨b, off, e, hb, hx⟩ := hX (by omega)
    exact ⟨b, off, e, hb, hx i hi⟩

set_option maxRecDepth 100000 in
theorem lifted (os : Os) (started : os.Started) (H : Type) (enc : TypeId × Value → H) :
    ReturnsInHanded {} Try.checked os 8 .any (Rows.diskAgainSpec.pre6 enc Try.prog Try.f8 Rows.diskAgainRow.domain false) (Rows.diskAgainSpec.post enc Try.prog Try.f8 false true false false) := by
  refine returnsInHanded_of_change (C := Try.checked) own started (by kernel_rfl) Try.func8
    (ChangeSpec.witness6 (enc := enc) (C := Try.checked) false ⟨#[], #[.int .u8 0, .slice none 0 0, .agg #[.int .u64 0, .int .i64 0, .int .i64 0], .agg #[.int .u64 0, .int .i64 0, .int .i64 0], .int .u8 0], []⟩ 8 (by kernel_rfl) (by kernel_rfl) (by kernel_rfl) (by kernel_rfl)) ?_
  intro W base args ds gs before hval0 hW hcnd _
  have hval : ∀ (j : Nat) t v, Try.f8.params[j]? = some t → args[j]? = some v → Value.okWide Try.prog W .any base t v := hval0
  have hW' := hW
  obtain ⟨p, q, hA0, hV, rfl, hfz, hnd⟩ := hW
  have hA : DataW.TrodAll enc Try.prog W 0 (fun _ => true) true Try.f8.params.toList args.toList ds p := hA0
  rw [Try.params8] at hA hval
  obtain ⟨v0, vs0, d0, ds0, p0, q0, hargs0, rfl, rfl, h0, r0⟩ := trodAll_cons hA
  obtain ⟨v1, vs1, d1, ds1, p1, q1, hargs1, rfl, rfl, h1, r1⟩ := trodAll_cons r0
  obtain ⟨v2, vs2, d2, ds2, p2, q2, hargs2, rfl, rfl, h2, r2⟩ := trodAll_cons r1
  obtain ⟨v3, vs3, d3, ds3, p3, q3, hargs3, rfl, rfl, h3, r3⟩ := trodAll_cons r2
  obtain ⟨v4, vs4, d4, ds4, p4, q4, hargs4, rfl, rfl, h4, r4⟩ := trodAll_cons r3
  obtain ⟨rfl, rfl, rfl⟩ := trodAll_nil r4
  obtain rfl : args = #[v0, v1, v2, v3, v4] := by cases args; simp_all
  obtain ⟨rfl, rfl⟩ := trodVars_none hV
  obtain ⟨n0, b0, e0⟩ := open_u8 (hval 0 5 v0 rfl rfl) h0
  obtain ⟨ao1, len1, cap1, X1, e1, c1, o1, m1⟩ := open_puts (hval 1 58 v1 rfl rfl) h1
  obtain ⟨n2, b2, e2⟩ := open_choice choice_struct (hval 2 29 v2 rfl rfl) h2
  obtain ⟨n3, b3, e3⟩ := open_choice choice_struct (hval 3 29 v3 rfl rfl) h3
  obtain ⟨n4, b4, e4⟩ := open_u8 (hval 4 5 v4 rfl rfl) h4
  clear hA0 hval0
  simp only [List.append_nil] at hW'
  have hlt0 : ∀ x ∈ p0, x.block < W.heap.size := fun x hx => hW'.lt x (by simp [hx])
  have hlt1 : ∀ x ∈ p1, x.block < W.heap.size := fun x hx => hW'.lt x (by simp [hx])
  have hlt2 : ∀ x ∈ p2, x.block < W.heap.size := fun x hx => hW'.lt x (by simp [hx])
  have hlt3 : ∀ x ∈ p3, x.block < W.heap.size := fun x hx => hW'.lt x (by simp [hx])
  have hlt4 : ∀ x ∈ p4, x.block < W.heap.size := fun x hx => hW'.lt x (by simp [hx])
  have hwalk := walk W n0 b0 ao1 len1 cap1 X1 c1 o1 m1 n2 b2 n3 b3 n4 b4
  rw [← e0, ← e1, ← e2, ← e3, ← e4] at hwalk
  refine hwalk.mono fun e W' ⟨he, hg⟩ => ?_
  subst he
  exact ⟨_, rfl, _, _, _, [], _, [], hW', (trodAll_cons_mk (shut_bool Try.underlying4 _) trodAll_mk0), (trodAll_cons_mk (Below.trod laidOut (by kernel_rfl) (of_decide_eq_true (by kernel_rfl)) h0 hg hlt0) (trodAll_cons_mk (Below.trod laidOut (by kernel_rfl) (of_decide_eq_true (by kernel_rfl)) h1 hg hlt1) (trodAll_cons_mk (Below.trod laidOut (by kernel_rfl) (of_decide_eq_true (by kernel_rfl)) h2 hg hlt2) (trodAll_cons_mk (Below.trod laidOut (by kernel_rfl) (of_decide_eq_true (by kernel_rfl)) h3 hg hlt3) (trodAll_cons_mk (Below.trod laidOut (by kernel_rfl) (of_decide_eq_true (by kernel_rfl)) h4 hg hlt4) trodAll_mk0))))), rfl, Below.frame hg _, fun h => by cases h⟩

theorem over : Rows.diskAgainRow.holds Try.pinned (OpenSpec.ofChange Rows.diskAgainSpec) :=
  OpenClaim.holds_of_wide 8 Try.f8 rfl rfl rfl rfl rfl rfl rfl ⟨rfl, rfl, rfl, rfl, rfl⟩ rfl rfl rfl rfl rfl (by kernel_rfl) Try.func8 (by kernel_rfl)
    (of_decide_eq_true (by kernel_rfl)) (by unfold Func.isWrapper; first | (rw [if_pos (by decide +kernel)]; kernel_rfl) | (rw [if_neg (by decide +kernel)]; exact ⟨rfl, rfl⟩))
    (fun os started H enc _ => lifted os started H enc)

/-- ████ THE STATEMENT ████ -/
theorem proved : Rows.DiskAgainSaid :=
  over
#print axioms proved
end Go.Proofs.Ytoclgneokfbobaa.diskAgain
