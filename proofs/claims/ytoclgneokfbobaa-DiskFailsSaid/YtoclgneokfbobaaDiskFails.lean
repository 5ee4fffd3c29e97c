/-
  PROVED: the statement 'DiskFailsSaid': for every input the law DiskFails returns true, and each argument reads afterwards as it read before. No condition.
-/
import Derived.Test.YtoclgneokfbobaaDm
import Derived.Test.YtoclgneokfbobaaDh
import Derived.Test.YtoclgneokfbobaaRows
import Derived.WalkKit
import Derived.Deep.RegionHeld3
import Derived.BigQuiet
import Derived.ProofKit
import Derived.OpenShut
import Derived.ShutString
namespace Go.Proofs.Ytoclgneokfbobaa.diskFails
open Go.ChangeShapes Go.WideShapes Go.ChangeAt Go.RowKit
open Go.Proofs.Ytoclgneokfbobaa.Mem Go.Proofs.Ytoclgneokfbobaa.Fz Go.Proofs.Ytoclgneokfbobaa.Dz
set_option linter.unusedVariables false

theorem own : ownKnob Try.prog.godebug = none := by kernel_rfl
theorem laidOut : laidOutB Try.prog = true := by kernel_rfl

set_option maxHeartbeats 4000000 in
set_option maxRecDepth 100000 in
theorem early (w : World) (n : Nat) (hn : n ≤ 255) (ao : Option Addr) (len cap : Nat) (i : Int) (s : ByteArray) (N : Nat) (hN : (n : Int) % 12 + 1 = (N : Int))
    (h : 40 < len ∨ (len ≤ 40 ∧ 0 ≤ i ∧ i < N) ∨ (len ≤ 40 ∧ i < 0 ∧ s.size = 80) ∨ (len ≤ 40 ∧ 0 ≤ i ∧ N ≤ i ∧ s.size = 80) ∨ (len ≤ 40 ∧ i < 0 ∧ s.size ≠ 80 ∧ 1000 < s.size) ∨ (len ≤ 40 ∧ 0 ≤ i ∧ N ≤ i ∧ s.size ≠ 80 ∧ 1000 < s.size)) :
    Calls Try.prog 7 #[.int .u8 (n : Int), .slice ao len cap, .int .i64 i, .string s] w fun e w' => e = .returned (.bool true) ∧ Kept w w' := by
  have hkn : ∀ W, Calls Try.prog 9 #[] W fun e w' => e = .returned (.bool true) ∧ Kept W w' := known_c
  rcases h with h | ⟨h1, h2, h3⟩ | ⟨h1, h2, h3⟩ | ⟨h1, h2, h3, h4⟩ | ⟨h1, h2, h3, h4⟩ | ⟨h1, h2, h3, h4, h5⟩
  · have a1 : decide (40 < (len : Int)) = true := by simp; omega
    clear h
    go_enter Try.func7, Try.ntmps7
    go_wp2_with (go_at_call 9; refine (hkn _).mono ?_; rintro e u ⟨rfl, hk⟩)
    go_ret
    exact ⟨rfl, hk⟩
  · have a1 : decide (40 < (len : Int)) = false := by simp; omega
    have a2 : decide (i ≥ 0) = true := by simpa using h2
    have a3 : decide (i < (N : Int)) = true := by simpa using h3
    clear h1 h2 h3
    go_enter Try.func7, Try.ntmps7
    go_wp2_with (go_at_call 9; refine (hkn _).mono ?_; rintro e u ⟨rfl, hk⟩)
    go_ret
    exact ⟨rfl, hk⟩
  · have a1 : decide (40 < (len : Int)) = false := by simp; omega
    have a2 : decide (i ≥ 0) = false := by simp; omega
    have a4 : ((s.size : Int) == 80) = true := by simp; omega
    clear h1 h2 h3
    go_enter Try.func7, Try.ntmps7
    go_wp2_with (go_at_call 9; refine (hkn _).mono ?_; rintro e u ⟨rfl, hk⟩)
    go_ret
    exact ⟨rfl, hk⟩
  · have a1 : decide (40 < (len : Int)) = false := by simp; omega
    have a2 : decide (i ≥ 0) = true := by simpa using h2
    have a3 : decide (i < (N : Int)) = false := by simp; omega
    have a4 : ((s.size : Int) == 80) = true := by simp; omega
    clear h1 h2 h3 h4
    go_enter Try.func7, Try.ntmps7
    go_wp2_with (go_at_call 9; refine (hkn _).mono ?_; rintro e u ⟨rfl, hk⟩)
    go_ret
    exact ⟨rfl, hk⟩
  · have a1 : decide (40 < (len : Int)) = false := by simp; omega
    have a2 : decide (i ≥ 0) = false := by simp; omega
    have a4 : ((s.size : Int) == 80) = false := by simp; omega
    have a5 : decide (1000 < (s.size : Int)) = true := by simp; omega
    clear h1 h2 h3 h4
    go_enter Try.func7, Try.ntmps7
    go_wp2_with (go_at_call 9; refine (hkn _).mono ?_; rintro e u ⟨rfl, hk⟩)
    go_ret
    exact ⟨rfl, hk⟩
  · have a1 : decide (40 < (len : Int)) = false := by simp; omega
    have a2 : decide (i ≥ 0) = true := by simpa using h2
    have a3 : decide (i < (N : Int)) = false := by simp; omega
    have a4 : ((s.size : Int) == 80) = false := by simp; omega
    have a5 : decide (1000 < (s.size : Int)) = true := by simp; omega
    clear h1 h2 h3 h4 h5
    go_enter Try.func7, Try.ntmps7
    go_wp2_with (go_at_call 9; refine (hkn _).mono ?_; rintro e u ⟨rfl, hk⟩)
    go_ret
    exact ⟨rfl, hk⟩
theorem row_cells {w0 w : World} {L : List As} {i : Nat} {v : Value} {n : Nat} {s : Ds} (h : Own w0 L w) (hi : L[i]? = some (rowA 9 1 v n (lks s n))) (hn : 1 ≤ n) : ∃ g cap, v = .slice (some ⟨g, 0, none⟩) n cap ∧ ∀ (W : World) (M : List As) (j : Nat), Own w0 M W → M[j]? = some (rowA 9 1 v n (lks s n)) → ∀ k, k < n → W.cell? ⟨g, k, none⟩ = some (.string (s.look k)) := by
  obtain ⟨g, cap, rfl⟩ := row_pos (Own.row h i hi) hn
  refine ⟨g, cap, rfl, fun W M j hW hj k hk => ?_⟩
  have q := (Own.row hW _ hj).cells (g := g) rfl k (.string (s.look k)) (by simp [lks, hk])
  simpa only [add_plain, Nat.zero_add] using q
set_option maxHeartbeats 4000000 in
set_option maxRecDepth 100000 in
theorem rounds (w : World) (n : Nat) (hn : n ≤ 255) (ao : Option Addr) (len cap : Nat) (X : Nat → Put) (h40 : len ≤ 40)
    (hX : ∀ i, i < len → ∃ b off, ao = some ⟨b, off, none⟩ ∧ b < w.heap.size ∧ (X i).at b (off + i * 2) w) (hok : ∀ i, i < len → (X i).ok) (i : Int) (sx : ByteArray) (N : Nat) (hN : (n : Int) % 12 + 1 = (N : Int)) (hN1 : 1 ≤ N) (hN2 : N ≤ 12)
    (hout : i < 0 ∨ (0 ≤ i ∧ N ≤ i)) (hs80 : sx.size ≠ 80) (hs1000 : sx.size ≤ 1000) :
    Calls Try.prog 7 #[.int .u8 (n : Int), .slice ao len cap, .int .i64 i, .string sx] w fun e w' => e = .returned (.bool true) ∧ Kept w w' := by
  have a1 : decide (40 < (len : Int)) = false := by simp; omega
  have a4 : ((sx.size : Int) == 80) = false := by simp; omega
  have a5 : decide (1000 < (sx.size : Int)) = false := by simp; omega
  obtain ⟨P, hP, hP2⟩ : ∃ P : Nat, (len : Int) / 2 = (P : Int) ∧ P ≤ 40 := ⟨len / 2, by omega, by omega⟩
  obtain ⟨s, hs⟩ : ∃ s, s = fillTo N X P len := ⟨_, rfl⟩
  have hfull : Full N len s := by rw [hs]; exact full_to hN1 (by omega) len
  have hsi : s.out i = true := by unfold Ds.out; rw [hfull.n]; rcases hout with h | h <;> simp <;> omega
  have hfill : Calls Try.prog 29 #[.int .i64 (N : Int), .slice ao len cap, .int .i64 (P : Int)] w fun e w' => ∃ F D v, e = .returned (.tuple #[.pointer (some ⟨D, 0, none⟩), v]) ∧ Own w [rowA 9 1 v N (lks s N), dk F D s] w' := by
    have q := filled_c (Own.nil w) N hN1 (by omega) ao len cap (by omega) X hX hok P (by omega)
    rw [← hs] at q
    exact q
  have hsec : ∀ W, Calls Try.prog 30 #[.int .u8 1] W fun e w' => e = .returned (.string (sec 1)) ∧ Kept W w' := fun W => sector_c 1 (by decide) W
  have hroom : s.pend.length < 4294967296 := Nat.lt_of_le_of_lt hfull.len (by omega)
  have hw1 : ∀ {A : As} {F D : Nat} {W : World}, Own w [A, dk F D s] W → Calls Try.prog 15 #[.pointer (some ⟨D, 0, none⟩), .int .i64 i, .string (sec 1)] W fun e w' => e = .returned (.int .i64 3) ∧ Own w [A, dk F D s] w' := fun h => by
    have q := o_write h 1 rfl hroom i (sec 1)
    have e : s.writes i (sec 1) = (3, s) := by simp [Ds.writes, hsi]
    rw [e] at q
    exact q
  have hw2 : ∀ {A : As} {F D : Nat} {W : World}, Own w [A, dk F D s] W → Calls Try.prog 15 #[.pointer (some ⟨D, 0, none⟩), .int .i64 0, .string sx] W fun e w' => e = .returned (.int .i64 2) ∧ Own w [A, dk F D s] w' := fun h => by
    have q := o_write h 1 rfl hroom 0 sx
    have e0 : s.out 0 = false := Ds.out_in (i := 0) (by rw [hfull.n]; omega)
    have e : s.writes 0 sx = (2, s) := by simp [Ds.writes, e0, hs80]
    rw [e] at q
    exact q
  have hdu : ∀ {A : As} {F D : Nat} {W : World}, Own w [A, dk F D s] W → Calls Try.prog 18 #[.pointer (some ⟨D, 0, none⟩), .int .i64 i] W fun e w' => e = .returned (.string ⟨#[]⟩) ∧ Own w [A, dk F D s] w' := fun h => by
    have q := o_durable h 1 rfl i
    have e : s.durs i = ⟨#[]⟩ := by simp [Ds.durs, hsi]; rfl
    rw [e] at q
    exact q
  have hrx : ∀ {A : As} {F D : Nat} {W : World}, Own w [A, dk F D s] W → Calls Try.prog 19 #[.pointer (some ⟨D, 0, none⟩), .int .i64 i] W fun e w' => e = .returned (.tuple #[.string ByteArray.empty, .int .i64 3]) ∧ Own w [A, dk F D s] w' := fun h => by
    have q := o_read h 1 rfl i
    have e : s.reads i = (ByteArray.empty, 3) := by simp [Ds.reads, hsi]
    rw [e] at q
    exact q
  have hr1 : ∀ {A : As} {F D : Nat} {W : World} (k : Nat), k < N → Own w [A, dk F D s] W → Calls Try.prog 19 #[.pointer (some ⟨D, 0, none⟩), .int .i64 (k : Int)] W fun e w' => e = .returned (.tuple #[.string (s.look k), .int .i64 0]) ∧ Own w [A, dk F D s] w' := fun k hk h => o_r1 h hfull.idle (by rw [hfull.n]; exact hk)
  obtain ⟨p, hp⟩ : ∃ p, p = s.pend.length := ⟨_, rfl⟩
  have hpe : ∀ {A : As} {F D : Nat} {W : World}, Own w [A, dk F D s] W → Calls Try.prog 17 #[.pointer (some ⟨D, 0, none⟩)] W fun e w' => ∃ ao cap, e = .returned (.slice ao p cap) ∧ Own w [A, dk F D s] w' := fun h => (o_pending h 1 rfl hroom).mono fun e w' ⟨⟨ao, cap, he, _⟩, hk⟩ => ⟨ao, cap, by rw [hp]; exact he, hk⟩
  have hkn : ∀ W, Calls Try.prog 9 #[] W fun e w' => e = .returned (.bool true) ∧ Kept W w' := known_c
  obtain ⟨s1, hs1⟩ : ∃ x, x = sec 1 := ⟨_, rfl⟩
  rw [← hs1] at hsec hw1
  have a23 : decide (i ≥ 0) = false ∨ (decide (i ≥ 0) = true ∧ decide (i < (N : Int)) = false) := by
    rcases hout with h | h
    · left; simp; omega
    · right; exact ⟨by simpa using h.1, by simp; omega⟩
  clear hX hok hs hs1 hfull hsi hroom hp hout hs80 hs1000
  rcases a23 with a2 | ⟨a2, a3⟩
  all_goals
    go_enter Try.func7, Try.ntmps7
    go_wp2_with (first
      | (go_at_call 29; (with_reducible refine hfill.mono ?_); rintro e u1 ⟨F, D, v, rfl, k1⟩; obtain ⟨g, cap', hv, hcell⟩ := row_cells k1 (i := 0) rfl hN1; rw [hv] at k1 hcell ⊢; have HC := Lib.hid hcell; clear hv hcell)
      | (go_at_call 17; (with_reducible refine (hpe ‹_›).mono ?_); rintro e u2 ⟨a2', c2', rfl, k2⟩)
      | (go_at_call 30; (with_reducible refine (hsec _).mono ?_); rintro e u3 ⟨rfl, k3⟩; have k3' := Own.later ‹_› k3; clear k3)
      | (go_at_call 15; first | ((with_reducible refine (hw1 ‹_›).mono ?_); rintro e u4 ⟨rfl, k4⟩) | ((with_reducible refine (hw2 ‹_›).mono ?_); rintro e u5 ⟨rfl, k5⟩))
      | (go_at_call 18; (with_reducible refine (hdu ‹_›).mono ?_); rintro e u6 ⟨rfl, k6⟩)
      | (go_at_call 19; (with_reducible refine (hrx ‹_›).mono ?_); rintro e u7 ⟨rfl, k7⟩))
    go_loopw [15] (fun i wr => ∃ k : Nat, k ≤ N ∧ i = .int .i64 k ∧ Own w [rowA 9 1 (.slice (some ⟨g, 0, none⟩) N cap') N (lks s N), dk F D s] wr) (fun i _ => N - (intOf i).toNat)
    case atStart => exact ⟨0, by omega, rfl, k7⟩
    case round =>
      clear k1 k2 k3' k4 k5 k6 k7
      obtain ⟨k, hk, rfl, hp⟩ := hrel
      by_cases hlt : k < N
      · have hr1k := fun {A : As} {F D : Nat} {W : World} => @hr1 A F D W k hlt
        have hcell : ∀ W, Own w [rowA 9 1 (.slice (some ⟨g, 0, none⟩) N cap') N (lks s N), dk F D s] W → W.cell? ⟨g, k, none⟩ = some (.string (s.look k)) := fun W h => HC.out W _ 0 h rfl k hlt
        obtain ⟨x, hx⟩ : ∃ x, x = s.look k := ⟨_, rfl⟩
        rw [← hx] at hr1k
        simp only [← hx] at hcell
        have HX := Lib.hid hcell
        clear hr1 hfill hsec hw1 hw2 hdu hrx hx hcell
        go_wp2_with (go_at_call 19; (with_reducible refine (hr1k ‹_›).mono ?_); rintro e u8 ⟨rfl, k8⟩; have c8 := HX.out _ k8)
        go_roundw
        case rel => exact ⟨k + 1, by omega, by go_num, k8⟩
        case measure => simp [intOf]; omega
      · have hx : ¬ (k < N) := hlt
        clear hr1 hfill hsec hw1 hw2 hdu hrx
        go_wp2_with (first
          | (go_at_call 17; (with_reducible refine (hpe ‹_›).mono ?_); rintro e u9 ⟨a9, c9, rfl, k9⟩)
          | (go_at_call 9; (with_reducible refine (hkn _).mono ?_); rintro e u10 ⟨rfl, k10⟩))
        go_ret
        exact ⟨rfl, k9.kept.trans k10⟩
theorem walk (w : World) (n : Nat) (hn : n ≤ 255) (ao : Option Addr) (len cap : Nat) (X : Nat → Put) (hX : 0 < len → ∃ b off, ao = some ⟨b, off, none⟩ ∧ b < w.heap.size ∧ ∀ i, i < len → (X i).at b (off + i * 2) w)
    (hok : ∀ i, i < len → (X i).ok) (_hm : len ≤ maxLen) (i : Int) (_hi : -9223372036854775808 ≤ i ∧ i ≤ 9223372036854775807) (s : ByteArray) (_hs : s.size ≤ maxLen) :
    Calls Try.prog 7 #[.int .u8 (n : Int), .slice ao len cap, .int .i64 i, .string s] w fun e w' => e = .returned (.bool true) ∧ Kept w w' := by
  obtain ⟨N, hN, hN1, hN2⟩ : ∃ N : Nat, (n : Int) % 12 + 1 = (N : Int) ∧ 1 ≤ N ∧ N ≤ 12 := ⟨n % 12 + 1, by omega, by omega, by omega⟩
  by_cases h : 40 < len ∨ (len ≤ 40 ∧ 0 ≤ i ∧ i < N) ∨ (len ≤ 40 ∧ i < 0 ∧ s.size = 80) ∨ (len ≤ 40 ∧ 0 ≤ i ∧ N ≤ i ∧ s.size = 80) ∨ (len ≤ 40 ∧ i < 0 ∧ s.size ≠ 80 ∧ 1000 < s.size) ∨ (len ≤ 40 ∧ 0 ≤ i ∧ N ≤ i ∧ s.size ≠ 80 ∧ 1000 < s.size)
  · exact early w n hn ao len cap i s N hN h
  · refine rounds w n hn ao len cap X (by omega) (fun i hi => ?_) hok i s N hN hN1 hN2 (by omega) (by omega) (by omega)
    obtain ⟨b, off, e, hb, hx⟩ := hX (by omega)
    exact ⟨b, off, e, hb, hx i hi⟩

set_option maxRecDepth 100000 in
theorem lifted (os : Os) (started : os.Started) (H : Type) (enc : TypeId × Value → H) :
    ReturnsInHanded {} Try.checked os 7 .any (Rows.diskFailsSpec.pre6 enc Try.prog Try.f7 Rows.diskFailsRow.domain false) (Rows.diskFailsSpec.post enc Try.prog Try.f7 false true false false) := by
  refine returnsInHanded_of_change (C := Try.checked) own started (by kernel_rfl) Try.func7
    (ChangeSpec.witness6 (enc := enc) (C := Try.checked) false ⟨#[], #[.int .u8 0, .slice none 0 0, .int .i64 0, .string ByteArray.empty], []⟩ 8 (by kernel_rfl) (by kernel_rfl) (by kernel_rfl) (by kernel_rfl)) ?_
  intro W base args ds gs before hval0 hW hcnd _
  have hval : ∀ (j : Nat) t v, Try.f7.params[j]? = some t → args[j]? = some v → Value.okWide Try.prog W .any base t v := hval0
  have hW' := hW
  obtain ⟨p, q, hA0, hV, rfl, hfz, hnd⟩ := hW
  have hA : DataW.TrodAll enc Try.prog W 0 (fun _ => true) true Try.f7.params.toList args.toList ds p := hA0
  rw [Try.params7] at hA hval
  obtain ⟨v0, vs0, d0, ds0, p0, q0, hargs0, rfl, rfl, h0, r0⟩ := trodAll_cons hA
  obtain ⟨v1, vs1, d1, ds1, p1, q1, hargs1, rfl, rfl, h1, r1⟩ := trodAll_cons r0
  obtain ⟨v2, vs2, d2, ds2, p2, q2, hargs2, rfl, rfl, h2, r2⟩ := trodAll_cons r1
  obtain ⟨v3, vs3, d3, ds3, p3, q3, hargs3, rfl, rfl, h3, r3⟩ := trodAll_cons r2
  obtain ⟨rfl, rfl, rfl⟩ := trodAll_nil r3
  obtain rfl : args = #[v0, v1, v2, v3] := by cases args; simp_all
  obtain ⟨rfl, rfl⟩ := trodVars_none hV
  obtain ⟨n0, b0, e0⟩ := open_u8 (hval 0 5 v0 rfl rfl) h0
  obtain ⟨ao1, len1, cap1, X1, e1, c1, o1, m1⟩ := open_puts (hval 1 58 v1 rfl rfl) h1
  obtain ⟨n2, b2, e2⟩ := open_i64 (hval 2 3 v2 rfl rfl) h2
  obtain ⟨n3, b3, e3⟩ := open_str (hval 3 9 v3 rfl rfl) h3
  clear hA0 hval0
  simp only [List.append_nil] at hW'
  have hlt0 : ∀ x ∈ p0, x.block < W.heap.size := fun x hx => hW'.lt x (by simp [hx])
  have hlt1 : ∀ x ∈ p1, x.block < W.heap.size := fun x hx => hW'.lt x (by simp [hx])
  have hlt2 : ∀ x ∈ p2, x.block < W.heap.size := fun x hx => hW'.lt x (by simp [hx])
  have hlt3 : ∀ x ∈ p3, x.block < W.heap.size := fun x hx => hW'.lt x (by simp [hx])
  have hwalk := walk W n0 b0 ao1 len1 cap1 X1 c1 o1 m1 n2 b2 n3 b3
  rw [← e0, ← e1, ← e2, ← e3] at hwalk
  refine hwalk.mono fun e W' ⟨he, hg⟩ => ?_
  subst he
  exact ⟨_, rfl, _, _, _, [], _, [], hW', (trodAll_cons_mk (shut_bool Try.underlying4 _) trodAll_mk0), (trodAll_cons_mk (Below.trod laidOut (by kernel_rfl) (of_decide_eq_true (by kernel_rfl)) h0 hg hlt0) (trodAll_cons_mk (Below.trod laidOut (by kernel_rfl) (of_decide_eq_true (by kernel_rfl)) h1 hg hlt1) (trodAll_cons_mk (Below.trod laidOut (by kernel_rfl) (of_decide_eq_true (by kernel_rfl)) h2 hg hlt2) (trodAll_cons_mk (Below.trod laidOut (by kernel_rfl) (of_decide_eq_true (by kernel_rfl)) h3 hg hlt3) trodAll_mk0)))), rfl, Below.frame hg _, fun h => by cases h⟩

theorem over : Rows.diskFailsRow.holds Try.pinned (OpenSpec.ofChange Rows.diskFailsSpec) :=
  OpenClaim.holds_of_wide 7 Try.f7 rfl rfl rfl rfl rfl rfl rfl ⟨rfl, rfl, rfl, rfl, rfl⟩ rfl rfl rfl rfl rfl (by kernel_rfl) Try.func7 (by kernel_rfl)
    (of_decide_eq_true (by kernel_rfl)) (by unfold Func.isWrapper; first | (rw [if_pos (by decide +kernel)]; kernel_rfl) | (rw [if_neg (by decide +kernel)]; exact ⟨rfl, rfl⟩))
    (fun os started H enc _ => lifted os started H enc)

/-- ████ THE STATEMENT ████ -/
theorem proved : Rows.DiskFailsSaid :=
  over
#print axioms proved
end Go.Proofs.Ytoclgneokfbobaa.diskFails
