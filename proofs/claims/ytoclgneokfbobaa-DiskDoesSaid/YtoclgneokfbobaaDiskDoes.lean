/-
  PROVED: the statement 'DiskDoesSaid': for every input the law DiskDoes returns true, and each argument reads afterwards as it read before. No condition.
-/
import Derived.Test.YtoclgneokfbobaaRv
import Derived.Test.YtoclgneokfbobaaDe
import Derived.Test.YtoclgneokfbobaaRows
import Derived.WalkKit
import Derived.Deep.RegionHeld3
import Derived.BigQuiet
import Derived.ProofKit
import Derived.OpenShut
import Derived.ShutString
namespace Go.Proofs.Ytoclgneokfbobaa.diskDoes
open Go.ChangeShapes Go.WideShapes Go.ChangeAt Go.RowKit
open Go.Proofs.Ytoclgneokfbobaa.Mem Go.Proofs.Ytoclgneokfbobaa.Fz Go.Proofs.Ytoclgneokfbobaa.Dz
set_option linter.unusedVariables false

theorem own : ownKnob Try.prog.godebug = none := by kernel_rfl
theorem laidOut : laidOutB Try.prog = true := by kernel_rfl

set_option maxHeartbeats 1000000 in
set_option maxRecDepth 100000 in
theorem long (w : World) (n : Nat) (hn : n ≤ 255) (ao : Option Addr) (len cap : Nat) (h : 120 < len) :
    Calls Try.prog 3 #[.int .u8 (n : Int), .slice ao len cap] w fun e w' => e = .returned (.bool true) ∧ Kept w w' := by
  have h1 : decide (120 < (len : Int)) = true := by simp; omega
  clear h
  go_enter Try.func3, Try.ntmps3
  go_wp2_with (go_at_call 9; refine (known_c _).mono ?_; rintro e u ⟨rfl, hk⟩)
  go_ret
  exact ⟨rfl, hk⟩
set_option maxHeartbeats 3000000 in
set_option maxRecDepth 100000 in
theorem rounds (w : World) (n : Nat) (hn : n ≤ 255) (ao : Option Addr) (len cap : Nat) (Y : Nat → Deed) (h120 : len ≤ 120)
    (hY : ∀ i, i < len → ∃ b off, ao = some ⟨b, off, none⟩ ∧ b < w.heap.size ∧ (Y i).at b (off + i * 6) w) (hok : ∀ i, i < len → (Y i).ok) :
    Calls Try.prog 3 #[.int .u8 (n : Int), .slice ao len cap] w fun e w' => e = .returned (.bool true) ∧ Kept w w' := by
  have h1 : decide (120 < (len : Int)) = false := by simp; omega
  obtain ⟨N, hN, hN1, hN2⟩ : ∃ N : Nat, (n : Int) % 12 + 1 = (N : Int) ∧ 1 ≤ N ∧ N ≤ 12 := ⟨n % 12 + 1, by omega, by omega, by omega⟩
  have hnew : Calls Try.prog 10 #[.int .i64 (N : Int)] w fun e w' => ∃ X F D G R, e = .returned (.pointer (some ⟨X, 0, none⟩)) ∧ Own w (pair X F D G R (fresh N .idle) []) w' := bnew_c (Own.nil w) N hN1 (by omega)
  have hkn : ∀ W, Calls Try.prog 9 #[] W fun e w' => e = .returned (.bool true) ∧ Kept W w' := known_c
  have HX := Lib.hid (And.intro hY (And.intro hok h120))
  clear hY hok h120 hN1 hN2
  go_enter Try.func3, Try.ntmps3
  go_wp2_with (go_at_call 10; (with_reducible refine hnew.mono ?_); rintro e u1 ⟨X, F, D, G, R, rfl, k1⟩)
  go_loopw [6] (fun i wr => ∃ k : Nat, k ≤ len ∧ i = .int .i64 k ∧ ∃ F D s L, Own w (pair X F D G R s L) wr ∧ s.pend.length ≤ k) (fun i _ => len - (intOf i).toNat)
  case atStart => exact ⟨0, by omega, rfl, F, D, _, _, k1, by simp [fresh]⟩
  case round =>
    clear k1 hnew
    obtain ⟨k, hk, rfl, F, D, s, L, hp, hl⟩ := hrel
    have h120 := HX.out.2.2
    by_cases hlt : k < len
    · obtain ⟨b, off, rfl, hb, hat⟩ := HX.out.1 k hlt
      have hok := HX.out.2.1 k hlt
      obtain ⟨x, hx⟩ : ∃ x, x = Y k := ⟨_, rfl⟩
      rw [← hx] at hat hok
      obtain ⟨d, i, sb, c⟩ := x
      obtain ⟨c0, c1, c2, c3, c4, c5⟩ := hat.kept hp.kept hb
      have hact := act_c hp (by omega) d hok.hd i (by have := hok.hi; simp only at this; omega) sb hok.hb c hok.hc
      unfold actCells at hact
      dsimp only at c0 c1 c2 c3 c4 c5
      have hlk : s.pend.length + 1 ≤ k + 1 := by omega
      have HH := Lib.hid (And.intro hlk h120)
      clear hx hat hok hb hp hl hlk hk
      go_wp2_with (first
        | (go_at_call 11; (with_reducible refine hact.mono ?_); rintro e v1 ⟨rfl, F', D', s', L', k2, hl⟩; have hl2 := Nat.le_trans hl HH.out.1; have Hl := Lib.hid hl2; clear hl hl2; have hsame := bsame_c k2 (by have := Hl.out; have := HH.out.2; omega))
        | (go_at_call 12; (with_reducible refine hsame.mono ?_); rintro e v2 ⟨rfl, k3⟩))
      go_roundw
      case rel => exact ⟨k + 1, by omega, by go_num, F', D', s', L', k3, Hl.out⟩
      case measure => simp [intOf]; omega
    · have hsame := bsame_c hp (by omega)
      clear hp hl
      go_wp2_with (first
        | (go_at_call 12; (with_reducible refine hsame.mono ?_); rintro e v1 ⟨rfl, k2⟩)
        | (go_at_call 9; (with_reducible refine (hkn _).mono ?_); rintro e v2 ⟨rfl, q⟩))
      go_ret
      exact ⟨by simp, k2.kept.trans q⟩
theorem walk (w : World) (n : Nat) (hn : n ≤ 255) (ao : Option Addr) (len cap : Nat) (X : Nat → Deed) (hX : 0 < len → ∃ b off, ao = some ⟨b, off, none⟩ ∧ b < w.heap.size ∧ ∀ i, i < len → (X i).at b (off + i * 6) w)
    (hok : ∀ i, i < len → (X i).ok) (_hm : len ≤ maxLen) :
    Calls Try.prog 3 #[.int .u8 (n : Int), .slice ao len cap] w fun e w' => e = .returned (.bool true) ∧ Kept w w' := by
  by_cases h120 : 120 < len
  · exact long w n hn ao len cap h120
  · refine rounds w n hn ao len cap X (by omega) (fun i hi => ?_) hok
    obtain ⟨b, off, e, hb, hx⟩ := hX (by omega)
    exact ⟨b, off, e, hb, hx i hi⟩

set_option maxRecDepth 100000 in
theorem lifted (os : Os) (started : os.Started) (H : Type) (enc : TypeId × Value → H) :
    ReturnsInHanded {} Try.checked os 3 .any (Rows.diskDoesSpec.pre6 enc Try.prog Try.f3 Rows.diskDoesRow.domain false) (Rows.diskDoesSpec.post enc Try.prog Try.f3 false true false false) := by
  refine returnsInHanded_of_change (C := Try.checked) own started (by kernel_rfl) Try.func3
    (ChangeSpec.witness6 (enc := enc) (C := Try.checked) false ⟨#[], #[.int .u8 0, .slice none 0 0], []⟩ 8 (by kernel_rfl) (by kernel_rfl) (by kernel_rfl) (by kernel_rfl)) ?_
  intro W base args ds gs before hval0 hW hcnd _
  have hval : ∀ (j : Nat) t v, Try.f3.params[j]? = some t → args[j]? = some v → Value.okWide Try.prog W .any base t v := hval0
  have hW' := hW
  obtain ⟨p, q, hA0, hV, rfl, hfz, hnd⟩ := hW
  have hA : DataW.TrodAll enc Try.prog W 0 (fun _ => true) true Try.f3.params.toList args.toList ds p := hA0
  rw [Try.params3] at hA hval
  obtain ⟨v0, vs0, d0, ds0, p0, q0, hargs0, rfl, rfl, h0, r0⟩ := trodAll_cons hA
  obtain ⟨v1, vs1, d1, ds1, p1, q1, hargs1, rfl, rfl, h1, r1⟩ := trodAll_cons r0
  obtain ⟨rfl, rfl, rfl⟩ := trodAll_nil r1
  obtain rfl : args = #[v0, v1] := by cases args; simp_all
  obtain ⟨rfl, rfl⟩ := trodVars_none hV
  obtain ⟨n0, b0, e0⟩ := open_u8 (hval 0 5 v0 rfl rfl) h0
  obtain ⟨ao1, len1, cap1, X1, e1, c1, o1, m1⟩ := open_deeds (hval 1 22 v1 rfl rfl) h1
  clear hA0 hval0
  simp only [List.append_nil] at hW'
  have hlt0 : ∀ x ∈ p0, x.block < W.heap.size := fun x hx => hW'.lt x (by simp [hx])
  have hlt1 : ∀ x ∈ p1, x.block < W.heap.size := fun x hx => hW'.lt x (by simp [hx])
  have hwalk := walk W n0 b0 ao1 len1 cap1 X1 c1 o1 m1
  rw [← e0, ← e1] at hwalk
  refine hwalk.mono fun e W' ⟨he, hg⟩ => ?_
  subst he
  exact ⟨_, rfl, _, _, _, [], _, [], hW', (trodAll_cons_mk (shut_bool Try.underlying4 _) trodAll_mk0), (trodAll_cons_mk (Below.trod laidOut (by kernel_rfl) (of_decide_eq_true (by kernel_rfl)) h0 hg hlt0) (trodAll_cons_mk (Below.trod laidOut (by kernel_rfl) (of_decide_eq_true (by kernel_rfl)) h1 hg hlt1) trodAll_mk0)), rfl, Below.frame hg _, fun h => by cases h⟩

theorem over : Rows.diskDoesRow.holds Try.pinned (OpenSpec.ofChange Rows.diskDoesSpec) :=
  OpenClaim.holds_of_wide 3 Try.f3 rfl rfl rfl rfl rfl rfl rfl ⟨rfl, rfl, rfl, rfl, rfl⟩ rfl rfl rfl rfl rfl (by kernel_rfl) Try.func3 (by kernel_rfl)
    (of_decide_eq_true (by kernel_rfl)) (by unfold Func.isWrapper; first | (rw [if_pos (by decide +kernel)]; kernel_rfl) | (rw [if_neg (by decide +kernel)]; exact ⟨rfl, rfl⟩))
    (fun os started H enc _ => lifted os started H enc)

/-- ████ THE STATEMENT ████ -/
theorem proved : Rows.DiskDoesSaid :=
  over
#print axioms proved
end Go.Proofs.Ytoclgneokfbobaa.diskDoes
