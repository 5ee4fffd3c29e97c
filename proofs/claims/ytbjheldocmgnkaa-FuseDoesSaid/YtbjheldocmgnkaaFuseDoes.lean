/-
  PROVED: the statement 'FuseDoesSaid': for every input the law FuseDoes returns true, and each argument reads afterwards as it read before. No condition.
-/
import Derived.Test.YtbjheldocmgnkaaFr
import Derived.Test.YtbjheldocmgnkaaFa
import Derived.Test.YtbjheldocmgnkaaRows
import Derived.WalkKit
import Derived.Deep.RegionHeld3
import Derived.ProofKit
import Derived.OpenShut
import Derived.ShutString
namespace Go.Proofs.Ytbjheldocmgnkaa.fuseDoes
open Go.ChangeShapes Go.WideShapes Go.ChangeAt Go.RowKit
open Go.Proofs.Ytbjheldocmgnkaa.Mem Go.Proofs.Ytbjheldocmgnkaa.Fz
set_option linter.unusedVariables false

theorem own : ownKnob Try.prog.godebug = none := by kernel_rfl
theorem laidOut : laidOutB Try.prog = true := by kernel_rfl



set_option maxHeartbeats 1000000 in
set_option maxRecDepth 100000 in
theorem long (ao : Option Addr) (len cap : Nat) (w : World) (h : 300 < len) :
    Calls Try.prog 3 #[.slice ao len cap] w fun e w' => e = .returned (.bool true) ∧ Kept w w' := by
  have h1 : decide (300 < (len : Int)) = true := by simp; omega
  clear h
  go_enter Try.func3, Try.ntmps3
  go_wp2_with (go_at_call 7; (with_reducible refine (known_any _).mono ?_); rintro e u ⟨rfl, hk⟩)
  go_ret
  exact ⟨rfl, hk⟩
theorem pair_start {w w1 : World} (h : Own w w.heap.size .idle w1) : Pair w w.heap.size w1.heap.size .idle .idle (w1.alloc (.cells #[.bool false, .bool false, .int .i64 0] 28)) :=
  ⟨h.later ((Kept.refl _).alloc _), h.kept.size, heap_alloc_new _ _, trivial, Nat.ne_of_lt h.fz.lt⟩
set_option maxHeartbeats 4000000 in
set_option maxRecDepth 100000 in
theorem rounds (ao : Option Addr) (len cap : Nat) (X : Nat → Deed) (w : World) (h300 : len ≤ 300)
    (hX : ∀ i, i < len → ∃ b off, ao = some ⟨b, off, none⟩ ∧ b < w.heap.size ∧ (X i).at b (off + i * 2) w) (hok : ∀ i, i < len → (X i).ok) :
    Calls Try.prog 3 #[.slice ao len cap] w fun e w' => e = .returned (.bool true) ∧ Kept w w' := by
  have h1 : decide (300 < (len : Int)) = false := by simp; omega
  go_enter Try.func3, Try.ntmps3
  go_wp2_with (go_at_call 8; refine (new_o _).mono ?_; rintro e w1 ⟨rfl, h2⟩)
  go_loopw [3, 5] (fun f i wr => ∃ (k F : Nat) (s : St), k ≤ len ∧ i = .int .i64 k ∧ f = .pointer (some ⟨F, 0, none⟩) ∧ Pair w F w1.heap.size s s wr) (fun _ i _ => len - (intOf i).toNat)
  case atStart => exact ⟨0, _, _, by omega, rfl, rfl, pair_start h2⟩
  case round =>
    clear h2
    obtain ⟨k, F, s, hk, rfl, rfl, hp⟩ := hrel
    by_cases hlt : k < len
    · obtain ⟨b, off, rfl, hb, hx⟩ := hX k hlt
      have hx := hx.kept hp.kept hb
      have hD := (hok k hlt).hi_a
      have hK := (hok k hlt).hi_k
      have ca := hx.ca
      have ck := hx.ck
      obtain ⟨D, hDD⟩ : ∃ D, D = (X k).a := ⟨_, rfl⟩
      obtain ⟨K, hKK⟩ : ∃ K, K = (X k).k := ⟨_, rfl⟩
      rw [← hDD] at ca hD
      rw [← hKK] at ck hK
      clear hx hDD hKK
      have hm : (D : Int) % 4 = 0 ∨ (D : Int) % 4 = 1 ∨ (D : Int) % 4 = 2 ∨ (D : Int) % 4 = 3 := by omega
      clear hX hok
      rcases hm with hm | hm | hm | hm
      · go_wp2_with (first
          | (go_at_call 9; refine (p_burn ‹_›).mono ?_; rintro e u1 ⟨rfl, k1⟩)
          | (go_at_call 10; refine (p_rburn ‹_›).mono ?_; rintro e u2 ⟨rfl, k2⟩))
        have dr := Rf.dead (Pair.rf k2)
        go_quiet (first | (go_at_call 16; exact p_quiet k2 _))
        go_wp2
        go_roundw
        case rel => exact ⟨k + 1, _, _, by omega, by go_num, rfl, (k2).drewN _⟩
        case measure => simp [intOf]; omega
      · have hp0 := hp.drew
        have hc : ∀ W : World, Kept w W → W.cell? ⟨b, off + k * 2 + 1, none⟩ = some (.int .i64 K)   := fun W hW => by rw [Kept.cell hW hb, ← Kept.cell hp.kept hb]; exact ck
        have HC := Lib.hid hc
        clear hc
        go_wp2
        go_region_held3 (fun W => W.cell? ⟨b, off + k * 2 + 1, none⟩ = some (.int .i64 K)) (first | assumption | (refine HC.out _ ?_; exact k1.kept) | (refine HC.out _ ?_; exact k2.kept)) (first
          | (go_at_call 11; refine (p_arm ‹_› (by omega)).mono ?_; rintro e u1 ⟨rfl, k1⟩)
          | (go_at_call 12; refine (p_rarm ‹_› (by omega)).mono ?_; rintro e u2 ⟨rfl, k2⟩))
        go_wp2
        have dr := Rf.dead (Pair.rf k2)
        go_quiet (first | (go_at_call 16; exact p_quiet k2 _))
        go_wp2
        go_roundw
        case rel => exact ⟨k + 1, _, _, by omega, by go_num, rfl, (k2).drewN _⟩
        case measure => simp [intOf]; omega
      · go_wp2_with (first
          | (go_at_call 13; refine (p_reset ‹_›).mono ?_; rintro e u1 ⟨rfl, k1⟩)
          | (go_at_call 14; refine (p_rreset ‹_›).mono ?_; rintro e u2 ⟨rfl, k2⟩))
        have dr := Rf.dead (Pair.rf k2)
        go_quiet (first | (go_at_call 16; exact p_quiet k2 _))
        go_wp2
        go_roundw
        case rel => exact ⟨k + 1, _, _, by omega, by go_num, rfl, (k2).drewN _⟩
        case measure => simp [intOf]; omega
      · go_wp2_with (first
          | (go_at_call 15; refine (p_copy ‹_›).mono ?_; rintro e u1 ⟨rfl, k1⟩)
          | (go_at_call 11; refine (o_arm ‹_›).mono ?_; rintro e u2 ⟨rfl, k2⟩)
          | (go_at_call 9; refine (o_burn ‹_›).mono ?_; rintro e u3 ⟨rfl, k3⟩))
        have dr := Rf.dead (Pair.rf k3.p)
        go_quiet (first | (go_at_call 16; exact p_quiet k3.p _))
        go_wp2
        go_roundw
        case rel => exact ⟨k + 1, _, _, by omega, by go_num, rfl, (k3.p).drewN _⟩
        case measure => simp [intOf]; omega
    · clear hk hX hok
      go_wp2_with (go_at_call 7; (with_reducible refine (known_any _).mono ?_); rintro e u ⟨rfl, hk⟩)
      go_ret
      exact ⟨rfl, hp.kept.trans hk⟩
theorem walk (v : Value) (ao : Option Addr) (len cap : Nat) (X : Nat → Deed) (w : World) (I : Deeds w v ao len cap X) :
    Calls Try.prog 3 #[v] w fun e w' => e = .returned (.bool true) ∧ Kept w w' := by
  obtain ⟨rfl, hat, hok, _⟩ := I
  by_cases h30 : 300 < len
  · exact long ao len cap w h30
  · refine rounds ao len cap X w (by omega) (fun i hi => ?_) hok
    obtain ⟨b, off, e, hb, hx⟩ := hat (by omega)
    exact ⟨b, off, e, hb, hx i hi⟩

set_option maxRecDepth 100000 in
theorem lifted (os : Os) (started : os.Started) (H : Type) (enc : TypeId × Value → H) :
    ReturnsInHanded {} Try.checked os 3 .any (Rows.fuseDoesSpec.pre6 enc Try.prog Try.f3 Rows.fuseDoesRow.domain false) (Rows.fuseDoesSpec.post enc Try.prog Try.f3 false true false false) := by
  refine returnsInHanded_of_change (C := Try.checked) own started (by kernel_rfl) Try.func3
    (ChangeSpec.witness6 (enc := enc) (C := Try.checked) false ⟨#[], #[.slice none 0 0], []⟩ 8 (by kernel_rfl) (by kernel_rfl) (by kernel_rfl) (by kernel_rfl)) ?_
  intro W base args ds gs before hval0 hW hcnd _
  have hval : ∀ (j : Nat) t v, Try.f3.params[j]? = some t → args[j]? = some v → Value.okWide Try.prog W .any base t v := hval0
  have hW' := hW
  obtain ⟨p, q, hA0, hV, rfl, hfz, hnd⟩ := hW
  have hA : DataW.TrodAll enc Try.prog W 0 (fun _ => true) true Try.f3.params.toList args.toList ds p := hA0
  rw [Try.params3] at hA hval
  obtain ⟨v0, vs0, d0, ds0, p0, q0, hargs, rfl, rfl, h0, r0⟩ := trodAll_cons hA
  obtain ⟨rfl, rfl, rfl⟩ := trodAll_nil r0
  obtain rfl : args = #[v0] := by cases args; simp_all
  obtain ⟨rfl, rfl⟩ := trodVars_none hV
  obtain ⟨ao, len, cap, X, I⟩ := open_deeds (hval 0 22 v0 rfl rfl) h0
  clear hA0 hval0
  simp only [List.append_nil] at hW'
  have hlt : ∀ x ∈ p0, x.block < W.heap.size := fun x hx => by simpa using hW'.lt x hx
  refine (walk v0 ao len cap X W I).mono fun e W' ⟨he, hg⟩ => ?_
  subst he
  exact ⟨_, rfl, _, _, _, [], _, [], hW', (trodAll_cons_mk (shut_bool Try.underlying4 _) trodAll_mk0), (trodAll_cons_mk (Below.trod laidOut (by kernel_rfl) (of_decide_eq_true (by kernel_rfl)) h0 hg hlt) trodAll_mk0), rfl, Below.frame hg _, fun h => by cases h⟩

theorem over : Rows.fuseDoesRow.holds Try.pinned (OpenSpec.ofChange Rows.fuseDoesSpec) :=
  OpenClaim.holds_of_wide 3 Try.f3 rfl rfl rfl rfl rfl rfl rfl ⟨rfl, rfl, rfl, rfl, rfl⟩ rfl rfl rfl rfl rfl (by kernel_rfl) Try.func3 (by kernel_rfl)
    (of_decide_eq_true (by kernel_rfl)) (by unfold Func.isWrapper; first | (rw [if_pos (by decide +kernel)]; kernel_rfl) | (rw [if_neg (by decide +kernel)]; exact ⟨rfl, rfl⟩))
    (fun os started H enc _ => lifted os started H enc)

/-- ████ THE STATEMENT ████ -/
theorem proved : Rows.FuseDoesSaid :=
  over
#print axioms proved
end Go.Proofs.Ytbjheldocmgnkaa.fuseDoes
