/-
  PROVED: the statement 'JournalOnceSaid': for every input the law JournalOnce returns true, and each argument reads afterwards as it read before. No condition.
-/
import Derived.Test.YtjbcpfndpfeepaaJkd
import Derived.Test.YtjbcpfndpfeepaaGw
import Derived.Test.YtjbcpfndpfeepaaRows
import Derived.WalkKit
import Derived.Deep.RegionHeld3
import Derived.BigQuiet
import Derived.ProofKit
import Derived.OpenShut
import Derived.ShutString
namespace Go.Proofs.Ytjbcpfndpfeepaa.journalOnce
open Go.ChangeShapes Go.WideShapes Go.ChangeAt Go.RowKit
open Go.Proofs.Ytjbcpfndpfeepaa.Mem Go.Proofs.Ytjbcpfndpfeepaa.Pk Go.Proofs.Ytjbcpfndpfeepaa.Rc Go.Proofs.Ytjbcpfndpfeepaa.Fk Go.Proofs.Ytjbcpfndpfeepaa.Dz Go.Proofs.Ytjbcpfndpfeepaa.Fz Go.Proofs.Ytjbcpfndpfeepaa.Jk
set_option linter.unusedVariables false

theorem own : ownKnob Try.prog.godebug = none := by kernel_rfl
theorem laidOut : laidOutB Try.prog = true := by kernel_rfl

set_option maxRecDepth 100000 in
set_option maxHeartbeats 4000000 in
theorem long (w : World) (n : Nat) {aL : Option Addr} {lenL capL : Nat} {Y : Nat → Deed} (dl : Deeds w (.slice aL lenL capL) aL lenL capL Y) (aC : Option Addr) (nC cC : Nat) (h : 24 < lenL ∨ (¬ 24 < lenL ∧ 100 < nC)) :
    Calls Try.prog 4 #[.int .u8 (n : Int), .slice aL lenL capL, .slice aC nC cC] w fun e w' => e = .returned (.bool true) ∧ Kept w w' := by
  have HVY := Lib.hid (heavy_c dl)
  clear dl
  rcases h with h1 | ⟨h1, h2⟩
  all_goals
    go_enter Try.func4, Try.ntmps4
    go_upto_if 30 with (go_at_call 7; (with_reducible refine HVY.out.mono ?_); rintro e u1 ⟨qv, rfl, rfl, hq⟩; clear hq; cases qv)
    all_goals
      go_wp2_with (go_at_call 8; (with_reducible refine (Jk.known_c _).mono ?_); rintro e u10 ⟨rfl, k10⟩)
      go_ret
      exact ⟨rfl, k10⟩
theorem walk (w : World) (n : Nat) (hn : n ≤ 255) (aL : Option Addr) (lenL capL : Nat) (Y : Nat → Deed) (dl : Deeds w (.slice aL lenL capL) aL lenL capL Y) (aC : Option Addr) (nC cC : Nat) (bc : Byts w (.slice aC nC cC) aC nC cC) :
    Calls Try.prog 4 #[.int .u8 (n : Int), .slice aL lenL capL, .slice aC nC cC] w fun e w' => e = .returned (.bool true) ∧ Kept w w' := by
  by_cases h1 : 24 < lenL
  · exact long w n dl aC nC cC (.inl h1)
  by_cases h2 : 100 < nC
  · exact long w n dl aC nC cC (.inr ⟨h1, h2⟩)
  exact once_core w n hn dl bc h1 h2

set_option maxRecDepth 100000 in
theorem lifted (os : Os) (started : os.Started) (H : Type) (enc : TypeId × Value → H) :
    ReturnsInHanded {} Try.checked os 4 .any (Rows.journalOnceSpec.pre6 enc Try.prog Try.f4 Rows.journalOnceRow.domain false) (Rows.journalOnceSpec.post enc Try.prog Try.f4 false true false false) := by
  refine returnsInHanded_of_change (C := Try.checked) own started (by kernel_rfl) Try.func4
    (ChangeSpec.witness6 (enc := enc) (C := Try.checked) false ⟨#[], #[.int .u8 0, .slice none 0 0, .slice none 0 0], []⟩ 8 (by kernel_rfl) (by kernel_rfl) (by kernel_rfl) (by kernel_rfl)) ?_
  intro W base args ds gs before hval0 hW hcnd _
  have hval : ∀ (j : Nat) t v, Try.f4.params[j]? = some t → args[j]? = some v → Value.okWide Try.prog W .any base t v := hval0
  have hW' := hW
  obtain ⟨p, q, hA0, hV, rfl, hfz, hnd⟩ := hW
  have hA : DataW.TrodAll enc Try.prog W 0 (fun _ => true) true Try.f4.params.toList args.toList ds p := hA0
  rw [Try.params4] at hA hval
  obtain ⟨v0, vs0, d0, ds0, p0, q0, hargs0, rfl, rfl, h0, r0⟩ := trodAll_cons hA
  obtain ⟨v1, vs1, d1, ds1, p1, q1, hargs1, rfl, rfl, h1, r1⟩ := trodAll_cons r0
  obtain ⟨v2, vs2, d2, ds2, p2, q2, hargs2, rfl, rfl, h2, r2⟩ := trodAll_cons r1
  obtain ⟨rfl, rfl, rfl⟩ := trodAll_nil r2
  obtain rfl : args = #[v0, v1, v2] := by cases args; simp_all
  obtain ⟨rfl, rfl⟩ := trodVars_none hV
  obtain ⟨n0, b0, e0⟩ := open_u8 (hval 0 5 v0 rfl rfl) h0
  obtain ⟨ao1, len1, cap1, X1, E1⟩ := open_deeds (hval 1 22 v1 rfl rfl) h1
  have e1 := E1.eq
  obtain ⟨ao2, len2, cap2, E2⟩ := open_bytes (hval 2 23 v2 rfl rfl) h2
  have e2 := E2.eq
  clear hA0 hval0
  simp only [List.append_nil] at hW'
  have hlt0 : ∀ x ∈ p0, x.block < W.heap.size := fun x hx => hW'.lt x (by simp [hx])
  have hlt1 : ∀ x ∈ p1, x.block < W.heap.size := fun x hx => hW'.lt x (by simp [hx])
  have hlt2 : ∀ x ∈ p2, x.block < W.heap.size := fun x hx => hW'.lt x (by simp [hx])
  have hwalk := walk W n0 b0 ao1 len1 cap1 X1 (e1 ▸ E1) ao2 len2 cap2 (e2 ▸ E2)
  rw [← e0, ← e1, ← e2] at hwalk
  refine hwalk.mono fun e W' ⟨he, hg⟩ => ?_
  subst he
  exact ⟨_, rfl, _, _, _, [], _, [], hW', (trodAll_cons_mk (shut_bool Try.underlying4 _) trodAll_mk0), (trodAll_cons_mk (Below.trod laidOut (by kernel_rfl) (of_decide_eq_true (by kernel_rfl)) h0 hg hlt0) (trodAll_cons_mk (Below.trod laidOut (by kernel_rfl) (of_decide_eq_true (by kernel_rfl)) h1 hg hlt1) (trodAll_cons_mk (Below.trod laidOut (by kernel_rfl) (of_decide_eq_true (by kernel_rfl)) h2 hg hlt2) trodAll_mk0))), rfl, Below.frame hg _, fun h => by cases h⟩

theorem over : Rows.journalOnceRow.holds Try.pinned (OpenSpec.ofChange Rows.journalOnceSpec) :=
  OpenClaim.holds_of_wide 4 Try.f4 rfl rfl rfl rfl rfl rfl rfl ⟨rfl, rfl, rfl, rfl, rfl⟩ rfl rfl rfl rfl rfl (by kernel_rfl) Try.func4 (by kernel_rfl)
    (of_decide_eq_true (by kernel_rfl)) (by unfold Func.isWrapper; first | (rw [if_pos (by decide +kernel)]; kernel_rfl) | (rw [if_neg (by decide +kernel)]; exact ⟨rfl, rfl⟩))
    (fun os started H enc _ => lifted os started H enc)

/-- ████ THE STATEMENT ████ -/
theorem proved : Rows.JournalOnceSaid :=
  over
#print axioms proved
end Go.Proofs.Ytjbcpfndpfeepaa.journalOnce
