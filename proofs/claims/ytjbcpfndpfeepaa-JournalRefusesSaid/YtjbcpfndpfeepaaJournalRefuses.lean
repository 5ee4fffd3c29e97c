/-
  PROVED: the statement 'JournalRefusesSaid': for every input the law JournalRefuses returns true, and each argument reads afterwards as it read before. No condition.
-/
import Derived.Test.YtjbcpfndpfeepaaJrb
import Derived.Test.YtjbcpfndpfeepaaGw
import Derived.Test.YtjbcpfndpfeepaaRows
import Derived.WalkKit
import Derived.Deep.RegionHeld3
import Derived.BigQuiet
import Derived.ProofKit
import Derived.OpenShut
import Derived.ShutString
namespace Go.Proofs.Ytjbcpfndpfeepaa.journalRefuses
open Go.ChangeShapes Go.WideShapes Go.ChangeAt Go.RowKit
open Go.Proofs.Ytjbcpfndpfeepaa.Mem Go.Proofs.Ytjbcpfndpfeepaa.Pk Go.Proofs.Ytjbcpfndpfeepaa.Rc Go.Proofs.Ytjbcpfndpfeepaa.Fk Go.Proofs.Ytjbcpfndpfeepaa.Dz Go.Proofs.Ytjbcpfndpfeepaa.Fz Go.Proofs.Ytjbcpfndpfeepaa.Jk
set_option linter.unusedVariables false

theorem own : ownKnob Try.prog.godebug = none := by kernel_rfl
theorem laidOut : laidOutB Try.prog = true := by kernel_rfl

set_option maxRecDepth 100000 in
set_option maxHeartbeats 4000000 in
theorem long (w : World) (n : Nat) (aL : Option Addr) (lenL capL : Nat) (d : ByteArray) (hd : d.size ≤ maxLen) (aS : Option Addr) (lenS capS : Nat) (h : 12 < lenL ∨ (¬ 12 < lenL ∧ 20 < lenS) ∨ (¬ 12 < lenL ∧ ¬ 20 < lenS ∧ 5000 < d.size)) :
    Calls Try.prog 6 #[.int .u8 (n : Int), .slice aL lenL capL, .string d, .slice aS lenS capS] w fun e w' => e = .returned (.bool true) ∧ Kept w w' := by
  rcases h with h1 | ⟨h1, h2⟩ | ⟨h1, h2, h3⟩
  · have t1 : decide (12 < (lenL : Int)) = true := by simp; omega
    have t2 : decide (12 < lenL) = true := by simp; omega
    clear h1
    go_enter Try.func6, Try.ntmps6
    go_wp2_with (go_at_call 8; (with_reducible refine (Jk.known_c _).mono ?_); rintro e u10 ⟨rfl, k10⟩)
    go_ret
    exact ⟨rfl, k10⟩
  · have t1 : decide (12 < (lenL : Int)) = false := by simp; omega
    have t2 : decide (12 < lenL) = false := by simp; omega
    have t3 : decide (20 < (lenS : Int)) = true := by simp; omega
    have t4 : decide (20 < lenS) = true := by simp; omega
    clear h1 h2
    go_enter Try.func6, Try.ntmps6
    go_wp2_with (go_at_call 8; (with_reducible refine (Jk.known_c _).mono ?_); rintro e u10 ⟨rfl, k10⟩)
    go_ret
    exact ⟨rfl, k10⟩
  · have t1 : decide (12 < (lenL : Int)) = false := by simp; omega
    have t2 : decide (12 < lenL) = false := by simp; omega
    have t3 : decide (20 < (lenS : Int)) = false := by simp; omega
    have t4 : decide (20 < lenS) = false := by simp; omega
    have t5 : decide (5000 < (d.size : Int)) = true := by simp; omega
    have t6 : decide (5000 < d.size) = true := by simp; omega
    clear h1 h2 h3
    go_enter Try.func6, Try.ntmps6
    go_wp2_with (go_at_call 8; (with_reducible refine (Jk.known_c _).mono ?_); rintro e u10 ⟨rfl, k10⟩)
    go_ret
    exact ⟨rfl, k10⟩
theorem walk (w : World) (n : Nat) (hn : n ≤ 255) (aL : Option Addr) (lenL capL : Nat) (XL : Nat → ByteArray) (hcL : 0 < lenL → ∃ b off, aL = some ⟨b, off, none⟩ ∧ b < w.heap.size ∧ ∀ i, i < lenL → w.cell? ⟨b, off + i, none⟩ = some (.string (XL i))) (hoL : ∀ i, i < lenL → (XL i).size ≤ maxLen) (hmL : lenL ≤ maxLen) (d : ByteArray) (hd : d.size ≤ maxLen) (aS : Option Addr) (lenS capS : Nat) (XS : Nat → ByteArray) (hcS : 0 < lenS → ∃ b off, aS = some ⟨b, off, none⟩ ∧ b < w.heap.size ∧ ∀ i, i < lenS → w.cell? ⟨b, off + i, none⟩ = some (.string (XS i))) (hoS : ∀ i, i < lenS → (XS i).size ≤ maxLen) (hmS : lenS ≤ maxLen) :
    Calls Try.prog 6 #[.int .u8 (n : Int), .slice aL lenL capL, .string d, .slice aS lenS capS] w fun e w' => e = .returned (.bool true) ∧ Kept w w' := by
  by_cases h1 : 12 < lenL
  · exact long w n aL lenL capL d hd aS lenS capS (.inl h1)
  by_cases h2 : 20 < lenS
  · exact long w n aL lenL capL d hd aS lenS capS (.inr (.inl ⟨h1, h2⟩))
  by_cases h3 : 5000 < d.size
  · exact long w n aL lenL capL d hd aS lenS capS (.inr (.inr ⟨h1, h2, h3⟩))
  exact refuses_core w n hn (fun i hi => by
    obtain ⟨b, off, e, _, h⟩ := hcL (by omega)
    exact ⟨b, off, e, h i hi⟩) hoL d hd (fun i hi => by
    obtain ⟨b, off, e, _, h⟩ := hcS (by omega)
    exact ⟨b, off, e, h i hi⟩) hoS h1 h2 h3

set_option maxRecDepth 100000 in
theorem lifted (os : Os) (started : os.Started) (H : Type) (enc : TypeId × Value → H) :
    ReturnsInHanded {} Try.checked os 6 .any (Rows.journalRefusesSpec.pre6 enc Try.prog Try.f6 Rows.journalRefusesRow.domain false) (Rows.journalRefusesSpec.post enc Try.prog Try.f6 false true false false) := by
  refine returnsInHanded_of_change (C := Try.checked) own started (by kernel_rfl) Try.func6
    (ChangeSpec.witness6 (enc := enc) (C := Try.checked) false ⟨#[], #[.int .u8 0, .slice none 0 0, .string ByteArray.empty, .slice none 0 0], []⟩ 8 (by kernel_rfl) (by kernel_rfl) (by kernel_rfl) (by kernel_rfl)) ?_
  intro W base args ds gs before hval0 hW hcnd _
  have hval : ∀ (j : Nat) t v, Try.f6.params[j]? = some t → args[j]? = some v → Value.okWide Try.prog W .any base t v := hval0
  have hW' := hW
  obtain ⟨p, q, hA0, hV, rfl, hfz, hnd⟩ := hW
  have hA : DataW.TrodAll enc Try.prog W 0 (fun _ => true) true Try.f6.params.toList args.toList ds p := hA0
  rw [Try.params6] at hA hval
  obtain ⟨v0, vs0, d0, ds0, p0, q0, hargs0, rfl, rfl, h0, r0⟩ := trodAll_cons hA
  obtain ⟨v1, vs1, d1, ds1, p1, q1, hargs1, rfl, rfl, h1, r1⟩ := trodAll_cons r0
  obtain ⟨v2, vs2, d2, ds2, p2, q2, hargs2, rfl, rfl, h2, r2⟩ := trodAll_cons r1
  obtain ⟨v3, vs3, d3, ds3, p3, q3, hargs3, rfl, rfl, h3, r3⟩ := trodAll_cons r2
  obtain ⟨rfl, rfl, rfl⟩ := trodAll_nil r3
  obtain rfl : args = #[v0, v1, v2, v3] := by cases args; simp_all
  obtain ⟨rfl, rfl⟩ := trodVars_none hV
  obtain ⟨n0, b0, e0⟩ := open_u8 (hval 0 5 v0 rfl rfl) h0
  obtain ⟨ao1, len1, cap1, X1, e1, c1, o1, m1⟩ := open_strs (hval 1 29 v1 rfl rfl) h1
  obtain ⟨n2, b2, e2⟩ := open_str (hval 2 9 v2 rfl rfl) h2
  obtain ⟨ao3, len3, cap3, X3, e3, c3, o3, m3⟩ := open_strs (hval 3 29 v3 rfl rfl) h3
  clear hA0 hval0
  simp only [List.append_nil] at hW'
  have hlt0 : ∀ x ∈ p0, x.block < W.heap.size := fun x hx => hW'.lt x (by simp [hx])
  have hlt1 : ∀ x ∈ p1, x.block < W.heap.size := fun x hx => hW'.lt x (by simp [hx])
  have hlt2 : ∀ x ∈ p2, x.block < W.heap.size := fun x hx => hW'.lt x (by simp [hx])
  have hlt3 : ∀ x ∈ p3, x.block < W.heap.size := fun x hx => hW'.lt x (by simp [hx])
  have hwalk := walk W n0 b0 ao1 len1 cap1 X1 c1 o1 m1 n2 b2 ao3 len3 cap3 X3 c3 o3 m3
  rw [← e0, ← e1, ← e2, ← e3] at hwalk
  refine hwalk.mono fun e W' ⟨he, hg⟩ => ?_
  subst he
  exact ⟨_, rfl, _, _, _, [], _, [], hW', (trodAll_cons_mk (shut_bool Try.underlying4 _) trodAll_mk0), (trodAll_cons_mk (Below.trod laidOut (by kernel_rfl) (of_decide_eq_true (by kernel_rfl)) h0 hg hlt0) (trodAll_cons_mk (Below.trod laidOut (by kernel_rfl) (of_decide_eq_true (by kernel_rfl)) h1 hg hlt1) (trodAll_cons_mk (Below.trod laidOut (by kernel_rfl) (of_decide_eq_true (by kernel_rfl)) h2 hg hlt2) (trodAll_cons_mk (Below.trod laidOut (by kernel_rfl) (of_decide_eq_true (by kernel_rfl)) h3 hg hlt3) trodAll_mk0)))), rfl, Below.frame hg _, fun h => by cases h⟩

theorem over : Rows.journalRefusesRow.holds Try.pinned (OpenSpec.ofChange Rows.journalRefusesSpec) :=
  OpenClaim.holds_of_wide 6 Try.f6 rfl rfl rfl rfl rfl rfl rfl ⟨rfl, rfl, rfl, rfl, rfl⟩ rfl rfl rfl rfl rfl (by kernel_rfl) Try.func6 (by kernel_rfl)
    (of_decide_eq_true (by kernel_rfl)) (by unfold Func.isWrapper; first | (rw [if_pos (by decide +kernel)]; kernel_rfl) | (rw [if_neg (by decide +kernel)]; exact ⟨rfl, rfl⟩))
    (fun os started H enc _ => lifted os started H enc)

/-- ████ THE STATEMENT ████ -/
theorem proved : Rows.JournalRefusesSaid :=
  over
#print axioms proved
end Go.Proofs.Ytjbcpfndpfeepaa.journalRefuses
