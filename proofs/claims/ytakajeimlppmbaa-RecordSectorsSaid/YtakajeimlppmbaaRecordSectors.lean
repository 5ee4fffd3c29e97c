/-
  PROVED: the statement 'RecordSectorsSaid': for every input the law RecordSectors returns true, and each argument reads afterwards as it read before. No condition.
-/
import Derived.Test.YtakajeimlppmbaaGt
import Derived.Test.YtakajeimlppmbaaGr
import Derived.Test.YtakajeimlppmbaaRows
import Derived.WalkKit
import Derived.Deep.RegionHeld3
import Derived.BigQuiet
import Derived.ProofKit
import Derived.OpenShut
import Derived.ShutString
namespace Go.Proofs.Ytakajeimlppmbaa.recordSectors
open Go.ChangeShapes Go.WideShapes Go.ChangeAt Go.RowKit
open Go.Proofs.Ytakajeimlppmbaa.Mem Go.Proofs.Ytakajeimlppmbaa.Rc Go.Proofs.Ytakajeimlppmbaa.Fk Go.Proofs.Ytakajeimlppmbaa.Dz
set_option linter.unusedVariables false

theorem own : ownKnob Try.prog.godebug = none := by kernel_rfl
theorem laidOut : laidOutB Try.prog = true := by kernel_rfl

set_option maxHeartbeats 4000000 in
set_option maxRecDepth 100000 in
theorem walk (w : World) (n : Int) (hn : -9223372036854775808 ≤ n ∧ n ≤ 9223372036854775807) (b : Int) (hb : -9223372036854775808 ≤ b ∧ b ≤ 9223372036854775807) (l : Int) (hl : -9223372036854775808 ≤ l ∧ l ≤ 9223372036854775807) (k : Nat) (hk : k ≤ 255) (d : ByteArray) (hd : d.size ≤ maxLen) :
    Calls Try.prog 3 #[.int .i64 n, .int .i64 b, .int .i64 l, .int .u8 (k : Int), .string d] w fun e w' => e = .returned (.bool true) ∧ Kept w w' := by
  have hkn : ∀ W, Calls Try.prog 10 #[] W fun e w' => e = .returned (.bool true) ∧ Kept W w' := known_c
  by_cases h5 : 5000 < d.size
  · have t1 : decide (5000 < (d.size : Int)) = true := by simp; omega
    clear h5 hd
    go_enter Try.func3, Try.ntmps3
    go_wp2_with (go_at_call 10; (with_reducible refine (hkn _).mono ?_); rintro e u4 ⟨rfl, k4⟩)
    all_goals
      go_ret
      exact ⟨rfl, k4⟩
  · have t1 : decide (5000 < (d.size : Int)) = false := by simp; omega
    have cp := parts_c n hn
    have rp := rparts_c n hn
    have cs : ∀ W, Calls Try.prog 13 #[.int .i64 b, .int .i64 l, .int .u8 (k : Int), .string d] W fun e w' => ∃ ao cap, e = .returned (.tuple #[.slice ao (nS b l d) cap, .int .i64 (secE b l d)]) ∧ SAt w' ao (nS b l d) (sec b l k d) ∧ Kept W w' := fun W => by
      refine (sectors_c b l k d (by omega) hd W).mono ?_
      rintro e w' ⟨v, he, hrow, hk⟩
      obtain ⟨ao, cap, rfl, hs⟩ := strings_at hrow
      exact ⟨ao, cap, he, hs, hk⟩
    have rs : ∀ W, Calls Try.prog 14 #[.int .i64 b, .int .i64 l, .int .u8 (k : Int), .string d] W fun e w' => ∃ ao cap, e = .returned (.tuple #[.slice ao (nS b l d) cap, .int .i64 (secE b l d)]) ∧ SAt w' ao (nS b l d) (sec b l k d) ∧ Kept W w' := fun W => by
      refine (rsectors_c b l k d (by omega) hd W).mono ?_
      rintro e w' ⟨v, he, hrow, hk⟩
      obtain ⟨ao, cap, rfl, hs⟩ := strings_at hrow
      exact ⟨ao, cap, he, hs, hk⟩
    have hN : nS b l d < 4294967296 := by unfold nS parts; split <;> omega
    have heq := fun (a1 a2 : Option Addr) (c1 c2 : Nat) (W : World) (h1 : SAt W a1 (nS b l d) (sec b l k d)) (h2 : SAt W a2 (nS b l d) (sec b l k d)) => equals_c a1 a2 (nS b l d) c1 c2 _ _ hN W h1 h2 (fun _ _ => rfl)
    obtain ⟨P, hP⟩ : ∃ P, P = pF n := ⟨_, rfl⟩
    obtain ⟨E, hE⟩ : ∃ E, E = pE n := ⟨_, rfl⟩
    obtain ⟨N, hN'⟩ : ∃ N, N = nS b l d := ⟨_, rfl⟩
    obtain ⟨H, hH⟩ : ∃ H, H = secE b l d := ⟨_, rfl⟩
    obtain ⟨X, hX⟩ : ∃ X, X = sec b l k d := ⟨_, rfl⟩
    rw [← hP, ← hE] at cp rp
    rw [← hN'] at cs rs heq
    rw [← hH, ← hX] at cs rs
    rw [← hX] at heq
    have HQ := Lib.hid heq
    clear hP hE hN' hH hX hN h5 hd hn hb hl heq
    go_enter Try.func3, Try.ntmps3
    go_wp2_with (first
      | (go_at_call 11; (with_reducible refine (cp _).mono ?_); rintro e u1 ⟨rfl, rfl⟩)
      | (go_at_call 12; (with_reducible refine (rp _).mono ?_); rintro e u2 ⟨rfl, rfl⟩)
      | (go_at_call 13; (with_reducible refine (cs _).mono ?_); rintro e u3 ⟨a1, c1, rfl, s1, k3⟩; have S1 := Lib.hid s1; clear s1)
      | (go_at_call 14; (with_reducible refine (rs _).mono ?_); rintro e u4 ⟨a2, c2, rfl, s2, k4⟩; have S2 := Lib.hid (And.intro (S1.out.kept k4) s2); clear s2)
      | (go_at_call 15; (with_reducible refine (HQ.out a1 a2 c1 c2 _ S2.out.1 S2.out.2).mono ?_); rintro e u5 ⟨rfl, k5⟩)
      | (go_at_call 10; (with_reducible refine (hkn _).mono ?_); rintro e u6 ⟨rfl, k6⟩))
    all_goals
      go_ret
      exact ⟨rfl, ((k3.trans k4).trans k5).trans k6⟩

set_option maxRecDepth 100000 in
theorem lifted (os : Os) (started : os.Started) (H : Type) (enc : TypeId × Value → H) :
    ReturnsInHanded {} Try.checked os 3 .any (Rows.recordSectorsSpec.pre6 enc Try.prog Try.f3 Rows.recordSectorsRow.domain false) (Rows.recordSectorsSpec.post enc Try.prog Try.f3 false true false false) := by
  refine returnsInHanded_of_change (C := Try.checked) own started (by kernel_rfl) Try.func3
    (ChangeSpec.witness6 (enc := enc) (C := Try.checked) false ⟨#[], #[.int .i64 0, .int .i64 0, .int .i64 0, .int .u8 0, .string ByteArray.empty], []⟩ 8 (by kernel_rfl) (by kernel_rfl) (by kernel_rfl) (by kernel_rfl)) ?_
  intro W base args ds gs before hval0 hW hcnd _
  have hval : ∀ (j : Nat) t v, Try.f3.params[j]? = some t → args[j]? = some v → Value.okWide Try.prog W .any base t v := hval0
  have hW' := hW
  obtain ⟨p, q, hA0, hV, rfl, hfz, hnd⟩ := hW
  have hA : DataW.TrodAll enc Try.prog W 0 (fun _ => true) true Try.f3.params.toList args.toList ds p := hA0
  rw [Try.params3] at hA hval
  obtain ⟨v0, vs0, d0, ds0, p0, q0, hargs0, rfl, rfl, h0, r0⟩ := trodAll_cons hA
  obtain ⟨v1, vs1, d1, ds1, p1, q1, hargs1, rfl, rfl, h1, r1⟩ := trodAll_cons r0
  obtain ⟨v2, vs2, d2, ds2, p2, q2, hargs2, rfl, rfl, h2, r2⟩ := trodAll_cons r1
  obtain ⟨v3, vs3, d3, ds3, p3, q3, hargs3, rfl, rfl, h3, r3⟩ := trodAll_cons r2
  obtain ⟨v4, vs4, d4, ds4, p4, q4, hargs4, rfl, rfl, h4, r4⟩ := trodAll_cons r3
  obtain ⟨rfl, rfl, rfl⟩ := trodAll_nil r4
  obtain rfl : args = #[v0, v1, v2, v3, v4] := by cases args; simp_all
  obtain ⟨rfl, rfl⟩ := trodVars_none hV
  obtain ⟨n0, b0, e0⟩ := open_i64 (hval 0 3 v0 rfl rfl) h0
  obtain ⟨n1, b1, e1⟩ := open_i64 (hval 1 3 v1 rfl rfl) h1
  obtain ⟨n2, b2, e2⟩ := open_i64 (hval 2 3 v2 rfl rfl) h2
  obtain ⟨n3, b3, e3⟩ := open_u8 (hval 3 5 v3 rfl rfl) h3
  obtain ⟨n4, b4, e4⟩ := open_str (hval 4 9 v4 rfl rfl) h4
  clear hA0 hval0
  simp only [List.append_nil] at hW'
  have hlt0 : ∀ x ∈ p0, x.block < W.heap.size := fun x hx => hW'.lt x (by simp [hx])
  have hlt1 : ∀ x ∈ p1, x.block < W.heap.size := fun x hx => hW'.lt x (by simp [hx])
  have hlt2 : ∀ x ∈ p2, x.block < W.heap.size := fun x hx => hW'.lt x (by simp [hx])
  have hlt3 : ∀ x ∈ p3, x.block < W.heap.size := fun x hx => hW'.lt x (by simp [hx])
  have hlt4 : ∀ x ∈ p4, x.block < W.heap.size := fun x hx => hW'.lt x (by simp [hx])
  have hwalk := walk W n0 b0 n1 b1 n2 b2 n3 b3 n4 b4
  rw [← e0, ← e1, ← e2, ← e3, ← e4] at hwalk
  refine hwalk.mono fun e W' ⟨he, hg⟩ => ?_
  subst he
  exact ⟨_, rfl, _, _, _, [], _, [], hW', (trodAll_cons_mk (shut_bool Try.underlying4 _) trodAll_mk0), (trodAll_cons_mk (Below.trod laidOut (by kernel_rfl) (of_decide_eq_true (by kernel_rfl)) h0 hg hlt0) (trodAll_cons_mk (Below.trod laidOut (by kernel_rfl) (of_decide_eq_true (by kernel_rfl)) h1 hg hlt1) (trodAll_cons_mk (Below.trod laidOut (by kernel_rfl) (of_decide_eq_true (by kernel_rfl)) h2 hg hlt2) (trodAll_cons_mk (Below.trod laidOut (by kernel_rfl) (of_decide_eq_true (by kernel_rfl)) h3 hg hlt3) (trodAll_cons_mk (Below.trod laidOut (by kernel_rfl) (of_decide_eq_true (by kernel_rfl)) h4 hg hlt4) trodAll_mk0))))), rfl, Below.frame hg _, fun h => by cases h⟩

theorem over : Rows.recordSectorsRow.holds Try.pinned (OpenSpec.ofChange Rows.recordSectorsSpec) :=
  OpenClaim.holds_of_wide 3 Try.f3 rfl rfl rfl rfl rfl rfl rfl ⟨rfl, rfl, rfl, rfl, rfl⟩ rfl rfl rfl rfl rfl (by kernel_rfl) Try.func3 (by kernel_rfl)
    (of_decide_eq_true (by kernel_rfl)) (by unfold Func.isWrapper; first | (rw [if_pos (by decide +kernel)]; kernel_rfl) | (rw [if_neg (by decide +kernel)]; exact ⟨rfl, rfl⟩))
    (fun os started H enc _ => lifted os started H enc)

/-- ████ THE STATEMENT ████ -/
theorem proved : Rows.RecordSectorsSaid :=
  over
#print axioms proved
end Go.Proofs.Ytakajeimlppmbaa.recordSectors
