/-
  PROVED: the statement 'RecordTornSaid': for every input the law RecordTorn returns true, and each argument reads afterwards as it read before. No condition.
-/
import Derived.Test.YtakajeimlppmbaaGu
import Derived.Test.YtakajeimlppmbaaRows
import Derived.WalkKit
import Derived.Deep.RegionHeld3
import Derived.BigQuiet
import Derived.ProofKit
import Derived.OpenShut
import Derived.ShutString
namespace Go.Proofs.Ytakajeimlppmbaa.recordTorn
open Go.ChangeShapes Go.WideShapes Go.ChangeAt Go.RowKit
open Go.Proofs.Ytakajeimlppmbaa.Mem Go.Proofs.Ytakajeimlppmbaa.Rc Go.Proofs.Ytakajeimlppmbaa.Fk Go.Proofs.Ytakajeimlppmbaa.Dz Go.Proofs.Ytakajeimlppmbaa.Fz
set_option linter.unusedVariables false

theorem own : ownKnob Try.prog.godebug = none := by kernel_rfl
theorem laidOut : laidOutB Try.prog = true := by kernel_rfl

set_option maxRecDepth 100000 in
theorem long1 (w : World) (p q z f : Nat) (d o : ByteArray) (c : Ch) (t1 : decide (600 < (d.size : Int)) = true) :
    Calls Try.prog 7 #[.int .u8 (p : Int), .int .u8 (q : Int), .string d, .string o, .int .u8 (z : Int), .int .u8 (f : Int), .agg c.cells] w fun e w' => e = .returned (.bool true) ∧ Kept w w' := by
  have hkn : ∀ W, Calls Try.prog 10 #[] W fun e w' => e = .returned (.bool true) ∧ Kept W w' := Rc.known_c
  have hk0 := Kept.alloc (Kept.refl w) (.cells c.cells 66)
  unfold Ch.cells at hk0 ⊢
  go_enter Try.func7, Try.ntmps7
  go_wp2_with (go_at_call 10; (with_reducible refine (hkn _).mono ?_); rintro e u4 ⟨rfl, k4⟩)
  all_goals
    go_ret
    exact ⟨rfl, hk0.trans k4⟩
set_option maxRecDepth 100000 in
theorem long2 (w : World) (p q z f : Nat) (d o : ByteArray) (c : Ch) (t1 : decide (600 < (d.size : Int)) = false) (t2 : decide (600 < (o.size : Int)) = true) :
    Calls Try.prog 7 #[.int .u8 (p : Int), .int .u8 (q : Int), .string d, .string o, .int .u8 (z : Int), .int .u8 (f : Int), .agg c.cells] w fun e w' => e = .returned (.bool true) ∧ Kept w w' := by
  have hkn : ∀ W, Calls Try.prog 10 #[] W fun e w' => e = .returned (.bool true) ∧ Kept W w' := Rc.known_c
  have hk0 := Kept.alloc (Kept.refl w) (.cells c.cells 66)
  unfold Ch.cells at hk0 ⊢
  go_enter Try.func7, Try.ntmps7
  go_wp2_with (go_at_call 10; (with_reducible refine (hkn _).mono ?_); rintro e u4 ⟨rfl, k4⟩)
  all_goals
    go_ret
    exact ⟨rfl, hk0.trans k4⟩
set_option maxHeartbeats 2000000 in
theorem main (w : World) (p q z f : Nat) (hp : p ≤ 255) (hq : q ≤ 255) (hz : z ≤ 255) (hf : f ≤ 255) (d o : ByteArray) (hd : d.size ≤ 600) (ho : o.size ≤ 600) (c : Ch) (hc : c.ok) :
    Calls Try.prog 7 #[.int .u8 (p : Int), .int .u8 (q : Int), .string d, .string o, .int .u8 (z : Int), .int .u8 (f : Int), .agg c.cells] w fun e w' => e = .returned (.bool true) ∧ Kept w w' := by
  obtain ⟨e2, he2⟩ : ∃ e2 : Bool, e2 = decide (z % 2 = 1) := ⟨_, rfl⟩
  obtain ⟨e3, he3⟩ : ∃ e3 : Bool, e3 = decide (0 < z % 3) := ⟨_, rfl⟩
  obtain ⟨wB, hwB⟩ : ∃ wB, wB = w.alloc (.cells c.cells 66) := ⟨_, rfl⟩
  obtain ⟨OB, hOB⟩ : ∃ OB : Int, OB = if e2 then (p : Int) + 2 else (p : Int) + 2 - 1 := ⟨_, rfl⟩
  obtain ⟨ON, hON⟩ : ∃ ON : Int, ON = if e2 then (q : Int) + 2 - 1 else (q : Int) + 2 := ⟨_, rfl⟩
  have hnX : num ((p : Int) + 2) ((q : Int) + 2) := ⟨by omega, by omega, by omega, by omega⟩
  have hold : OB < (p : Int) + 2 ∨ OB = (p : Int) + 2 ∧ ON ≠ (q : Int) + 2 := by rw [hOB, hON]; cases e2 <;> simp <;> omega
  have hnY : num OB ON := by rw [hOB, hON]; cases e2 <;> exact ⟨by simp; omega, by simp; omega, by simp; omega, by simp; omega⟩
  obtain ⟨N, hN⟩ : ∃ N, N = parts d.size := ⟨_, rfl⟩
  obtain ⟨M, hM⟩ : ∃ M, M = parts o.size := ⟨_, rfl⟩
  obtain ⟨X, hX⟩ : ∃ X, X = sec ((p : Int) + 2) ((q : Int) + 2) 2 d := ⟨_, rfl⟩
  obtain ⟨Y, hY⟩ : ∃ Y, Y = sec OB ON 2 o := ⟨_, rfl⟩
  have hN14 : N ≤ 14 := by rw [hN]; unfold parts; omega
  have hM14 : M ≤ 14 := by rw [hM]; unfold parts; omega
  have hX80 : ∀ i, i < N → (X i).size = 80 := fun i hi => by rw [hX]; exact sec_size hnX (by omega) (hN ▸ hi)
  have hY80 : ∀ i, i < M → (Y i).size = 80 := fun i hi => by rw [hY]; exact sec_size hnY (by omega) (hM ▸ hi)
  obtain ⟨t, ht⟩ : ∃ t, t = f % 16 := ⟨_, rfl⟩
  have ht16 : t < 16 := by omega
  obtain ⟨s0, hs0⟩ : ∃ s0, s0 = fresh 40 .idle := ⟨_, rfl⟩
  have ok0 : s0.ok := by rw [hs0]; exact ok_fresh (n := 40) (f := .idle) (by decide) (by decide) trivial
  obtain ⟨s1, hs1⟩ : ∃ s1, s1 = if e3 then (laid s0 t Y M).settled (fun _ => 80) else s0 := ⟨_, rfl⟩
  have e0 : s0.pend = [] ∧ s0.fu = .idle ∧ s0.n = 40 := by rw [hs0]; exact ⟨rfl, rfl, rfl⟩
  have e1 : s1.pend = [] ∧ s1.fu = .idle ∧ s1.n = 40 ∧ s1.ok ∧ ∀ i, Old ((p : Int) + 2) ((q : Int) + 2) (s1.dur i) := by
    have h0 : ∀ i, Old ((p : Int) + 2) ((q : Int) + 2) (s0.dur i) := fun i => by rw [hs0]; exact .zero
    rw [hs1]
    cases e3
    · exact ⟨e0.1, e0.2.1, e0.2.2, ok0, h0⟩
    · exact ⟨rfl, (laid_fu _ _ _ _).trans e0.2.1, (laid_n _ _ _ _).trans e0.2.2, (laid_ok ok0 (by rw [e0.2.2]; omega) hY80).settled (fun _ => Nat.le_refl _), by rw [hY, hM]; exact old_laid e0.1 hnY (by decide) (by omega) hold h0⟩
  obtain ⟨s2, hs2⟩ : ∃ s2, s2 = laid s1 4 X N := ⟨_, rfl⟩
  obtain ⟨s3, hs3⟩ : ∃ s3, s3 = s2.settled c.left := ⟨_, rfl⟩
  have ok2 : s2.ok := by rw [hs2]; exact laid_ok e1.2.2.2.1 (by rw [e1.2.2.1]; omega) hX80
  have ok3 : s3.ok := by rw [hs3]; exact ok2.settled c.left_le
  have n3 : s3.n = 40 := by rw [hs3, hs2]; exact (laid_n _ _ _ _).trans e1.2.2.1
  have f3 : s3.fu = .idle := by rw [hs3, hs2]; exact (laid_fu _ _ _ _).trans e1.2.1
  have look3 : s3.look = ((laid s1 4 (sec ((p : Int) + 2) ((q : Int) + 2) 2 d) (parts d.size)).settled c.left).dur := by
    rw [hs3, hs2, hX, hN]; funext i; rfl
  have hcr : ∀ r, rdOk s3.look 4 40 ((q : Int) + 2) ((p : Int) + 2) r → r = ⟨(p : Int) + 2, (q : Int) + 2, 0, (N : Int), 2, d⟩ := fun r hr => by
    rw [look3] at hr
    rw [hN]; exact crash_rec e1.1 c.left_le hnX (by decide) (by omega) (fun i _ => e1.2.2.2.2 i) hr
  have hkp : (∀ i, i < N → c.left i = 80) → rdOk s3.look 4 40 ((q : Int) + 2) ((p : Int) + 2) ⟨(p : Int) + 2, (q : Int) + 2, 0, (N : Int), 2, d⟩ := fun h => by
    rw [look3, hN]
    exact kept_rec e1.1 (fun i hi => h i (hN ▸ hi)) hnX (by decide) (by omega) (fun i _ => e1.2.2.2.2 i) (by rw [← hN]; omega)
  have nX : secE ((p : Int) + 2) ((q : Int) + 2) d = 0 ∧ nS ((p : Int) + 2) ((q : Int) + 2) d = N := by rw [hN]; exact secE_ok (by omega) hnX
  have nY : secE OB ON o = 0 ∧ nS OB ON o = M := by rw [hM]; exact secE_ok (by omega) hnY
  have hleft : (c.torn < 0 ∨ (N : Int) ≤ c.torn) ∧ keeps c.keep N = true → ∀ i, i < N → c.left i = 80 := fun ⟨h1, h2⟩ i hi => by
    unfold Ch.left
    rw [if_neg (by omega), if_pos (keeps_iff.mp h2 i hi)]
  obtain ⟨r, E, hrd, hres⟩ : ∃ (r : Fr) (E : Int), (∀ (F D : Nat) (L : List As) (W : World), Mem.Own wB (dk F D s3 :: L) W → Calls Try.prog 18 #[.pointer (some ⟨D, 0, none⟩), .int .i64 4, .int .i64 40, .int .i64 ((q : Int) + 2), .int .i64 ((p : Int) + 2)] W fun ed w' => ed = .returned (.tuple #[.agg #[.int .i64 r.boot, .int .i64 r.lsn, .int .i64 r.part, .int .i64 r.parts, .int .u8 (r.kind : Int), .string r.data], .int .i64 E]) ∧ Mem.Own wB (dk F D s3 :: L) w') ∧
      ((E = 0 ∧ r = ⟨(p : Int) + 2, (q : Int) + 2, 0, (N : Int), 2, d⟩) ∨ (E = 12 ∧ ¬ ∀ i, i < N → c.left i = 80)) := by
    by_cases h : ∃ r, rdOk s3.look 4 40 ((q : Int) + 2) ((p : Int) + 2) r
    · obtain ⟨r, hr⟩ := h
      exact ⟨r, 0, fun F D L W hW => o_fetch_ok hW 0 rfl ok3 f3 4 40 (by decide) (by rw [n3]; decide) _ _ r hr, .inl ⟨rfl, hcr r hr⟩⟩
    · exact ⟨Fr.nil, 12, fun F D L W hW => o_fetch_bad hW 0 rfl ok3 f3 4 40 (by decide) (by rw [n3]; decide) _ _ (fun r hr => h ⟨r, hr⟩), .inr ⟨rfl, fun hk => h ⟨_, hkp hk⟩⟩⟩
  have G : TG wB p q N M t OB ON d o X Y s0 s1 s2 s3 c r E := {
    csX := fun W h => by
      refine (o_secs h _ _ 2 d (by decide) (Nat.le_trans hd (by decide))).mono ?_
      rintro e w' ⟨ao, cap, he, hp⟩
      rw [nX.1, nX.2] at he
      rw [nX.2, ← hX] at hp
      exact ⟨ao, cap, he, hp⟩
    csY := fun ao cap W h => by
      refine (o_secs h _ _ 2 o (by decide) (Nat.le_trans ho (by decide))).mono ?_
      rintro e w' ⟨ao2, cap2, he, hp⟩
      rw [nY.1, nY.2] at he
      rw [nY.2, ← hY] at hp
      exact ⟨ao2, cap2, he, hp⟩
    hfn := fun L W h => (o_fnew h).mono fun e w' ⟨F, he, hk⟩ => ⟨F, he, hk.front⟩
    hnew := fun F L W h => by rw [hs0]; exact o_new h 0 rfl (n := 40) (by decide) (by decide)
    hwY := fun F D ao ao2 cap cap2 W h => o_put h 0 1 (by decide) rfl rfl e0.2.1 t (by rw [e0.2.2]; omega) (by rw [e0.2.2]; decide) hY80 (by rw [e0.1]; simp; omega)
    hsy := fun F D L W h => o_s0 h ((laid_fu _ _ _ _).trans e0.2.1)
    hwX := fun F D ao ao2 cap cap2 W h => by
      have := o_put h 0 2 (by decide) rfl rfl e1.2.1 4 (by rw [e1.2.2.1]; omega) (by rw [e1.2.2.1]; decide) hX80 (by rw [e1.1]; simp; omega)
      rw [← hs2] at this
      exact this
    hcrash := fun F D L W h => by
      have := o_crash h 0 rfl hc
      rw [← hs3] at this
      exact this
    hrd := hrd
    hres := hres.imp id fun ⟨h1, h2⟩ => ⟨h1, fun h => h2 (hleft h)⟩
    kept := fun W L h => h.kept }
  obtain ⟨keep, torn, bytes⟩ := c
  rw [hwB] at G
  exact torn_core w p q z f N M t (z % 3) hp hq hz hf hN14 hM14 e2 e3 OB ON d o hd ho X Y s0 s1 s2 s3 keep torn bytes hc r E (by rw [he2]; by_cases h : z % 2 = 1 <;> simp [h] <;> omega) (by omega) he3.symm (by omega) hOB hON (fun h => by rw [hs1, h]; rfl) (fun h => by rw [hs1, h]; rfl) G
theorem walk (w : World) (p : Nat) (hp : p ≤ 255) (q : Nat) (hq : q ≤ 255) (d : ByteArray) (hd : d.size ≤ maxLen) (o : ByteArray) (ho : o.size ≤ maxLen) (z : Nat) (hz : z ≤ 255) (f : Nat) (hf : f ≤ 255) (c : Ch) (hc : c.ok) :
    Calls Try.prog 7 #[.int .u8 (p : Int), .int .u8 (q : Int), .string d, .string o, .int .u8 (z : Int), .int .u8 (f : Int), .agg c.cells] w fun e w' => e = .returned (.bool true) ∧ Kept w w' := by
  by_cases h1 : 600 < d.size
  · exact long1 w p q z f d o c (by simp; omega)
  · by_cases h2 : 600 < o.size
    · exact long2 w p q z f d o c (by simp; omega) (by simp; omega)
    · exact main w p q z f hp hq hz hf d o (by omega) (by omega) c hc

set_option maxRecDepth 100000 in
theorem lifted (os : Os) (started : os.Started) (H : Type) (enc : TypeId × Value → H) :
    ReturnsInHanded {} Try.checked os 7 .any (Rows.recordTornSpec.pre6 enc Try.prog Try.f7 Rows.recordTornRow.domain false) (Rows.recordTornSpec.post enc Try.prog Try.f7 false true false false) := by
  refine returnsInHanded_of_change (C := Try.checked) own started (by kernel_rfl) Try.func7
    (ChangeSpec.witness6 (enc := enc) (C := Try.checked) false ⟨#[], #[.int .u8 0, .int .u8 0, .string ByteArray.empty, .string ByteArray.empty, .int .u8 0, .int .u8 0, .agg #[.int .u64 0, .int .i64 0, .int .i64 0]], []⟩ 8 (by kernel_rfl) (by kernel_rfl) (by kernel_rfl) (by kernel_rfl)) ?_
  intro W base args ds gs before hval0 hW hcnd _
  have hval : ∀ (j : Nat) t v, Try.f7.params[j]? = some t → args[j]? = some v → Value.okWide Try.prog W .any base t v := hval0
  have hW' := hW
  obtain ⟨p, q, hA0, hV, rfl, hfz, hnd⟩ := hW
  have hA : DataW.TrodAll enc Try.prog W 0 (fun _ => true) true Try.f7.params.toList args.toList ds p := hA0
  rw [Try.params7] at hA hval
  obtain ⟨v0, vs0, d0, ds0, p0, q0, hargs0, rfl, rfl, h0, r0⟩ := trodAll_cons hA
  obtain ⟨v1, vs1, d1, ds1, p1, q1, hargs1, rfl, rfl, h1, r1⟩ := trodAll_cons r0
  obtain ⟨v2, vs2, d2, ds2, p2, q2, hargs2, rfl, rfl, h2, r2⟩ := trodAll_cons r1
  obtain ⟨v3, vs3, d3, ds3, p3, q3, hargs3, rfl, rfl, h3, r3⟩ := trodAll_cons r2
  obtain ⟨v4, vs4, d4, ds4, p4, q4, hargs4, rfl, rfl, h4, r4⟩ := trodAll_cons r3
  obtain ⟨v5, vs5, d5, ds5, p5, q5, hargs5, rfl, rfl, h5, r5⟩ := trodAll_cons r4
  obtain ⟨v6, vs6, d6, ds6, p6, q6, hargs6, rfl, rfl, h6, r6⟩ := trodAll_cons r5
  obtain ⟨rfl, rfl, rfl⟩ := trodAll_nil r6
  obtain rfl : args = #[v0, v1, v2, v3, v4, v5, v6] := by cases args; simp_all
  obtain ⟨rfl, rfl⟩ := trodVars_none hV
  obtain ⟨n0, b0, e0⟩ := open_u8 (hval 0 5 v0 rfl rfl) h0
  obtain ⟨n1, b1, e1⟩ := open_u8 (hval 1 5 v1 rfl rfl) h1
  obtain ⟨n2, b2, e2⟩ := open_str (hval 2 9 v2 rfl rfl) h2
  obtain ⟨n3, b3, e3⟩ := open_str (hval 3 9 v3 rfl rfl) h3
  obtain ⟨n4, b4, e4⟩ := open_u8 (hval 4 5 v4 rfl rfl) h4
  obtain ⟨n5, b5, e5⟩ := open_u8 (hval 5 5 v5 rfl rfl) h5
  obtain ⟨n6, b6, e6⟩ := open_choice choice_struct (hval 6 66 v6 rfl rfl) h6
  clear hA0 hval0
  simp only [List.append_nil] at hW'
  have hlt0 : ∀ x ∈ p0, x.block < W.heap.size := fun x hx => hW'.lt x (by simp [hx])
  have hlt1 : ∀ x ∈ p1, x.block < W.heap.size := fun x hx => hW'.lt x (by simp [hx])
  have hlt2 : ∀ x ∈ p2, x.block < W.heap.size := fun x hx => hW'.lt x (by simp [hx])
  have hlt3 : ∀ x ∈ p3, x.block < W.heap.size := fun x hx => hW'.lt x (by simp [hx])
  have hlt4 : ∀ x ∈ p4, x.block < W.heap.size := fun x hx => hW'.lt x (by simp [hx])
  have hlt5 : ∀ x ∈ p5, x.block < W.heap.size := fun x hx => hW'.lt x (by simp [hx])
  have hlt6 : ∀ x ∈ p6, x.block < W.heap.size := fun x hx => hW'.lt x (by simp [hx])
  have hwalk := walk W n0 b0 n1 b1 n2 b2 n3 b3 n4 b4 n5 b5 n6 b6
  rw [← e0, ← e1, ← e2, ← e3, ← e4, ← e5, ← e6] at hwalk
  refine hwalk.mono fun e W' ⟨he, hg⟩ => ?_
  subst he
  exact ⟨_, rfl, _, _, _, [], _, [], hW', (trodAll_cons_mk (shut_bool Try.underlying4 _) trodAll_mk0), (trodAll_cons_mk (Below.trod laidOut (by kernel_rfl) (of_decide_eq_true (by kernel_rfl)) h0 hg hlt0) (trodAll_cons_mk (Below.trod laidOut (by kernel_rfl) (of_decide_eq_true (by kernel_rfl)) h1 hg hlt1) (trodAll_cons_mk (Below.trod laidOut (by kernel_rfl) (of_decide_eq_true (by kernel_rfl)) h2 hg hlt2) (trodAll_cons_mk (Below.trod laidOut (by kernel_rfl) (of_decide_eq_true (by kernel_rfl)) h3 hg hlt3) (trodAll_cons_mk (Below.trod laidOut (by kernel_rfl) (of_decide_eq_true (by kernel_rfl)) h4 hg hlt4) (trodAll_cons_mk (Below.trod laidOut (by kernel_rfl) (of_decide_eq_true (by kernel_rfl)) h5 hg hlt5) (trodAll_cons_mk (Below.trod laidOut (by kernel_rfl) (of_decide_eq_true (by kernel_rfl)) h6 hg hlt6) trodAll_mk0))))))), rfl, Below.frame hg _, fun h => by cases h⟩

theorem over : Rows.recordTornRow.holds Try.pinned (OpenSpec.ofChange Rows.recordTornSpec) :=
  OpenClaim.holds_of_wide 7 Try.f7 rfl rfl rfl rfl rfl rfl rfl ⟨rfl, rfl, rfl, rfl, rfl⟩ rfl rfl rfl rfl rfl (by kernel_rfl) Try.func7 (by kernel_rfl)
    (of_decide_eq_true (by kernel_rfl)) (by unfold Func.isWrapper; first | (rw [if_pos (by decide +kernel)]; kernel_rfl) | (rw [if_neg (by decide +kernel)]; exact ⟨rfl, rfl⟩))
    (fun os started H enc _ => lifted os started H enc)

/-- ████ THE STATEMENT ████ -/
theorem proved : Rows.RecordTornSaid :=
  over
#print axioms proved
end Go.Proofs.Ytakajeimlppmbaa.recordTorn
