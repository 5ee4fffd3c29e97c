/-
  PROVED: the statement 'RecordAloneSaid': for every input the law RecordAlone returns true, and each argument reads afterwards as it read before. No condition.
-/
import Derived.Test.YtakajeimlppmbaaGt
import Derived.Test.YtakajeimlppmbaaRows
import Derived.WalkKit
import Derived.Deep.RegionHeld3
import Derived.BigQuiet
import Derived.ProofKit
import Derived.OpenShut
import Derived.ShutString
namespace Go.Proofs.Ytakajeimlppmbaa.recordAlone
open Go.ChangeShapes Go.WideShapes Go.ChangeAt Go.RowKit
open Go.Proofs.Ytakajeimlppmbaa.Mem Go.Proofs.Ytakajeimlppmbaa.Pk Go.Proofs.Ytakajeimlppmbaa.Rc Go.Proofs.Ytakajeimlppmbaa.Fk Go.Proofs.Ytakajeimlppmbaa.Dz Go.Proofs.Ytakajeimlppmbaa.Fz
set_option linter.unusedVariables false

theorem own : ownKnob Try.prog.godebug = none := by kernel_rfl
theorem laidOut : laidOutB Try.prog = true := by kernel_rfl

/-- The first k bytes s, s + 1, .. -/
def addTo (s k : Nat) : List UInt8 := (List.range 80).map fun i => if i < k then UInt8.ofNat (s + i) else 0
def adds (s : Nat) : ByteArray := ⟨(addTo s 80).toArray⟩
theorem adds_size (s : Nat) : (adds s).size = 80 := by simp [adds, addTo, ByteArray.size]
theorem addTo_zero (s : Nat) : addTo s 0 = List.replicate 80 0 := by
  apply List.ext_getElem
  · simp [addTo]
  · intro i h1 h2; rw [List.getElem_replicate]; simp [addTo]
theorem addTo_succ (s k : Nat) : (addTo s k).set k (UInt8.ofNat (s + k)) = addTo s (k + 1) := by
  apply List.ext_getElem
  · simp [addTo]
  · intro i h1 h2
    rw [List.getElem_set]
    by_cases e : k = i
    · subst e; simp [addTo]
    · have : i < k + 1 ↔ i < k := by omega
      simp [addTo, e, this]
theorem addTo_len (s k : Nat) : (addTo s k).length = 80 := by simp [addTo]
/-- They are the sector of no frame. -/
theorem adds_none (s : Nat) : dec (adds s) = none := by
  cases h : dec (adds s) with
  | none => rfl
  | some c =>
    exfalso
    obtain ⟨g, _, e⟩ := dec_some h
    have e2 : addTo s 80 = c.sec := by
      have h0 : (adds s).data.toList = addTo s 80 := by simp [adds]
      rw [← h0, e]; exact list_str c.sec
    have h1 := sec_take c
    have h2 := sec_drop g.short
    rw [← e2] at h1 h2
    rw [← h2] at h1
    have h3 := congrArg (fun l => l[0]?) h1
    simp [addTo] at h3
theorem alone_bad {S : Nat → ByteArray} {d : ByteArray} {j : Nat} (hd : d.size ≤ 400) (hj : j < parts d.size) (hP : dec (S (10 + j)) = none) (hS : ∀ i, i < parts d.size → i ≠ j → S (10 + i) = sec 5 6 1 d i) (u : Nat) (r : Fr) : ¬ rdOk S 10 u 6 5 r := by
  intro hr
  have hp := parts_pos r.data.size
  have hn : num 5 6 := ⟨by decide, by decide, by decide, by decide⟩
  have h0 := rd_blank hr hp
  by_cases e : j = 0
  · subst e; rw [hP] at h0; cases h0
  · have hq := parts_pos d.size
    rw [hS 0 hq (fun h => e h.symm), sec_dec hn (by decide) (by omega) hq] at h0
    have e4 : (parts d.size : Int) = (parts r.data.size : Int) := congrArg Fr.parts (Option.some.inj h0)
    have hb := rd_blank hr (i := j) (by omega)
    rw [hP] at hb
    cases hb
structure AG (w : World) (K N : Nat) (d P : ByteArray) (s1 s2 : Ds) (r : Fr) (E : Int) : Prop where
  cs : ∀ (W : World), Mem.Own w [] W → Calls Try.prog 13 #[.int .i64 5, .int .i64 6, .int .u8 1, .string d] W fun e w' => ∃ ao cap, e = .returned (.tuple #[.slice ao N cap, .int .i64 0]) ∧ ∃ X, Mem.Own w [secA (.slice ao N cap) N X] w' ∧ ∀ (F D : Nat) (W : World), Mem.Own w [dk F D (fresh 30 .idle), secA (.slice ao N cap) N X] W → Calls Try.prog 28 #[.pointer (some ⟨D, 0, none⟩), .int .i64 10, .slice ao N cap] W fun e w' => e = .returned (.bool true) ∧ Mem.Own w [dk F D s1, secA (.slice ao N cap) N X] w'
  hfn : ∀ (L : List As) (W : World), Mem.Own w L W → Calls Try.prog 27 #[] W fun e w' => ∃ F, e = .returned (.pointer (some ⟨F, 0, none⟩)) ∧ Mem.Own w (fzA F .idle :: L) w'
  hnew : ∀ (F : Nat) (L : List As) (W : World), Mem.Own w (fzA F .idle :: L) W → Calls Try.prog 26 #[.int .i64 30, .pointer (some ⟨F, 0, none⟩)] W fun e w' => ∃ D, e = .returned (.tuple #[.pointer (some ⟨D, 0, none⟩), .int .i64 0]) ∧ Mem.Own w (dk F D (fresh 30 .idle) :: L) w'
  hwr : ∀ (F D : Nat) (L : List As) (W : World), Mem.Own w (dk F D s1 :: L) W → Calls Try.prog 22 #[.pointer (some ⟨D, 0, none⟩), .int .i64 (K : Int), .string P] W fun e w' => e = .returned (.int .i64 0) ∧ Mem.Own w (dk F D s2 :: L) w'
  hrd : ∀ (F D : Nat) (L : List As) (W : World), Mem.Own w (dk F D s2 :: L) W → Calls Try.prog 18 #[.pointer (some ⟨D, 0, none⟩), .int .i64 10, .int .i64 (10 + (N : Int)), .int .i64 6, .int .i64 5] W fun ed w' => ed = .returned (.tuple #[.agg #[.int .i64 r.boot, .int .i64 r.lsn, .int .i64 r.part, .int .i64 r.parts, .int .u8 (r.kind : Int), .string r.data], .int .i64 E]) ∧ Mem.Own w (dk F D s2 :: L) w'
set_option maxHeartbeats 4000000 in
set_option maxRecDepth 100000 in
theorem core (w : World) (d : ByteArray) (hd : d.size ≤ 400) (i seed K N : Nat) (hi : i ≤ 255) (hs : seed ≤ 255) (hK : (i : Int) % 30 = (K : Int)) (hK30 : K < 30) (hN : 1 ≤ N) (hN10 : N ≤ 10) (s1 s2 : Ds) (r : Fr) (E : Int) (G : AG w K N d (adds seed) s1 s2 r E)
    (hres : ((10 ≤ K ∧ K < 10 + N) ∧ E = 12) ∨ ((K < 10 ∨ (10 ≤ K ∧ 10 + N ≤ K)) ∧ E = 0 ∧ r = ⟨5, 6, 0, (N : Int), 1, d⟩)) :
    Calls Try.prog 8 #[.string d, .int .u8 (i : Int), .int .u8 (seed : Int)] w fun e w' => e = .returned (.bool true) ∧ Kept w w' := by
  have hkn : ∀ W, Calls Try.prog 10 #[] W fun e w' => e = .returned (.bool true) ∧ Kept W w' := Rc.known_c
  have t1 : decide (400 < (d.size : Int)) = false := by simp; omega
  have tK : (i : Int).tmod 30 = (K : Int) := by rw [Int.tmod_eq_emod_of_nonneg (by omega)]; exact hK
  have hm := make_80
  have HG := Lib.hid G
  have p0 := Mem.Own.nil w
  clear G
  rcases hres with ⟨⟨h1, h2⟩, rfl⟩ | ⟨h1 | ⟨h1, h2⟩, rfl, rfl⟩
  all_goals
   go_enter Try.func8, Try.ntmps8
   go_wp2_with (first
    | (go_at_call 13; (with_reducible refine (HG.out.cs _ p0).mono ?_); rintro e u1 ⟨ao, cap, rfl, X, p1, hw1⟩; have HW := Lib.hid hw1; clear p0 hw1)
    | (go_at_call 27; refine (HG.out.hfn _ _ p1).mono ?_; rintro e u3 ⟨F, rfl, p3⟩; clear p1)
    | (go_at_call 26; refine (HG.out.hnew _ _ _ p3).mono ?_; rintro e u4 ⟨D, rfl, p4⟩; clear p3)
    | (go_at_call 28; (with_reducible refine (HW.out _ _ _ p4).mono ?_); rintro e u5 ⟨rfl, p5⟩; have P5 := Lib.hid p5; clear p4 p5))
   have hst : Row u5 u5.heap.size (addTo seed 0) (u5.alloc (.cells (Array.replicate 80 (.int .u8 0)) 5)) := by rw [addTo_zero]; exact zero_row u5
   go_loopw [13] (fun v wr => ∃ k : Nat, k ≤ 80 ∧ v = .int .i64 k ∧ Row u5 u5.heap.size (addTo seed k) wr) (fun v _ => 80 - (intOf v).toNat)
   case atStart => exact ⟨0, by omega, rfl, hst⟩
   case round =>
    clear hst
    obtain ⟨k, hk, rfl, hr⟩ := hrel
    by_cases hlt : k < 80
    · obtain ⟨⟨v, hc⟩, hf⟩ := hr.at k (by rw [addTo_len]; exact hlt)
      have Hr := Lib.hid hr
      clear hr
      go_wp2
      go_roundw
      case rel =>
        refine ⟨k + 1, by omega, by go_num, ?_⟩
        rw [← addTo_succ]
        exact Hr.out.set k _ (by rw [UInt8.toNat_ofNat']; omega) (by rw [addTo_len]; exact hlt)
      case measure => simp [intOf]; omega
    · obtain rfl : k = 80 := by omega
      have hstr := hr.str 80 80 (by rw [addTo_len]; exact Nat.le_refl _)
      rw [List.take_of_length_le (by rw [addTo_len]; exact Nat.le_refl _)] at hstr
      have P6 := Lib.hid (P5.out.later hr.keptOf)
      obtain ⟨PP, hPP⟩ : ∃ PP, PP = adds seed := ⟨_, rfl⟩
      have hPP2 : PP = ⟨(addTo seed 80).toArray⟩ := hPP
      rw [← hPP2] at hstr
      have hwr := HG.out.hwr
      rw [← hPP] at hwr
      have HWR := Lib.hid hwr
      clear hr hPP hPP2 hwr
      go_wp2_with (first
        | (go_at_call 22; (with_reducible refine (HWR.out _ _ _ _ P6.out).mono ?_); rintro e u8 ⟨rfl, p8⟩; have P8 := Lib.hid p8; clear p8)
        | (go_at_call 18; (with_reducible refine (HG.out.hrd _ _ _ _ P8.out).mono ?_); rintro e u9 ⟨rfl, p9⟩; have P9 := Lib.hid p9; clear p9)
        | (go_at_call 10; (with_reducible refine (hkn _).mono ?_); rintro e u10 ⟨rfl, k10⟩))
      go_ret
      exact ⟨rfl, (P9.out.kept.alloc _).trans k10⟩
set_option maxRecDepth 100000 in
theorem long (w : World) (d : ByteArray) (hz : d.size ≤ maxLen) (h : 400 < d.size) (i seed : Nat) :
    Calls Try.prog 8 #[.string d, .int .u8 (i : Int), .int .u8 (seed : Int)] w fun e w' => e = .returned (.bool true) ∧ Kept w w' := by
  have hkn : ∀ W, Calls Try.prog 10 #[] W fun e w' => e = .returned (.bool true) ∧ Kept W w' := Rc.known_c
  have t1 : decide (400 < (d.size : Int)) = true := by simp; omega
  have cs : ∀ (W : World), Calls Try.prog 13 #[.int .i64 5, .int .i64 6, .int .u8 1, .string d] W fun e w' => ∃ v E, e = .returned (.tuple #[v, .int .i64 E]) ∧ Kept W w' := fun W => (sectors_c 5 6 1 d (by decide) hz W).mono fun e w' ⟨v, he, _, hk⟩ => ⟨v, _, he, hk⟩
  clear hz h
  go_enter Try.func8, Try.ntmps8
  go_wp2_with (first
    | (go_at_call 13; (with_reducible refine (cs _).mono ?_); rintro e u1 ⟨v, E, rfl, k1⟩)
    | (go_at_call 10; (with_reducible refine (hkn _).mono ?_); rintro e u10 ⟨rfl, k10⟩))
  go_ret
  exact ⟨rfl, k1.trans k10⟩
set_option maxHeartbeats 1000000 in
theorem walk (w : World) (d : ByteArray) (hd : d.size ≤ maxLen) (i : Nat) (hi : i ≤ 255) (seed : Nat) (hs : seed ≤ 255) :
    Calls Try.prog 8 #[.string d, .int .u8 (i : Int), .int .u8 (seed : Int)] w fun e w' => e = .returned (.bool true) ∧ Kept w w' := by
  by_cases h4 : 400 < d.size
  · exact long w d hd h4 i seed
  · have h4 : d.size ≤ 400 := by omega
    have hn : num 5 6 := ⟨by decide, by decide, by decide, by decide⟩
    obtain ⟨K, hK⟩ : ∃ K, K = i % 30 := ⟨_, rfl⟩
    have hK30 : K < 30 := by omega
    obtain ⟨N, hN⟩ : ∃ N, N = parts d.size := ⟨_, rfl⟩
    have hN1 : 1 ≤ N := hN ▸ parts_pos _
    have hN10 : N ≤ 10 := by rw [hN]; unfold parts; omega
    obtain ⟨X, hX⟩ : ∃ X, X = sec 5 6 1 d := ⟨_, rfl⟩
    have hX80 : ∀ i, i < N → (X i).size = 80 := fun i hi => by rw [hX]; exact sec_size hn (by omega) (hN ▸ hi)
    obtain ⟨s1, hs1⟩ : ∃ s1, s1 = laid (fresh 30 .idle) 10 X N := ⟨_, rfl⟩
    obtain ⟨s2, hs2⟩ : ∃ s2, s2 = s1.wrote K (adds seed) := ⟨_, rfl⟩
    have ok1 : s1.ok := by rw [hs1]; exact laid_ok (ok_fresh (n := 30) (f := .idle) (by decide) (by decide) trivial) (by show 10 + N ≤ 30; omega) hX80
    have n1 : s1.n = 30 := by rw [hs1]; exact laid_n _ _ _ _
    have f1 : s1.fu = .idle := by rw [hs1]; exact laid_fu _ _ _ _
    have ok2 : s2.ok := by rw [hs2]; exact ok1.wrote (by rw [n1]; exact hK30) (adds_size _)
    have n2 : s2.n = 30 := by rw [hs2]; exact n1
    have f2 : s2.fu = .idle := by rw [hs2]; exact f1
    have look2 : ∀ j, s2.look j = if j = K then adds seed else if 10 ≤ j ∧ j < 10 + N then X (j - 10) else (fresh 30 .idle).look j := fun j => by
      rw [hs2, look_wrote, hs1, laid_look]
    have nX : secE 5 6 d = 0 ∧ nS 5 6 d = N := by rw [hN]; exact secE_ok (by omega) hn
    have hu : ((10 + N : Nat) : Int) = 10 + (N : Int) := by omega
    obtain ⟨r, E, hrd, hres⟩ : ∃ (r : Fr) (E : Int), (∀ (F D : Nat) (L : List As) (W : World), Mem.Own w (dk F D s2 :: L) W → Calls Try.prog 18 #[.pointer (some ⟨D, 0, none⟩), .int .i64 10, .int .i64 (10 + (N : Int)), .int .i64 6, .int .i64 5] W fun ed w' => ed = .returned (.tuple #[.agg #[.int .i64 r.boot, .int .i64 r.lsn, .int .i64 r.part, .int .i64 r.parts, .int .u8 (r.kind : Int), .string r.data], .int .i64 E]) ∧ Mem.Own w (dk F D s2 :: L) w') ∧
        (((10 ≤ K ∧ K < 10 + N) ∧ E = 12) ∨ ((K < 10 ∨ (10 ≤ K ∧ 10 + N ≤ K)) ∧ E = 0 ∧ r = ⟨5, 6, 0, (N : Int), 1, d⟩)) := by
      by_cases hin : 10 ≤ K ∧ K < 10 + N
      · refine ⟨Fr.nil, 12, fun F D L W hW => ?_, .inl ⟨hin, rfl⟩⟩
        have := o_fetch_bad hW 0 rfl ok2 f2 10 (10 + N) (by omega) (by rw [n2]; omega) 6 5 (alone_bad (j := K - 10) h4 (by omega) (by rw [look2, if_pos (by omega)]; exact adds_none seed) (fun i hi hne => by rw [look2, if_neg (by omega), if_pos (by omega), hX]; congr 1; omega) _)
        rw [hu] at this
        exact this
      · refine ⟨⟨5, 6, 0, (N : Int), 1, d⟩, 0, fun F D L W hW => ?_, .inr ⟨by omega, rfl, rfl⟩⟩
        have hr : rdOk s2.look 10 (10 + N) 6 5 ⟨5, 6, 0, parts d.size, 1, d⟩ := rd_written hn (by decide) (by omega) (fun i hi => by
          rw [look2, if_neg (by omega), if_pos (by omega), hX]; congr 1; omega) (Int.le_refl _) (by omega)
        have := o_fetch_ok hW 0 rfl ok2 f2 10 (10 + N) (by omega) (by rw [n2]; omega) 6 5 _ hr
        rw [hu, ← hN] at this
        exact this
    refine core w d h4 i seed K N hi hs (by omega) hK30 hN1 hN10 s1 s2 r E {
      cs := fun W h => by
        refine (o_secs h 5 6 1 d (by decide) hd).mono ?_
        rintro e w' ⟨ao, cap, he, hp⟩
        rw [nX.1, nX.2] at he
        rw [nX.2, ← hX] at hp
        refine ⟨ao, cap, he, X, hp, fun F D W hW => ?_⟩
        have := o_put hW 0 1 (by decide) rfl rfl rfl 10 (by show 10 + N ≤ 30; omega) (by decide) hX80 (by show 0 + N < _; omega)
        rw [← hs1] at this
        exact this
      hfn := fun L W h => (o_fnew h).mono fun e w' ⟨F, he, hk⟩ => ⟨F, he, hk.front⟩
      hnew := fun F L W h => o_new h 0 rfl (n := 30) (by decide) (by decide)
      hwr := fun F D L W h => by
        have := o_w0 h f1 (by rw [hs1, laid_len]; show 0 + N < _; omega) (k := K) (by rw [n1]; exact hK30) (adds_size seed)
        rw [← hs2] at this
        exact this
      hrd := hrd } hres

set_option maxRecDepth 100000 in
theorem lifted (os : Os) (started : os.Started) (H : Type) (enc : TypeId × Value → H) :
    ReturnsInHanded {} Try.checked os 8 .any (Rows.recordAloneSpec.pre6 enc Try.prog Try.f8 Rows.recordAloneRow.domain false) (Rows.recordAloneSpec.post enc Try.prog Try.f8 false true false false) := by
  refine returnsInHanded_of_change (C := Try.checked) own started (by kernel_rfl) Try.func8
    (ChangeSpec.witness6 (enc := enc) (C := Try.checked) false ⟨#[], #[.string ByteArray.empty, .int .u8 0, .int .u8 0], []⟩ 8 (by kernel_rfl) (by kernel_rfl) (by kernel_rfl) (by kernel_rfl)) ?_
  intro W base args ds gs before hval0 hW hcnd _
  have hval : ∀ (j : Nat) t v, Try.f8.params[j]? = some t → args[j]? = some v → Value.okWide Try.prog W .any base t v := hval0
  have hW' := hW
  obtain ⟨p, q, hA0, hV, rfl, hfz, hnd⟩ := hW
  have hA : DataW.TrodAll enc Try.prog W 0 (fun _ => true) true Try.f8.params.toList args.toList ds p := hA0
  rw [Try.params8] at hA hval
  obtain ⟨v0, vs0, d0, ds0, p0, q0, hargs0, rfl, rfl, h0, r0⟩ := trodAll_cons hA
  obtain ⟨v1, vs1, d1, ds1, p1, q1, hargs1, rfl, rfl, h1, r1⟩ := trodAll_cons r0
  obtain ⟨v2, vs2, d2, ds2, p2, q2, hargs2, rfl, rfl, h2, r2⟩ := trodAll_cons r1
  obtain ⟨rfl, rfl, rfl⟩ := trodAll_nil r2
  obtain rfl : args = #[v0, v1, v2] := by cases args; simp_all
  obtain ⟨rfl, rfl⟩ := trodVars_none hV
  obtain ⟨n0, b0, e0⟩ := open_str (hval 0 9 v0 rfl rfl) h0
  obtain ⟨n1, b1, e1⟩ := open_u8 (hval 1 5 v1 rfl rfl) h1
  obtain ⟨n2, b2, e2⟩ := open_u8 (hval 2 5 v2 rfl rfl) h2
  clear hA0 hval0
  simp only [List.append_nil] at hW'
  have hlt0 : ∀ x ∈ p0, x.block < W.heap.size := fun x hx => hW'.lt x (by simp [hx])
  have hlt1 : ∀ x ∈ p1, x.block < W.heap.size := fun x hx => hW'.lt x (by simp [hx])
  have hlt2 : ∀ x ∈ p2, x.block < W.heap.size := fun x hx => hW'.lt x (by simp [hx])
  have hwalk := walk W n0 b0 n1 b1 n2 b2
  rw [← e0, ← e1, ← e2] at hwalk
  refine hwalk.mono fun e W' ⟨he, hg⟩ => ?_
  subst he
  exact ⟨_, rfl, _, _, _, [], _, [], hW', (trodAll_cons_mk (shut_bool Try.underlying4 _) trodAll_mk0), (trodAll_cons_mk (Below.trod laidOut (by kernel_rfl) (of_decide_eq_true (by kernel_rfl)) h0 hg hlt0) (trodAll_cons_mk (Below.trod laidOut (by kernel_rfl) (of_decide_eq_true (by kernel_rfl)) h1 hg hlt1) (trodAll_cons_mk (Below.trod laidOut (by kernel_rfl) (of_decide_eq_true (by kernel_rfl)) h2 hg hlt2) trodAll_mk0))), rfl, Below.frame hg _, fun h => by cases h⟩

theorem over : Rows.recordAloneRow.holds Try.pinned (OpenSpec.ofChange Rows.recordAloneSpec) :=
  OpenClaim.holds_of_wide 8 Try.f8 rfl rfl rfl rfl rfl rfl rfl ⟨rfl, rfl, rfl, rfl, rfl⟩ rfl rfl rfl rfl rfl (by kernel_rfl) Try.func8 (by kernel_rfl)
    (of_decide_eq_true (by kernel_rfl)) (by unfold Func.isWrapper; first | (rw [if_pos (by decide +kernel)]; kernel_rfl) | (rw [if_neg (by decide +kernel)]; exact ⟨rfl, rfl⟩))
    (fun os started H enc _ => lifted os started H enc)

/-- ████ THE STATEMENT ████ -/
theorem proved : Rows.RecordAloneSaid :=
  over
#print axioms proved
end Go.Proofs.Ytakajeimlppmbaa.recordAlone
