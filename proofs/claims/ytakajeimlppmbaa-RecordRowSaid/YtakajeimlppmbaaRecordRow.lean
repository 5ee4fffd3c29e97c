/-
  PROVED: the statement 'RecordRowSaid': for every input the law RecordRow returns true, and each argument reads afterwards as it read before. No condition.
-/
import Derived.Test.YtakajeimlppmbaaGx
import Derived.Test.YtakajeimlppmbaaRows
import Derived.WalkKit
import Derived.Deep.RegionHeld3
import Derived.BigQuiet
import Derived.ProofKit
import Derived.OpenShut
import Derived.ShutString
namespace Go.Proofs.Ytakajeimlppmbaa.recordRow
open Go.ChangeShapes Go.WideShapes Go.ChangeAt Go.RowKit
open Go.Proofs.Ytakajeimlppmbaa.Mem Go.Proofs.Ytakajeimlppmbaa.Pk Go.Proofs.Ytakajeimlppmbaa.Rc Go.Proofs.Ytakajeimlppmbaa.Fk Go.Proofs.Ytakajeimlppmbaa.Dz Go.Proofs.Ytakajeimlppmbaa.Fz
set_option linter.unusedVariables false

theorem own : ownKnob Try.prog.godebug = none := by kernel_rfl
theorem laidOut : laidOutB Try.prog = true := by kernel_rfl

set_option maxRecDepth 100000 in
theorem long (w : World) (ao : Option Addr) (len cap : Nat) (h : 12 < len) (g q : Nat) :
    Calls Try.prog 9 #[.slice ao len cap, .int .u16 (g : Int), .int .u8 (q : Int)] w fun e w' => e = .returned (.bool true) ∧ Kept w w' := by
  have hkn : ∀ W, Calls Try.prog 10 #[] W fun e w' => e = .returned (.bool true) ∧ Kept W w' := Rc.known_c
  have t1 : decide (12 < (len : Int)) = true := by simp; omega
  have t2 : decide (12 < len) = true := by simp; omega
  clear h
  go_enter Try.func9, Try.ntmps9
  go_wp2_with (go_at_call 10; (with_reducible refine (hkn _).mono ?_); rintro e u10 ⟨rfl, k10⟩)
  go_ret
  exact ⟨rfl, k10⟩
set_option maxHeartbeats 8000000 in
set_option maxRecDepth 100000 in
theorem core (w : World) (ao : Option Addr) (len cap : Nat) (X : Nat → ByteArray) (h12 : len ≤ 12) (hX : ∀ i, i < len → ∃ b off, ao = some ⟨b, off, none⟩ ∧ b < w.heap.size ∧ w.cell? ⟨b, off + i, none⟩ = some (.string (X i))) (hXm : ∀ i, i < len → (X i).size ≤ maxLen) (g q : Nat) (hg : g ≤ 65535) (hq : q ≤ 255) :
    Calls Try.prog 9 #[.slice ao len cap, .int .u16 (g : Int), .int .u8 (q : Int)] w fun e w' => e = .returned (.bool true) ∧ Kept w w' := by
  have hkn : ∀ W, Calls Try.prog 10 #[] W fun e w' => e = .returned (.bool true) ∧ Kept W w' := Rc.known_c
  have t1 : decide (12 < (len : Int)) = false := by simp; omega
  have t2 : decide (12 < len) = false := by simp; omega
  have hq1 : (1 : Int) ≤ (q : Int) + 1 ∧ (q : Int) + 1 ≤ 1000 := by omega
  have hfn : Calls Try.prog 27 #[] w fun e w' => ∃ F, e = .returned (.pointer (some ⟨F, 0, none⟩)) ∧ Mem.Own w [fzA F .idle] w' := o_fnew (Mem.Own.nil w)
  have hnew : ∀ (F : Nat) (W : World), Mem.Own w [fzA F .idle] W → Calls Try.prog 26 #[.int .i64 80, .pointer (some ⟨F, 0, none⟩)] W fun e w' => ∃ D, e = .returned (.tuple #[.pointer (some ⟨D, 0, none⟩), .int .i64 0]) ∧ Mem.Own w [dk F D (rowR X g ((q : Int) + 1) 0)] w' := fun F W h => o_new h 0 rfl (n := 80) (by decide) (by decide)
  go_enter Try.func9, Try.ntmps9
  go_wp2_with (first
    | (go_at_call 27; refine hfn.mono ?_; rintro e u1 ⟨F, rfl, p1⟩)
    | (go_at_call 26; refine (hnew _ _ p1).mono ?_; rintro e u2 ⟨D, rfl, p2⟩; clear p1))
  go_loopw [9, 10, 11] (fun a b v wr => ∃ k : Nat, k ≤ len ∧ (∀ i, i < k → (X i).size ≤ 200) ∧ a = .int .i64 (rowA X k : Int) ∧ b = .int .i64 (rowB g k : Int) ∧ v = .int .i64 k ∧ Mem.Own w [dk F D (rowR X g ((q : Int) + 1) k)] wr) (fun _ _ v _ => len - (intOf v).toNat)
  case atStart => exact ⟨0, by omega, fun i h => absurd h (by omega), rfl, rfl, rfl, p2⟩
  case round =>
    clear p2 hnew hfn
    obtain ⟨k, hk, hs, rfl, rfl, rfl, hp⟩ := hrel
    by_cases hlt : k < len
    · obtain ⟨b, off, rfl, hb, hc⟩ := hX k hlt
      have c0 : wr.cell? ⟨b, off + k, none⟩ = some (.string (X k)) := (hp.kept.cell hb).trans hc
      by_cases hlong : 200 < (X k).size
      · have t3 : decide (200 < ((X k).size : Int)) = true := by simp; omega
        have P := Lib.hid hp
        clear hp hc hX hXm
        go_wp2_with (go_at_call 10; (with_reducible refine (hkn _).mono ?_); rintro e u10 ⟨rfl, k10⟩)
        go_ret
        exact ⟨rfl, P.out.kept.trans k10⟩
      · have t3 : decide (200 < ((X k).size : Int)) = false := by simp; omega
        have R := row_ok hq1 (x := X) (g := g) (k := k) (by omega) hs
        have hA := rowA_le (x := X) (k := k) hs
        have hB := rowB_le g k
        obtain ⟨N, hN⟩ : ∃ N, N = parts (X k).size := ⟨_, rfl⟩
        have hN5 : N ≤ 5 := by rw [hN]; unfold parts; omega
        have hn := row_num (g := g) hq1 (k := k) (by omega)
        obtain ⟨e1, e2⟩ := secE_ok (d := X k) (by omega) hn
        rw [← hN] at e2
        have hnext : rowR X g ((q : Int) + 1) (k + 1) = laid (rowR X g ((q : Int) + 1) k) (rowA X k) (sec (rowB g k) ((q : Int) + 1 + k) 2 (X k)) N := by rw [hN]; rfl
        have hA1 : ((rowA X (k + 1) : Nat) : Int) = (rowA X k : Int) + (N : Int) := by rw [hN]; show ((rowA X k + parts (X k).size : Nat) : Int) = _; omega
        obtain ⟨C, hC⟩ : ∃ C, C = (g / 2 ^ k) % 2 := ⟨_, rfl⟩
        have hB1 : ((rowB g (k + 1) : Nat) : Int) = (rowB g k : Int) + (C : Int) := by rw [hC]; show ((rowB g k + (g / 2 ^ k) % 2 : Nat) : Int) = _; omega
        have cs : ∀ (W : World), Mem.Own w [dk F D (rowR X g ((q : Int) + 1) k)] W → Calls Try.prog 13 #[.int .i64 (rowB g k : Int), .int .i64 ((q : Int) + 1 + (k : Int)), .int .u8 2, .string (X k)] W fun e w' => ∃ ao cap, e = .returned (.tuple #[.slice ao N cap, .int .i64 0]) ∧ Mem.Own w [secA (.slice ao N cap) N (sec (rowB g k) ((q : Int) + 1 + k) 2 (X k)), dk F D (rowR X g ((q : Int) + 1) k)] w' := fun W h => by
          refine (o_secs h _ _ 2 (X k) (by decide) (hXm k hlt)).mono ?_
          rintro e w' ⟨ao, cap, he, hp⟩
          rw [e1, e2] at he
          rw [e2] at hp
          exact ⟨ao, cap, he, hp⟩
        have cw : ∀ (ao : Option Addr) (cap : Nat) (W : World), Mem.Own w [secA (.slice ao N cap) N (sec (rowB g k) ((q : Int) + 1 + k) 2 (X k)), dk F D (rowR X g ((q : Int) + 1) k)] W → Calls Try.prog 28 #[.pointer (some ⟨D, 0, none⟩), .int .i64 (rowA X k : Int), .slice ao N cap] W fun e w' => e = .returned (.bool true) ∧ Mem.Own w [dk F D (rowR X g ((q : Int) + 1) (k + 1))] w' := fun ao cap W h => by
          refine (o_put h 1 0 (by decide) rfl rfl R.fu (rowA X k) (by rw [R.n]; omega) (by rw [R.n]; decide) (fun i hi => sec_size hn (by omega) (by omega)) (by rw [R.len]; omega)).mono ?_
          rintro e w' ⟨he, hp⟩
          rw [hnext]
          exact ⟨he, hp.tail⟩
        have hs' : ∀ i, i < k + 1 → (X i).size ≤ 200 := fun i hi => by
          by_cases e : i = k
          · rw [e]; omega
          · exact hs i (by omega)
        have hbits : bits .and .u16 ((g : Int) / 2 ^ k) 1 = (C : Int) := by
          have e : (g : Int) / 2 ^ k = ((g / 2 ^ k : Nat) : Int) := by simp
          have hd : g / 2 ^ k ≤ g := Nat.div_le_self _ _
          have h1 : (1 : Int) = ((1 : Nat) : Int) := rfl
          rw [e, h1, u16_and_nat _ _ (by omega) (by decide), Nat.and_one_is_mod, ← hC]
        have hC1 : C ≤ 1 := by omega
        obtain ⟨A0, hA0⟩ : ∃ A0, A0 = rowA X k := ⟨_, rfl⟩
        obtain ⟨B0, hB0⟩ : ∃ B0, B0 = rowB g k := ⟨_, rfl⟩
        have hA60 : A0 ≤ 60 := by omega
        have hB60 : B0 ≤ 60 := by omega
        rw [← hB0] at cs cw hB1
        rw [← hA0] at cw hA1
        have CS := Lib.hid cs
        have CW := Lib.hid cw
        have HS := Lib.hid hs'
        have HAB := Lib.hid (And.intro hA1 hB1)
        have P := Lib.hid hp
        simp only [← hA0, ← hB0]
        obtain ⟨XK, hXK⟩ : ∃ XK, XK = X k := ⟨_, rfl⟩
        have CS2 := CS.out
        have CW2 := CW.out
        rw [← hXK] at CS2 CW2 c0 t3
        have CS3 := Lib.hid CS2
        have CW3 := Lib.hid CW2
        clear CS2 CW2 hXK
        clear hp hc hX hXm cs cw hs' hnext hA1 hB1 e1 e2 hn R hs hA hB hN hA0 hB0 hC
        go_wp2_with (first
          | (go_at_call 13; (with_reducible refine (CS3.out _ P.out).mono ?_); rintro e u1 ⟨ao, cap, rfl, p1⟩)
          | (go_at_call 28; (with_reducible refine (CW3.out _ _ _ p1).mono ?_); rintro e u2 ⟨rfl, p2⟩; have P2 := Lib.hid p2; clear p2))
        go_roundw
        case rel => exact ⟨k + 1, by omega, HS.out, by rw [HAB.out.1], by rw [HAB.out.2], by go_num, P2.out⟩
        case measure => simp [intOf]; omega
    · obtain rfl : k = len := by omega
      have R := row_ok hq1 (x := X) (g := g) (k := k) (by omega) hs
      have hA := rowA_le (x := X) (k := k) hs
      obtain ⟨AE, hAE⟩ : ∃ AE, AE = rowA X k := ⟨_, rfl⟩
      have hAE60 : AE ≤ 60 := by omega
      have crd : ∀ (j : Nat) (W : World), j < k → Mem.Own w [dk F D (rowR X g ((q : Int) + 1) k)] W → Calls Try.prog 18 #[.pointer (some ⟨D, 0, none⟩), .int .i64 (rowA X j : Int), .int .i64 (AE : Int), .int .i64 ((q : Int) + 1 + (j : Int)), .int .i64 (rowC g j : Int)] W fun ed w' => ed = .returned (.tuple #[.agg #[.int .i64 (rowB g j : Int), .int .i64 ((q : Int) + 1 + (j : Int)), .int .i64 0, .int .i64 (parts (X j).size : Int), .int .u8 2, .string (X j)], .int .i64 0]) ∧ Mem.Own w [dk F D (rowR X g ((q : Int) + 1) k)] w' := fun j W hj hW => by
        rw [hAE]
        exact o_fetch_ok hW 0 rfl R.ok R.fu (rowA X j) (rowA X k) (rowA_mono (by omega)) (by rw [R.n]; omega) _ _ _ (row_found hq1 (by omega) hs hj)
      have cre : ∀ (W : World), Mem.Own w [dk F D (rowR X g ((q : Int) + 1) k)] W → Calls Try.prog 18 #[.pointer (some ⟨D, 0, none⟩), .int .i64 (AE : Int), .int .i64 80, .int .i64 ((q : Int) + 1 + (k : Int)), .int .i64 (rowC g k : Int)] W fun ed w' => ed = .returned (.tuple #[.agg #[.int .i64 0, .int .i64 0, .int .i64 0, .int .i64 0, .int .u8 0, .string ⟨#[]⟩], .int .i64 12]) ∧ Mem.Own w [dk F D (rowR X g ((q : Int) + 1) k)] w' := fun W hW => by
        rw [hAE]
        exact o_fetch_bad hW 0 rfl R.ok R.fu (rowA X k) 80 (by omega) (by rw [R.n]; decide) _ _ (row_end hq1 (by omega) hs 80 _ _)
      have CRD := Lib.hid crd
      have CRE := Lib.hid cre
      have HS := Lib.hid (And.intro hs hAE)
      have P := Lib.hid hp
      obtain ⟨B9, hB9⟩ : ∃ B9 : Value, B9 = .int .i64 (rowB g k : Int) := ⟨_, rfl⟩
      rw [← hAE, ← hB9]
      clear hp R hA crd cre hs hB9 hXm hAE
      go_wp2
      go_loopw [9, 10, 15] (fun a b v wr => ∃ j : Nat, j ≤ k ∧ a = .int .i64 (rowA X j : Int) ∧ b = .int .i64 (rowC g j : Int) ∧ v = .int .i64 j ∧ Mem.Own w [dk F D (rowR X g ((q : Int) + 1) k)] wr) (fun _ _ v _ => k - (intOf v).toNat)
      case atStart => exact ⟨0, by omega, rfl, rfl, rfl, P.out⟩
      case round =>
        clear P
        obtain ⟨j, hj, rfl, rfl, rfl, hp⟩ := hrel
        have hBj := rowB_le g j
        have hCj := rowC_le g j
        have hAj := rowA_mono (x := X) hj
        by_cases hlt : j < k
        · obtain ⟨b, off, rfl, hb, hc⟩ := hX j hlt
          have hall : ∀ W, Kept w W → W.cell? ⟨b, off + j, none⟩ = some (.string (X j)) := fun W hW => (hW.cell hb).trans hc
          have hA1 : ((rowA X (j + 1) : Nat) : Int) = (rowA X j : Int) + (parts (X j).size : Int) := by show ((rowA X j + parts (X j).size : Nat) : Int) = _; omega
          have hC1 : rowC g (j + 1) = rowB g j := rfl
          have hc1 := CRD.out j
          have hpp := parts_pos (X j).size
          have hp5 : parts (X j).size ≤ 5 := by have := HS.out.1 j hlt; unfold parts; omega
          rw [HS.out.2.symm] at hAj
          obtain ⟨A0, hA0⟩ : ∃ A0, A0 = rowA X j := ⟨_, rfl⟩
          obtain ⟨B0, hB0⟩ : ∃ B0, B0 = rowB g j := ⟨_, rfl⟩
          obtain ⟨C0, hC0⟩ : ∃ C0, C0 = rowC g j := ⟨_, rfl⟩
          obtain ⟨N0, hN0⟩ : ∃ N0, N0 = parts (X j).size := ⟨_, rfl⟩
          obtain ⟨XJ, hXJ⟩ : ∃ XJ, XJ = X j := ⟨_, rfl⟩
          rw [← hA0, ← hB0, ← hC0, ← hN0, ← hXJ] at hc1
          rw [← hA0, ← hN0] at hA1
          rw [← hB0] at hC1 hBj hCj
          rw [← hC0] at hCj
          rw [← hA0] at hAj
          rw [← hN0] at hpp hp5
          rw [← hXJ] at hall
          have g1 : decide ((B0 : Int) < (C0 : Int)) = false := by simp; omega
          have g2 : decide (B0 < C0) = false := by simp; omega
          have g3 : decide ((N0 : Int) < 1) = false := by simp; omega
          have g4 : decide (N0 < 1) = false := by simp; omega
          have HN := Lib.hid (And.intro hA1 (And.intro hC1 hall))
          have P := Lib.hid hp
          simp only [← hA0, ← hC0]
          clear hp hc hX hall hA1 hC1 hA0 hB0 hC0 hN0 hXJ hBj hCj
          go_wp2_with (go_at_call 18; (with_reducible refine (hc1 _ hlt P.out).mono ?_); rintro e u3 ⟨rfl, p3⟩; have P3 := Lib.hid p3; have c0 := HN.out.2.2 _ (P3.out.kept.alloc (.cells #[.int .i64 (B0 : Int), .int .i64 ((q : Int) + 1 + (j : Int)), .int .i64 0, .int .i64 (N0 : Int), .int .u8 2, .string XJ] 38)); clear p3)
          go_quiet (fail)
          go_wp2
          go_quiet (fail)
          go_wp2
          exact ⟨⟨j + 1, by omega, by rw [HN.out.1], by rw [HN.out.2.1], rfl, (P3.out.alloc _).drewN _⟩, by simp [intOf]; omega⟩
        · obtain rfl : j = k := by omega
          have P := Lib.hid hp
          have hj2 : (rowA X j : Int) = (AE : Int) := by rw [HS.out.2]
          rw [hj2]
          have cre := CRE.out
          obtain ⟨C0, hC0⟩ : ∃ C0, C0 = rowC g j := ⟨_, rfl⟩
          rw [← hC0] at cre
          simp only [← hC0]
          clear hp hX hj2 hBj hCj hAj hC0
          go_wp2_with (first
            | (go_at_call 18; (with_reducible refine (cre _ P.out).mono ?_); rintro e u3 ⟨rfl, p3⟩; have P3 := Lib.hid p3; clear p3)
            | (go_at_call 10; (with_reducible refine (hkn _).mono ?_); rintro e u10 ⟨rfl, k10⟩))
          go_ret
          exact ⟨rfl, P3.out.kept.trans k10⟩
theorem walk (w : World) (ao : Option Addr) (len cap : Nat) (X : Nat → ByteArray) (hX : 0 < len → ∃ b off, ao = some ⟨b, off, none⟩ ∧ b < w.heap.size ∧ ∀ i, i < len → w.cell? ⟨b, off + i, none⟩ = some (.string (X i))) (hok : ∀ i, i < len → (X i).size ≤ maxLen) (hm : len ≤ maxLen) (g : Nat) (hg : g ≤ 65535) (q : Nat) (hq : q ≤ 255) :
    Calls Try.prog 9 #[.slice ao len cap, .int .u16 (g : Int), .int .u8 (q : Int)] w fun e w' => e = .returned (.bool true) ∧ Kept w w' := by
  by_cases h : 12 < len
  · exact long w ao len cap h g q
  · exact core w ao len cap X (by omega) (fun i hi => by
      obtain ⟨b, off, e, hb, hc⟩ := hX (by omega)
      exact ⟨b, off, e, hb, hc i hi⟩) hok g q hg hq

set_option maxRecDepth 100000 in
theorem lifted (os : Os) (started : os.Started) (H : Type) (enc : TypeId × Value → H) :
    ReturnsInHanded {} Try.checked os 9 .any (Rows.recordRowSpec.pre6 enc Try.prog Try.f9 Rows.recordRowRow.domain false) (Rows.recordRowSpec.post enc Try.prog Try.f9 false true false false) := by
  refine returnsInHanded_of_change (C := Try.checked) own started (by kernel_rfl) Try.func9
    (ChangeSpec.witness6 (enc := enc) (C := Try.checked) false ⟨#[], #[.slice none 0 0, .int .u16 0, .int .u8 0], []⟩ 8 (by kernel_rfl) (by kernel_rfl) (by kernel_rfl) (by kernel_rfl)) ?_
  intro W base args ds gs before hval0 hW hcnd _
  have hval : ∀ (j : Nat) t v, Try.f9.params[j]? = some t → args[j]? = some v → Value.okWide Try.prog W .any base t v := hval0
  have hW' := hW
  obtain ⟨p, q, hA0, hV, rfl, hfz, hnd⟩ := hW
  have hA : DataW.TrodAll enc Try.prog W 0 (fun _ => true) true Try.f9.params.toList args.toList ds p := hA0
  rw [Try.params9] at hA hval
  obtain ⟨v0, vs0, d0, ds0, p0, q0, hargs0, rfl, rfl, h0, r0⟩ := trodAll_cons hA
  obtain ⟨v1, vs1, d1, ds1, p1, q1, hargs1, rfl, rfl, h1, r1⟩ := trodAll_cons r0
  obtain ⟨v2, vs2, d2, ds2, p2, q2, hargs2, rfl, rfl, h2, r2⟩ := trodAll_cons r1
  obtain ⟨rfl, rfl, rfl⟩ := trodAll_nil r2
  obtain rfl : args = #[v0, v1, v2] := by cases args; simp_all
  obtain ⟨rfl, rfl⟩ := trodVars_none hV
  obtain ⟨ao0, len0, cap0, X0, e0, c0, o0, m0⟩ := open_strs (hval 0 26 v0 rfl rfl) h0
  obtain ⟨n1, b1, e1⟩ := open_u16 (hval 1 72 v1 rfl rfl) h1
  obtain ⟨n2, b2, e2⟩ := open_u8 (hval 2 5 v2 rfl rfl) h2
  clear hA0 hval0
  simp only [List.append_nil] at hW'
  have hlt0 : ∀ x ∈ p0, x.block < W.heap.size := fun x hx => hW'.lt x (by simp [hx])
  have hlt1 : ∀ x ∈ p1, x.block < W.heap.size := fun x hx => hW'.lt x (by simp [hx])
  have hlt2 : ∀ x ∈ p2, x.block < W.heap.size := fun x hx => hW'.lt x (by simp [hx])
  have hwalk := walk W ao0 len0 cap0 X0 c0 o0 m0 n1 b1 n2 b2
  rw [← e0, ← e1, ← e2] at hwalk
  refine hwalk.mono fun e W' ⟨he, hg⟩ => ?_
  subst he
  exact ⟨_, rfl, _, _, _, [], _, [], hW', (trodAll_cons_mk (shut_bool Try.underlying4 _) trodAll_mk0), (trodAll_cons_mk (Below.trod laidOut (by kernel_rfl) (of_decide_eq_true (by kernel_rfl)) h0 hg hlt0) (trodAll_cons_mk (Below.trod laidOut (by kernel_rfl) (of_decide_eq_true (by kernel_rfl)) h1 hg hlt1) (trodAll_cons_mk (Below.trod laidOut (by kernel_rfl) (of_decide_eq_true (by kernel_rfl)) h2 hg hlt2) trodAll_mk0))), rfl, Below.frame hg _, fun h => by cases h⟩

theorem over : Rows.recordRowRow.holds Try.pinned (OpenSpec.ofChange Rows.recordRowSpec) :=
  OpenClaim.holds_of_wide 9 Try.f9 rfl rfl rfl rfl rfl rfl rfl ⟨rfl, rfl, rfl, rfl, rfl⟩ rfl rfl rfl rfl rfl (by kernel_rfl) Try.func9 (by kernel_rfl)
    (of_decide_eq_true (by kernel_rfl)) (by unfold Func.isWrapper; first | (rw [if_pos (by decide +kernel)]; kernel_rfl) | (rw [if_neg (by decide +kernel)]; exact ⟨rfl, rfl⟩))
    (fun os started H enc _ => lifted os started H enc)

/-- ████ THE STATEMENT ████ -/
theorem proved : Rows.RecordRowSaid :=
  over
#print axioms proved
end Go.Proofs.Ytakajeimlppmbaa.recordRow
