/-
  PROVED: the statement 'SlotsHurtSaid': for every input the law SlotsHurt returns true, and each argument reads afterwards as it read before. No condition.
-/
import Derived.Test.YtmmlgnoicecgfaaKj
import Derived.Test.YtmmlgnoicecgfaaDh
import Derived.Test.YtmmlgnoicecgfaaRows
import Derived.WalkKit
import Derived.Deep.RegionHeld3
import Derived.BigQuiet
import Derived.ProofKit
import Derived.OpenShut
import Derived.ShutString
namespace Go.Proofs.Ytmmlgnoicecgfaa.slotsHurt
open Go.ChangeShapes Go.WideShapes Go.ChangeAt Go.RowKit
open Go.Proofs.Ytmmlgnoicecgfaa.Mem Go.Proofs.Ytmmlgnoicecgfaa.Hk Go.Proofs.Ytmmlgnoicecgfaa.Pk Go.Proofs.Ytmmlgnoicecgfaa.Dz Go.Proofs.Ytmmlgnoicecgfaa.Fz
set_option linter.unusedVariables false

theorem own : ownKnob Try.prog.godebug = none := by kernel_rfl
theorem laidOut : laidOutB Try.prog = true := by kernel_rfl

theorem row80 (s : ByteArray) (h : s.size = 80) (w : World) : ∃ cap w1, (convert 9 72 (.string s)).run Try.prog w = .ok (.slice (some ⟨w.heap.size, 0, none⟩) 80 cap) w1 ∧ Row w w.heap.size s.data.toList w1 := by
  have e := run_bytes_of_string (P := Try.prog) w 9 72 5 s Try.underlying9 Try.underlying72 Try.underlying5
  rw [h] at e
  refine ⟨_, _, e, ?_⟩
  generalize grownCap w 80 0 5 = cap
  refine ⟨(Below.drew (Below.refl _ _)).alloc (Nat.le_refl _) _, by simp, fun j hj => ?_, fun j hj => ?_⟩
  · have hj' : j < s.size := by simpa using hj
    have h := World.cell?_alloc_mark w.drew (bytesRow s cap) 5 ((bytesRow s cap).size, (bytesRow s cap).size + 1) j
    rw [bytesRow_at s cap j hj'] at h
    exact h
  · have hj' : j < s.size := by simpa using hj
    have h := World.frozen?_alloc_mark w.drew (bytesRow s cap) 5 (bytesRow s cap).size ((bytesRow s cap).size + 1) j
    have hsz : s.size ≤ (bytesRow s cap).size := by simp [bytesRow]
    refine h.trans ?_
    have : decide ((bytesRow s cap).size ≤ j) = false := by simp; omega
    rw [this]; rfl
theorem xor_u8 (a b : UInt8) : bits .xor .u8 (a.toNat : Int) (b.toNat : Int) = ((a ^^^ b).toNat : Int) := by
  rw [u8_xor_nat _ _ a.toNat_lt b.toNat_lt, UInt8.toNat_xor]
/-- What is written back: some byte that differs. -/
theorem flip_one (v : UInt8) (c : Nat) (hc : c ≤ 255) : ∃ u : UInt8, u ≠ v ∧ bits .xor .u8 (v.toNat : Int) (bits .or .u8 (c : Int) 1) = (u.toNat : Int) := by
  have e1 : bits .or .u8 (c : Int) 1 = (((UInt8.ofNat c) ||| 1).toNat : Int) := by
    have h1 : (1 : Int) = ((1 : Nat) : Int) := rfl
    rw [h1, u8_or_nat _ _ (by omega) (by decide), UInt8.toNat_or, UInt8.toNat_ofNat', Nat.mod_eq_of_lt (by omega : c < 2 ^ 8)]; rfl
  refine ⟨v ^^^ ((UInt8.ofNat c) ||| 1), fun e => ?_, by rw [e1, xor_u8]⟩
  have h0 : (UInt8.ofNat c) ||| 1 = 0 := by
    have := congrArg (fun z => v ^^^ z) e
    simp only [← UInt8.xor_assoc, UInt8.xor_self, UInt8.zero_xor] at this
    exact this
  have h2 := congrArg (fun z : UInt8 => z.toNat.testBit 0) h0
  simp only [UInt8.toNat_or, Nat.testBit_or] at h2
  rw [show (1 : UInt8).toNat.testBit 0 = true from rfl, Bool.or_true] at h2
  revert h2; decide
theorem cells_of (w : World) (q b a f n : Int) (T : TypeId) : (w.alloc (.cells #[.int .i64 q, .int .i64 b, .int .i64 a, .int .i64 f, .int .i64 n] T)).cell? ⟨w.heap.size, 0, none⟩ = some (.int .i64 q) ∧ (w.alloc (.cells #[.int .i64 q, .int .i64 b, .int .i64 a, .int .i64 f, .int .i64 n] T)).cell? ⟨w.heap.size, 1, none⟩ = some (.int .i64 b) := ⟨by simp, by simp⟩
theorem flipped {u wm : World} {sc : List UInt8} {cap K c : Nat} (hrow : Row u u.heap.size sc wm) (hl : sc.length = 80) (hK : K < 80) (hc : c ≤ 255) :
    ∃ (v : UInt8) (l : List UInt8), wm.cell? ⟨u.heap.size, K, none⟩ = some (.int .u8 (v.toNat : Int)) ∧ wm.frozen? ⟨u.heap.size, K, none⟩ = false ∧ l.length = 80 ∧ l.getD K 0 ≠ sc.getD K 0 ∧ (∀ j, j ≠ K → l.getD j 0 = sc.getD j 0) ∧
      Kept u (wm.setCell ⟨u.heap.size, K, none⟩ (.int .u8 (bits .xor .u8 (v.toNat : Int) (bits .or .u8 (c : Int) 1)))) ∧
      (convert 72 9 (.slice (some ⟨u.heap.size, 0, none⟩) 80 cap)).run Try.prog (wm.setCell ⟨u.heap.size, K, none⟩ (.int .u8 (bits .xor .u8 (v.toNat : Int) (bits .or .u8 (c : Int) 1)))) = .ok (.string (str l)) (wm.setCell ⟨u.heap.size, K, none⟩ (.int .u8 (bits .xor .u8 (v.toNat : Int) (bits .or .u8 (c : Int) 1)))) := by
  have hKl : K < sc.length := by omega
  obtain ⟨x, hx, e⟩ := flip_one sc[K] c hc
  have hr := hrow.set K x e hKl
  have hlen : (sc.set K x).length = 80 := by rw [List.length_set, hl]
  refine ⟨sc[K], sc.set K x, hrow.cell K hKl, hrow.free K hKl, hlen, ?_, fun j hj => ?_, hr.keptOf, ?_⟩
  · rw [List.getD_eq_getElem?_getD, List.getD_eq_getElem?_getD, List.getElem?_set_self hKl, List.getElem?_eq_getElem hKl]
    exact hx
  · rw [List.getD_eq_getElem?_getD, List.getD_eq_getElem?_getD, List.getElem?_set_ne (by omega)]
  · have := hr.str 80 cap (by rw [hlen]; exact Nat.le_refl _)
    rw [List.take_of_length_le (by rw [hlen]; exact Nat.le_refl _)] at this
    exact this
set_option maxHeartbeats 4000000 in
set_option maxRecDepth 100000 in
theorem walk (w : World) (a : Nat) (ha : a ≤ 255) (p : Nat) (hp : p ≤ 255) (c : Nat) (hc : c ≤ 255) :
    Calls Try.prog 9 #[.int .u8 (a : Int), .int .u8 (p : Int), .int .u8 (c : Int)] w fun e w' => e = .returned (.bool true) ∧ Kept w w' := by
  have hkn : ∀ W, Calls Try.prog 18 #[] W fun e w' => e = .returned (.bool true) ∧ Kept W w' := known_c
  obtain ⟨N, hN, hN2, hN20⟩ : ∃ N : Nat, 2 + (a : Int) % 19 = (N : Int) ∧ 2 ≤ N ∧ N ≤ 20 := ⟨2 + a % 19, by omega, by omega, by omega⟩
  obtain ⟨K, hK, hK80⟩ : ∃ K : Nat, (p : Int) % 80 = (K : Int) ∧ K < 80 := ⟨p % 80, by omega, by omega⟩
  have hfn : Calls Try.prog 33 #[] w fun e w' => ∃ F, e = .returned (.pointer (some ⟨F, 0, none⟩)) ∧ Mem.Own w [fzA F .idle] w' := o_fnew (Mem.Own.nil w)
  have hnew : ∀ (F : Nat) (W : World), Mem.Own w [fzA F .idle] W → Calls Try.prog 34 #[.int .i64 2, .pointer (some ⟨F, 0, none⟩)] W fun e w' => ∃ D, e = .returned (.tuple #[.pointer (some ⟨D, 0, none⟩), .int .i64 0]) ∧ Mem.Own w [dk F D (fresh 2 .idle)] w' := fun F W h => o_new h 0 rfl (n := 2) (by decide) (by decide)
  go_enter Try.func9, Try.ntmps9
  go_wp2_with (first
    | (go_at_call 33; refine hfn.mono ?_; rintro e u1 ⟨F, rfl, p1⟩)
    | (go_at_call 34; refine (hnew F _ p1).mono ?_; rintro e u2 ⟨D, rfl, p2⟩; clear p1))
  clear hN
  go_loopw [10] (fun v wr => ∃ (j : Nat) (s : Ds), j ≤ N ∧ v = .int .i64 ((j + 1 : Nat) : Int) ∧ Hk.Row s j ∧ Mem.Own w [dk F D s] wr) (fun v _ => N + 1 - (intOf v).toNat)
  case atStart => exact ⟨0, _, by omega, rfl, Row.fresh, p2⟩
  case round =>
    clear p2 hnew hfn
    obtain ⟨j, s, hj, rfl, hr, hp2⟩ := hrel
    by_cases hlt : j < N
    · have cs : ∀ (W : World), Mem.Own w [dk F D s] W → Calls Try.prog 23 #[.pointer (some ⟨D, 0, none⟩), .agg #[.int .i64 ((j + 1 : Nat) : Int), .int .i64 (((j + 1 : Nat) : Int) + 3), .int .i64 (((j + 1 : Nat) : Int) % 2), .int .i64 (5 * ((j + 1 : Nat) : Int)), .int .i64 ((j + 1 : Nat) : Int)]] W fun e w' => e = .returned (.int .i64 0) ∧ Mem.Own w [dk F D (saved s (hh (j + 1)))] w' := fun W h => by
        have := o_save h 0 rfl (by rw [hr.pend]; decide) (hh (j + 1))
        rw [hr.saves (by omega)] at this
        exact this
      obtain ⟨hr', hl'⟩ := hr.next (by omega)
      have cl : ∀ (W : World), Mem.Own w [dk F D (saved s (hh (j + 1)))] W → Calls Try.prog 25 #[.pointer (some ⟨D, 0, none⟩)] W fun e w' => e = .returned (.tuple #[.agg #[.int .i64 ((j + 1 : Nat) : Int), .int .i64 (((j + 1 : Nat) : Int) + 3), .int .i64 (((j + 1 : Nat) : Int) % 2), .int .i64 (5 * ((j + 1 : Nat) : Int)), .int .i64 ((j + 1 : Nat) : Int)], .int .i64 0]) ∧ Mem.Own w [dk F D (saved s (hh (j + 1)))] w' := fun W h => by
        have := o_load h 0 rfl
        rw [hl'] at this
        exact this
      obtain ⟨S, hS⟩ : ∃ S, S = saved s (hh (j + 1)) := ⟨_, rfl⟩
      rw [← hS] at cs cl hr'
      have HR := Lib.hid hr'
      obtain ⟨k, hk⟩ : ∃ k, k = j + 1 := ⟨_, rfl⟩
      rw [← hk] at cs cl ⊢
      have hk20 : k ≤ 20 := by omega
      have hkN : k ≤ N := by omega
      have HJ := Lib.hid hk
      have P := Lib.hid hp2
      have l1 : decide ((k : Int) ≤ (N : Int)) = true := by simp; omega
      have l2 : decide (k ≤ N) = true := by simp; omega
      clear hS hr hr' hl' hp2 hk hlt hj
      go_wp2_with (first
        | (go_at_call 23; (with_reducible refine (cs _ P.out).mono ?_); rintro e u3 ⟨rfl, p3⟩)
        | (go_at_call 25; (with_reducible refine (cl _ p3).mono ?_); rintro e u4 ⟨rfl, p4⟩; obtain ⟨_, _⟩ := cells_of u4 (k : Int) ((k : Int) + 3) ((k : Int) % 2) (5 * (k : Int)) (k : Int) 50; have P4 := Lib.hid (p4.later ((Kept.refl u4).alloc (.cells #[.int .i64 (k : Int), .int .i64 ((k : Int) + 3), .int .i64 ((k : Int) % 2), .int .i64 (5 * (k : Int)), .int .i64 (k : Int)] 50))); clear p3 p4))
      go_roundw
      case rel => exact ⟨j + 1, S, by have := HJ.out; omega, by rw [← HJ.out]; go_num, HR.out, P4.out⟩
      case measure => simp [intOf]; omega
    · have hjN : j = N := by omega
      subst hjN
      have hM2 : (j : Int) % 2 = ((j % 2 : Nat) : Int) := by omega
      have hM : j % 2 < s.n := by rw [hr.n]; omega
      have crd : ∀ (W : World), Mem.Own w [dk F D s] W → Calls Try.prog 38 #[.pointer (some ⟨D, 0, none⟩), .int .i64 ((j : Int) % 2)] W fun e w' => e = .returned (.tuple #[.string (str (hh j).sec), .int .i64 0]) ∧ Mem.Own w [dk F D s] w' := fun W h => by
        have := o_read h 0 rfl ((j : Int) % 2)
        rw [hM2, Ds.reads_idle hr.fu hM, look_dur hr.pend, hr.one (by omega)] at this
        rw [hM2]; exact this
      have cwr : ∀ (l : List UInt8) (W : World), l.length = 80 → Mem.Own w [dk F D s] W → Calls Try.prog 14 #[.pointer (some ⟨D, 0, none⟩), .int .i64 ((j : Int) % 2), .string (str l)] W fun e w' => e = .returned (.int .i64 0) ∧ Mem.Own w [dk F D (s.wrote (j % 2) (str l))] w' := fun l W hl h => by
        have := o_write h 0 rfl (by rw [hr.pend]; decide) ((j : Int) % 2) (str l)
        rw [hM2, Ds.writes_idle hr.fu hM (by rw [size_str]; exact hl)] at this
        rw [hM2]; exact this
      have cld : ∀ (l : List UInt8) (W : World), (l.length = 80 ∧ l.getD K 0 ≠ (hh j).sec.getD K 0 ∧ ∀ i, i ≠ K → l.getD i 0 = (hh j).sec.getD i 0) → Mem.Own w [dk F D (s.wrote (j % 2) (str l))] W → Calls Try.prog 25 #[.pointer (some ⟨D, 0, none⟩)] W fun e w' => e = .returned (.tuple #[.agg #[.int .i64 ((j : Int) - 1), .int .i64 ((j : Int) + 2), .int .i64 (((j : Int) - 1) % 2), .int .i64 (5 * ((j : Int) - 1)), .int .i64 ((j : Int) - 1)], .int .i64 0]) ∧ Mem.Own w [dk F D (s.wrote (j % 2) (str l))] w' := fun l W hl h => by
        have := o_load h 0 rfl
        rw [hr.hurt hN2 hN20 hl.1 hK80 hl.2.1 hl.2.2] at this
        have e1 : ((j - 1 : Nat) : Int) = (j : Int) - 1 := by omega
        have e2 : (j : Int) - 1 + 3 = (j : Int) + 2 := by omega
        unfold hh at this
        simp only [e1, e2] at this
        exact this
      have hq := eqlH ((j : Int) - 1) ((j : Int) + 2) (((j : Int) - 1) % 2) (5 * ((j : Int) - 1)) ((j : Int) - 1) ((j : Int) - 1) ((j : Int) + 2) (((j : Int) - 1) % 2) (5 * ((j : Int) - 1)) ((j : Int) - 1)
      rw [show sameH ((j : Int) - 1) ((j : Int) + 2) (((j : Int) - 1) % 2) (5 * ((j : Int) - 1)) ((j : Int) - 1) ((j : Int) - 1) ((j : Int) + 2) (((j : Int) - 1) % 2) (5 * ((j : Int) - 1)) ((j : Int) - 1) = true by simp [sameH]] at hq
      obtain ⟨m, hm⟩ : ∃ m : Nat, (j : Int) - 1 = (m : Int) := ⟨j - 1, by omega⟩
      have hm20 : m ≤ 20 := by omega
      have hj20 : j ≤ 20 := hN20
      rw [hm] at cld hq
      have HX : RowKit.Hid ((hh j).sec.length = 80 ∧ (str (hh j).sec).size = 80 ∧ (str (hh j).sec).data.toList = (hh j).sec) := Lib.hid ⟨sec_len _, by rw [size_str, sec_len], list_str _⟩
      obtain ⟨sc, hsc⟩ : ∃ sc, sc = (hh j).sec := ⟨_, rfl⟩
      rw [← hsc] at HX crd cld
      obtain ⟨T, hT⟩ : ∃ T, T = str sc := ⟨_, rfl⟩
      rw [← hT] at HX crd
      have z80 : ((T.size : Int) != 80) = false := by rw [HX.out.2.1]; rfl
      have l1 : decide ((j : Int) ≤ (j : Int)) = true := by simp
      have HC := Lib.hid (And.intro hc hK80)
      have CRD := Lib.hid crd
      have CWR := Lib.hid cwr
      have CLD := Lib.hid cld
      have P := Lib.hid hp2
      have hl2 : decide (((j + 1 : Nat) : Int) ≤ (j : Int)) = false := by simp; omega
      have hl3 : decide (j + 1 ≤ j) = false := by simp
      clear crd cwr cld hp2 hr hM hM2 hlt hj hsc hT hN20
      go_wp2_with (first
        | (go_at_call 38; (with_reducible refine (CRD.out _ P.out).mono ?_); rintro e u3 ⟨rfl, p3⟩; obtain ⟨cap, wm, hconv, hrow⟩ := row80 T HX.out.2.1 u3; rw [HX.out.2.2] at hrow; obtain ⟨v, l, c0, f0, h80, hne, heq, hk3, hcv⟩ := flipped (cap := cap) hrow HX.out.1 HC.out.2 HC.out.1; have HL := Lib.hid (And.intro h80 (And.intro hne heq)); have P4 := Lib.hid (p3.later hk3); clear p3 hrow h80 hne heq hk3)
        | (go_at_call 14; (with_reducible refine (CWR.out _ _ HL.out.1 P4.out).mono ?_); rintro e u4 ⟨rfl, p4⟩; clear hcv hconv c0 f0)
        | (go_at_call 25; (with_reducible refine (CLD.out _ _ HL.out p4).mono ?_); rintro e u5 ⟨rfl, p5⟩; obtain ⟨_, _, _, _, _⟩ := (Box.start u5 50 (m : Int) ((j : Int) + 2) ((m : Int) % 2) (5 * (m : Int)) (m : Int)).all; have P5 := Lib.hid (p5.kept.alloc (.cells #[.int .i64 (m : Int), .int .i64 ((j : Int) + 2), .int .i64 ((m : Int) % 2), .int .i64 (5 * (m : Int)), .int .i64 (m : Int)] 50)); clear p4 p5)
        | (go_at_call 18; (with_reducible refine (hkn _).mono ?_); rintro e u6 ⟨rfl, k6⟩))
      go_ret
      exact ⟨rfl, P5.out.trans k6⟩

set_option maxRecDepth 100000 in
theorem lifted (os : Os) (started : os.Started) (H : Type) (enc : TypeId × Value → H) :
    ReturnsInHanded {} Try.checked os 9 .any (Rows.slotsHurtSpec.pre6 enc Try.prog Try.f9 Rows.slotsHurtRow.domain false) (Rows.slotsHurtSpec.post enc Try.prog Try.f9 false true false false) := by
  refine returnsInHanded_of_change (C := Try.checked) own started (by kernel_rfl) Try.func9
    (ChangeSpec.witness6 (enc := enc) (C := Try.checked) false ⟨#[], #[.int .u8 0, .int .u8 0, .int .u8 0], []⟩ 8 (by kernel_rfl) (by kernel_rfl) (by kernel_rfl) (by kernel_rfl)) ?_
  intro W base args ds gs before hval0 hW hcnd _
  have hval : ∀ (j : Nat) t v, Try.f9.params[j]? = some t → args[j]? = some v → Value.okWide Try.prog W .any base t v := hval0
  have hW' := hW
  obtain ⟨p, q, hA0, hV, rfl, hfz, hnd⟩ := hW
  have hA : DataW.TrodAll enc Try.prog W 0 (fun _ => true) true Try.f9.params.toList args.toList ds p := hA0
  rw [Try.params9] at hA hval
  obtain ⟨v0, vs0, d0, ds0, p0, q0, hargs0, rfl, rfl, h0, r0⟩ := trodAll_cons hA
  obtain ⟨v1, vs1, d1, ds1, p1, q1, hargs1, rfl, rfl, h1, r1⟩ := trodAll_cons r0
  obtain ⟨v2, vs2, d2, ds2, p2, q2, hargs2, rfl, rfl, h2, r2⟩ := trodAll_cons r1
  obtain ⟨rfl, rfl, rfl⟩ := trodAll_nil r2
  obtain rfl : args = #[v0, v1, v2] := by cases args; simp_all
  obtain ⟨rfl, rfl⟩ := trodVars_none hV
  obtain ⟨n0, b0, e0⟩ := open_u8 (hval 0 5 v0 rfl rfl) h0
  obtain ⟨n1, b1, e1⟩ := open_u8 (hval 1 5 v1 rfl rfl) h1
  obtain ⟨n2, b2, e2⟩ := open_u8 (hval 2 5 v2 rfl rfl) h2
  clear hA0 hval0
  simp only [List.append_nil] at hW'
  have hlt0 : ∀ x ∈ p0, x.block < W.heap.size := fun x hx => hW'.lt x (by simp [hx])
  have hlt1 : ∀ x ∈ p1, x.block < W.heap.size := fun x hx => hW'.lt x (by simp [hx])
  have hlt2 : ∀ x ∈ p2, x.block < W.heap.size := fun x hx => hW'.lt x (by simp [hx])
  have hwalk := walk W n0 b0 n1 b1 n2 b2
  rw [← e0, ← e1, ← e2] at hwalk
  refine hwalk.mono fun e W' ⟨he, hg⟩ => ?_
  subst he
  exact ⟨_, rfl, _, _, _, [], _, [], hW', (trodAll_cons_mk (shut_bool Try.underlying4 _) trodAll_mk0), (trodAll_cons_mk (Below.trod laidOut (by kernel_rfl) (of_decide_eq_true (by kernel_rfl)) h0 hg hlt0) (trodAll_cons_mk (Below.trod laidOut (by kernel_rfl) (of_decide_eq_true (by kernel_rfl)) h1 hg hlt1) (trodAll_cons_mk (Below.trod laidOut (by kernel_rfl) (of_decide_eq_true (by kernel_rfl)) h2 hg hlt2) trodAll_mk0))), rfl, Below.frame hg _, fun h => by cases h⟩

theorem over : Rows.slotsHurtRow.holds Try.pinned (OpenSpec.ofChange Rows.slotsHurtSpec) :=
  OpenClaim.holds_of_wide 9 Try.f9 rfl rfl rfl rfl rfl rfl rfl ⟨rfl, rfl, rfl, rfl, rfl⟩ rfl rfl rfl rfl rfl (by kernel_rfl) Try.func9 (by kernel_rfl)
    (of_decide_eq_true (by kernel_rfl)) (by unfold Func.isWrapper; first | (rw [if_pos (by decide +kernel)]; kernel_rfl) | (rw [if_neg (by decide +kernel)]; exact ⟨rfl, rfl⟩))
    (fun os started H enc _ => lifted os started H enc)

/-- ████ THE STATEMENT ████ -/
theorem proved : Rows.SlotsHurtSaid :=
  over
#print axioms proved
end Go.Proofs.Ytmmlgnoicecgfaa.slotsHurt
