/-
  PROVED: the statement 'DiskBytesSaid': for every input the law DiskBytes returns true, and each argument reads afterwards as it read before. No condition.
-/
import Derived.Test.YtoclgneokfbobaaDn
import Derived.Test.YtoclgneokfbobaaDh
import Derived.Test.YtoclgneokfbobaaRows
import Derived.WalkKit
import Derived.Deep.RegionHeld3
import Derived.BigQuiet
import Derived.ProofKit
import Derived.OpenShut
import Derived.ShutString
namespace Go.Proofs.Ytoclgneokfbobaa.diskBytes
open Go.ChangeShapes Go.WideShapes Go.ChangeAt Go.RowKit
open Go.Proofs.Ytoclgneokfbobaa.Mem Go.Proofs.Ytoclgneokfbobaa.Fz Go.Proofs.Ytoclgneokfbobaa.Dz
set_option linter.unusedVariables false

theorem own : ownKnob Try.prog.godebug = none := by kernel_rfl
theorem laidOut : laidOutB Try.prog = true := by kernel_rfl

set_option maxHeartbeats 1000000 in
set_option maxRecDepth 100000 in
theorem long (w : World) (n : Nat) (hn : n ≤ 255) (ao : Option Addr) (len cap : Nat) (h : 60 < len) (some : Nat) (c : Ch) :
    Calls Try.prog 6 #[.int .u8 (n : Int), .slice ao len cap, .int .u8 (some : Int), .agg c.cells] w fun e w' => e = .returned (.bool true) ∧ Kept w w' := by
  have h1 : decide (60 < (len : Int)) = true := by simp; omega
  unfold Ch.cells
  clear h
  go_enter Try.func6, Try.ntmps6
  go_wp2_with (go_at_call 9; refine (known_c _).mono ?_; rintro e u ⟨rfl, hk⟩)
  go_ret
  exact ⟨rfl, ((Kept.refl w).alloc _).trans hk⟩
set_option maxHeartbeats 8000000 in
set_option maxRecDepth 100000 in
theorem rounds (w : World) (n : Nat) (hn : n ≤ 255) (ao : Option Addr) (len cap : Nat) (X : Nat → Put) (h60 : len ≤ 60)
    (hX : ∀ i, i < len → ∃ b off, ao = .some ⟨b, off, none⟩ ∧ b < w.heap.size ∧ (X i).at b (off + i * 2) w) (hok : ∀ i, i < len → (X i).ok) (sm : Nat) (hsm : sm ≤ 255) (c : Ch) (hc : c.ok) :
    Calls Try.prog 6 #[.int .u8 (n : Int), .slice ao len cap, .int .u8 (sm : Int), .agg c.cells] w fun e w' => e = .returned (.bool true) ∧ Kept w w' := by
  have h1 : decide (60 < (len : Int)) = false := by simp; omega
  obtain ⟨N, hN, hN1, hN2⟩ : ∃ N : Nat, (n : Int) % 12 + 1 = (N : Int) ∧ 1 ≤ N ∧ N ≤ 12 := ⟨n % 12 + 1, by omega, by omega, by omega⟩
  obtain ⟨K, hK, hKl⟩ : ∃ K : Nat, K = sm % (len + 1) ∧ K ≤ len := ⟨_, rfl, by have := Nat.mod_lt sm (show 0 < len + 1 by omega); omega⟩
  have hK1 : (sm : Int) % ((len : Int) + 1) = (K : Int) := by rw [hK]; rfl
  have hK2 : (sm : Int).tmod ((len : Int) + 1) = (K : Int) := by rw [Int.tmod_eq_emod_of_nonneg (by omega), hK1]
  have hK0 : ¬ (len : Int) + 1 = 0 := by omega
  obtain ⟨wB, hwB⟩ : ∃ wB, wB = w.alloc (.cells c.cells 29) := ⟨_, rfl⟩
  have kB : Kept w wB := by rw [hwB]; exact (Kept.refl w).alloc _
  have bB : wB.heap[w.heap.size]? = .some (.cells c.cells 29 (0, 0)) := by rw [hwB]; exact heap_alloc_new _ _
  obtain ⟨s, hs⟩ : ∃ s, s = fillTo N X K len := ⟨_, rfl⟩
  have hfull : Full N len s := by rw [hs]; exact full_to hN1 (by omega) len
  have hfill : ∀ {L : List As} {W : World}, Own wB L W → Calls Try.prog 29 #[.int .i64 (N : Int), .slice ao len cap, .int .i64 (K : Int)] W fun e w' => ∃ F D v, e = .returned (.tuple #[.pointer (.some ⟨D, 0, none⟩), v]) ∧ Own wB (dk F D s :: L) w' := fun h => by
    have q := filled_c h N hN1 (by omega) ao len cap (by omega) X (fun i hi => by
      obtain ⟨b, off, e, hb, hx⟩ := hX i hi
      exact ⟨b, off, e, Nat.lt_of_lt_of_le hb kB.size, hx.kept kB hb⟩) hok K (by omega)
    rw [← hs] at q
    exact q.mono fun e w' ⟨F, D, v, he, hk⟩ => ⟨F, D, v, he, hk.tail⟩
  have hstart : Own wB [] wB := Own.nil wB
  have cB : ∀ (L : List As) (W : World), Own wB L W → W.cell? ⟨w.heap.size, 0, none⟩ = .some (.int .u64 (c.keep : Int)) ∧ W.cell? ⟨w.heap.size, 1, none⟩ = .some (.int .i64 c.torn) ∧ W.cell? ⟨w.heap.size, 2, none⟩ = .some (.int .i64 c.bytes) := fun _ _ h =>
    ⟨cell_of_row _ _ _ _ _ _ (h.kept.at bB), cell_of_row _ _ _ _ _ _ (h.kept.at bB), cell_of_row _ _ _ _ _ _ (h.kept.at bB)⟩
  obtain ⟨t, ht⟩ : ∃ t, t = s.settled c.left := ⟨_, rfl⟩
  have tn : t.n = N := by rw [ht]; exact hfull.n
  have tsz : ∀ i, i < N → (t.dur i).size = 80 := fun i hi => by
    have := (hfull.ok.settled c.left_le).dur i (by show i < s.n; rw [hfull.n]; exact hi)
    rw [ht]; exact this
  have ssz : ∀ i, i < N → (s.dur i).size = 80 := fun i hi => hfull.ok.dur i (by rw [hfull.n]; exact hi)
  have hmay : ∀ i, i < N → ∀ b, b < 80 → may (decide (gb (t.dur i) b = gb (s.dur i) b)) N X i b (gb (t.dur i) b) K (len - K) = true := fun i hi b hb => by
    have e : K + (len - K) = len := by omega
    have q := may_all (n := N) (X := X) (K := K) (m := len - K) hN1 (by omega) c.left_le hi hb
    rw [e, ← hs, ← ht] at q
    exact q
  have hd1 : ∀ {A : As} {L : List As} {F D : Nat} {W : World} (k : Nat), k < N → Own wB (A :: dk F D s :: L) W → Calls Try.prog 18 #[.pointer (.some ⟨D, 0, none⟩), .int .i64 (k : Int)] W fun e w' => e = .returned (.string (s.dur k)) ∧ Own wB (A :: dk F D s :: L) w' := fun k hk h => o_d1 h (by rw [hfull.n]; exact hk)
  have hdt : ∀ {A : As} {L : List As} {F D : Nat} {W : World} (k : Nat), k < N → Own wB (A :: dk F D t :: L) W → Calls Try.prog 18 #[.pointer (.some ⟨D, 0, none⟩), .int .i64 (k : Int)] W fun e w' => e = .returned (.string (t.dur k)) ∧ Own wB (A :: dk F D t :: L) w' := fun k hk h => o_d1 h (by rw [tn]; exact hk)
  have hcr : ∀ {A : As} {L : List As} {F D : Nat} {W : World}, Own wB (A :: dk F D s :: L) W → Calls Try.prog 22 #[.pointer (.some ⟨D, 0, none⟩), .agg c.cells] W fun e w' => e = .returned (.tuple #[]) ∧ Own wB (A :: dk F D t :: L) w' := fun h => by
    have q := o_c1 h hc
    rw [← ht] at q
    exact q
  have hkn : ∀ W, Calls Try.prog 9 #[] W fun e w' => e = .returned (.bool true) ∧ Kept W w' := known_c
  have HA := Lib.hid (And.intro hX (And.intro hok (And.intro tsz (And.intro ssz hmay))))
  have HB := Lib.hid kB
  have CB := Lib.hid cB
  have hN0 : ¬ N = 0 := by omega
  clear hK hfull hs hX hok hc ht kB bB cB tn tsz ssz hmay
  unfold Ch.cells at hwB hcr ⊢
  have hstart' : Own wB [] (w.alloc (.cells #[.int .u64 (c.keep : Int), .int .i64 c.torn, .int .i64 c.bytes] 29)) := by rw [← hwB]; exact hstart
  clear hwB hstart
  obtain ⟨i0, hi, hz0, hz1, hz2⟩ := info_parts string_info
  go_enter Try.func6, Try.ntmps6
  go_wp2_with (go_at_call 29; (with_reducible refine (hfill hstart').mono ?_); rintro e u1 ⟨F, D, v1, rfl, k1⟩)
  have hst := (Own.newRow k1 9 1).front
  clear k1 hstart' hfill
  go_loopw [13, 14] (fun v i wr => ∃ j : Nat, j ≤ N ∧ i = .int .i64 j ∧ Own wB [rowA 9 1 v j (fks s.dur j), dk F D s] wr) (fun _ i _ => N - (intOf i).toNat)
  case atStart => exact ⟨0, by omega, rfl, hst⟩
  case round =>
    clear hst
    obtain ⟨j, hj, rfl, hp⟩ := hrel
    by_cases hlj : j < N
    · have hd1' := fun {A : As} {L : List As} {F D : Nat} {W : World} => @hd1 A L F D W j hlj
      obtain ⟨x, hx⟩ : ∃ x, x = s.dur j := ⟨_, rfl⟩
      rw [← hx] at hd1'
      have Hx := Lib.hid hx
      clear hd1 hx hdt hcr
      go_wp2_with (first
        | (go_at_call 18; (with_reducible refine (hd1' ‹_›).mono ?_); rintro e u1 ⟨rfl, k1⟩; have K1 := Lib.hid k1; clear k1)
        | (at_builtin; refine wpList_append_own_at _ rfl _ _ 59 rfl 0 9 i0 (.string ByteArray.empty) 1 16 Try.underlying59 hi hz0 hz1 hz2 rfl (by decide) _ _ _ rfl ((Own.row K1.out 0 rfl).alloc _) ⟨u1.heap.size, 0, none⟩ 1 1 [.string x] rfl rfl (cell_one_new _ _ _) (by intro z hz; simp at hz; subst hz; rfl) (by unfold maxLen; omega) (by omega) (Nat.zero_le _) ?_; intro v' w1 hown1 hgrow hnil hloc))
      go_roundw
      case rel =>
        refine ⟨j + 1, by omega, by go_num, ?_⟩
        rw [fks_succ, ← Hx.out]
        exact Own.appended K1.out 0 rfl ((Kept.refl _).alloc _) hown1 hgrow hloc
      case measure => simp [intOf]; omega
    · obtain rfl : j = N := by omega
      obtain ⟨b0, b1, b2⟩ := CB.out _ _ hp
      obtain ⟨g, cap', hv, hcell⟩ := fks_cells hp (i := 0) rfl hN1
      subst hv
      have HC := Lib.hid hcell
      clear hcell hlj hj hd1
      go_wp2_with (go_at_call 22; (with_reducible refine (hcr ‹_›).mono ?_); rintro e u1 ⟨rfl, k1⟩)
      clear hp b0 b1 b2 hcr
      go_loopw [15] (fun i wr => ∃ q : Nat, q ≤ j ∧ i = .int .i64 q ∧ Own wB [rowA 9 1 (.slice (.some ⟨g, 0, none⟩) j cap') j (fks s.dur j), dk F D t] wr) (fun i _ => j - (intOf i).toNat)
      case atStart => exact ⟨0, by omega, rfl, k1⟩
      case round =>
        clear k1
        obtain ⟨q, hq, rfl, hp⟩ := hrel
        by_cases hlq : q < j
        · have hdt' := fun {A : As} {L : List As} {F D : Nat} {W : World} => @hdt A L F D W q hlq
          have hcell : ∀ W, Own wB [rowA 9 1 (.slice (.some ⟨g, 0, none⟩) j cap') j (fks s.dur j), dk F D t] W → W.cell? ⟨g, q, none⟩ = .some (.string (s.dur q)) := fun W h => HC.out W _ 0 h rfl q hlq
          have hxs := HA.out.2.2.1 q hlq
          have hys := HA.out.2.2.2.1 q hlq
          have hmq := HA.out.2.2.2.2 q hlq
          obtain ⟨x, hx⟩ : ∃ x, x = t.dur q := ⟨_, rfl⟩
          obtain ⟨y, hy⟩ : ∃ y, y = s.dur q := ⟨_, rfl⟩
          rw [← hx] at hdt' hxs
          rw [← hy] at hys
          simp only [← hx, ← hy] at hmq hcell
          have e1 : ((x.size : Int) != 80) = false := by simp; omega
          have e2 : ((y.size : Int) != 80) = false := by simp; omega
          have HX := Lib.hid hcell
          have HM := Lib.hid hmq
          clear hdt hx hy hcell hmq
          go_wp2_with (go_at_call 18; (with_reducible refine (hdt' ‹_›).mono ?_); rintro e u7 ⟨rfl, k7⟩; have c7 := HX.out _ k7)
          obtain ⟨wo, hwo⟩ : ∃ wo : World, wo = wr := ⟨_, rfl⟩
          go_loopw [17] (fun i wr => ∃ b : Nat, b ≤ 80 ∧ i = .int .i64 b ∧ Own wB [rowA 9 1 (.slice (.some ⟨g, 0, none⟩) j cap') j (fks s.dur j), dk F D t] wr) (fun i _ => 80 - (intOf i).toNat)
          case atStart => exact ⟨0, by omega, rfl, k7⟩
          case round =>
            clear k7 c7
            obtain ⟨b, hb, rfl, hp2⟩ := hrel
            by_cases hlb : b < 80
            · have hbt : decide ((b : Int) < 80) = true := by simp; omega
              have hix : ∀ W, (Instr.index 9 (.string x) (.int .i64 (b : Int))).run Try.prog W = .ok (.int .u8 (gb x b : Int)) W := index_c x b (by omega)
              have hiy : ∀ W, (Instr.index 9 (.string y) (.int .i64 (b : Int))).run Try.prog W = .ok (.int .u8 (gb y b : Int)) W := index_c y b (by omega)
              have hmb := HM.out b hlb
              obtain ⟨p, hpx⟩ : ∃ p, p = gb x b := ⟨_, rfl⟩
              obtain ⟨r, hry⟩ : ∃ r, r = gb y b := ⟨_, rfl⟩
              rw [← hpx] at hix hmb
              rw [← hry] at hiy hmb
              obtain ⟨e0, he0⟩ : ∃ e0, e0 = decide (p = r) := ⟨_, rfl⟩
              rw [← he0] at hmb
              have hcmp : ((p : Int) == (r : Int)) = e0 := by rw [he0]; by_cases h : p = r <;> simp [h]; omega
              have Hm := Lib.hid hmb
              have c7 := HX.out _ hp2
              have c7' := HX.out _ hp2.drew
              have Hp2 := Lib.hid hp2
              clear hmb hpx hry he0 hp2
              go_wp2
              go_region
              go_wp2
              go_loopw [18, 19] (fun v i wr => ∃ m : Nat, m ≤ len - K ∧ v = .bool (may e0 j X q b p K m) ∧ i = .int .i64 ((K + m : Nat) : Int) ∧ Own wB [rowA 9 1 (.slice (.some ⟨g, 0, none⟩) j cap') j (fks s.dur j), dk F D t] wr) (fun _ i _ => len - (intOf i).toNat)
              case atStart => exact ⟨0, by omega, rfl, rfl, Hp2.out.drew⟩
              case round =>
                clear c7 c7'
                obtain ⟨m, hm, rfl, rfl, hp3⟩ := hrel
                by_cases hlm : m < len - K
                · obtain ⟨jj, hjj⟩ : ∃ jj, jj = K + m := ⟨_, rfl⟩
                  have hjl : jj < len := by omega
                  obtain ⟨b1, off, rfl, hb1, hx1⟩ := HA.out.1 jj hjl
                  have hI := (HA.out.2.1 jj hjl).hi_i
                  have hB := (HA.out.2.1 jj hjl).hi_b
                  have ci : ∀ W, Kept wB W → W.cell? ⟨b1, off + jj * 2, none⟩ = .some (.int .u8 ((X jj).i : Int)) ∧ W.cell? ⟨b1, off + jj * 2 + 1, none⟩ = .some (.int .u8 ((X jj).b : Int)) := fun W hW => by
                    have := hx1.kept (HB.out.trans hW) hb1
                    exact ⟨this.ci, this.cb⟩
                  have hnext : may e0 j X q b p K (m + 1) = (may e0 j X q b p K m || (decide ((X jj).i % j = q) && decide (p = gb (sec (X jj).b) b))) := by rw [hjj]; rfl
                  obtain ⟨I, hI'⟩ : ∃ I, I = (X jj).i := ⟨_, rfl⟩
                  obtain ⟨B, hB'⟩ : ∃ B, B = (X jj).b := ⟨_, rfl⟩
                  obtain ⟨m1, hm1⟩ : ∃ m1, m1 = I % j := ⟨_, rfl⟩
                  rw [← hI', ← hB', ← hm1] at hnext
                  rw [← hI'] at hI
                  rw [← hB'] at hB
                  simp only [← hI', ← hB'] at ci
                  obtain ⟨z, hz⟩ : ∃ z, z = gb (sec B) b := ⟨_, rfl⟩
                  rw [← hz] at hnext
                  have hrem : ((I : Int)).tmod (j : Int) = (m1 : Int) := by rw [Int.tmod_eq_emod_of_nonneg (by omega), hm1]; rfl
                  have hrem2 : ((I : Int)) % (j : Int) = (m1 : Int) := by rw [hm1]; rfl
                  have hwrap : IntKind.i64.wrap (I : Int) = (I : Int) := by rw [IntKind.wrap_i64]; omega
                  have hsec : ∀ W, Calls Try.prog 30 #[.int .u8 (B : Int)] W fun e w' => e = .returned (.string (sec B)) ∧ Kept W w' := fun W => sector_c B hB W
                  have hiz : ∀ W, (Instr.index 9 (.string (sec B)) (.int .i64 (b : Int))).run Try.prog W = .ok (.int .u8 (z : Int)) W := by
                    have h := index_c (sec B) b (by rw [sec_size]; exact hlb)
                    rw [← hz] at h; exact h
                  obtain ⟨sb, hsb⟩ : ∃ sb, sb = sec B := ⟨_, rfl⟩
                  rw [← hsb] at hsec hiz
                  have c1 := ci wr hp3.kept
                  have c1' := ci wr.drew hp3.kept.drew
                  have Hn := Lib.hid (And.intro hnext (And.intro hp3 (And.intro ci hjj)))
                  have hp3d := hp3.drew
                  rw [← hjj]
                  obtain ⟨M, hM⟩ : ∃ M, M = may e0 j X q b p K m := ⟨_, rfl⟩
                  rw [← hM]
                  have HMM := Lib.hid hM
                  clear hnext hp3 ci hjj hI' hB' hm1 hz hsb hM hx1 hiy
                  cases M with
                  | true =>
                    go_wp2
                    go_region
                    go_wp2
                    go_roundw
                    case rel =>
                      refine ⟨m + 1, by omega, ?_, ?_, hp3d⟩
                      · rw [Hn.out.1, ← HMM.out]; simp
                      · have := Hn.out.2.2.2; go_num
                    case measure => simp [intOf]; omega
                  | false =>
                    by_cases hq1 : m1 = q
                    · have t1 : ((m1 : Int) == (q : Int)) = true := by simp; omega
                      by_cases hq2 : p = z
                      · have t2 : ((p : Int) == (z : Int)) = true := by simp; omega
                        have Hq := Lib.hid (And.intro hq1 hq2)
                        clear hq1 hq2
                        go_wp2
                        go_region_held3 (fun W => W.cell? ⟨b1, off + jj * 2, none⟩ = .some (.int .u8 (I : Int)) ∧ W.cell? ⟨b1, off + jj * 2 + 1, none⟩ = .some (.int .u8 (B : Int)))
                          (first | assumption | (refine Hn.out.2.2.1 _ ?_; exact hp3d.kept.trans k3))
                          (first | (go_at_call 30; refine (hsec _).mono ?_; rintro e u3 ⟨rfl, k3⟩))
                        all_goals
                          go_wp2
                          go_roundw
                          case rel =>
                            refine ⟨m + 1, by omega, ?_, ?_, hp3d.later k3⟩
                            · rw [Hn.out.1, decide_eq_true Hq.out.1, decide_eq_true Hq.out.2]; simp
                            · have := Hn.out.2.2.2; go_num
                          case measure => simp [intOf]; omega
                      · have t2 : ((p : Int) == (z : Int)) = false := by simp; omega
                        have Hq := Lib.hid (And.intro hq1 hq2)
                        clear hq1 hq2
                        go_wp2
                        go_region_held3 (fun W => W.cell? ⟨b1, off + jj * 2, none⟩ = .some (.int .u8 (I : Int)) ∧ W.cell? ⟨b1, off + jj * 2 + 1, none⟩ = .some (.int .u8 (B : Int)))
                          (first | assumption | (refine Hn.out.2.2.1 _ ?_; exact hp3d.kept.trans k3))
                          (first | (go_at_call 30; refine (hsec _).mono ?_; rintro e u3 ⟨rfl, k3⟩))
                        all_goals
                          go_wp2
                          go_roundw
                          case rel =>
                            refine ⟨m + 1, by omega, ?_, ?_, hp3d.later k3⟩
                            · rw [Hn.out.1, ← HMM.out, decide_eq_false Hq.out.2]; simp
                            · have := Hn.out.2.2.2; go_num
                          case measure => simp [intOf]; omega
                    · have t1 : ((m1 : Int) == (q : Int)) = false := by simp; omega
                      have Hq := Lib.hid hq1
                      clear hq1
                      go_wp2
                      go_region
                      go_wp2
                      go_roundw
                      case rel =>
                        refine ⟨m + 1, by omega, ?_, ?_, hp3d⟩
                        · rw [Hn.out.1, ← HMM.out, decide_eq_false Hq.out]; simp
                        · have := Hn.out.2.2.2; go_num
                      case measure => simp [intOf]; omega
                · obtain rfl : m = len - K := by omega
                  have hmt := Hm.out
                  rw [hmt]
                  have eK : ((K + (len - K) : Nat) : Int) = (len : Int) := by omega
                  rw [eK]
                  clear hmt
                  go_wp2
                  go_roundw
                  case rel => exact ⟨b + 1, by omega, by go_num, hp3⟩
                  case measure => simp [intOf]; omega
            · obtain rfl : b = 80 := by omega
              go_wp2
              go_roundw
              case rel => exact ⟨q + 1, by omega, by go_num, hp2⟩
              case measure => simp [intOf]; omega
        · have hx : ¬ (q < j) := hlq
          clear hdt
          go_wp2_with (go_at_call 9; (with_reducible refine (hkn _).mono ?_); rintro e u9 ⟨rfl, k9⟩)
          go_ret
          exact ⟨rfl, (HB.out.trans hp.kept).trans k9⟩
theorem walk (w : World) (n : Nat) (hn : n ≤ 255) (ao : Option Addr) (len cap : Nat) (X : Nat → Put) (hX : 0 < len → ∃ b off, ao = some ⟨b, off, none⟩ ∧ b < w.heap.size ∧ ∀ i, i < len → (X i).at b (off + i * 2) w)
    (hok : ∀ i, i < len → (X i).ok) (_hm : len ≤ maxLen) (sm : Nat) (hsm : sm ≤ 255) (c : Ch) (hc : c.ok) :
    Calls Try.prog 6 #[.int .u8 (n : Int), .slice ao len cap, .int .u8 (sm : Int), .agg c.cells] w fun e w' => e = .returned (.bool true) ∧ Kept w w' := by
  by_cases h60 : 60 < len
  · exact long w n hn ao len cap h60 sm c
  · refine rounds w n hn ao len cap X (by omega) (fun i hi => ?_) hok sm hsm c hc
    obtain ⟨b, off, e, hb, hx⟩ := hX (by omega)
    exact ⟨b, off, e, hb, hx i hi⟩

set_option maxRecDepth 100000 in
theorem lifted (os : Os) (started : os.Started) (H : Type) (enc : TypeId × Value → H) :
    ReturnsInHanded {} Try.checked os 6 .any (Rows.diskBytesSpec.pre6 enc Try.prog Try.f6 Rows.diskBytesRow.domain false) (Rows.diskBytesSpec.post enc Try.prog Try.f6 false true false false) := by
  refine returnsInHanded_of_change (C := Try.checked) own started (by kernel_rfl) Try.func6
    (ChangeSpec.witness6 (enc := enc) (C := Try.checked) false ⟨#[], #[.int .u8 0, .slice none 0 0, .int .u8 0, .agg #[.int .u64 0, .int .i64 0, .int .i64 0]], []⟩ 8 (by kernel_rfl) (by kernel_rfl) (by kernel_rfl) (by kernel_rfl)) ?_
  intro W base args ds gs before hval0 hW hcnd _
  have hval : ∀ (j : Nat) t v, Try.f6.params[j]? = some t → args[j]? = some v → Value.okWide Try.prog W .any base t v := hval0
  have hW' := hW
  obtain ⟨p, q, hA0, hV, rfl, hfz, hnd⟩ := hW
  have hA : DataW.TrodAll enc Try.prog W 0 (fun _ => true) true Try.f6.params.toList args.toList ds p := hA0
  rw [Try.params6] at hA hval
  obtain ⟨v0, vs0, d0, ds0, p0, q0, hargs0, rfl, rfl, h0, r0⟩ := trodAll_cons hA
  obtain ⟨v1, vs1, d1, ds1, p1, q1, hargs1, rfl, rfl, h1, r1⟩ := trodAll_cons r0
  obtain ⟨v2, vs2, d2, ds2, p2, q2, hargs2, rfl, rfl, h2, r2⟩ := trodAll_cons r1
  obtain ⟨v3, vs3, d3, ds3, p3, q3, hargs3, rfl, rfl, h3, r3⟩ := trodAll_cons r2
  obtain ⟨rfl, rfl, rfl⟩ := trodAll_nil r3
  obtain rfl : args = #[v0, v1, v2, v3] := by cases args; simp_all
  obtain ⟨rfl, rfl⟩ := trodVars_none hV
  obtain ⟨n0, b0, e0⟩ := open_u8 (hval 0 5 v0 rfl rfl) h0
  obtain ⟨ao1, len1, cap1, X1, e1, c1, o1, m1⟩ := open_puts (hval 1 58 v1 rfl rfl) h1
  obtain ⟨n2, b2, e2⟩ := open_u8 (hval 2 5 v2 rfl rfl) h2
  obtain ⟨n3, b3, e3⟩ := open_choice choice_struct (hval 3 29 v3 rfl rfl) h3
  clear hA0 hval0
  simp only [List.append_nil] at hW'
  have hlt0 : ∀ x ∈ p0, x.block < W.heap.size := fun x hx => hW'.lt x (by simp [hx])
  have hlt1 : ∀ x ∈ p1, x.block < W.heap.size := fun x hx => hW'.lt x (by simp [hx])
  have hlt2 : ∀ x ∈ p2, x.block < W.heap.size := fun x hx => hW'.lt x (by simp [hx])
  have hlt3 : ∀ x ∈ p3, x.block < W.heap.size := fun x hx => hW'.lt x (by simp [hx])
  have hwalk := walk W n0 b0 ao1 len1 cap1 X1 c1 o1 m1 n2 b2 n3 b3
  rw [← e0, ← e1, ← e2, ← e3] at hwalk
  refine hwalk.mono fun e W' ⟨he, hg⟩ => ?_
  subst he
  exact ⟨_, rfl, _, _, _, [], _, [], hW', (trodAll_cons_mk (shut_bool Try.underlying4 _) trodAll_mk0), (trodAll_cons_mk (Below.trod laidOut (by kernel_rfl) (of_decide_eq_true (by kernel_rfl)) h0 hg hlt0) (trodAll_cons_mk (Below.trod laidOut (by kernel_rfl) (of_decide_eq_true (by kernel_rfl)) h1 hg hlt1) (trodAll_cons_mk (Below.trod laidOut (by kernel_rfl) (of_decide_eq_true (by kernel_rfl)) h2 hg hlt2) (trodAll_cons_mk (Below.trod laidOut (by kernel_rfl) (of_decide_eq_true (by kernel_rfl)) h3 hg hlt3) trodAll_mk0)))), rfl, Below.frame hg _, fun h => by cases h⟩

theorem over : Rows.diskBytesRow.holds Try.pinned (OpenSpec.ofChange Rows.diskBytesSpec) :=
  OpenClaim.holds_of_wide 6 Try.f6 rfl rfl rfl rfl rfl rfl rfl ⟨rfl, rfl, rfl, rfl, rfl⟩ rfl rfl rfl rfl rfl (by kernel_rfl) Try.func6 (by kernel_rfl)
    (of_decide_eq_true (by kernel_rfl)) (by unfold Func.isWrapper; first | (rw [if_pos (by decide +kernel)]; kernel_rfl) | (rw [if_neg (by decide +kernel)]; exact ⟨rfl, rfl⟩))
    (fun os started H enc _ => lifted os started H enc)

/-- ████ THE STATEMENT ████ -/
theorem proved : Rows.DiskBytesSaid :=
  over
#print axioms proved
end Go.Proofs.Ytoclgneokfbobaa.diskBytes
