/-
  RecordReads' core.
-/
import Derived.Test.YtakajeimlppmbaaHb
import Derived.Test.YtakajeimlppmbaaGo
import Derived.Test.YtakajeimlppmbaaGt
namespace Go.Proofs.Ytakajeimlppmbaa.Rc
open Go Go.RowKit Go.ChangeShapes Go.WideShapes Go.ChangeAt Go.Proofs.Ytakajeimlppmbaa.Mem Go.Proofs.Ytakajeimlppmbaa.Pk Go.Proofs.Ytakajeimlppmbaa.Fk Go.Proofs.Ytakajeimlppmbaa.Dz Go.Proofs.Ytakajeimlppmbaa.Fz
set_option linter.unusedVariables false

theorem own_ok {w0 w : World} {L : List As} (h : Mem.Own w0 L w) (i : Nat) {F D : Nat} {s : Ds} (hi : L[i]? = some (dk F D s)) : s.ok := by
  obtain ⟨_, ⟨M1, M2, pv, hd, _⟩, _⟩ := h.see i hi
  exact hd.ok
theorem k_rfetch {w0 w : World} {L : List As} (h : Mem.Own w0 L w) (i : Nat) {G R : Nat} {s : Ds} (hi : L[i]? = some (rk G R s)) (hok : s.ok) (a e lsn boot : Int) (ha : -9223372036854775808 ≤ a ∧ a ≤ 9223372036854775807) (he : -9223372036854775808 ≤ e ∧ e ≤ 9223372036854775807) :
    Calls Try.prog 19 #[.pointer (some ⟨R, 0, none⟩), .int .i64 a, .int .i64 e, .int .i64 lsn, .int .i64 boot] w fun ed w' => ed = .returned (.tuple #[.agg #[.int .i64 (fetch s a e lsn boot).1.boot, .int .i64 (fetch s a e lsn boot).1.lsn, .int .i64 (fetch s a e lsn boot).1.part, .int .i64 (fetch s a e lsn boot).1.parts, .int .u8 ((fetch s a e lsn boot).1.kind : Int), .string (fetch s a e lsn boot).1.data], .int .i64 (fetch s a e lsn boot).2]) ∧ Kept w w' := by
  obtain ⟨S, ⟨Sb, pv, hd, _⟩, _⟩ := h.see i hi
  exact rfetch_c R G Sb pv s hok a e lsn boot ha he w hd
theorem k_fetch {w0 w : World} {L : List As} (h : Mem.Own w0 L w) (i : Nat) {F D : Nat} {s : Ds} (hi : L[i]? = some (dk F D s)) (hok : s.ok) (a e lsn boot : Int) (ha : -9223372036854775808 ≤ a ∧ a ≤ 9223372036854775807) (he : -9223372036854775808 ≤ e ∧ e ≤ 9223372036854775807) :
    Calls Try.prog 18 #[.pointer (some ⟨D, 0, none⟩), .int .i64 a, .int .i64 e, .int .i64 lsn, .int .i64 boot] w fun ed w' => ed = .returned (.tuple #[.agg #[.int .i64 (fetch s a e lsn boot).1.boot, .int .i64 (fetch s a e lsn boot).1.lsn, .int .i64 (fetch s a e lsn boot).1.part, .int .i64 (fetch s a e lsn boot).1.parts, .int .u8 ((fetch s a e lsn boot).1.kind : Int), .string (fetch s a e lsn boot).1.data], .int .i64 (fetch s a e lsn boot).2]) ∧ Kept w w' := by
  obtain ⟨S, ⟨M1, M2, pv, hd, _⟩, _⟩ := h.see i hi
  exact fetch_c F D M1 M2 pv s hok a e lsn boot ha he w hd
theorem wrap_in (x : Int) : -9223372036854775808 ≤ wrap64 x ∧ wrap64 x ≤ 9223372036854775807 := by
  unfold wrap64; omega
set_option maxRecDepth 100000 in
set_option maxHeartbeats 1000000 in
theorem reads_long (w : World) (n : Nat) (hn : n ≤ 255) (ao : Option Addr) (len cap : Nat) (e lsn boot : Int) (h : 20 < len) :
    Calls Try.prog 4 #[.int .u8 (n : Int), .slice ao len cap, .int .i64 e, .int .i64 lsn, .int .i64 boot] w fun e w' => e = .returned (.bool true) ∧ Kept w w' := by
  have h1 : decide (20 < (len : Int)) = true := by simp; omega
  clear h
  go_enter Try.func4, Try.ntmps4
  go_wp2_with (go_at_call 10; refine (Rc.known_c _).mono ?_; rintro e u ⟨rfl, hk⟩)
  go_ret
  exact ⟨rfl, hk⟩
set_option maxRecDepth 100000 in
set_option maxHeartbeats 8000000 in
theorem reads_core (w : World) (n : Nat) (hn : n ≤ 255) (ao : Option Addr) (len cap : Nat) (P : Nat → PutR) (h20 : len ≤ 20)
    (hP : ∀ i, i < len → ∃ b off, ao = some ⟨b, off, none⟩ ∧ b < w.heap.size ∧ (P i).at b (off + i * 6) w) (hok : ∀ i, i < len → (P i).ok) (e lsn boot : Int) :
    Calls Try.prog 4 #[.int .u8 (n : Int), .slice ao len cap, .int .i64 e, .int .i64 lsn, .int .i64 boot] w fun e w' => e = .returned (.bool true) ∧ Kept w w' := by
  have h1 : decide (20 < (len : Int)) = false := by simp; omega
  have hkn : ∀ W, Calls Try.prog 10 #[] W fun e w' => e = .returned (.bool true) ∧ Kept W w' := Rc.known_c
  obtain ⟨N, hN, hN1, hN2⟩ : ∃ N : Nat, (n : Int) % 16 + 1 = (N : Int) ∧ 1 ≤ N ∧ N ≤ 16 := ⟨n % 16 + 1, by omega, by omega, by omega⟩
  have hnew : Calls Try.prog 16 #[.int .i64 (N : Int)] w fun e w' => ∃ X F D G R, e = .returned (.pointer (some ⟨X, 0, none⟩)) ∧ Mem.Own w (pair X F D G R (fresh N .idle) []) w' := bnew_c (Mem.Own.nil w) N hN1 (by omega)
  have HX := Lib.hid (And.intro hP (And.intro hok h20))
  clear hP hok
  go_enter Try.func4, Try.ntmps4
  go_wp2
  go_loopw [11] (fun i wr => ∃ k : Nat, k ≤ len ∧ i = .int .i64 (k : Int) ∧ (∀ i, i < k → (P i).data.size ≤ 400) ∧ wr = w) (fun i _ => len - (intOf i).toNat)
  case atStart => exact ⟨0, by omega, rfl, fun i h => absurd h (by omega), rfl⟩
  case round =>
    obtain ⟨k, hk, rfl, hall, hw⟩ := hrel
    replace hw := hw.symm
    subst hw
    by_cases hlt : k < len
    · obtain ⟨b, off, rfl, hb, hat⟩ := HX.out.1 k hlt
      have c4 := hat.cdata
      obtain ⟨da, hda⟩ : ∃ da, da = (P k).data := ⟨_, rfl⟩
      rw [← hda] at c4
      by_cases h4 : da.size ≤ 400
      · have ht : decide (400 < (da.size : Int)) = false := by simp; omega
        have HA := Lib.hid (And.intro hall (And.intro hda h4))
        clear hall hda h4 hat hnew
        have hall2 : ∀ i, i < k + 1 → (P i).data.size ≤ 400 := fun i hi => by
          by_cases e : i = k
          · rw [e, ← HA.out.2.1]; exact HA.out.2.2
          · exact HA.out.1 i (by omega)
        have HA2 := Lib.hid hall2
        clear hall2 HA
        go_wp2
        exact ⟨⟨k + 1, by omega, rfl, HA2.out, trivial⟩, by simp [intOf]; omega⟩
      · have ht : decide (400 < (da.size : Int)) = true := by simp; omega
        clear hall hda h4 hat hnew
        go_wp2_with (go_at_call 10; (with_reducible refine (hkn _).mono ?_); rintro e u ⟨rfl, hk⟩)
        go_ret
        exact ⟨rfl, hk⟩
    · obtain rfl : k = len := by omega
      have hlay : ∀ X F D G R W, Mem.Own w (pair X F D G R (fresh N .idle) []) W → Calls Try.prog 17 #[.pointer (some ⟨X, 0, none⟩), .slice ao k cap] W fun e w' => e = .returned (.bool true) ∧ ∃ s, Mem.Own w (pair X F D G R s []) w' ∧ s.pend.length ≤ 4000 := fun X F D G R W hW => lay_c hW rfl ao k cap P h20 HX.out.1 HX.out.2.1 hall
      have HL := Lib.hid hlay
      clear hall hlay
      go_wp2_with (first
        | (go_at_call 16; (with_reducible refine hnew.mono ?_); rintro e u1 ⟨X, F, D, G, R, rfl, k1⟩)
        | (go_at_call 17; refine (HL.out _ _ _ _ _ _ k1).mono ?_; rintro e u2 ⟨rfl, s, k2, hs⟩))
      have hsok := own_ok k2 2 rfl
      have hsame : ∀ W, Mem.Own w (pair X F D G R s []) W → Calls Try.prog 20 #[.pointer (some ⟨X, 0, none⟩)] W fun e w' => e = .returned (.bool true) ∧ Mem.Own w (pair X F D G R s []) w' := fun W hW => bsame_c hW (by omega)
      have hbox : ∀ W, Mem.Own w (pair X F D G R s []) W → W.cell? ⟨X, 1, none⟩ = some (.pointer (some ⟨D, 0, none⟩)) ∧ W.cell? ⟨X, 3, none⟩ = some (.pointer (some ⟨R, 0, none⟩)) := fun W hW => by
        obtain ⟨_, h1, _, h3⟩ := pair_cells hW W (Kept.refl W)
        exact ⟨h1, h3⟩
      have HB := Lib.hid (And.intro hsok (And.intro hsame hbox))
      have hN3 : (n : Int) % 16 + 2 = (N : Int) + 1 := by omega
      have K2 := Lib.hid k2
      clear hsok hsame hbox k1 k2 hs hnew HL HX
      go_loopw [13] (fun i wq => ∃ t : Nat, t ≤ N + 3 ∧ i = .int .i64 ((t : Int) - 1) ∧ Mem.Own w (pair X F D G R s []) wq) (fun i _ => N + 3 - (intOf i + 1).toNat)
      case atStart => exact ⟨0, by omega, rfl, K2.out⟩
      case round =>
        obtain ⟨t, ht, rfl, hp⟩ := hrel
        have HP := Lib.hid hp
        clear hp K2
        by_cases htN : t < N + 3
        · have g1 : decide ((t : Int) - 1 ≤ (N : Int) + 1) = true := by simp; omega
          go_wp2
          go_loopw [14] (fun i wq => ∃ j : Nat, j ≤ 4 ∧ i = .int .i64 (j : Int) ∧ Mem.Own w (pair X F D G R s []) wq) (fun i _ => 4 - (intOf i).toNat)
          case atStart => exact ⟨0, by omega, rfl, HP.out⟩
          case round =>
            obtain ⟨j, hj, rfl, hp⟩ := hrel
            by_cases hj4 : j < 4
            · have hb1 := HB.out.2.2 _ hp
              have hA := k_fetch hp 2 rfl HB.out.1 ((t : Int) - 1) (wrap64 (e - (j : Int))) lsn boot ⟨by omega, by omega⟩ (wrap_in _)
              have hR : ∀ W, Mem.Own w (pair X F D G R s []) W → Calls Try.prog 19 #[.pointer (some ⟨R, 0, none⟩), .int .i64 ((t : Int) - 1), .int .i64 (wrap64 (e - (j : Int))), .int .i64 lsn, .int .i64 boot] W fun ed w' => ed = .returned (.tuple #[.agg #[.int .i64 (fetch s ((t : Int) - 1) (wrap64 (e - (j : Int))) lsn boot).1.boot, .int .i64 (fetch s ((t : Int) - 1) (wrap64 (e - (j : Int))) lsn boot).1.lsn, .int .i64 (fetch s ((t : Int) - 1) (wrap64 (e - (j : Int))) lsn boot).1.part, .int .i64 (fetch s ((t : Int) - 1) (wrap64 (e - (j : Int))) lsn boot).1.parts, .int .u8 ((fetch s ((t : Int) - 1) (wrap64 (e - (j : Int))) lsn boot).1.kind : Int), .string (fetch s ((t : Int) - 1) (wrap64 (e - (j : Int))) lsn boot).1.data], .int .i64 (fetch s ((t : Int) - 1) (wrap64 (e - (j : Int))) lsn boot).2]) ∧ Kept W w' := fun W hW => k_rfetch hW 1 rfl HB.out.1 _ _ lsn boot ⟨by omega, by omega⟩ (wrap_in _)
              generalize fetch s ((t : Int) - 1) (wrap64 (e - (j : Int))) lsn boot = FT at hA hR
              obtain ⟨⟨fb, fl, fp, fq, fk, fd⟩, fe⟩ := FT
              dsimp only at hA hR
              have hop := fun W => neqF fb fl fp fq fk fd fb fl fp fq fk fd W
              have hs1 : same fb fl fp fq fk fd fb fl fp fq fk fd = true := same_iff.mpr rfl
              rw [hs1] at hop
              obtain ⟨y1, y3⟩ := hb1
              have HJ := Lib.hid (And.intro hp hR)
              clear hs1 hp hR
              go_wp2_with (first
                | (go_at_call 18; (with_reducible refine hA.mono ?_); rintro e u3 ⟨rfl, k3⟩; have HK3 := Lib.hid (HJ.out.1.later k3); clear k3; obtain ⟨z1, z3⟩ := HB.out.2.2 _ (HK3.out.alloc (.cells #[.int .i64 fb, .int .i64 fl, .int .i64 fp, .int .i64 fq, .int .u8 (fk : Int), .string fd] 38)))
                | (go_at_call 19; refine (HJ.out.2 _ (HK3.out.alloc _)).mono ?_; rintro e u4 ⟨rfl, k4⟩; have hsz := k4.size; rw [World.size_alloc] at hsz; have hK := Lib.hid ((HK3.out.alloc _).later k4); obtain ⟨⟨r0, r1, r2, r3, r4, r5⟩, fz⟩ := rblock ((k4.alloc (.cells #[.int .i64 fb, .int .i64 fl, .int .i64 fp, .int .i64 fq, .int .u8 (fk : Int), .string fd] 38)).block (World.alloc_heap_new u3 _)); clear k4))
              exact ⟨⟨j + 1, by omega, rfl, hK.out.alloc _⟩, by simp [intOf]; omega⟩
            · obtain rfl : j = 4 := by omega
              have HQ := Lib.hid hp
              clear hp
              go_wp2
              exact ⟨⟨t + 1, by omega, by go_num, HQ.out⟩, by simp [intOf]; omega⟩
        · have g1 : decide ((t : Int) - 1 ≤ (N : Int) + 1) = false := by simp; omega
          go_wp2_with (first
            | (go_at_call 20; refine (HB.out.2.1 _ HP.out).mono ?_; rintro e v1 ⟨rfl, k3⟩)
            | (go_at_call 10; (with_reducible refine (hkn _).mono ?_); rintro e v2 ⟨rfl, q⟩))
          go_ret
          exact ⟨by simp, k3.kept.trans q⟩
end Go.Proofs.Ytakajeimlppmbaa.Rc
