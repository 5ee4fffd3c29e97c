/-
  The statements' helper lay: records laid on both disks.
-/
import Derived.Test.YtakajeimlppmbaaGq
import Derived.Test.YtakajeimlppmbaaGr
import Derived.Test.YtakajeimlppmbaaHa
namespace Go.Proofs.Ytakajeimlppmbaa.Rc
open Go Go.RowKit Go.ChangeShapes Go.WideShapes Go.ChangeAt Go.Proofs.Ytakajeimlppmbaa.Mem Go.Proofs.Ytakajeimlppmbaa.Pk Go.Proofs.Ytakajeimlppmbaa.Fk Go.Proofs.Ytakajeimlppmbaa.Dz Go.Proofs.Ytakajeimlppmbaa.Fz
set_option linter.unusedVariables false

theorem writes_pend (s : Ds) (k : Int) (d : ByteArray) : (s.writes k d).2.pend.length ≤ s.pend.length + 1 := by
  unfold Ds.writes Ds.burnt Ds.wrote
  repeat' split
  all_goals simp
theorem o_rsecs {w0 w : World} {L : List As} (h : Mem.Own w0 L w) (b l : Int) (k : Nat) (d : ByteArray) (hk : k < 256) (hd : d.size ≤ maxLen) :
    Calls Try.prog 14 #[.int .i64 b, .int .i64 l, .int .u8 (k : Int), .string d] w fun e w' => ∃ ao cap, e = .returned (.tuple #[.slice ao (nS b l d) cap, .int .i64 (secE b l d)]) ∧ Mem.Own w0 (secA (.slice ao (nS b l d) cap) (nS b l d) (sec b l k d) :: L) w' :=
  (rsectors_c b l k d hk hd w).mono fun e w' ⟨v, he, hrow, hk⟩ => by
    obtain ⟨ao, cap, rfl, _⟩ := strings_at hrow
    refine ⟨ao, cap, he, (h.push (b := secA _ _ _) hk ⟨ownsRow_mono hrow (Nat.zero_le _), fun g hg => .inr ⟨ownsRow_base hrow hg, (hrow.lt g hg).2⟩⟩).front⟩
theorem lay_facts {w0 W : World} {ao : Option Addr} {n cap : Nat} {x : Nat → ByteArray} {X F D G R : Nat} {L : List As} (h : Mem.Own w0 (secA (.slice ao n cap) n x :: boxA X #[.pointer (some ⟨F, 0, none⟩), .pointer (some ⟨D, 0, none⟩), .pointer (some ⟨G, 0, none⟩), .pointer (some ⟨R, 0, none⟩)] 46 :: L) W) :
    W.cell? ⟨X, 1, none⟩ = some (.pointer (some ⟨D, 0, none⟩)) ∧ W.cell? ⟨X, 3, none⟩ = some (.pointer (some ⟨R, 0, none⟩)) ∧ SAt W ao n x := by
  obtain ⟨_, h1, _, h3⟩ := pair_cells h.tail W (Kept.refl W)
  exact ⟨h1, h3, own_strs h 0 rfl⟩
set_option maxRecDepth 100000 in
set_option maxHeartbeats 4000000 in
theorem lay_c {w0 w : World} {X F D G R : Nat} {s0 : Ds} {L : List As} (h : Mem.Own w0 (pair X F D G R s0 L) w) (h0 : s0.pend.length = 0) (ao : Option Addr) (len cap : Nat) (P : Nat → PutR) (h20 : len ≤ 20)
    (hP : ∀ i, i < len → ∃ b off, ao = some ⟨b, off, none⟩ ∧ b < w0.heap.size ∧ (P i).at b (off + i * 6) w0) (hok : ∀ i, i < len → (P i).ok) (hd : ∀ i, i < len → (P i).data.size ≤ 400) :
    Calls Try.prog 17 #[.pointer (some ⟨X, 0, none⟩), .slice ao len cap] w fun e w' => e = .returned (.bool true) ∧ ∃ s, Mem.Own w0 (pair X F D G R s L) w' ∧ s.pend.length ≤ 4000 := by
  have HX := Lib.hid (And.intro hP (And.intro hok hd))
  clear hP hok hd
  go_enter Try.func17, Try.ntmps17
  go_wp2
  go_loopw [5] (fun i wr => ∃ k : Nat, k ≤ len ∧ i = .int .i64 (k : Int) ∧ ∃ s, Mem.Own w0 (pair X F D G R s L) wr ∧ s.pend.length ≤ 10 * k) (fun i _ => len - (intOf i).toNat)
  case atStart => exact ⟨0, by omega, rfl, s0, h, by omega⟩
  case round =>
    clear h h0
    obtain ⟨k, hk, rfl, s, hp, hl⟩ := hrel
    by_cases hlt : k < len
    · obtain ⟨b, off, rfl, hb, hat⟩ := HX.out.1 k hlt
      obtain ⟨_, o1, o2, o3, _, o5⟩ := HX.out.2.1 k hlt
      have hd4 := HX.out.2.2 k hlt
      have o0 := (HX.out.2.1 k hlt).hi_pos
      obtain ⟨x, hx⟩ : ∃ x, x = P k := ⟨_, rfl⟩
      rw [← hx] at hat o0 o1 o2 o3 o5 hd4
      obtain ⟨po, bo, ls, ki, da, cu⟩ := x
      dsimp only at o0 o1 o2 o3 o5 hd4
      have ci : ∀ W, Kept w0 W → W.cell? ⟨b, off + k * 6, none⟩ = some (.int .u8 (po : Int)) ∧ W.cell? ⟨b, off + k * 6 + 1, none⟩ = some (.int .u8 (bo : Int)) ∧ W.cell? ⟨b, off + k * 6 + 2, none⟩ = some (.int .u8 (ls : Int)) ∧ W.cell? ⟨b, off + k * 6 + 3, none⟩ = some (.int .u8 (ki : Int)) ∧ W.cell? ⟨b, off + k * 6 + 4, none⟩ = some (.string da) ∧ W.cell? ⟨b, off + k * 6 + 5, none⟩ = some (.int .u8 (cu : Int)) := fun W kW => by
        obtain ⟨c0, c1, c2, c3, c4, c5⟩ := hat.kept kW hb
        exact ⟨c0, c1, c2, c3, c4, c5⟩
      obtain ⟨_, c1, c2, c3, c4, _⟩ := ci wr hp.kept
      obtain ⟨_, d1, d2, d3, d4, _⟩ := ci wr.drew hp.kept.drew
      have hsec : ∀ W, Mem.Own w0 (pair X F D G R s L) W → Calls Try.prog 14 #[.int .i64 (bo : Int), .int .i64 (ls : Int), .int .u8 (ki : Int), .string da] W fun e w' => ∃ ao cap, e = .returned (.tuple #[.slice ao (nS bo ls da) cap, .int .i64 (secE bo ls da)]) ∧ Mem.Own w0 (secA (.slice ao (nS bo ls da) cap) (nS bo ls da) (sec bo ls ki da) :: pair X F D G R s L) w' := fun W hW => o_rsecs hW bo ls ki da (by omega) (Nat.le_trans hd4 (by decide))
      have hn10 : nS bo ls da ≤ 10 := by unfold nS parts; split <;> omega
      obtain ⟨E, hE⟩ : ∃ E, E = secE bo ls da := ⟨_, rfl⟩
      obtain ⟨n, hn⟩ : ∃ n, n = nS bo ls da := ⟨_, rfl⟩
      obtain ⟨Y, hY⟩ : ∃ Y, Y = sec bo ls ki da := ⟨_, rfl⟩
      rw [← hE, ← hn, ← hY] at hsec
      rw [← hn] at hn10
      have w1 : IntKind.i64.wrap (bo : Int) = (bo : Int) := by rw [IntKind.wrap_i64]; omega
      have w2 : IntKind.i64.wrap (ls : Int) = (ls : Int) := by rw [IntKind.wrap_i64]; omega
      have HC := Lib.hid (And.intro ci (And.intro hp (And.intro hl hsec)))
      clear ci hp hl hsec hx hat hE hn hY
      go_wp2
      go_region_held3 (fun W => W.cell? ⟨b, off + k * 6 + 1, none⟩ = some (.int .u8 (bo : Int)) ∧ W.cell? ⟨b, off + k * 6 + 2, none⟩ = some (.int .u8 (ls : Int)) ∧ W.cell? ⟨b, off + k * 6 + 3, none⟩ = some (.int .u8 (ki : Int)) ∧ W.cell? ⟨b, off + k * 6 + 4, none⟩ = some (.string da))
        (first | assumption | exact ⟨c1, c2, c3, c4⟩ | exact ⟨d1, d2, d3, d4⟩ | ((obtain ⟨_, z1, z2, z3, z4, _⟩ := HC.out.1 _ k3.kept); exact ⟨z1, z2, z3, z4⟩))
        (first
          | (go_at_call 14; refine (HC.out.2.2.2 _ HC.out.2.1.drew).mono ?_; rintro e u3 ⟨ao3, cap3, rfl, k3⟩))
      have H3 := Lib.hid k3
      have k3' := k3.kept
      clear k3 c1 c2 c3 c4 d1 d2 d3 d4
      by_cases hE0 : E = 0
      · subst hE0
        go_wp2
        go_loopw [8] (fun i wr => ∃ j : Nat, j ≤ n ∧ i = .int .i64 (j : Int) ∧ ∃ s, Mem.Own w0 (secA (.slice ao3 n cap3) n Y :: pair X F D G R s L) wr ∧ s.pend.length ≤ 10 * k + j) (fun i _ => n - (intOf i).toNat)
        case atStart => exact ⟨0, by omega, rfl, s, H3.out, by have := HC.out.2.2.1; omega⟩
        case round =>
          clear k3'
          obtain ⟨j, hj, rfl, t, hp, hl⟩ := hrel
          obtain ⟨c0, _, _, _, _, c5⟩ := HC.out.1 wr hp.kept
          by_cases hjn : j < n
          · by_cases hgo : cu = 0 ∨ j < cu
            · obtain ⟨g, eg, x0⟩ := (own_strs hp 0 rfl) j hjn
              cases eg
              obtain ⟨Z, hZ⟩ : ∃ Z, Z = Y j := ⟨_, rfl⟩
              have hf : ∀ W A B, Mem.Own w0 (secA (.slice (some ⟨g, 0, none⟩) n cap3) n Y :: boxA X #[.pointer (some ⟨F, 0, none⟩), .pointer (some ⟨D, 0, none⟩), .pointer (some ⟨G, 0, none⟩), .pointer (some ⟨R, 0, none⟩)] 46 :: A :: B :: L) W → W.cell? ⟨X, 1, none⟩ = some (.pointer (some ⟨D, 0, none⟩)) ∧ W.cell? ⟨X, 3, none⟩ = some (.pointer (some ⟨R, 0, none⟩)) ∧ W.cell? ⟨g, j, none⟩ = some (.string Z) := fun W A B hW => by
                obtain ⟨y1, y3, ys⟩ := lay_facts hW
                obtain ⟨g', eg, y0⟩ := ys j hjn
                cases eg
                exact ⟨y1, y3, by rw [hZ]; exact y0⟩
              obtain ⟨y1, y3, _⟩ := hf _ _ _ hp
              have hw1 : ∀ W, Mem.Own w0 (secA (.slice (some ⟨g, 0, none⟩) n cap3) n Y :: pair X F D G R t L) W → Calls Try.prog 22 #[.pointer (some ⟨D, 0, none⟩), .int .i64 ((po : Int) + (j : Int)), .string Z] W fun e w' => e = .returned (.int .i64 (t.writes ((po : Int) + (j : Int)) Z).1) ∧ Mem.Own w0 (secA (.slice (some ⟨g, 0, none⟩) n cap3) n Y :: boxA X #[.pointer (some ⟨F, 0, none⟩), .pointer (some ⟨D, 0, none⟩), .pointer (some ⟨G, 0, none⟩), .pointer (some ⟨R, 0, none⟩)] 46 :: rk G R t :: dk F D (t.writes ((po : Int) + (j : Int)) Z).2 :: L) w' := fun W hW => o_write hW 3 rfl (by omega) _ Z
              have hw2 : ∀ W, Mem.Own w0 (secA (.slice (some ⟨g, 0, none⟩) n cap3) n Y :: boxA X #[.pointer (some ⟨F, 0, none⟩), .pointer (some ⟨D, 0, none⟩), .pointer (some ⟨G, 0, none⟩), .pointer (some ⟨R, 0, none⟩)] 46 :: rk G R t :: dk F D (t.writes ((po : Int) + (j : Int)) Z).2 :: L) W → Calls Try.prog 35 #[.pointer (some ⟨R, 0, none⟩), .int .i64 ((po : Int) + (j : Int)), .string Z] W fun e w' => e = .returned (.int .i64 (t.writes ((po : Int) + (j : Int)) Z).1) ∧ Mem.Own w0 (secA (.slice (some ⟨g, 0, none⟩) n cap3) n Y :: pair X F D G R (t.writes ((po : Int) + (j : Int)) Z).2 L) w' := fun W hW => o_rwrite hW 2 rfl (by omega) _ Z
              have hT := writes_pend t ((po : Int) + (j : Int)) Z
              generalize (t.writes ((po : Int) + (j : Int)) Z).2 = T at hw1 hw2 hT
              generalize (t.writes ((po : Int) + (j : Int)) Z).1 = EW at hw1 hw2
              have hT2 : T.pend.length ≤ 10 * k + (j + 1) := by omega
              have HF := Lib.hid (And.intro hf (And.intro hp (And.intro hw1 (And.intro hw2 hT2))))
              have hwp : IntKind.i64.wrap (po : Int) = (po : Int) := by rw [IntKind.wrap_i64]; omega
              have hwc : IntKind.i64.wrap (cu : Int) = (cu : Int) := by rw [IntKind.wrap_i64]; omega
              clear hf hp hw1 hw2 hT hT2 x0 hZ hl
              by_cases hc0 : cu = 0
              · subst hc0
                go_wp2
                go_region_held3 (fun W => W.cell? ⟨X, 1, none⟩ = some (.pointer (some ⟨D, 0, none⟩)) ∧ W.cell? ⟨X, 3, none⟩ = some (.pointer (some ⟨R, 0, none⟩)) ∧ W.cell? ⟨g, j, none⟩ = some (.string Z))
                  (first | assumption | exact HF.out.1 _ _ _ HF.out.2.1 | exact HF.out.1 _ _ _ HF.out.2.1.drew | exact HF.out.1 _ _ _ k4 | exact HF.out.1 _ _ _ k5)
                  (first
                    | (go_at_call 22; refine (HF.out.2.2.1 _ HF.out.2.1.drew).mono ?_; rintro e u4 ⟨rfl, k4⟩)
                    | (go_at_call 35; refine (HF.out.2.2.2.1 _ k4).mono ?_; rintro e u5 ⟨rfl, k5⟩))
                go_wp2
                go_roundw
                case rel => exact ⟨j + 1, by omega, by go_num, T, k5, HF.out.2.2.2.2⟩
                case measure => simp [intOf]; omega
              · have hcj : j < cu := by omega
                have hcz : ((cu : Int) == 0) = false := by simp; omega
                go_wp2
                go_region_held3 (fun W => W.cell? ⟨X, 1, none⟩ = some (.pointer (some ⟨D, 0, none⟩)) ∧ W.cell? ⟨X, 3, none⟩ = some (.pointer (some ⟨R, 0, none⟩)) ∧ W.cell? ⟨g, j, none⟩ = some (.string Z))
                  (first | assumption | exact HF.out.1 _ _ _ HF.out.2.1 | exact HF.out.1 _ _ _ HF.out.2.1.drew | exact HF.out.1 _ _ _ k4 | exact HF.out.1 _ _ _ k5)
                  (first
                    | (go_at_call 22; refine (HF.out.2.2.1 _ HF.out.2.1.drew).mono ?_; rintro e u4 ⟨rfl, k4⟩)
                    | (go_at_call 35; refine (HF.out.2.2.2.1 _ k4).mono ?_; rintro e u5 ⟨rfl, k5⟩))
                go_wp2
                go_roundw
                case rel => exact ⟨j + 1, by omega, by go_num, T, k5, HF.out.2.2.2.2⟩
                case measure => simp [intOf]; omega
            · have hcu : ¬ j < cu := fun h => hgo (.inr h)
              have hcz : ((cu : Int) == 0) = false := by simp; omega
              have HP := Lib.hid (And.intro hp hl)
              clear hp hl
              go_wp2
              exact ⟨⟨k + 1, by omega, rfl, t, HP.out.1.tail, by have := HP.out.2; omega⟩, by simp [intOf]; omega⟩
          · have HP := Lib.hid (And.intro hp hl)
            clear hp hl
            go_wp2
            exact ⟨⟨k + 1, by omega, rfl, t, HP.out.1.tail, by have := HP.out.2; omega⟩, by simp [intOf]; omega⟩
      · have hq : (E != 0) = true := by simp [hE0]
        go_wp2
        exact ⟨⟨k + 1, by omega, rfl, s, H3.out.tail, by have := HC.out.2.2.1; omega⟩, by simp [intOf]; omega⟩
    · obtain rfl : k = len := by omega
      have HP := Lib.hid (And.intro hp hl)
      clear hp hl
      go_wp2
      go_ret
      exact ⟨rfl, s, HP.out.1, by have := HP.out.2; omega⟩
end Go.Proofs.Ytakajeimlppmbaa.Rc
