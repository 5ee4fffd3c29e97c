/-
  The pair's comparison.
-/
import Derived.Test.YtoclgneokfbobaaRp
namespace Go.Proofs.Ytoclgneokfbobaa.Dz
open Go.RowKit Go.ChangeShapes Go.WideShapes Go.ChangeAt Go.Proofs.Ytoclgneokfbobaa.Mem Go.Proofs.Ytoclgneokfbobaa.Fz
set_option linter.unusedVariables false

theorem Rk.keep {R G Sb : Nat} {pv : Value} {s : Ds} {w W : World} (h : Rk R G Sb pv s w) (k : Kept w W) : Rk R G Sb pv s W :=
  h.at (Below.block k _ h.lts.1) (Below.block k _ h.lts.2.1) (Below.block k _ h.lts.2.2.1) (fun g hg => Below.block k _ (h.lts.2.2.2 g hg))
set_option maxHeartbeats 3000000 in
set_option maxRecDepth 100000 in
theorem same_c (X F D G R M1 M2 Sb : Nat) (pv qv : Value) (s : Ds) (hroom : s.pend.length < 4294967296) (w : World) (hd : Dk F D M1 M2 pv s w) (hr : Rk R G Sb qv s w)
    (hx : w.heap[X]? = some (.cells #[.pointer (some ⟨F, 0, none⟩), .pointer (some ⟨D, 0, none⟩), .pointer (some ⟨G, 0, none⟩), .pointer (some ⟨R, 0, none⟩)] 40 (0, 0))) :
    Calls Try.prog 12 #[.pointer (some ⟨X, 0, none⟩)] w fun e w' => e = .returned (.bool true) ∧ Kept w w' := by
  have cX : ∀ W, Kept w W → W.cell? ⟨X, 1, none⟩ = some (.pointer (some ⟨D, 0, none⟩)) ∧ W.cell? ⟨X, 3, none⟩ = some (.pointer (some ⟨R, 0, none⟩)) ∧ W.cell? ⟨R, 0, none⟩ = some (.slice (some ⟨Sb, 0, none⟩) s.n s.n) ∧ W.cell? ⟨R, 3, none⟩ = some (.bool s.full) := fun W hW => by
    obtain ⟨_, h1, _, h3, _⟩ := box4 (hW.at hx)
    obtain ⟨c0, _, _, c3, _⟩ := (hr.keep hW).cells W (Off.refl _ _)
    exact ⟨h1, h3, c0, c3⟩
  have cS : ∀ W, Kept w W → ∀ k, k < s.n → W.cell? ⟨Sb, k, none⟩ = some (.string (s.dur k)) := fun W hW k hk => (hr.keep hW).sec hk
  have hS : ∀ W, Kept w W → Calls Try.prog 28 #[.pointer (some ⟨D, 0, none⟩)] W fun e w' => e = .returned (.int .i64 (s.n : Int)) ∧ Kept W w' := fun W hW => (sectors_c F D M1 M2 pv s W (hd.keep hW)).mono fun e w' ⟨he, hw⟩ => ⟨he, hw ▸ Kept.refl _⟩
  have hF : ∀ W, Kept w W → Calls Try.prog 27 #[.pointer (some ⟨D, 0, none⟩)] W fun e w' => e = .returned (.bool s.full) ∧ Kept W w' := fun W hW => (full_c F D M1 M2 pv s W (hd.keep hW)).mono fun e w' ⟨he, hw⟩ => ⟨he, hw ▸ Kept.refl _⟩
  have hP : ∀ W, Kept w W → Calls Try.prog 17 #[.pointer (some ⟨D, 0, none⟩)] W fun e w' => ∃ ao cap, e = .returned (.slice ao s.pend.length cap) ∧ Kept W w' ∧ Ints W.heap.size ao (s.pend.map (·.1)) w' := fun W hW => pending_c F D M1 M2 pv s hroom W (hd.keep hW)
  have hRP : ∀ W, Kept w W → Calls Try.prog 39 #[.pointer (some ⟨R, 0, none⟩)] W fun e w' => ∃ ao cap, e = .returned (.slice ao s.pend.length cap) ∧ Kept W w' ∧ Ints W.heap.size ao (s.pend.map (·.1)) w' := fun W hW => rpending_c R G Sb qv s hroom W (hr.keep hW)
  have hE : ∀ (a1 a2 : Option Addr) (c1 c2 b1 b2 : Nat) W, Ints b1 a1 (s.pend.map (·.1)) W → Ints b2 a2 (s.pend.map (·.1)) W → Calls Try.prog 16 #[.slice a1 s.pend.length c1, .slice a2 s.pend.length c2] W fun e w' => e = .returned (.bool true) ∧ Kept W w' := fun a1 a2 c1 c2 b1 b2 W i1 i2 =>
    equalints_c a1 a2 (s.pend.map (·.1)) s.pend.length c1 c2 (by simp) hroom W (fun k hk => by
      obtain ⟨g, h1, _, _, h4⟩ := i1.cell k hk
      exact ⟨g, h1, h4⟩) (fun k hk => by
      obtain ⟨g, h1, _, _, h4⟩ := i2.cell k hk
      exact ⟨g, h1, h4⟩)
  have hR : ∀ (k : Nat) W, Kept w W → Calls Try.prog 19 #[.pointer (some ⟨D, 0, none⟩), .int .i64 (k : Int)] W fun e w' => e = .returned (.tuple #[.string (s.reads (k : Int)).1, .int .i64 (s.reads (k : Int)).2]) ∧ Kept W w' := fun k W hW => read_c F D M1 M2 pv s k W (hd.keep hW)
  have hRR : ∀ (k : Nat) W, Kept w W → Calls Try.prog 32 #[.pointer (some ⟨R, 0, none⟩), .int .i64 (k : Int)] W fun e w' => e = .returned (.tuple #[.string (s.reads (k : Int)).1, .int .i64 (s.reads (k : Int)).2]) ∧ Kept W w' := fun k W hW => rread_c R G Sb qv s k W (hr.keep hW)
  have hDu : ∀ (k : Nat) W, k < s.n → Kept w W → Calls Try.prog 18 #[.pointer (some ⟨D, 0, none⟩), .int .i64 (k : Int)] W fun e w' => e = .returned (.string (s.dur k)) ∧ Kept W w' := fun k W hk hW => by
    have q := durable_c F D M1 M2 pv s k W (hd.keep hW)
    rw [Ds.durs_in hk] at q
    exact q
  have hn := hd.ok.hi
  have S1 := cX w (Kept.refl w)
  have S1' := cX w.drew (Kept.refl w).drew
  have HX := Lib.hid (And.intro cX cS)
  clear hd hr hx cX cS hroom
  go_enter Try.func12, Try.ntmps12
  go_wp2
  go_region_held3 (fun W => W.cell? ⟨X, 1, none⟩ = some (.pointer (some ⟨D, 0, none⟩)) ∧ W.cell? ⟨X, 3, none⟩ = some (.pointer (some ⟨R, 0, none⟩)) ∧ W.cell? ⟨R, 0, none⟩ = some (.slice (some ⟨Sb, 0, none⟩) s.n s.n) ∧ W.cell? ⟨R, 3, none⟩ = some (.bool s.full))
    (first | assumption | exact HX.out.1 _ k5 | exact HX.out.1 _ k4 | exact HX.out.1 _ k3 | exact HX.out.1 _ k2 | exact HX.out.1 _ k1)
    (first
      | (go_at_call 28; (with_reducible refine (hS _ (Kept.refl w).drew).mono ?_); rintro e u1 ⟨rfl, q⟩; have k1 := (Kept.refl w).drew.trans q; clear q)
      | (go_at_call 17; (with_reducible refine (hP _ k1).mono ?_); rintro e u2 ⟨ao, cap, rfl, q, i1⟩; have k2 := k1.trans q; clear q)
      | (go_at_call 39; (with_reducible refine (hRP _ k2).mono ?_); rintro e u3 ⟨ao', cap', rfl, q, i2⟩; have k3 := k2.trans q; have i1' := i1.kept q; clear q i1)
      | (go_at_call 16; (with_reducible refine (hE _ _ _ _ _ _ _ i1' i2).mono ?_); rintro e u4 ⟨rfl, q⟩; have k4 := k3.trans q; clear q)
      | (go_at_call 27; (with_reducible refine (hF _ k4).mono ?_); rintro e u5 ⟨rfl, q⟩; have k5 := k4.trans q; clear q))
  clear S1 S1'
  go_wp2
  go_loopw [3] (fun i wr => ∃ k : Nat, k ≤ s.n ∧ i = .int .i64 k ∧ Kept w wr) (fun i _ => s.n - (intOf i).toNat)
  case atStart => exact ⟨0, by omega, rfl, k5⟩
  case round =>
    obtain ⟨k, hk, rfl, hp⟩ := hrel
    obtain ⟨c1, c3, c0, _⟩ := HX.out.1 wr hp
    by_cases hlt : k < s.n
    · have hRk := hR k
      have hRRk := hRR k
      have hDk := fun W => hDu k W hlt
      have hSk : ∀ W, Kept w W → W.cell? ⟨Sb, k, none⟩ = some (.string (s.dur k)) := fun W hW => HX.out.2 W hW k hlt
      obtain ⟨a, ha⟩ : ∃ a, a = (s.reads (k : Int)).1 := ⟨_, rfl⟩
      obtain ⟨er, her⟩ : ∃ a, a = (s.reads (k : Int)).2 := ⟨_, rfl⟩
      obtain ⟨du, hdu⟩ : ∃ a, a = s.dur k := ⟨_, rfl⟩
      rw [← ha, ← her] at hRk hRRk
      rw [← hdu] at hDk hSk
      have HY := Lib.hid hSk
      clear ha her hdu hSk hk
      go_wp2_with (first
        | (go_at_call 19; (with_reducible refine (hRk _ hp).mono ?_); rintro e v1 ⟨rfl, q⟩; have m1 := hp.trans q; clear q; obtain ⟨_, d3, _⟩ := HX.out.1 _ m1)
        | (go_at_call 32; (with_reducible refine (hRRk _ m1).mono ?_); rintro e v2 ⟨rfl, q⟩; have m2 := m1.trans q; clear q))
      have m2d := m2.drew
      have T1 := And.intro (HX.out.1 _ m2) (HY.out _ m2)
      have T1' := And.intro (HX.out.1 _ m2d) (HY.out _ m2d)
      go_region_held3 (fun W => (W.cell? ⟨X, 1, none⟩ = some (.pointer (some ⟨D, 0, none⟩)) ∧ W.cell? ⟨X, 3, none⟩ = some (.pointer (some ⟨R, 0, none⟩)) ∧ W.cell? ⟨R, 0, none⟩ = some (.slice (some ⟨Sb, 0, none⟩) s.n s.n) ∧ W.cell? ⟨R, 3, none⟩ = some (.bool s.full)) ∧ W.cell? ⟨Sb, k, none⟩ = some (.string du))
        (first | assumption | exact And.intro (HX.out.1 _ m3) (HY.out _ m3))
        (first
          | (go_at_call 18; (with_reducible refine (hDk _ m2d).mono ?_); rintro e v3 ⟨rfl, q⟩; have m3 := m2d.trans q; clear q))
      go_wp2
      go_roundw
      case rel => exact ⟨k + 1, by omega, by go_num, m3⟩
      case measure => simp [intOf]; omega
    · obtain rfl : k = s.n := by omega
      go_wp2
      go_ret
      exact ⟨rfl, hp⟩
theorem bsame_c {w0 w : World} {X F D G R : Nat} {s : Ds} {L : List As} (h : Own w0 (pair X F D G R s L) w) (hroom : s.pend.length < 4294967296) :
    Calls Try.prog 12 #[.pointer (some ⟨X, 0, none⟩)] w fun e w' => e = .returned (.bool true) ∧ Own w0 (pair X F D G R s L) w' := by
  obtain ⟨_, ⟨M1, M2, pv, hd, _⟩, _⟩ := h.see 2 rfl
  obtain ⟨_, ⟨Sb, qv, hr, _⟩, _⟩ := h.see 1 rfl
  have hb := Own.boxed h 0 rfl
  exact (same_c X F D G R M1 M2 Sb pv qv s hroom w hd hr hb).mono fun e w' ⟨he, hk⟩ => ⟨he, h.later hk⟩
end Go.Proofs.Ytoclgneokfbobaa.Dz
