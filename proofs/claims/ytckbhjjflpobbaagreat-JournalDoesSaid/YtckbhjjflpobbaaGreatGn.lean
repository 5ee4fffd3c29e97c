/-
  The program's Read of a record: its contract.
-/
import Derived.Test.YtckbhjjflpobbaaGreatGl
namespace Go.Proofs.YtckbhjjflpobbaaGreat.Rc
open Go Go.RowKit Go.ChangeShapes Go.WideShapes Go.ChangeAt Go.Proofs.YtckbhjjflpobbaaGreat.Mem Go.Proofs.YtckbhjjflpobbaaGreat.Pk Go.Proofs.YtckbhjjflpobbaaGreat.Fk Go.Proofs.YtckbhjjflpobbaaGreat.Dz Go.Proofs.YtckbhjjflpobbaaGreat.Fz

open Classical in
/-- What Read of a record says. -/
noncomputable def fetch (s : Ds) (a e lsn boot : Int) : Fr × Int :=
  if a < 0 ∨ e < a ∨ (s.n : Int) < e then (Fr.nil, 3) else if s.fu.dead then (Fr.nil, 10) else (rdF s.look a.toNat e.toNat lsn boot, rdE s.look a.toNat e.toNat lsn boot)
theorem fetch_out {s : Ds} {a e lsn boot : Int} (h : a < 0 ∨ e < a ∨ (s.n : Int) < e) : fetch s a e lsn boot = (Fr.nil, 3) := by unfold fetch; rw [if_pos h]
theorem fetch_dead {s : Ds} {t u : Nat} {lsn boot : Int} (h : t ≤ u) (hu : u ≤ s.n) (hd : s.fu.dead = true) : fetch s t u lsn boot = (Fr.nil, 10) := by unfold fetch; rw [if_neg (by omega), if_pos hd]
theorem fetch_in {s : Ds} {t u : Nat} {lsn boot : Int} (h : t ≤ u) (hu : u ≤ s.n) (hd : s.fu.dead = false) : fetch s t u lsn boot = (rdF s.look t u lsn boot, rdE s.look t u lsn boot) := by
  unfold fetch; rw [if_neg (by omega), if_neg (by simp [hd])]; rfl
theorem rd_same {S : Nat → ByteArray} {t : Nat} {lsn boot : Int} : rdF S t t lsn boot = Fr.nil ∧ rdE S t t lsn boot = 12 := rdF_bad fun r hr => by
  have := hr.2.2.2; have := parts_pos r.data.size; omega
theorem find_d (F D M1 M2 : Nat) (pv : Value) (s : Ds) (t u : Nat) (lsn boot : Int) (htu : t ≤ u) (hu : u ≤ s.n) (hn : s.n ≤ 65536) (ha : s.fu.dead = false) (w1 : World) (hd : Dk F D M1 M2 pv s w1) :
    ∃ (R : Fr) (q : Bool), (∀ W, Kept w1 W → Calls Tryz.prog 95 #[.pointer (some ⟨D, 0, none⟩), .int .i64 (t : Int), .int .i64 (u : Int)] W fun e w' => e = .returned (.tuple #[.agg #[.int .i64 R.boot, .int .i64 R.lsn, .int .i64 R.part, .int .i64 R.parts, .int .u8 (R.kind : Int), .string R.data], .bool q]) ∧ Kept W w') ∧
      ((q = true ∧ R.lsn = lsn ∧ boot ≤ R.boot → rdF s.look t u lsn boot = R ∧ rdE s.look t u lsn boot = 0) ∧ (q = false ∨ R.lsn ≠ lsn ∨ R.boot < boot → rdF s.look t u lsn boot = Fr.nil ∧ rdE s.look t u lsn boot = 12)) := by
  by_cases hf : t < u ∧ fdOk s.look t u
  · refine ⟨fnd s.look t, fdB s.look t, fun W hW => (find_c F D M1 M2 pv s t u hu hn ha W (hd.keep hW)).mono ?_, fun ⟨h1, h2, h3⟩ => rd_fd hf.2 h1 h2 h3, fun h => rd_nofd (.inr h)⟩
    rintro e w' ⟨R, q, rfl, hk, (⟨_, _, rfl, rfl⟩ | ⟨h, _, _⟩)⟩
    · exact ⟨rfl, hk⟩
    · exact absurd hf.2 (h hf.1)
  · refine ⟨Fr.nil, false, fun W hW => (find_c F D M1 M2 pv s t u hu hn ha W (hd.keep hW)).mono ?_, fun h => (Bool.false_ne_true h.1).elim, fun _ => ?_⟩
    · rintro e w' ⟨R, q, rfl, hk, (⟨h1, h2, _, _⟩ | ⟨_, rfl, rfl⟩)⟩
      · exact absurd ⟨h1, h2⟩ hf
      · exact ⟨rfl, hk⟩
    · by_cases h : t < u
      · exact rd_nofd (.inl fun h2 => hf ⟨h, h2⟩)
      · obtain rfl : t = u := by omega
        exact rd_same
def fagg (f : Fr) : Value := .agg #[.int .i64 f.boot, .int .i64 f.lsn, .int .i64 f.part, .int .i64 f.parts, .int .u8 (f.kind : Int), .string f.data]
set_option maxRecDepth 100000 in
set_option maxHeartbeats 4000000 in
theorem fetch_c (F D M1 M2 : Nat) (pv : Value) (s : Ds) (hok : s.ok) (a e lsn boot : Int) (ha : -9223372036854775808 ≤ a ∧ a ≤ 9223372036854775807) (he : -9223372036854775808 ≤ e ∧ e ≤ 9223372036854775807) (w : World) (hd : Dk F D M1 M2 pv s w) :
    Calls Tryz.prog 75 #[.pointer (some ⟨D, 0, none⟩), .int .i64 a, .int .i64 e, .int .i64 lsn, .int .i64 boot] w fun ed w' => ed = .returned (.tuple #[.agg #[.int .i64 (fetch s a e lsn boot).1.boot, .int .i64 (fetch s a e lsn boot).1.lsn, .int .i64 (fetch s a e lsn boot).1.part, .int .i64 (fetch s a e lsn boot).1.parts, .int .u8 ((fetch s a e lsn boot).1.kind : Int), .string (fetch s a e lsn boot).1.data], .int .i64 (fetch s a e lsn boot).2]) ∧ Kept w w' := by
  have hn1 := hok.lo
  have hn2 := hok.hi
  obtain ⟨w1, hw1⟩ : ∃ w1, w1 = w.alloc (.cells #[.int .i64 0, .int .i64 0, .int .i64 0, .int .i64 0, .int .u8 0, .string ⟨#[]⟩] 113) := ⟨_, rfl⟩
  have k1 : Kept w w1 := by rw [hw1]; exact (Kept.refl w).alloc _
  have hR1 : w1.heap[w.heap.size]? = some (.cells (fcells 0 0 0 0 0 ⟨#[]⟩) 113 (0, 0)) := by rw [hw1]; exact (MapKept.heap_alloc w (.cells (fcells 0 0 0 0 0 ⟨#[]⟩) 113)).1
  have hs1 : w1.heap.size = w.heap.size + 1 := by rw [hw1]; simp
  have H0 := Lib.hid (And.intro k1 hR1)
  have hry : ∀ (y : World) (f : Fr) (E : Int) (tm : Array Value), y.heap[w.heap.size]? = some (.cells (fcells f.boot f.lsn f.part f.parts f.kind f.data) 113 (0, 0)) → Kept w y → tm[10]?.getD undef = .pointer (some ⟨w.heap.size, 0, none⟩) → tm[11]?.getD undef = .int .i64 E → bodyPost Tryz.prog Tryz.f75 (fun e w' => e = .returned (.tuple #[.agg #[.int .i64 f.boot, .int .i64 f.lsn, .int .i64 f.part, .int .i64 f.parts, .int .u8 (f.kind : Int), .string f.data], .int .i64 E]) ∧ Kept w w') Exit.ret ⟨tm, []⟩ y := fun y f E tm hy ky htm htm7 => by
    obtain ⟨c0, c1, c2, c3, c4, c5⟩ := six_cells hy
    exact bodyPost_ret (v := .tuple #[.agg #[.int .i64 f.boot, .int .i64 f.lsn, .int .i64 f.part, .int .i64 f.parts, .int .u8 (f.kind : Int), .string f.data], .int .i64 E]) (by simp [results, Tryz.results75, go_sem, c0, c1, c2, c3, c4, c5, htm, htm7]) rfl ⟨rfl, ky⟩
  have hret : ∀ (W : World), Kept w1 W → ∀ (f : Fr) (E : Int) (tm : Array Value), tm[10]?.getD undef = .pointer (some ⟨w.heap.size, 0, none⟩) → tm[11]?.getD undef = .int .i64 E → bodyPost Tryz.prog Tryz.f75 (fun e w' => e = .returned (.tuple #[.agg #[.int .i64 f.boot, .int .i64 f.lsn, .int .i64 f.part, .int .i64 f.parts, .int .u8 (f.kind : Int), .string f.data], .int .i64 E]) ∧ Kept w w') Exit.ret ⟨tm, []⟩
      ((((((W.setCell ⟨w.heap.size, 0, none⟩ (.int .i64 f.boot)).setCell ⟨w.heap.size, 1, none⟩ (.int .i64 f.lsn)).setCell ⟨w.heap.size, 2, none⟩ (.int .i64 f.part)).setCell ⟨w.heap.size, 3, none⟩ (.int .i64 f.parts)).setCell ⟨w.heap.size, 4, none⟩ (.int .u8 (f.kind : Int))).setCell ⟨w.heap.size, 5, none⟩ (.string f.data)) := fun W hW f E tm htm htm7 => by
    have hR := hW.block H0.out.2
    have hy := six (b := f.boot) (l := f.lsn) (p := f.part) (q := f.parts) (k := (f.kind : Int)) (d := f.data) hR
    have ky := six_below (b := f.boot) (l := f.lsn) (p := f.part) (q := f.parts) (k := (f.kind : Int)) (d := f.data) (H0.out.1.trans hW) (Nat.le_refl w.heap.size)
    exact hry _ f E tm hy ky htm htm7
  have HRY := Lib.hid hry
  have HRET := Lib.hid hret
  have hd1 := hd.keep k1
  have hnil : decide ((s.n : Int) < 0) = false := by simp
  clear hret hry k1 hR1 hd
  have HW := Lib.hid hw1
  by_cases h1 : a < 0
  · rw [fetch_out (.inl h1)]
    clear hd1 hw1
    go_enter Tryz.func75, Tryz.ntmps75
    go_wp2
    exact HRY.out _ Fr.nil 3 _ (HW.out ▸ H0.out.2) (HW.out ▸ H0.out.1) rfl rfl
  · obtain ⟨t, rfl⟩ := Int.eq_ofNat_of_zero_le (Int.not_lt.1 h1)
    clear h1
    by_cases h2 : e < (t : Int)
    · rw [fetch_out (.inr (.inl h2))]
      clear hd1 hw1
      go_enter Tryz.func75, Tryz.ntmps75
      go_wp2
      exact HRY.out _ Fr.nil 3 _ (HW.out ▸ H0.out.2) (HW.out ▸ H0.out.1) rfl rfl
    · have h2' : (t : Int) ≤ e := Int.not_lt.1 h2
      obtain ⟨u, rfl⟩ := Int.eq_ofNat_of_zero_le (show 0 ≤ e by omega)
      have htu : t ≤ u := by omega
      have hg : decide ((t : Int) > (u : Int)) = false := by simp; omega
      have hsec : ∀ W, Kept w1 W → Calls Tryz.prog 45 #[.pointer (some ⟨D, 0, none⟩)] W fun e w' => e = .returned (.int .i64 (s.n : Int)) ∧ W = w' := fun W hW => Dz.sectors_c F D M1 M2 pv s W (hd1.keep hW)
      have hsec1 := hsec _ (Kept.refl w1)
      rw [hw1] at hsec1
      by_cases h3 : s.n < u
      · rw [fetch_out (.inr (.inr (by omega)))]
        have hq : decide ((u : Int) > (s.n : Int)) = true := by simp; omega
        clear hd1 hsec h2 h2' ha he
        clear hw1
        go_enter Tryz.func75, Tryz.ntmps75
        go_wp2_with (go_at_call 45; (with_reducible refine hsec1.mono ?_); rintro e w' ⟨rfl, rfl⟩)
        exact HRY.out _ Fr.nil 3 _ (HW.out ▸ H0.out.2) (HW.out ▸ H0.out.1) rfl rfl
      · have h3' : u ≤ s.n := Nat.not_lt.1 h3
        have hq : decide ((u : Int) > (s.n : Int)) = false := by simp; omega
        have hrd := read_c F D M1 M2 pv s 0 w1 hd1
        have h0 : s.out 0 = false := Ds.out_in (i := 0) (by omega)
        cases hdead : s.fu.dead with
        | true =>
          rw [fetch_dead htu h3' hdead]
          have e0 : s.reads 0 = (ByteArray.empty, 10) := by simp [Ds.reads, h0, hdead]
          rw [e0, hw1] at hrd
          clear hd1 hsec h2 h2' ha he h0 e0 hdead hw1
          go_enter Tryz.func75, Tryz.ntmps75
          go_wp2_with (first
            | (go_at_call 45; (with_reducible refine hsec1.mono ?_); rintro e w' ⟨rfl, rfl⟩)
            | (go_at_call 46; (with_reducible refine hrd.mono ?_); rintro e u1 ⟨rfl, k2⟩; rw [← HW.out] at k2; have HK := Lib.hid k2; clear k2; obtain ⟨⟨r0, r1, r2, r3, r4, r5⟩, fz⟩ := rblock (HK.out.block H0.out.2)))
          exact HRET.out _ HK.out Fr.nil 10 _ rfl rfl
        | false =>
          rw [fetch_in htu h3' hdead]
          have e0 : s.reads 0 = (s.look 0, 0) := by simp [Ds.reads, h0, hdead]
          rw [e0, hw1] at hrd
          obtain ⟨R, q, hfind, hyes, hno⟩ := find_d F D M1 M2 pv s t u lsn boot htu h3' hn2 hdead w1 hd1
          obtain ⟨L0, hL0⟩ : ∃ L0, L0 = s.look 0 := ⟨_, rfl⟩
          rw [← hL0] at hrd
          have HFI := Lib.hid hfind
          by_cases hok3 : q = true ∧ R.lsn = lsn ∧ boot ≤ R.boot
          · obtain ⟨e1, e2⟩ := hyes hok3
            rw [e1, e2]
            obtain ⟨rfl, rfl, hb⟩ := hok3
            have tb : decide (R.boot < boot) = false := by simp; omega
            clear hyes hno e1 e2 hfind hL0 hd1 hsec h2 h2' ha he h0 e0 hdead hw1 hb
            go_enter Tryz.func75, Tryz.ntmps75
            go_wp2_with (first
              | (go_at_call 45; (with_reducible refine hsec1.mono ?_); rintro e w' ⟨rfl, rfl⟩)
              | (go_at_call 46; (with_reducible refine hrd.mono ?_); rintro e u1 ⟨rfl, k2⟩; rw [← HW.out] at k2; have HK := Lib.hid k2; clear k2)
              | (go_at_call 95; refine (HFI.out _ HK.out).mono ?_; rintro e u2 ⟨rfl, k3⟩; have HK3 := Lib.hid (HK.out.trans k3); have hne1 : ¬ w.heap.size = u2.heap.size := (by have := HK3.out.size; omega); have hne2 : ¬ u2.heap.size = w.heap.size := (by omega); clear k3; obtain ⟨⟨r0, r1, r2, r3, r4, r5⟩, fz⟩ := rblock ((HK3.out.alloc (.cells #[.int .i64 R.boot, .int .i64 R.lsn, .int .i64 R.part, .int .i64 R.parts, .int .u8 (R.kind : Int), .string R.data] 113)).block H0.out.2)))
            exact HRET.out _ (HK3.out.alloc _) R 0 _ rfl rfl
          · cases q with
            | false =>
              obtain ⟨e1, e2⟩ := hno (.inl rfl)
              rw [e1, e2]
              clear hyes hno e1 e2 hfind hL0 hd1 hsec h2 h2' ha he h0 e0 hdead hw1 hok3
              go_enter Tryz.func75, Tryz.ntmps75
              go_wp2_with (first
                | (go_at_call 45; (with_reducible refine hsec1.mono ?_); rintro e w' ⟨rfl, rfl⟩)
                | (go_at_call 46; (with_reducible refine hrd.mono ?_); rintro e u1 ⟨rfl, k2⟩; rw [← HW.out] at k2; have HK := Lib.hid k2; clear k2)
                | (go_at_call 95; refine (HFI.out _ HK.out).mono ?_; rintro e u2 ⟨rfl, k3⟩; have HK3 := Lib.hid (HK.out.trans k3); have hne1 : ¬ w.heap.size = u2.heap.size := (by have := HK3.out.size; omega); have hne2 : ¬ u2.heap.size = w.heap.size := (by omega); clear k3; obtain ⟨⟨r0, r1, r2, r3, r4, r5⟩, fz⟩ := rblock ((HK3.out.alloc (.cells #[.int .i64 R.boot, .int .i64 R.lsn, .int .i64 R.part, .int .i64 R.parts, .int .u8 (R.kind : Int), .string R.data] 113)).block H0.out.2)))
              exact HRET.out _ (HK3.out.alloc _) Fr.nil 12 _ rfl rfl
            | true =>
              by_cases hl : R.lsn = lsn
              · have hb : R.boot < boot := Int.not_le.1 fun h => hok3 ⟨rfl, hl, h⟩
                obtain ⟨e1, e2⟩ := hno (.inr (.inr hb))
                rw [e1, e2]
                have tl : (R.lsn != lsn) = false := by simp [hl]
                have tb : decide (R.boot < boot) = true := by simp; omega
                clear hyes hno e1 e2 hfind hL0 hd1 hsec h2 h2' ha he h0 e0 hdead hw1 hok3 hb hl
                go_enter Tryz.func75, Tryz.ntmps75
                go_wp2_with (first
                  | (go_at_call 45; (with_reducible refine hsec1.mono ?_); rintro e w' ⟨rfl, rfl⟩)
                  | (go_at_call 46; (with_reducible refine hrd.mono ?_); rintro e u1 ⟨rfl, k2⟩; rw [← HW.out] at k2; have HK := Lib.hid k2; clear k2)
                  | (go_at_call 95; refine (HFI.out _ HK.out).mono ?_; rintro e u2 ⟨rfl, k3⟩; have HK3 := Lib.hid (HK.out.trans k3); have hne1 : ¬ w.heap.size = u2.heap.size := (by have := HK3.out.size; omega); have hne2 : ¬ u2.heap.size = w.heap.size := (by omega); clear k3; obtain ⟨⟨r0, r1, r2, r3, r4, r5⟩, fz⟩ := rblock ((HK3.out.alloc (.cells #[.int .i64 R.boot, .int .i64 R.lsn, .int .i64 R.part, .int .i64 R.parts, .int .u8 (R.kind : Int), .string R.data] 113)).block H0.out.2)))
                exact HRET.out _ (HK3.out.alloc _) Fr.nil 12 _ rfl rfl
              · obtain ⟨e1, e2⟩ := hno (.inr (.inl hl))
                rw [e1, e2]
                have tl : (R.lsn != lsn) = true := by simp [hl]
                clear hyes hno e1 e2 hfind hL0 hd1 hsec h2 h2' ha he h0 e0 hdead hw1 hok3 hl
                go_enter Tryz.func75, Tryz.ntmps75
                go_wp2_with (first
                  | (go_at_call 45; (with_reducible refine hsec1.mono ?_); rintro e w' ⟨rfl, rfl⟩)
                  | (go_at_call 46; (with_reducible refine hrd.mono ?_); rintro e u1 ⟨rfl, k2⟩; rw [← HW.out] at k2; have HK := Lib.hid k2; clear k2)
                  | (go_at_call 95; refine (HFI.out _ HK.out).mono ?_; rintro e u2 ⟨rfl, k3⟩; have HK3 := Lib.hid (HK.out.trans k3); have hne1 : ¬ w.heap.size = u2.heap.size := (by have := HK3.out.size; omega); have hne2 : ¬ u2.heap.size = w.heap.size := (by omega); clear k3; obtain ⟨⟨r0, r1, r2, r3, r4, r5⟩, fz⟩ := rblock ((HK3.out.alloc (.cells #[.int .i64 R.boot, .int .i64 R.lsn, .int .i64 R.part, .int .i64 R.parts, .int .u8 (R.kind : Int), .string R.data] 113)).block H0.out.2)))
                exact HRET.out _ (HK3.out.alloc _) Fr.nil 12 _ rfl rfl
end Go.Proofs.YtckbhjjflpobbaaGreat.Rc
