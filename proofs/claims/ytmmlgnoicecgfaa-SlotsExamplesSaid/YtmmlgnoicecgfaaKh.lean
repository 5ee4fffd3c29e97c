/-
  Saving with an idle fuse; the fixed header.
-/
import Derived.Test.YtmmlgnoicecgfaaKf
import Derived.Test.YtmmlgnoicecgfaaKq
namespace Go.Proofs.Ytmmlgnoicecgfaa.Hk
open Go.RowKit Go.Proofs.Ytmmlgnoicecgfaa.Mem Go.Proofs.Ytmmlgnoicecgfaa.Pk Go.Proofs.Ytmmlgnoicecgfaa.Dz Go.Proofs.Ytmmlgnoicecgfaa.Fz

/-- A disk on which the header is saved. -/
def saved (s : Ds) (c : Hd) : Ds := (s.wrote (c.seq.toNat % 2) c.enc).settled fun _ => 80
theorem slot_nat {c : Hd} (g : c.good) : c.seq % 2 = ((c.seq.toNat % 2 : Nat) : Int) := by have := g.s1; omega
theorem saves_idle {s : Ds} (hf : s.fu = .idle) {c : Hd} (g : c.good) (hn : 2 ≤ s.n) : saves s c = (0, saved s c) := by
  unfold saves
  have e := Ds.writes_idle hf (i := c.seq.toNat % 2) (by omega) (enc_size g)
  rw [if_neg (by rw [(Hd.err_zero c).mpr g]; decide), if_neg (by omega), slot_nat g, e]
  rw [if_neg (by simp)]
  exact Ds.syncs_idle (s := s.wrote (c.seq.toNat % 2) c.enc) hf
theorem saved_put {s : Ds} (hp : s.pend = []) (c : Hd) : Put s.dur (saved s c).dur c 80 := put_disk hp c (fun _ => 80) (by decide)
theorem saved_look (s : Ds) (c : Hd) : (saved s c).look = (saved s c).dur := rfl
theorem look_dur {s : Ds} (h : s.pend = []) : s.look = s.dur := by funext i; unfold Ds.look; rw [h]; rfl
theorem saved_ok {s : Ds} (h : s.ok) {c : Hd} (g : c.good) (hn : 2 ≤ s.n) : (saved s c).ok := (h.wrote (by omega) (enc_size g)).settled fun _ => Nat.le_refl _
/-- A header is put over another sector; the other slot has none. -/
theorem put_top {S T : Nat → ByteArray} {c : Hd} (g : c.good) (p : Put S T c 80) (hs : (S (c.seq.toNat % 2)).size = 80) (hl : ∀ d, slot S ((c.seq.toNat + 1) % 2) = some d → d.seq < c.seq) : newest T = some c := by
  have hh := p.here
  have e : S (c.seq.toNat % 2) = str (S (c.seq.toNat % 2)).data.toList := (str_list _).symm
  rw [e, Hd.enc_good g, mix_80 (sec_len c) ((size_list _).trans hs)] at hh
  have t : Top T c := ⟨g, hh, fun d hd => hl d (by
    unfold slot at hd ⊢
    rw [p.away _ (by omega)] at hd
    exact hd)⟩
  exact t.newest
theorem head_c (x y : Int) (w : World) : Calls Try.prog 31 #[.int .i64 x, .int .i64 y] w fun e w' => e = .returned (.agg #[.int .i64 x, .int .i64 y, .int .i64 0, .int .i64 1, .int .i64 0]) ∧ Kept w w' := by
  have k0 := (Kept.refl w).alloc (.cells #[.int .i64 x, .int .i64 y, .int .i64 0, .int .i64 1, .int .i64 0] 50)
  go_enter Try.func31, Try.ntmps31
  go_wp2
  exact bodyPost_ret (v := .agg #[.int .i64 x, .int .i64 y, .int .i64 0, .int .i64 1, .int .i64 0]) (by simp [results, Try.results31, go_sem]) rfl ⟨rfl, k0⟩
def four : Hd := ⟨4, 2, 0, 1, 0⟩
theorem four_good : four.good := ⟨by decide, by decide, by decide, by decide, by decide, by decide, by decide, by decide, by decide, by decide⟩
theorem four_loads : loads (saved (fresh 3 .idle) four) = (four, 0) := by
  refine loads_some (by show ¬ (3 : Nat) < 2; decide) rfl ?_
  rw [saved_look]
  refine put_top four_good (saved_put rfl four) Z_size ?_
  intro d hd
  have h1 : slot (fresh 3 St.idle).dur ((four.seq.toNat + 1) % 2) = none := by
    unfold slot
    have : (fresh 3 St.idle).dur ((four.seq.toNat + 1) % 2) = str (List.replicate 80 0) := rfl
    rw [this, zeros_dec]
  rw [h1] at hd; cases hd
set_option maxHeartbeats 2000000 in
set_option maxRecDepth 100000 in
theorem known_c (w : World) : Calls Try.prog 18 #[] w fun e w' => e = .returned (.bool true) ∧ Kept w w' := by
  have hfn : Calls Try.prog 33 #[] w fun e w' => ∃ F, e = .returned (.pointer (some ⟨F, 0, none⟩)) ∧ Mem.Own w [fzA F .idle] w' := o_fnew (Mem.Own.nil w)
  have hnew : ∀ (F : Nat) (W : World), Mem.Own w [fzA F .idle] W → Calls Try.prog 34 #[.int .i64 3, .pointer (some ⟨F, 0, none⟩)] W fun e w' => ∃ D, e = .returned (.tuple #[.pointer (some ⟨D, 0, none⟩), .int .i64 0]) ∧ Mem.Own w [dk F D (fresh 3 .idle)] w' := fun F W h => o_new h 0 rfl (n := 3) (by decide) (by decide)
  have hsv : ∀ (F D : Nat) (W : World), Mem.Own w [dk F D (fresh 3 .idle)] W → Calls Try.prog 23 #[.pointer (some ⟨D, 0, none⟩), .agg #[.int .i64 4, .int .i64 2, .int .i64 0, .int .i64 1, .int .i64 0]] W fun e w' => e = .returned (.int .i64 0) ∧ Mem.Own w [dk F D (saved (fresh 3 .idle) four)] w' := fun F D W h => by
    have := o_save h 0 rfl (by decide) four
    rw [saves_idle rfl four_good (by decide)] at this
    exact this
  have hld : ∀ (F D : Nat) (W : World), Mem.Own w [dk F D (saved (fresh 3 .idle) four)] W → Calls Try.prog 25 #[.pointer (some ⟨D, 0, none⟩)] W fun e w' => e = .returned (.tuple #[.agg #[.int .i64 4, .int .i64 2, .int .i64 0, .int .i64 1, .int .i64 0], .int .i64 0]) ∧ Mem.Own w [dk F D (saved (fresh 3 .idle) four)] w' := fun F D W h => by
    have := o_load h 0 rfl
    rw [four_loads] at this
    exact this
  have hh := head_c 4 2
  have hq := eqlH 4 2 0 1 0 4 2 0 1 0
  rw [show sameH 4 2 0 1 0 4 2 0 1 0 = true from by decide] at hq
  go_enter Try.func18, Try.ntmps18
  go_wp2_with (first
    | (go_at_call 33; refine hfn.mono ?_; rintro e u1 ⟨F, rfl, p1⟩)
    | (go_at_call 34; refine (hnew F _ p1).mono ?_; rintro e u2 ⟨D, rfl, p2⟩)
    | (go_at_call 31; (with_reducible refine (hh _).mono ?_); rintro e u3 ⟨rfl, k3⟩; have p3 := p2.later k3)
    | (go_at_call 23; (with_reducible refine (hsv F D _ p3).mono ?_); rintro e u4 ⟨rfl, p4⟩)
    | (go_at_call 25; (with_reducible refine (hld F D _ p4).mono ?_); rintro e u5 ⟨rfl, p5⟩; have k5 := Lib.hid p5.kept; clear p5))
  have hb := Box.start u5 50 4 2 0 1 0
  have k6 := k5.out.alloc (.cells #[.int .i64 4, .int .i64 2, .int .i64 0, .int .i64 1, .int .i64 0] 50)
  generalize u5.alloc (.cells #[.int .i64 4, .int .i64 2, .int .i64 0, .int .i64 1, .int .i64 0] 50) = V at hb k6 ⊢
  have hB : ∀ W, Kept V W → W.cell? ⟨u5.heap.size, 0, none⟩ = some (.int .i64 4) ∧ W.cell? ⟨u5.heap.size, 1, none⟩ = some (.int .i64 2) ∧ W.cell? ⟨u5.heap.size, 2, none⟩ = some (.int .i64 0) ∧ W.cell? ⟨u5.heap.size, 3, none⟩ = some (.int .i64 1) ∧ W.cell? ⟨u5.heap.size, 4, none⟩ = some (.int .i64 0) := fun W hW => (hb.kept hW).all
  have HB := Lib.hid hB
  have HK := Lib.hid k6
  have S1 := hb.all
  have S1' := HB.out _ (Kept.refl V).drew
  have kd := (Kept.refl V).drew
  clear hb hB k6
  go_region_held3 (fun W => W.cell? ⟨u5.heap.size, 0, none⟩ = some (.int .i64 4) ∧ W.cell? ⟨u5.heap.size, 1, none⟩ = some (.int .i64 2) ∧ W.cell? ⟨u5.heap.size, 2, none⟩ = some (.int .i64 0) ∧ W.cell? ⟨u5.heap.size, 3, none⟩ = some (.int .i64 1) ∧ W.cell? ⟨u5.heap.size, 4, none⟩ = some (.int .i64 0))
    (first | assumption | exact HB.out _ ‹_›)
    (first
      | (go_at_call 31; (with_reducible refine (hh _).mono ?_); rintro e u6 ⟨rfl, k6⟩; have k6 := Kept.trans kd k6))
  go_wp2_with fail
  go_ret
  exact ⟨rfl, HK.out.trans k6⟩
end Go.Proofs.Ytmmlgnoicecgfaa.Hk
