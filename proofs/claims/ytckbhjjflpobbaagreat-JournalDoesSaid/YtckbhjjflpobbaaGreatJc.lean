/-
  Package journal: Append.
-/
import Derived.Test.YtckbhjjflpobbaaGreatJb
namespace Go.Proofs.YtckbhjjflpobbaaGreat.Jk
open Go Go.RowKit Go.ChangeShapes Go.WideShapes Go.ChangeAt Go.Proofs.YtckbhjjflpobbaaGreat.Mem Go.Proofs.YtckbhjjflpobbaaGreat.Pk Go.Proofs.YtckbhjjflpobbaaGreat.Fk Go.Proofs.YtckbhjjflpobbaaGreat.Dz Go.Proofs.YtckbhjjflpobbaaGreat.Fz Go.Proofs.YtckbhjjflpobbaaGreat.Rc
open Go.Proofs.YtckbhjjflpobbaaGreat.Hk (Hd saves loads o_save o_load hblock)

theorem pour_flat1 (s : Ds) (t b n : Int) (kd : Nat) (d : ByteArray) : poured s t (flat b n kd (fun _ => d) 1) (parts d.size) = poured s t (sec b n kd d) (parts d.size) := by
  have e : pour s t (flat b n kd (fun _ => d) 1) (parts d.size) = pour s t (sec b n kd d) (parts d.size) := pour_congr fun i hi => by
    have := flat_at (b := b) (n := n) (kd := kd) (x := fun _ => d) (i := 0) (k := i) hi (m := 1) (by decide)
    have e0 : pre (fun _ => d) 0 + i = i := by show 0 + i = i; omega
    rw [e0, show n + ((0 : Nat) : Int) = n by omega] at this
    exact this
  unfold poured
  rw [e]
/-- What a call of the journal asks. -/
structure Jok (j : Jw) (s : Ds) (m : Nat) : Prop where
  half : j.h.area = 0 ∨ j.h.area = 1
  area : j.area ≤ 32000
  used : j.used ≤ j.area
  n0 : 0 ≤ j.n
  n1 : j.n + (m : Int) < 281474976710656
  boot : 1 ≤ j.h.boot ∧ j.h.boot ≤ 4294967295
  seq : 0 ≤ j.h.seq ∧ j.h.seq < 9223372036854775807
  room : s.pend.length < 4294000000
theorem Jok.num {j : Jw} {s : Ds} {m : Nat} (h : Jok j s m) {i : Nat} (hi : i < m) : num j.h.boot (j.n + 1 + (i : Int)) := ⟨h.boot.1, h.boot.2, by have := h.n0; omega, by have := h.n1; omega⟩
theorem row1 (w : World) (d : ByteArray) : SAt (w.alloc (.cells #[.string d] 9)) (some ⟨w.heap.size, 0, none⟩) 1 (fun _ => d) := fun i hi => by
  obtain rfl : i = 0 := by omega
  exact ⟨_, rfl, cell_of_row _ _ _ _ _ _ (heap_alloc_new w _)⟩
set_option maxRecDepth 100000 in
set_option maxHeartbeats 4000000 in
theorem o_append {w0 w : World} {L : List As} {J D F : Nat} {j : Jw} {s : Ds} (h : Mem.Own w0 (jA J D j :: dk F D s :: L) w) (hj : Jok j s 1) (d : ByteArray) (hd : d.size ≤ maxLen) :
    Calls Tryz.prog 8 #[.pointer (some ⟨J, 0, none⟩), .string d] w fun e w' => e = .returned (.int .i64 (appends j s d).1) ∧ Mem.Own w0 (jA J D (appends j s d).2.1 :: dk F D (appends j s d).2.2 :: L) w' := by
  obtain ⟨⟨c0, c1, c2, c3, c4, c5, c6, c7, c8, c9, c10, c11⟩, fz⟩ := jblock (own_j h 0 rfl)
  have hJ := own_j h 0 rfl
  have hne0 : J < w.heap.size := lt_of_block hJ
  have hne1 : ¬ J = w.heap.size := by omega
  have hne2 : ¬ w.heap.size = J := by omega
  have hR : ∃ R, R = appends j s d := ⟨_, rfl⟩
  obtain ⟨R, hR⟩ := hR
  rw [← hR]
  unfold appends at hR
  by_cases hdead : j.dead = true
  · rw [if_pos hdead] at hR
    subst hR
    rw [hdead] at c11
    have hp := Lib.hid h
    clear h hJ hj hd
    go_enter Tryz.func8, Tryz.ntmps8
    go_wp2
    go_ret
    exact ⟨rfl, hp.out⟩
  rw [if_neg hdead] at hR
  have hdead : j.dead = false := by simpa using hdead
  rw [hdead] at c11
  have hsz : Calls Tryz.prog 27 #[.slice (some ⟨w.heap.size, 0, none⟩) 1 1] (w.alloc (.cells #[.string d] 9)) fun e w' => e = .returned (.tuple #[.int .i64 (sizeN (fun _ => d) 1 : Int), .int .i64 (sizeE (fun _ => d) 1)]) ∧ (w.alloc (.cells #[.string d] 9)) = w' := size_c _ 1 1 _ (by decide) (fun _ _ => hd) _ (wide (row1 w d))
  have ha := h.alloc (.cells #[.string d] 9)
  by_cases hbig : 4096 < d.size
  · rw [if_pos hbig] at hR
    subst hR
    have e1 : sizeE (fun _ => d) 1 = 5 ∧ sizeN (fun _ => d) 1 = 0 := by
      have : ¬ fits (fun _ => d) 1 := fun hf => by have : d.size ≤ 4096 := hf 0 (by decide); omega
      unfold sizeE sizeN; rw [if_neg this, if_neg this]; exact ⟨rfl, rfl⟩
    rw [e1.1, e1.2] at hsz
    have hp := Lib.hid ha
    clear h hJ hj hd ha e1 hbig
    go_enter Tryz.func8, Tryz.ntmps8
    go_wp2_with (go_at_call 27; (with_reducible refine hsz.mono ?_); rintro e u ⟨rfl, rfl⟩)
    go_ret
    exact ⟨rfl, hp.out⟩
  rw [if_neg hbig] at hR
  have hfit : fits (fun _ => d) 1 := fun i _ => Nat.not_lt.1 hbig
  have e1 : sizeE (fun _ => d) 1 = 0 ∧ sizeN (fun _ => d) 1 = parts d.size := by
    unfold sizeE sizeN; rw [if_pos hfit, if_pos hfit]; exact ⟨rfl, Nat.zero_add _⟩
  rw [e1.1, e1.2] at hsz
  have hfull : ∀ W, Mem.Own w0 (jA J D j :: dk F D s :: L) W → Calls Tryz.prog 28 #[.pointer (some ⟨D, 0, none⟩)] W fun e w' => e = .returned (.bool s.full) ∧ Mem.Own w0 (jA J D j :: dk F D s :: L) w' := fun W hW => o_full hW 1 rfl
  by_cases hfl : s.full = true
  · rw [if_pos (.inl hfl)] at hR
    subst hR
    rw [hfl] at hfull
    have hf := hfull _ ha
    clear h hJ hj hd ha e1 hbig hfull hfit
    go_enter Tryz.func8, Tryz.ntmps8
    go_wp2_with (first
      | (go_at_call 27; (with_reducible refine hsz.mono ?_); rintro e u ⟨rfl, rfl⟩)
      | (go_at_call 28; (with_reducible refine hf.mono ?_); rintro e u ⟨rfl, k2'⟩; have k2 := Lib.hid k2'; clear k2'))
    go_ret
    exact ⟨rfl, k2.out⟩
  have hfl0 : s.full = false := by simpa using hfl
  rw [hfl0] at hfull
  have hroomc : ∀ W, Mem.Own w0 (jA J D j :: dk F D s :: L) W → Calls Tryz.prog 29 #[.pointer (some ⟨J, 0, none⟩)] W fun e w' => e = .returned (.int .i64 ((j.area : Int) - (j.used : Int))) ∧ Mem.Own w0 (jA J D j :: dk F D s :: L) w' := fun W hW => (room_c J D j hj.area hj.used W (own_j hW 0 rfl)).mono fun e w' ⟨he, hk⟩ => ⟨he, hW.later hk⟩
  have hf := hfull _ ha
  have hbd := hj.area
  have hud := hj.used
  have hpl := parts_le (Nat.not_lt.1 hbig)
  by_cases hrm : j.area < j.used + parts d.size
  · rw [if_pos (.inr hrm)] at hR
    subst hR
    have HR := Lib.hid hroomc
    have tr : decide ((parts d.size : Int) > (j.area : Int) - (j.used : Int)) = true := by simp; omega
    generalize parts d.size = N at *
    clear h hJ hj hd ha e1 hbig hfull hfit hroomc
    go_enter Tryz.func8, Tryz.ntmps8
    go_wp2_with (first
      | (go_at_call 27; (with_reducible refine hsz.mono ?_); rintro e u ⟨rfl, rfl⟩)
      | (go_at_call 28; (with_reducible refine hf.mono ?_); rintro e u ⟨rfl, k2'⟩; have k2 := Lib.hid k2'; clear k2')
      | (go_at_call 29; (with_reducible refine (HR.out _ k2.out).mono ?_); rintro e u ⟨rfl, k3'⟩; have k3 := Lib.hid k3'; clear k3'))
    go_ret
    exact ⟨rfl, k3.out⟩
  rw [if_neg (by rw [hfl0]; rintro (h | h); cases h; exact hrm h)] at hR
  have tr : decide ((parts d.size : Int) > (j.area : Int) - (j.used : Int)) = false := by simp; omega
  have hsec : ∀ W, Mem.Own w0 (jA J D j :: dk F D s :: L) W → Calls Tryz.prog 30 #[.pointer (some ⟨J, 0, none⟩), .int .u8 2, .slice (some ⟨W.heap.size, 0, none⟩) 1 1] (W.alloc (.cells #[.string d] 9)) fun e w' => ∃ ao cap, e = .returned (.tuple #[.slice ao (parts d.size) cap, .int .i64 0]) ∧ Mem.Own w0 (jA J D j :: dk F D s :: (L ++ [secA (.slice ao (parts d.size) cap) (parts d.size) (flat j.h.boot (j.n + 1) 2 (fun _ => d) 1)])) w' := fun W hW => by
    have hWa := hW.alloc (.cells #[.string d] 9)
    refine (jsectors_c J D j 2 (by decide) _ 1 1 (fun _ => d) (by decide) hfit (fun i hi => hj.num hi) ⟨hj.n0, by have := hj.n1; omega⟩ _ (own_j hWa 0 rfl) (wide (row1 W d))).mono ?_
    rintro e w' ⟨v, he, hrow, hk⟩
    have hp1 : pre (fun _ => d) 1 = parts d.size := Nat.zero_add _
    rw [hp1] at hrow
    obtain ⟨ao, cap, rfl, _⟩ := strings_at hrow
    exact ⟨ao, cap, he, hWa.push (b := secA _ _ _) hk ⟨ownsRow_mono hrow (Nat.zero_le _), fun g hg => .inr ⟨ownsRow_base hrow hg, (hrow.lt g hg).2⟩⟩⟩
  have hwr : ∀ ao cap W, Mem.Own w0 (jA J D j :: dk F D s :: (L ++ [secA (.slice ao (parts d.size) cap) (parts d.size) (flat j.h.boot (j.n + 1) 2 (fun _ => d) 1)])) W → Calls Tryz.prog 31 #[.pointer (some ⟨J, 0, none⟩), .int .i64 j.h.area, .int .i64 (j.used : Int), .slice ao (parts d.size) cap] W fun e w' =>
      e = .returned (.int .i64 (poured s (j.base j.h.area + (j.used : Int)) (sec j.h.boot (j.n + 1) 2 d) (parts d.size)).1) ∧ Mem.Own w0 (jA J D (j.told (poured s (j.base j.h.area + (j.used : Int)) (sec j.h.boot (j.n + 1) 2 d) (parts d.size)).1) :: dk F D (poured s (j.base j.h.area + (j.used : Int)) (sec j.h.boot (j.n + 1) 2 d) (parts d.size)).2 :: L) w' := fun ao cap W hW => by
    have := o_jwrite hW j.h.area hj.half hj.area j.used (by omega) ao cap (parts d.size) (by omega) (flat j.h.boot (j.n + 1) 2 (fun _ => d) 1) (fun V s' hV => own_strs hV (L.length + 1 + 1) (by
      show (L ++ [_])[L.length]? = _
      rw [List.getElem?_append_right (Nat.le_refl _), Nat.sub_self]; rfl)) (by have := hj.room; omega)
    rw [pour_flat1] at this
    exact this.mono fun e w' ⟨he, ho⟩ => ⟨he, own_drop (M := [secA (.slice ao (parts d.size) cap) (parts d.size) (flat j.h.boot (j.n + 1) 2 (fun _ => d) 1)]) ho⟩
  have hcell : ∀ (b : Bool) M W, Mem.Own w0 (jA J D { j with dead := b } :: M) W → W.cell? ⟨J, 6, none⟩ = some (.int .i64 j.h.area) ∧ W.cell? ⟨J, 10, none⟩ = some (.int .i64 (j.used : Int)) := fun b M W hW => by
    obtain ⟨⟨_, _, _, _, _, _, c6, _, _, _, c10, _⟩, _⟩ := jblock (own_j hW 0 rfl)
    exact ⟨c6, c10⟩
  obtain ⟨P, hP⟩ : ∃ P, P = poured s (j.base j.h.area + (j.used : Int)) (sec j.h.boot (j.n + 1) 2 d) (parts d.size) := ⟨_, rfl⟩
  rw [← hP] at hwr hR
  obtain ⟨E, hE⟩ : ∃ E, E = P.1 := ⟨_, rfl⟩
  rw [← hE] at hwr hR
  have hn0 := hj.n0
  have hn1 := hj.n1
  have hend : ∀ W, E = 0 → Mem.Own w0 (jA J D (j.told E) :: dk F D P.2 :: L) W → Mem.Own w0 (jA J D { j with n := j.n + 1, used := j.used + parts d.size, dead := false } :: dk F D P.2 :: L) ((W.setCell ⟨J, 9, none⟩ (.int .i64 (j.n + 1))).setCell ⟨J, 10, none⟩ (.int .i64 ((j.used : Int) + (parts d.size : Int)))) := fun W h0 hW => by
    subst h0
    exact (hW.boxset 0 rfl 9 (.int .i64 (j.n + 1))).boxset 0 rfl 10 (.int .i64 ((j.used : Int) + (parts d.size : Int)))
  generalize parts d.size = N at *
  generalize (flat j.h.boot (j.n + 1) 2 (fun _ => d) 1) = G at *
  have HH := Lib.hid (And.intro hroomc (And.intro hsec (And.intro hwr (And.intro hcell (And.intro hend hR)))))
  clear h hJ hj hd ha e1 hbig hfull hfit hroomc hsec hwr hcell hP hE hend hR
  by_cases he : E = 0
  · subst he
    go_enter Tryz.func8, Tryz.ntmps8
    go_wp2_with (first
      | (go_at_call 27; (with_reducible refine hsz.mono ?_); rintro e u ⟨rfl, rfl⟩)
      | (go_at_call 28; (with_reducible refine hf.mono ?_); rintro e u ⟨rfl, k2'⟩; have k2 := Lib.hid k2'; clear k2')
      | (go_at_call 29; (with_reducible refine (HH.out.1 _ k2.out).mono ?_); rintro e u ⟨rfl, k3'⟩; have k3 := Lib.hid k3'; clear k3')
      | (go_at_call 30; (with_reducible refine (HH.out.2.1 _ k3.out).mono ?_); rintro e u4 ⟨ao, cap, rfl, k4'⟩; have k4 := Lib.hid k4'; have S1 := HH.out.2.2.2.1 j.dead _ _ k4'; have S2 := HH.out.2.2.2.1 j.dead _ _ k4'.drew; have k4d := Lib.hid k4'.drew; clear k4'))
    go_region_held3 (fun W => W.cell? ⟨J, 6, none⟩ = some (.int .i64 j.h.area) ∧ W.cell? ⟨J, 10, none⟩ = some (.int .i64 (j.used : Int)))
      (first | assumption | exact HH.out.2.2.2.1 _ _ _ k5.out)
      (first
        | (go_at_call 31; (with_reducible refine (HH.out.2.2.1 _ _ _ k4d.out).mono ?_); rintro e u5 ⟨rfl, k5'⟩; have k5 := Lib.hid k5'; clear k5'))
    obtain ⟨⟨_, _, _, _, _, _, _, _, _, _, _, _⟩, fz5⟩ := jblockd (own_j k5.out 0 rfl)
    go_wp2
    go_ret
    rw [HH.out.2.2.2.2.2, if_neg (by decide)]
    exact ⟨rfl, HH.out.2.2.2.2.1 _ (by trivial) k5.out⟩
  · have te : (E != 0) = true := by simpa using he
    have HE := Lib.hid he
    clear he
    go_enter Tryz.func8, Tryz.ntmps8
    go_wp2_with (first
      | (go_at_call 27; (with_reducible refine hsz.mono ?_); rintro e u ⟨rfl, rfl⟩)
      | (go_at_call 28; (with_reducible refine hf.mono ?_); rintro e u ⟨rfl, k2'⟩; have k2 := Lib.hid k2'; clear k2')
      | (go_at_call 29; (with_reducible refine (HH.out.1 _ k2.out).mono ?_); rintro e u ⟨rfl, k3'⟩; have k3 := Lib.hid k3'; clear k3')
      | (go_at_call 30; (with_reducible refine (HH.out.2.1 _ k3.out).mono ?_); rintro e u4 ⟨ao, cap, rfl, k4'⟩; have k4 := Lib.hid k4'; have S1 := HH.out.2.2.2.1 j.dead _ _ k4'; have S2 := HH.out.2.2.2.1 j.dead _ _ k4'.drew; have k4d := Lib.hid k4'.drew; clear k4'))
    go_region_held3 (fun W => W.cell? ⟨J, 6, none⟩ = some (.int .i64 j.h.area) ∧ W.cell? ⟨J, 10, none⟩ = some (.int .i64 (j.used : Int)))
      (first | assumption | exact HH.out.2.2.2.1 _ _ _ k5.out)
      (first
        | (go_at_call 31; (with_reducible refine (HH.out.2.2.1 _ _ _ k4d.out).mono ?_); rintro e u5 ⟨rfl, k5'⟩; have k5 := Lib.hid k5'; clear k5'))
    go_wp2
    go_ret
    rw [HH.out.2.2.2.2.2, if_pos HE.out]
    exact ⟨rfl, k5.out⟩
end Go.Proofs.YtckbhjjflpobbaaGreat.Jk
