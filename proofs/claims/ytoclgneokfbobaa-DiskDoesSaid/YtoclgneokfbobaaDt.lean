/-
  Package disk's settle, Sync and Crash.
-/
import Derived.Test.YtoclgneokfbobaaDw
import Derived.Deep.RegionHeld3
namespace Go.Proofs.Ytoclgneokfbobaa.Dz
open Go.RowKit Go.ChangeShapes Go.WideShapes Go.ChangeAt Go.Proofs.Ytoclgneokfbobaa.Mem Go.Proofs.Ytoclgneokfbobaa.Fz
set_option linter.unusedVariables false

/-- The map of the latest writes when the first k have been settled. -/
def rest (l : Pend) (k : Nat) (i : Nat) : Option ByteArray := if (l.take k).any (fun p => p.1 == i) then none else last l i
theorem rest_zero (l : Pend) : rest l 0 = last l := by funext i; simp [rest]
theorem rest_succ {l : Pend} {k : Nat} (h : k < l.length) : rest l (k + 1) = upd (rest l k) l[k].1 none := by
  funext i
  unfold rest upd
  rw [List.take_succ_eq_append_getElem h, List.any_append]
  by_cases e : i = l[k].1
  · subst e; simp
  · have e' : (l[k].1 == i) = false := by simp; exact fun h => e h.symm
    rw [List.any_cons, List.any_nil, e', Bool.or_false, Bool.or_false, if_neg e]
theorem last_none {i : Nat} : ∀ {l : Pend}, l.any (fun p => p.1 == i) = false → last l i = none := by
  intro l
  suffices h : ∀ (l : Pend) (o : Option ByteArray), l.any (fun p => p.1 == i) = false → l.foldl (fun o p => if i = p.1 then some p.2 else o) o = o from h l none
  intro l
  induction l with
  | nil => intro o _; rfl
  | cons p l ih =>
    intro o h
    simp only [List.any_cons, Bool.or_eq_false_iff] at h
    have : i ≠ p.1 := by have := h.1; simp at this; exact fun e => this e.symm
    simp only [List.foldl_cons, this, if_false]
    exact ih o h.2
theorem rest_all (l : Pend) (i : Nat) : rest l l.length i = none := by
  unfold rest
  rw [List.take_length]
  split
  · rfl
  · rename_i h
    exact last_none (by cases hh : l.any (fun p => p.1 == i) with | false => rfl | true => exact absurd hh h)
theorem Mem_drewOf {u v : World} (k : Kept u.drew v) : Kept u v := (Kept.refl u).drew.trans k
def maps (M1 M2 : Nat) (k : Nat) : Prop := k = M1 ∨ k = M2
/-- k writes are settled. -/
structure Sd (M1 M2 : Nat) (s : Ds) (f : Nat → Nat) (w : World) (k : Nat) (wr : World) : Prop where
  off : Off (maps M1 M2) w wr
  dur : Mp M1 s.n (dg (settle f s.pend s.dur k)) wr
  lat : Mp M2 s.n (rest s.pend k) wr
theorem Sd.start {F D M1 M2 : Nat} {pv : Value} {s : Ds} {w : World} (h : Dk F D M1 M2 pv s w) (f : Nat → Nat) : Sd M1 M2 s f w 0 w := ⟨Off.refl _ _, h.dur, by rw [rest_zero]; exact h.lat⟩
theorem Sd.kept {M1 M2 : Nat} {s : Ds} {f : Nat → Nat} {w a b : World} {k : Nat} (h : Sd M1 M2 s f w k a) (kk : Kept a b) : Sd M1 M2 s f w k b := ⟨h.off.kept kk, h.dur.keep kk, h.lat.keep kk⟩
theorem slice_h (s : ByteArray) (m : Nat) (h : m ≤ s.size) (w : World) : (Instr.slice 9 (.string s) none (some (.int .i64 (m : Int))) none).run Try.prog w = .ok (.string (s.extract 0 m)) w := by
  have := run_slice_string_h (P := Try.prog) (w := w) (t := 9) (s := s) Try.underlying9 .i64 (m : Int) (by omega) (by omega)
  simpa using this
theorem slice_l (s : ByteArray) (m : Nat) (h : m ≤ s.size) (w : World) : (Instr.slice 9 (.string s) (some (.int .i64 (m : Int))) none none).run Try.prog w = .ok (.string (s.extract m s.size)) w := by
  have := run_slice_string_l (P := Try.prog) (w := w) (t := 9) (s := s) Try.underlying9 .i64 (m : Int) (by omega) (by omega)
  simpa using this

set_option maxHeartbeats 2000000 in
set_option maxRecDepth 100000 in
theorem settle_sync (F D M1 M2 : Nat) (pv : Value) (s : Ds) (f : Nat → Nat) (hf : ∀ k, f k ≤ 80) (w : World) (h : Dk F D M1 M2 pv s w)
    (hcall : ∀ (k : Nat) W, k < s.pend.length → Off (maps M1 M2) w W → Calls Try.prog 50 #[.int .i64 (k : Int)] W fun e w' => e = .returned (.int .i64 (f k : Int)) ∧ Kept W w') :
    Calls Try.prog 47 #[.pointer (some ⟨D, 0, none⟩), .func (.func 50) #[] #[]] w fun e w' => e = .returned (.tuple #[]) ∧ ∃ w1, Sd M1 M2 s f w s.pend.length w1 ∧ w' = w1.setCell ⟨D, 4, none⟩ (.slice none 0 0) := by
  have c4 := h.cell 4
  simp [blockOf] at c4
  have hst := Sd.start h f
  have hlen : s.pend.length ≤ 9223372036854775807 := by
    rcases h.row.2 with ⟨_, h0⟩ | ⟨_, _, _, _, _, _, h1, h2, _⟩
    · omega
    · unfold maxLen at h2; omega
  have H := Lib.hid h
  clear h
  have rows : ∃ (ao : Option Addr) (cap : Nat), pv = .slice ao s.pend.length cap ∧ ∀ k (hk : k < s.pend.length), ∃ g, ao = some ⟨g, 0, none⟩ ∧ ∀ W, Off (maps M1 M2) w W → W.cell? ⟨g, k * 2, none⟩ = some (.int .i64 (s.pend[k].1 : Int)) ∧ W.cell? ⟨g, k * 2 + 1, none⟩ = some (.string s.pend[k].2) := by
    have h := H.out
    rcases row_slice h.row with rfl | ⟨g, cap, rfl⟩
    · have h0 : s.pend.length = 0 := by
        rcases h.row.2 with ⟨_, h0⟩ | ⟨_, _, _, e, _⟩
        · exact h0
        · simp at e
      exact ⟨none, 0, by rw [h0], fun k hk => by omega⟩
    · refine ⟨some ⟨g, 0, none⟩, cap, rfl, fun k hk => ⟨g, rfl, fun W hW => ?_⟩⟩
      have hg := h.row.cells (g := g) rfl
      have ap := h.apart.p g rfl
      have q := cells_at s.pend k hk
      have a1 := hg _ _ q.1
      have a2 := hg _ _ q.2
      simp only [add_plain, Nat.zero_add] at a1 a2
      have nm : ¬ maps M1 M2 g := fun e => by rcases e with e | e; exact ap.2.2.1 e; exact ap.2.2.2 e
      exact ⟨hW.cell a1 nm, hW.cell a2 nm⟩
  obtain ⟨ao, cap, rfl, hrow⟩ := rows
  have cD : ∀ W, Off (maps M1 M2) w W → W.cell? ⟨D, 3, none⟩ = some (.map (some M1)) ∧ W.cell? ⟨D, 5, none⟩ = some (.map (some M2)) ∧ W.cell? ⟨D, 4, none⟩ = some (.slice ao s.pend.length cap) ∧ W.frozen? ⟨D, 4, none⟩ = false := fun W hW => by
    have h := H.out
    have nm : ¬ maps M1 M2 D := fun e => by rcases e with e | e; exact h.apart.DM1 e; exact h.apart.DM2 e
    have hb := hW.at h.blk nm
    exact ⟨cell_of_row _ _ _ _ _ _ hb, cell_of_row _ _ _ _ _ _ hb, cell_of_row _ _ _ _ _ _ hb, frozen_of_row _ _ _ _ _ hb⟩
  have HC := Lib.hid (And.intro hcall (And.intro hrow cD))
  clear hcall hrow cD
  go_enter Try.func47, Try.ntmps47
  go_wp2
  go_loopw [12] (fun i wr => ∃ k : Nat, k ≤ s.pend.length ∧ i = .int .i64 k ∧ Sd M1 M2 s f w k wr) (fun i _ => s.pend.length - (intOf i).toNat)
  case atStart => exact ⟨0, by omega, rfl, hst⟩
  case round =>
    clear hst c4
    obtain ⟨k, hk, rfl, hp⟩ := hrel
    by_cases hlt : k < s.pend.length
    · obtain ⟨g, rfl, hrow⟩ := HC.out.2.1 k hlt
      obtain ⟨r0, r1⟩ := hrow wr hp.off
      obtain ⟨sec, hsec⟩ : ∃ sec, sec = s.pend[k].1 := ⟨_, rfl⟩
      obtain ⟨dat, hdat⟩ : ∃ dat, dat = s.pend[k].2 := ⟨_, rfl⟩
      rw [← hsec] at r0
      rw [← hdat] at r1
      have Hs := Lib.hid (And.intro hsec hdat)
      have Hp := Lib.hid hp
      clear hrow hsec hdat hp
      have hcall := HC.out.1 k (wr.alloc (.cells #[.int .i64 (sec : Int), .string dat] 85)) hlt (Hp.out.off.alloc _)
      obtain ⟨m, hm⟩ : ∃ m, m = f k := ⟨_, rfl⟩
      rw [← hm] at hcall
      have Hm := Lib.hid hm
      clear hm
      go_wp2_with (first | (go_at_call 50; refine hcall.mono ?_; rintro e u ⟨rfl, hku⟩))
      have hh := H.out
      have hpu := (Hp.out.kept ((Kept.refl _).alloc (.cells #[.int .i64 (sec : Int), .string dat] 85))).kept hku
      have hpk := s.ok
      have bx : u.heap[wr.heap.size]? = some (.cells #[.int .i64 (sec : Int), .string dat] 85 (0, 0)) := hku.at (heap_alloc_new _ _)
      have okp : sec < s.n ∧ dat.size = 80 := by rw [Hs.out.1, Hs.out.2]; exact hh.ok.pend _ (List.getElem_mem hlt)
      obtain ⟨old, hold⟩ : ∃ old, old = settle f s.pend s.dur k sec := ⟨_, rfl⟩
      have oldsz : old.size = 80 := by rw [hold]; exact size_settle hf hh.ok.pend hh.ok.dur k sec okp.1
      have hm80 : m ≤ 80 := by rw [Hm.out]; exact hf k
      have hs1 : ∀ W, (Instr.slice 9 (.string dat) none (some (.int .i64 (m : Int))) none).run Try.prog W = .ok (.string (dat.extract 0 m)) W := slice_h dat m (by omega)
      have hs2 : ∀ W, (Instr.slice 9 (.string old) (some (.int .i64 (m : Int))) none none).run Try.prog W = .ok (.string (old.extract m old.size)) W := slice_l old m (by omega)
      obtain ⟨pa, hpa⟩ : ∃ pa, pa = dat.extract 0 m := ⟨_, rfl⟩
      obtain ⟨pb, hpb⟩ : ∃ pb, pb = old.extract m old.size := ⟨_, rfl⟩
      obtain ⟨c, hc⟩ : ∃ c, c = pa ++ pb := ⟨_, rfl⟩
      have hcm : c = mix m dat old := by rw [hc, hpa, hpb]; rfl
      have csz : c.size = 80 := by rw [hcm]; exact size_mix hm80 okp.2 oldsz
      rw [← hpa] at hs1
      rw [← hpb] at hs2
      have psz : pa.size + pb.size = 80 := by rw [← ByteArray.size_append, ← hc]; exact csz
      have hadd : ∀ W, (Op.stringOp .add pa pb).run Try.prog W = .ok (.string c) W := fun W => by
        rw [hc]; exact run_string_add_sum W pa pb (by omega)
      obtain ⟨G, hG⟩ : ∃ G, G = dg (settle f s.pend s.dur k) := ⟨_, rfl⟩
      have hget : ∀ W, Mp M1 s.n G W → Calls Try.prog 42 #[.map (some M1), .int .i64 (sec : Int)] W fun e w' => e = .returned (.string old) ∧ Kept W w' := fun W hW => by
        have q := get_c M1 s.n G sec okp.1 W hW
        rw [hG, dg_getD, ← hold] at q
        exact q
      have hput : ∀ W, Mp M1 s.n G W → Calls Try.prog 59 #[.map (some M1), .int .i64 (sec : Int), .string c] W fun e w' => e = .returned (.tuple #[]) ∧ But M1 W w' ∧ Mp M1 s.n (upd G sec (if c = Z then none else some c)) w' := fun W hW =>
        put_c M1 s.n G sec okp.1 hh.ok.hi c csz W hW
      have hMu : Mp M1 s.n G u.drew := by rw [hG]; exact hpu.dur
      have cells : ∀ W, Kept u W → W.cell? ⟨D, 3, none⟩ = some (.map (some M1)) ∧ W.cell? ⟨wr.heap.size, 0, none⟩ = some (.int .i64 (sec : Int)) ∧ W.cell? ⟨wr.heap.size, 1, none⟩ = some (.string dat) := fun W hW =>
        ⟨(HC.out.2.2 W (hpu.off.kept hW)).1, cell_of_row _ _ _ _ _ _ (hW.at bx), cell_of_row _ _ _ _ _ _ (hW.at bx)⟩
      have cells2 : ∀ W W', Kept u W → But M1 W W' → W'.cell? ⟨D, 3, none⟩ = some (.map (some M1)) ∧ W'.cell? ⟨wr.heap.size, 0, none⟩ = some (.int .i64 (sec : Int)) ∧ W'.cell? ⟨wr.heap.size, 1, none⟩ = some (.string dat) := fun W W' hW hb => by
        have nb : wr.heap.size ≠ M1 := Nat.ne_of_gt (Nat.lt_of_lt_of_le hh.lts.2.2.1 Hp.out.off.size)
        have b2 := hb.at (hW.at bx) nb
        exact ⟨(HC.out.2.2 W' ((hpu.off.kept hW).but hb (.inl (.inl rfl)))).1, cell_of_row _ _ _ _ _ _ b2, cell_of_row _ _ _ _ _ _ b2⟩
      have S1 := cells u (Kept.refl u)
      have S1' := cells u.drew (Kept.refl u).drew
      have HX := Lib.hid (And.intro cells cells2)
      have HY := Lib.hid (And.intro hpu (And.intro hold (And.intro hcm (And.intro hG (And.intro okp (And.intro hh hku))))))
      have Hf := Lib.hid (And.intro bx (And.intro oldsz (And.intro hm80 csz)))
      clear psz hh hpu hpk bx okp hold oldsz hm80 hc hcm csz hpa hpb hG cells cells2 hku r0 r1 hk
      go_region_held3 (fun W => W.cell? ⟨D, 3, none⟩ = some (.map (some M1)) ∧ W.cell? ⟨wr.heap.size, 0, none⟩ = some (.int .i64 (sec : Int)) ∧ W.cell? ⟨wr.heap.size, 1, none⟩ = some (.string dat))
        (first | assumption | (refine HX.out.1 _ ?_; exact Mem_drewOf k1) | (refine HX.out.2 _ _ ?_ k2; exact Mem_drewOf k1))
        (first
          | (go_at_call 42; refine (hget _ ‹_›).mono ?_; rintro e u1 ⟨rfl, k1⟩)
          | (go_at_call 59; refine (hput _ (hMu.keep k1)).mono ?_; rintro e u2 ⟨rfl, k2, hM2⟩))
      obtain ⟨hpu, hold, hcm, hG, okp, hh, hku⟩ := HY.out
      have k1' : Kept u u1 := Mem_drewOf k1
      have o2 : Off (maps M1 M2) w u2 := (hpu.off.kept k1').but k2 (.inl (.inl rfl))
      have c5 := (HC.out.2.2 u2 o2).2.1
      have b0 := (HX.out.2 u1 u2 k1' k2).2.1
      have lat2 := ((hpu.lat.keep k1').but k2 hh.ne.symm).drew
      obtain ⟨w2, hrun, hm2, hb2⟩ := lat2.drop Try.underlying79 okp.1 0
      have Hz := Lib.hid (And.intro o2 (And.intro hm2 (And.intro hb2 (And.intro hM2 k2))))
      clear hpu hold hcm hG okp hh hku k1' o2 lat2 hm2 hb2 hM2 k1 k2 S1 S1' hget hput hMu hs1 hs2 hadd
      go_wp2
      go_region
      go_wp2
      go_roundw
      case rel =>
        refine ⟨k + 1, by omega, by go_num, ?_⟩
        obtain ⟨hpu, hold, hcm, hG, okp, hh, hku⟩ := HY.out
        obtain ⟨o2, hm2, hb2, hM2, k2⟩ := Hz.out
        refine ⟨o2.drew.but hb2 (.inl (.inr rfl)), ?_, ?_⟩
        · rw [settle_succ hlt, dg_put, ← Hs.out.1, ← Hs.out.2, ← Hm.out, ← hold, ← hcm, ← hG]
          exact hM2.drew.but hb2 hh.ne
        · rw [rest_succ hlt, ← Hs.out.1]
          exact hm2
      case measure => simp [intOf]; omega
    · obtain rfl : k = s.pend.length := by omega
      obtain ⟨_, _, c4, f4⟩ := HC.out.2.2 wr hp.off
      have Hp := Lib.hid hp
      clear hp
      go_wp2
      go_end0
      exact ⟨rfl, wr, Hp.out, rfl⟩

set_option maxHeartbeats 2000000 in
set_option maxRecDepth 100000 in
theorem settle_crash (F D M1 M2 : Nat) (pv : Value) (s : Ds) (f : Nat → Nat) (hf : ∀ k, f k ≤ 80) (C : Nat) (w : World) (h : Dk F D M1 M2 pv s w)
    (hcall : ∀ (k : Nat) W, k < s.pend.length → Off (maps M1 M2) w W → Calls Try.prog 48 #[.int .i64 (k : Int), .pointer (some ⟨C, 0, none⟩)] W fun e w' => e = .returned (.int .i64 (f k : Int)) ∧ Kept W w') :
    Calls Try.prog 47 #[.pointer (some ⟨D, 0, none⟩), .func (.func 48) #[] #[.pointer (some ⟨C, 0, none⟩)]] w fun e w' => e = .returned (.tuple #[]) ∧ ∃ w1, Sd M1 M2 s f w s.pend.length w1 ∧ w' = w1.setCell ⟨D, 4, none⟩ (.slice none 0 0) := by
  have c4 := h.cell 4
  simp [blockOf] at c4
  have hst := Sd.start h f
  have hlen : s.pend.length ≤ 9223372036854775807 := by
    rcases h.row.2 with ⟨_, h0⟩ | ⟨_, _, _, _, _, _, h1, h2, _⟩
    · omega
    · unfold maxLen at h2; omega
  have H := Lib.hid h
  clear h
  have rows : ∃ (ao : Option Addr) (cap : Nat), pv = .slice ao s.pend.length cap ∧ ∀ k (hk : k < s.pend.length), ∃ g, ao = some ⟨g, 0, none⟩ ∧ ∀ W, Off (maps M1 M2) w W → W.cell? ⟨g, k * 2, none⟩ = some (.int .i64 (s.pend[k].1 : Int)) ∧ W.cell? ⟨g, k * 2 + 1, none⟩ = some (.string s.pend[k].2) := by
    have h := H.out
    rcases row_slice h.row with rfl | ⟨g, cap, rfl⟩
    · have h0 : s.pend.length = 0 := by
        rcases h.row.2 with ⟨_, h0⟩ | ⟨_, _, _, e, _⟩
        · exact h0
        · simp at e
      exact ⟨none, 0, by rw [h0], fun k hk => by omega⟩
    · refine ⟨some ⟨g, 0, none⟩, cap, rfl, fun k hk => ⟨g, rfl, fun W hW => ?_⟩⟩
      have hg := h.row.cells (g := g) rfl
      have ap := h.apart.p g rfl
      have q := cells_at s.pend k hk
      have a1 := hg _ _ q.1
      have a2 := hg _ _ q.2
      simp only [add_plain, Nat.zero_add] at a1 a2
      have nm : ¬ maps M1 M2 g := fun e => by rcases e with e | e; exact ap.2.2.1 e; exact ap.2.2.2 e
      exact ⟨hW.cell a1 nm, hW.cell a2 nm⟩
  obtain ⟨ao, cap, rfl, hrow⟩ := rows
  have cD : ∀ W, Off (maps M1 M2) w W → W.cell? ⟨D, 3, none⟩ = some (.map (some M1)) ∧ W.cell? ⟨D, 5, none⟩ = some (.map (some M2)) ∧ W.cell? ⟨D, 4, none⟩ = some (.slice ao s.pend.length cap) ∧ W.frozen? ⟨D, 4, none⟩ = false := fun W hW => by
    have h := H.out
    have nm : ¬ maps M1 M2 D := fun e => by rcases e with e | e; exact h.apart.DM1 e; exact h.apart.DM2 e
    have hb := hW.at h.blk nm
    exact ⟨cell_of_row _ _ _ _ _ _ hb, cell_of_row _ _ _ _ _ _ hb, cell_of_row _ _ _ _ _ _ hb, frozen_of_row _ _ _ _ _ hb⟩
  have HC := Lib.hid (And.intro hcall (And.intro hrow cD))
  clear hcall hrow cD
  go_enter Try.func47, Try.ntmps47
  go_wp2
  go_loopw [12] (fun i wr => ∃ k : Nat, k ≤ s.pend.length ∧ i = .int .i64 k ∧ Sd M1 M2 s f w k wr) (fun i _ => s.pend.length - (intOf i).toNat)
  case atStart => exact ⟨0, by omega, rfl, hst⟩
  case round =>
    clear hst c4
    obtain ⟨k, hk, rfl, hp⟩ := hrel
    by_cases hlt : k < s.pend.length
    · obtain ⟨g, rfl, hrow⟩ := HC.out.2.1 k hlt
      obtain ⟨r0, r1⟩ := hrow wr hp.off
      obtain ⟨sec, hsec⟩ : ∃ sec, sec = s.pend[k].1 := ⟨_, rfl⟩
      obtain ⟨dat, hdat⟩ : ∃ dat, dat = s.pend[k].2 := ⟨_, rfl⟩
      rw [← hsec] at r0
      rw [← hdat] at r1
      have Hs := Lib.hid (And.intro hsec hdat)
      have Hp := Lib.hid hp
      clear hrow hsec hdat hp
      have hcall := HC.out.1 k (wr.alloc (.cells #[.int .i64 (sec : Int), .string dat] 85)) hlt (Hp.out.off.alloc _)
      obtain ⟨m, hm⟩ : ∃ m, m = f k := ⟨_, rfl⟩
      rw [← hm] at hcall
      have Hm := Lib.hid hm
      clear hm
      go_wp2_with (first | (go_at_call 48; refine hcall.mono ?_; rintro e u ⟨rfl, hku⟩))
      have hh := H.out
      have hpu := (Hp.out.kept ((Kept.refl _).alloc (.cells #[.int .i64 (sec : Int), .string dat] 85))).kept hku
      have hpk := s.ok
      have bx : u.heap[wr.heap.size]? = some (.cells #[.int .i64 (sec : Int), .string dat] 85 (0, 0)) := hku.at (heap_alloc_new _ _)
      have okp : sec < s.n ∧ dat.size = 80 := by rw [Hs.out.1, Hs.out.2]; exact hh.ok.pend _ (List.getElem_mem hlt)
      obtain ⟨old, hold⟩ : ∃ old, old = settle f s.pend s.dur k sec := ⟨_, rfl⟩
      have oldsz : old.size = 80 := by rw [hold]; exact size_settle hf hh.ok.pend hh.ok.dur k sec okp.1
      have hm80 : m ≤ 80 := by rw [Hm.out]; exact hf k
      have hs1 : ∀ W, (Instr.slice 9 (.string dat) none (some (.int .i64 (m : Int))) none).run Try.prog W = .ok (.string (dat.extract 0 m)) W := slice_h dat m (by omega)
      have hs2 : ∀ W, (Instr.slice 9 (.string old) (some (.int .i64 (m : Int))) none none).run Try.prog W = .ok (.string (old.extract m old.size)) W := slice_l old m (by omega)
      obtain ⟨pa, hpa⟩ : ∃ pa, pa = dat.extract 0 m := ⟨_, rfl⟩
      obtain ⟨pb, hpb⟩ : ∃ pb, pb = old.extract m old.size := ⟨_, rfl⟩
      obtain ⟨c, hc⟩ : ∃ c, c = pa ++ pb := ⟨_, rfl⟩
      have hcm : c = mix m dat old := by rw [hc, hpa, hpb]; rfl
      have csz : c.size = 80 := by rw [hcm]; exact size_mix hm80 okp.2 oldsz
      rw [← hpa] at hs1
      rw [← hpb] at hs2
      have psz : pa.size + pb.size = 80 := by rw [← ByteArray.size_append, ← hc]; exact csz
      have hadd : ∀ W, (Op.stringOp .add pa pb).run Try.prog W = .ok (.string c) W := fun W => by
        rw [hc]; exact run_string_add_sum W pa pb (by omega)
      obtain ⟨G, hG⟩ : ∃ G, G = dg (settle f s.pend s.dur k) := ⟨_, rfl⟩
      have hget : ∀ W, Mp M1 s.n G W → Calls Try.prog 42 #[.map (some M1), .int .i64 (sec : Int)] W fun e w' => e = .returned (.string old) ∧ Kept W w' := fun W hW => by
        have q := get_c M1 s.n G sec okp.1 W hW
        rw [hG, dg_getD, ← hold] at q
        exact q
      have hput : ∀ W, Mp M1 s.n G W → Calls Try.prog 59 #[.map (some M1), .int .i64 (sec : Int), .string c] W fun e w' => e = .returned (.tuple #[]) ∧ But M1 W w' ∧ Mp M1 s.n (upd G sec (if c = Z then none else some c)) w' := fun W hW =>
        put_c M1 s.n G sec okp.1 hh.ok.hi c csz W hW
      have hMu : Mp M1 s.n G u.drew := by rw [hG]; exact hpu.dur
      have cells : ∀ W, Kept u W → W.cell? ⟨D, 3, none⟩ = some (.map (some M1)) ∧ W.cell? ⟨wr.heap.size, 0, none⟩ = some (.int .i64 (sec : Int)) ∧ W.cell? ⟨wr.heap.size, 1, none⟩ = some (.string dat) := fun W hW =>
        ⟨(HC.out.2.2 W (hpu.off.kept hW)).1, cell_of_row _ _ _ _ _ _ (hW.at bx), cell_of_row _ _ _ _ _ _ (hW.at bx)⟩
      have cells2 : ∀ W W', Kept u W → But M1 W W' → W'.cell? ⟨D, 3, none⟩ = some (.map (some M1)) ∧ W'.cell? ⟨wr.heap.size, 0, none⟩ = some (.int .i64 (sec : Int)) ∧ W'.cell? ⟨wr.heap.size, 1, none⟩ = some (.string dat) := fun W W' hW hb => by
        have nb : wr.heap.size ≠ M1 := Nat.ne_of_gt (Nat.lt_of_lt_of_le hh.lts.2.2.1 Hp.out.off.size)
        have b2 := hb.at (hW.at bx) nb
        exact ⟨(HC.out.2.2 W' ((hpu.off.kept hW).but hb (.inl (.inl rfl)))).1, cell_of_row _ _ _ _ _ _ b2, cell_of_row _ _ _ _ _ _ b2⟩
      have S1 := cells u (Kept.refl u)
      have S1' := cells u.drew (Kept.refl u).drew
      have HX := Lib.hid (And.intro cells cells2)
      have HY := Lib.hid (And.intro hpu (And.intro hold (And.intro hcm (And.intro hG (And.intro okp (And.intro hh hku))))))
      have Hf := Lib.hid (And.intro bx (And.intro oldsz (And.intro hm80 csz)))
      clear psz hh hpu hpk bx okp hold oldsz hm80 hc hcm csz hpa hpb hG cells cells2 hku r0 r1 hk
      go_region_held3 (fun W => W.cell? ⟨D, 3, none⟩ = some (.map (some M1)) ∧ W.cell? ⟨wr.heap.size, 0, none⟩ = some (.int .i64 (sec : Int)) ∧ W.cell? ⟨wr.heap.size, 1, none⟩ = some (.string dat))
        (first | assumption | (refine HX.out.1 _ ?_; exact Mem_drewOf k1) | (refine HX.out.2 _ _ ?_ k2; exact Mem_drewOf k1))
        (first
          | (go_at_call 42; refine (hget _ ‹_›).mono ?_; rintro e u1 ⟨rfl, k1⟩)
          | (go_at_call 59; refine (hput _ (hMu.keep k1)).mono ?_; rintro e u2 ⟨rfl, k2, hM2⟩))
      obtain ⟨hpu, hold, hcm, hG, okp, hh, hku⟩ := HY.out
      have k1' : Kept u u1 := Mem_drewOf k1
      have o2 : Off (maps M1 M2) w u2 := (hpu.off.kept k1').but k2 (.inl (.inl rfl))
      have c5 := (HC.out.2.2 u2 o2).2.1
      have b0 := (HX.out.2 u1 u2 k1' k2).2.1
      have lat2 := ((hpu.lat.keep k1').but k2 hh.ne.symm).drew
      obtain ⟨w2, hrun, hm2, hb2⟩ := lat2.drop Try.underlying79 okp.1 0
      have Hz := Lib.hid (And.intro o2 (And.intro hm2 (And.intro hb2 (And.intro hM2 k2))))
      clear hpu hold hcm hG okp hh hku k1' o2 lat2 hm2 hb2 hM2 k1 k2 S1 S1' hget hput hMu hs1 hs2 hadd
      go_wp2
      go_region
      go_wp2
      go_roundw
      case rel =>
        refine ⟨k + 1, by omega, by go_num, ?_⟩
        obtain ⟨hpu, hold, hcm, hG, okp, hh, hku⟩ := HY.out
        obtain ⟨o2, hm2, hb2, hM2, k2⟩ := Hz.out
        refine ⟨o2.drew.but hb2 (.inl (.inr rfl)), ?_, ?_⟩
        · rw [settle_succ hlt, dg_put, ← Hs.out.1, ← Hs.out.2, ← Hm.out, ← hold, ← hcm, ← hG]
          exact hM2.drew.but hb2 hh.ne
        · rw [rest_succ hlt, ← Hs.out.1]
          exact hm2
      case measure => simp [intOf]; omega
    · obtain rfl : k = s.pend.length := by omega
      obtain ⟨_, _, c4, f4⟩ := HC.out.2.2 wr hp.off
      have Hp := Lib.hid hp
      clear hp
      go_wp2
      go_end0
      exact ⟨rfl, wr, Hp.out, rfl⟩
end Go.Proofs.Ytoclgneokfbobaa.Dz
