/-
  What the calls of package frame do that read a sector: Decode.
-/
import Derived.Test.YtnpjmjnekakgeaaFf
import Derived.WalkMore
import Derived.ScopeJumps
namespace Go.Proofs.Ytnpjmjnekakgeaa.Fk
open Go.RowKit Go.Proofs.Ytnpjmjnekakgeaa.Mem Go.Proofs.Ytnpjmjnekakgeaa.Pk

theorem dec_bad1 {s : ByteArray} (h : (flds s).err ≠ 0) : decF s = Fr.nil ∧ decE s = 12 := by
  have e : dec s = none := by unfold dec; rw [if_neg (fun h2 => h h2.1)]
  unfold decF decE; rw [e]; exact ⟨rfl, rfl⟩
theorem dec_bad2 {s : ByteArray} (h : (flds s).enc ≠ s) : decF s = Fr.nil ∧ decE s = 12 := by
  have e : dec s = none := by unfold dec; rw [if_neg (fun h2 => h h2.2)]
  unfold decF decE; rw [e]; exact ⟨rfl, rfl⟩
theorem dec_ok {s : ByteArray} (h : (flds s).err = 0) (h2 : (flds s).enc = s) : decF s = flds s ∧ decE s = 0 := by
  have e : dec s = some (flds s) := by unfold dec; rw [if_pos ⟨h, h2⟩]
  unfold decF decE; rw [e]; exact ⟨rfl, rfl⟩
theorem flds_small (s : ByteArray) : (flds s).data.size ≤ 255 := by
  unfold flds
  have h : val ((l5 s).take 1) < 256 := val_short
  rw [size_str, List.length_take]; omega
theorem flds_kind (s : ByteArray) : (flds s).kind < 256 := val_short

theorem rblock {y : World} {F : Nat} {T : TypeId} {b l p q k : Int} {d : ByteArray} (h : y.heap[F]? = some (.cells (fcells b l p q k d) T (0, 0))) :
    (y.cell? ⟨F, 0, none⟩ = some (.int .i64 b) ∧ y.cell? ⟨F, 1, none⟩ = some (.int .i64 l) ∧ y.cell? ⟨F, 2, none⟩ = some (.int .i64 p) ∧ y.cell? ⟨F, 3, none⟩ = some (.int .i64 q) ∧ y.cell? ⟨F, 4, none⟩ = some (.int .u8 k) ∧ y.cell? ⟨F, 5, none⟩ = some (.string d)) ∧ ∀ i, y.frozen? ⟨F, i, none⟩ = false :=
  ⟨six_cells h, fun i => frozen_of_row y F i _ _ h⟩
set_option maxHeartbeats 4000000 in
set_option maxRecDepth 100000 in
theorem decode_g (b l p q : Int) (k : Nat) (d s : ByteArray) (w : World)
    (cf : ∀ w, Calls Try.prog 23 #[.string s] w fun e w' => e = .returned (.agg #[.int .i64 b, .int .i64 l, .int .i64 p, .int .i64 q, .int .u8 k, .string d]) ∧ Kept w w')
    (ce : ∀ w, Calls Try.prog 10 #[.agg #[.int .i64 b, .int .i64 l, .int .i64 p, .int .i64 q, .int .u8 k, .string d]] w fun e w' => e = .returned (.tuple #[.string s, .int .i64 0]) ∧ Kept w w') :
    Calls Try.prog 12 #[.string s] w fun e w' => e = .returned (.tuple #[.agg #[.int .i64 b, .int .i64 l, .int .i64 p, .int .i64 q, .int .u8 k, .string d], .int .i64 0]) ∧ Kept w w' := by
  have hx1 : Kept w (w.alloc (.cells #[.int .i64 0, .int .i64 0, .int .i64 0, .int .i64 0, .int .u8 0, .string ⟨#[]⟩] 23)) := (Kept.refl w).alloc _
  have hR0 := (MapKept.heap_alloc w (.cells (fcells 0 0 0 0 0 ⟨#[]⟩) 23)).1
  go_enter Try.func12, Try.ntmps12
  go_wp2_with fail
  go_step3
  go_wp2_with (first
    | (go_at_call 23; (with_reducible refine (cf _).mono ?_); rintro e u1 ⟨rfl, k1⟩; have hb := Box.start u1 23 b l p q k d; have hR1 := (k1.alloc (.cells #[.int .i64 b, .int .i64 l, .int .i64 p, .int .i64 q, .int .u8 k, .string d] 23)).at hR0; obtain ⟨_, a0, a1, a2, a3, a4, a5⟩ := hb)
    | (go_at_call 10; (with_reducible refine (ce _).mono ?_); rintro e u2 ⟨rfl, k2⟩; have hR2 := k2.at hR1; have hb2 := Box.kept (Box.start u1 23 b l p q k d) k2; obtain ⟨_, c0, c1, c2, c3, c4, c5⟩ := hb2; obtain ⟨⟨r0, r1, r2, r3, r4, r5⟩, fz⟩ := rblock hR2))
  rw [Exit.noGoto_ret]
  have hy := six (b := b) (l := l) (p := p) (q := q) (k := k) (d := d) hR2
  have ky := six_below (b := b) (l := l) (p := p) (q := q) (k := k) (d := d) (((hx1.trans k1).alloc _).trans k2) (Nat.le_refl w.heap.size)
  clear c0 c1 c2 c3 c4 c5 hR2 k2
  generalize ((((((u2.setCell ⟨w.heap.size, 0, none⟩ (.int .i64 b)).setCell ⟨w.heap.size, 1, none⟩ (.int .i64 l)).setCell ⟨w.heap.size, 2, none⟩ (.int .i64 p)).setCell ⟨w.heap.size, 3, none⟩ (.int .i64 q)).setCell ⟨w.heap.size, 4, none⟩ (.int .u8 k)).setCell ⟨w.heap.size, 5, none⟩ (.string d)) = y at hy ky ⊢
  obtain ⟨c0, c1, c2, c3, c4, c5⟩ := six_cells hy
  exact bodyPost_ret (v := .tuple #[.agg #[.int .i64 b, .int .i64 l, .int .i64 p, .int .i64 q, .int .u8 k, .string d], .int .i64 0]) (by simp [results, Try.results12, go_sem, c0, c1, c2, c3, c4, c5]) rfl ⟨rfl, ky⟩
set_option maxHeartbeats 4000000 in
set_option maxRecDepth 100000 in
theorem decode_b (b l p q : Int) (k : Nat) (d s t : ByteArray) (E : Int) (w : World) (h : (E != 0) = true ∨ (E = 0 ∧ (!t.toList == s.toList) = true))
    (cf : ∀ w, Calls Try.prog 23 #[.string s] w fun e w' => e = .returned (.agg #[.int .i64 b, .int .i64 l, .int .i64 p, .int .i64 q, .int .u8 k, .string d]) ∧ Kept w w')
    (ce : ∀ w, Calls Try.prog 10 #[.agg #[.int .i64 b, .int .i64 l, .int .i64 p, .int .i64 q, .int .u8 k, .string d]] w fun e w' => e = .returned (.tuple #[.string t, .int .i64 E]) ∧ Kept w w') :
    Calls Try.prog 12 #[.string s] w fun e w' => e = .returned (.tuple #[.agg #[.int .i64 0, .int .i64 0, .int .i64 0, .int .i64 0, .int .u8 0, .string ⟨#[]⟩], .int .i64 12]) ∧ Kept w w' := by
  have hx1 : Kept w (w.alloc (.cells #[.int .i64 0, .int .i64 0, .int .i64 0, .int .i64 0, .int .u8 0, .string ⟨#[]⟩] 23)) := (Kept.refl w).alloc _
  have hR0 := (MapKept.heap_alloc w (.cells (fcells 0 0 0 0 0 ⟨#[]⟩) 23)).1
  go_enter Try.func12, Try.ntmps12
  go_wp2_with fail
  refine wp_scope_jumps 0 (fun a' w' => ∃ u4 u5 u6 u7 u8 u9 u10 u11 u12 u13 u14 u15 u16 u17 u18 u19 u20 u21 u22 : Value, a' = { tmps := #[.string s, undef, .pointer (some ⟨w.heap.size, 0, none⟩), .int .i64 0, u4, u5, u6, u7, u8, u9, u10, u11, u12, u13, u14, u15, u16, u17, u18, u19, u20, u21, u22], defers := [] } ∧ w'.heap[w.heap.size]? = some (.cells (fcells 0 0 0 0 0 ⟨#[]⟩) 23 (0, 0)) ∧ Below w.heap.size w w') (fun _ _ => 0) rfl ?_ ?_
  · rcases h with h | ⟨rfl, h⟩
    · go_wp2_with (first
        | (go_at_call 23; (with_reducible refine (cf _).mono ?_); rintro e u1 ⟨rfl, k1⟩; have hb := Box.start u1 23 b l p q k d; have hR1 := (k1.alloc (.cells #[.int .i64 b, .int .i64 l, .int .i64 p, .int .i64 q, .int .u8 k, .string d] 23)).at hR0; obtain ⟨_, a0, a1, a2, a3, a4, a5⟩ := hb)
        | (go_at_call 10; (with_reducible refine (ce _).mono ?_); rintro e u2 ⟨rfl, k2⟩; have hR2 := k2.at hR1; have hb2 := Box.kept (Box.start u1 23 b l p q k d) k2; obtain ⟨_, c0, c1, c2, c3, c4, c5⟩ := hb2; obtain ⟨⟨r0, r1, r2, r3, r4, r5⟩, fz⟩ := rblock hR2))
      go_step3
      exact ⟨rfl, _, _, _, _, _, _, _, _, _, _, _, _, _, _, _, _, _, _, _, rfl, hR2, ((hx1.trans k1).alloc _).trans k2⟩
    · go_wp2_with (first
        | (go_at_call 23; (with_reducible refine (cf _).mono ?_); rintro e u1 ⟨rfl, k1⟩; have hb := Box.start u1 23 b l p q k d; have hR1 := (k1.alloc (.cells #[.int .i64 b, .int .i64 l, .int .i64 p, .int .i64 q, .int .u8 k, .string d] 23)).at hR0; obtain ⟨_, a0, a1, a2, a3, a4, a5⟩ := hb)
        | (go_at_call 10; (with_reducible refine (ce _).mono ?_); rintro e u2 ⟨rfl, k2⟩; have hR2 := k2.at hR1; have hb2 := Box.kept (Box.start u1 23 b l p q k d) k2; obtain ⟨_, c0, c1, c2, c3, c4, c5⟩ := hb2; obtain ⟨⟨r0, r1, r2, r3, r4, r5⟩, fz⟩ := rblock hR2))
      go_step3
      exact ⟨rfl, _, _, _, _, _, _, _, _, _, _, _, _, _, _, _, _, _, _, _, rfl, hR2, ((hx1.trans k1).alloc _).trans k2⟩
  · rintro a' w' ⟨u4, u5, u6, u7, u8, u9, u10, u11, u12, u13, u14, u15, u16, u17, u18, u19, u20, u21, u22, rfl, hR, hB⟩
    obtain ⟨⟨r0, r1, r2, r3, r4, r5⟩, fz⟩ := rblock hR
    go_wp2
    simp only [Exit.jump]
    have hy := six (b := 0) (l := 0) (p := 0) (q := 0) (k := 0) (d := ⟨#[]⟩) hR
    have ky := six_below (b := 0) (l := 0) (p := 0) (q := 0) (k := 0) (d := ⟨#[]⟩) hB (Nat.le_refl w.heap.size)
    clear r0 r1 r2 r3 r4 r5 hR hB
    generalize ((((((w'.setCell ⟨w.heap.size, 0, none⟩ (.int .i64 0)).setCell ⟨w.heap.size, 1, none⟩ (.int .i64 0)).setCell ⟨w.heap.size, 2, none⟩ (.int .i64 0)).setCell ⟨w.heap.size, 3, none⟩ (.int .i64 0)).setCell ⟨w.heap.size, 4, none⟩ (.int .u8 0)).setCell ⟨w.heap.size, 5, none⟩ (.string ⟨#[]⟩)) = y at hy ky ⊢
    obtain ⟨c0, c1, c2, c3, c4, c5⟩ := six_cells hy
    exact bodyPost_ret (v := .tuple #[.agg #[.int .i64 0, .int .i64 0, .int .i64 0, .int .i64 0, .int .u8 0, .string ⟨#[]⟩], .int .i64 12]) (by simp [results, Try.results12, go_sem, c0, c1, c2, c3, c4, c5]) rfl ⟨rfl, ky⟩

theorem decode_c (s : ByteArray) (w : World) :
    Calls Try.prog 12 #[.string s] w fun e w' => e = .returned (.tuple #[.agg #[.int .i64 (decF s).boot, .int .i64 (decF s).lsn, .int .i64 (decF s).part, .int .i64 (decF s).parts, .int .u8 (decF s).kind, .string (decF s).data], .int .i64 (decE s)]) ∧ Kept w w' := by
  have cf := fields_c s
  have ce := encode_c (flds s) (flds_kind s) (Nat.le_trans (flds_small s) (by decide))
  by_cases h1 : (flds s).err = 0
  · by_cases h2 : (flds s).enc = s
    · obtain ⟨e1, e2⟩ := dec_ok h1 h2
      rw [e1, e2]
      rw [h1, h2] at ce
      exact decode_g _ _ _ _ _ _ s w cf ce
    · obtain ⟨e1, e2⟩ := dec_bad2 h2
      rw [e1, e2]
      refine decode_b _ _ _ _ _ _ s _ _ w (.inr ⟨h1, ?_⟩) cf ce
      simp only [Bool.not_eq_true', beq_eq_false_iff_ne, ne_eq]
      intro h
      refine h2 (str_inj ?_)
      rw [← Lib.toList_data, ← Lib.toList_data]; exact h
  · obtain ⟨e1, e2⟩ := dec_bad1 h1
    rw [e1, e2]
    exact decode_b _ _ _ _ _ _ s _ _ w (.inl (by simpa using h1)) cf ce
end Go.Proofs.Ytnpjmjnekakgeaa.Fk
