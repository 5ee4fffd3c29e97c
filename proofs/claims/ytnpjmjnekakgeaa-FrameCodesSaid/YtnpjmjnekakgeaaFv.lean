/-
  What the specification's Decode does.
-/
import Derived.Test.YtnpjmjnekakgeaaFl
import Derived.Deep.RegionHeld3
namespace Go.Proofs.Ytnpjmjnekakgeaa.Fk
open Go.RowKit Go.Proofs.Ytnpjmjnekakgeaa.Mem Go.Proofs.Ytnpjmjnekakgeaa.Pk

/-- What the specification's Decode takes. -/
structure RdG (s x4 x6 xd : ByteArray) (b l : Int) (p q k z y : Nat) : Prop where
  sz : s.size = 80
  i10 : ∀ w : World, (Instr.index 9 (.string s) (.int .i64 10)).run Try.prog w = .ok (.int .u8 (p : Int)) w
  i11 : ∀ w : World, (Instr.index 9 (.string s) (.int .i64 11)).run Try.prog w = .ok (.int .u8 (q : Int)) w
  i12 : ∀ w : World, (Instr.index 9 (.string s) (.int .i64 12)).run Try.prog w = .ok (.int .u8 (k : Int)) w
  i13 : ∀ w : World, (Instr.index 9 (.string s) (.int .i64 13)).run Try.prog w = .ok (.int .u8 (z : Int)) w
  hp : p < 256
  hq : q < 256
  hk : k < 256
  hz : z < 256
  e4 : s.extract 0 4 = x4
  e6 : s.extract 4 10 = x6
  hy : 18 + (z : Int) = (y : Int)
  ed : s.extract 18 y = xd
  c4 : ∀ w, Calls Try.prog 24 #[.string x4] w fun e w' => e = .returned (.int .i64 b) ∧ w = w'
  c6 : ∀ w, Calls Try.prog 24 #[.string x6] w fun e w' => e = .returned (.int .i64 l) ∧ w = w'

set_option maxHeartbeats 4000000 in
set_option maxRecDepth 100000 in
theorem rdecode_g {s x4 x6 xd : ByteArray} {b l : Int} {p q k z y : Nat} (G : RdG s x4 x6 xd b l p q k z y) (hs : z ≤ 44) (w : World)
    (ce : ∀ w, Calls Try.prog 11 #[.agg #[.int .i64 b, .int .i64 l, .int .i64 p, .int .i64 q, .int .u8 k, .string xd]] w fun e w' => e = .returned (.tuple #[.string s, .int .i64 0]) ∧ Kept w w') :
    Calls Try.prog 13 #[.string s] w fun e w' => e = .returned (.tuple #[.agg #[.int .i64 b, .int .i64 l, .int .i64 p, .int .i64 q, .int .u8 k, .string xd], .int .i64 0]) ∧ Kept w w' := by
  obtain ⟨sz, i10, i11, i12, i13, hp, hq, hk, hz, e4, e6, hy, ed, c4, c6⟩ := G
  have y1 : (18 : Int) ≤ (y : Int) := by omega
  have y2 : (y : Int) ≤ (s.size : Int) := by omega
  have y3 : (y : Int) ≤ 80 := by omega
  have t1 : ((s.size : Int) != 80) = false := by rw [sz]; rfl
  have t2 : decide (44 < (z : Int)) = false := by simp; omega
  have b1 : (s.size : Int) = 80 := by omega
  have hx1 : Kept w (w.alloc (.cells #[.int .i64 0, .int .i64 0, .int .i64 0, .int .i64 0, .int .u8 0, .string ⟨#[]⟩] 23)) := (Kept.refl w).alloc _
  have hR0 := (MapKept.heap_alloc w (.cells (fcells 0 0 0 0 0 ⟨#[]⟩) 23)).1
  obtain ⟨x, hx⟩ : ∃ x, x = w.alloc (.cells #[.int .i64 0, .int .i64 0, .int .i64 0, .int .i64 0, .int .u8 0, .string ⟨#[]⟩] 23) := ⟨_, rfl⟩
  have hR : x.heap[w.heap.size]? = some (.cells (fcells 0 0 0 0 0 ⟨#[]⟩) 23 (0, 0)) := by rw [hx]; exact hR0
  rw [← hx] at hx1
  have HR := Lib.hid (And.intro hx1 hR)
  have hbx := (Box.start x 23 b l p q k xd).kept (Kept.refl _).drew
  have hRx := (((Kept.refl x).alloc (.cells #[.int .i64 b, .int .i64 l, .int .i64 (p : Int), .int .i64 (q : Int), .int .u8 (k : Int), .string xd] 23)).drew).at HR.out.2
  have HX := Lib.hid (And.intro hbx hRx)
  clear hx1 hR0 hR hbx hRx
  have wp : IntKind.i64.wrap (p : Int) = (p : Int) := by rw [IntKind.wrap_i64]; omega
  have wq : IntKind.i64.wrap (q : Int) = (q : Int) := by rw [IntKind.wrap_i64]; omega
  have wz : IntKind.i64.wrap (z : Int) = (z : Int) := by rw [IntKind.wrap_i64]; omega
  have wz2 : IntKind.i64.wrap (y : Int) = (y : Int) := by rw [IntKind.wrap_i64]; omega
  go_enter Try.func13, Try.ntmps13
  go_wp2
  rw [← hx]
  clear hx
  refine wp_region_noPanic ?_
  refine wp_region_held_drew (S := fun _ => True) (by kernel_rfl) trivial (fun _ => ?_)
  refine wpAnyH_take (i := 0) (oi := { dst := some 17, op := .move (.tmp 0), type := 9, pos := _, after := _, guard := none }) (v := .string s) rfl (by kernel_rfl) (by kernel_rfl) (by kernel_rfl) (fun _ _ _ h => h) (Or.inl ⟨by rfl, fun w1 _ => by go_simp⟩) trivial ?_
  simp only [Act.put, List.setIfInBounds_toArray, List.set_cons_zero, List.set_cons_succ]
  refine wpAnyH_take (i := 1) (oi := { dst := some 18, op := .slice 9 (.tmp 17) none (some (.const (.int .i64 4))) none, type := 9, pos := _, after := _, guard := none }) (v := .string x4) rfl (by kernel_rfl) (by kernel_rfl) (by kernel_rfl) (fun _ _ _ h => h) (Or.inl ⟨by rfl, fun w1 _ => by go_simp⟩) trivial ?_
  simp only [Act.put, List.setIfInBounds_toArray, List.set_cons_zero, List.set_cons_succ]
  refine wpAnyH_take (i := 3) (oi := { dst := some 20, op := .move (.tmp 0), type := 9, pos := _, after := _, guard := none }) (v := .string s) rfl (by kernel_rfl) (by kernel_rfl) (by kernel_rfl) (fun _ _ _ h => h) (Or.inl ⟨by rfl, fun w1 _ => by go_simp⟩) trivial ?_
  simp only [Act.put, List.setIfInBounds_toArray, List.set_cons_zero, List.set_cons_succ]
  refine wpAnyH_take (i := 4) (oi := { dst := some 21, op := .slice 9 (.tmp 20) (some (.const (.int .i64 4))) (some (.const (.int .i64 10))) none, type := 9, pos := _, after := _, guard := none }) (v := .string x6) rfl (by kernel_rfl) (by kernel_rfl) (by kernel_rfl) (fun _ _ _ h => h) (Or.inl ⟨by rfl, fun w1 _ => by go_simp⟩) trivial ?_
  simp only [Act.put, List.setIfInBounds_toArray, List.set_cons_zero, List.set_cons_succ]
  refine wpAnyH_take (i := 6) (oi := { dst := some 23, op := .move (.tmp 0), type := 9, pos := _, after := _, guard := none }) (v := .string s) rfl (by kernel_rfl) (by kernel_rfl) (by kernel_rfl) (fun _ _ _ h => h) (Or.inl ⟨by rfl, fun w1 _ => by go_simp⟩) trivial ?_
  simp only [Act.put, List.setIfInBounds_toArray, List.set_cons_zero, List.set_cons_succ]
  refine wpAnyH_take (i := 7) (oi := { dst := some 24, op := .index 9 (.tmp 23) (.const (.int .i64 10)), type := 5, pos := _, after := _, guard := none }) (v := .int .u8 p) rfl (by kernel_rfl) (by kernel_rfl) (by kernel_rfl) (fun _ _ _ h => h) (Or.inl ⟨by rfl, fun w1 _ => by go_simp⟩) trivial ?_
  simp only [Act.put, List.setIfInBounds_toArray, List.set_cons_zero, List.set_cons_succ]
  refine wpAnyH_take (i := 8) (oi := { dst := some 25, op := .convert 5 3 (.tmp 24), type := 3, pos := _, after := _, guard := none }) (v := .int .i64 p) rfl (by kernel_rfl) (by kernel_rfl) (by kernel_rfl) (fun _ _ _ h => h) (Or.inl ⟨by rfl, fun w1 _ => by go_simp⟩) trivial ?_
  simp only [Act.put, List.setIfInBounds_toArray, List.set_cons_zero, List.set_cons_succ]
  refine wpAnyH_take (i := 9) (oi := { dst := some 26, op := .move (.tmp 0), type := 9, pos := _, after := _, guard := none }) (v := .string s) rfl (by kernel_rfl) (by kernel_rfl) (by kernel_rfl) (fun _ _ _ h => h) (Or.inl ⟨by rfl, fun w1 _ => by go_simp⟩) trivial ?_
  simp only [Act.put, List.setIfInBounds_toArray, List.set_cons_zero, List.set_cons_succ]
  refine wpAnyH_take (i := 10) (oi := { dst := some 27, op := .index 9 (.tmp 26) (.const (.int .i64 11)), type := 5, pos := _, after := _, guard := none }) (v := .int .u8 q) rfl (by kernel_rfl) (by kernel_rfl) (by kernel_rfl) (fun _ _ _ h => h) (Or.inl ⟨by rfl, fun w1 _ => by go_simp⟩) trivial ?_
  simp only [Act.put, List.setIfInBounds_toArray, List.set_cons_zero, List.set_cons_succ]
  refine wpAnyH_take (i := 11) (oi := { dst := some 28, op := .convert 5 3 (.tmp 27), type := 3, pos := _, after := _, guard := none }) (v := .int .i64 q) rfl (by kernel_rfl) (by kernel_rfl) (by kernel_rfl) (fun _ _ _ h => h) (Or.inl ⟨by rfl, fun w1 _ => by go_simp⟩) trivial ?_
  simp only [Act.put, List.setIfInBounds_toArray, List.set_cons_zero, List.set_cons_succ]
  refine wpAnyH_take (i := 12) (oi := { dst := some 29, op := .move (.tmp 0), type := 9, pos := _, after := _, guard := none }) (v := .string s) rfl (by kernel_rfl) (by kernel_rfl) (by kernel_rfl) (fun _ _ _ h => h) (Or.inl ⟨by rfl, fun w1 _ => by go_simp⟩) trivial ?_
  simp only [Act.put, List.setIfInBounds_toArray, List.set_cons_zero, List.set_cons_succ]
  refine wpAnyH_take (i := 13) (oi := { dst := some 30, op := .index 9 (.tmp 29) (.const (.int .i64 12)), type := 5, pos := _, after := _, guard := none }) (v := .int .u8 k) rfl (by kernel_rfl) (by kernel_rfl) (by kernel_rfl) (fun _ _ _ h => h) (Or.inl ⟨by rfl, fun w1 _ => by go_simp⟩) trivial ?_
  simp only [Act.put, List.setIfInBounds_toArray, List.set_cons_zero, List.set_cons_succ]
  refine wpAnyH_take (i := 14) (oi := { dst := some 31, op := .move (.tmp 0), type := 9, pos := _, after := _, guard := none }) (v := .string s) rfl (by kernel_rfl) (by kernel_rfl) (by kernel_rfl) (fun _ _ _ h => h) (Or.inl ⟨by rfl, fun w1 _ => by go_simp⟩) trivial ?_
  simp only [Act.put, List.setIfInBounds_toArray, List.set_cons_zero, List.set_cons_succ]
  refine wpAnyH_take (i := 15) (oi := { dst := some 32, op := .move (.tmp 0), type := 9, pos := _, after := _, guard := none }) (v := .string s) rfl (by kernel_rfl) (by kernel_rfl) (by kernel_rfl) (fun _ _ _ h => h) (Or.inl ⟨by rfl, fun w1 _ => by go_simp⟩) trivial ?_
  simp only [Act.put, List.setIfInBounds_toArray, List.set_cons_zero, List.set_cons_succ]
  refine wpAnyH_take (i := 16) (oi := { dst := some 33, op := .index 9 (.tmp 32) (.const (.int .i64 13)), type := 5, pos := _, after := _, guard := none }) (v := .int .u8 z) rfl (by kernel_rfl) (by kernel_rfl) (by kernel_rfl) (fun _ _ _ h => h) (Or.inl ⟨by rfl, fun w1 _ => by go_simp⟩) trivial ?_
  simp only [Act.put, List.setIfInBounds_toArray, List.set_cons_zero, List.set_cons_succ]
  refine wpAnyH_take (i := 17) (oi := { dst := some 34, op := .convert 5 3 (.tmp 33), type := 3, pos := _, after := _, guard := none }) (v := .int .i64 z) rfl (by kernel_rfl) (by kernel_rfl) (by kernel_rfl) (fun _ _ _ h => h) (Or.inl ⟨by rfl, fun w1 _ => by go_simp⟩) trivial ?_
  simp only [Act.put, List.setIfInBounds_toArray, List.set_cons_zero, List.set_cons_succ]
  refine wpAnyH_take (i := 18) (oi := { dst := some 35, op := .binOp .add 3 (.const (.int .i64 18)) (.tmp 34) 3, type := 3, pos := _, after := _, guard := none }) (v := .int .i64 y) rfl (by kernel_rfl) (by kernel_rfl) (by kernel_rfl) (fun _ _ _ h => h) (Or.inl ⟨by rfl, fun w1 _ => by go_simp⟩) trivial ?_
  simp only [Act.put, List.setIfInBounds_toArray, List.set_cons_zero, List.set_cons_succ]
  refine wpAnyH_take (i := 19) (oi := { dst := some 36, op := .slice 9 (.tmp 31) (some (.const (.int .i64 18))) (some (.tmp 35)) none, type := 9, pos := _, after := _, guard := none }) (v := .string xd) rfl (by kernel_rfl) (by kernel_rfl) (by kernel_rfl) (fun _ _ _ h => h) (Or.inl ⟨by rfl, fun w1 _ => by go_simp⟩) trivial ?_
  simp only [Act.put, List.setIfInBounds_toArray, List.set_cons_zero, List.set_cons_succ]
  refine wpAnyH_ready (rs := [2, 21]) (by kernel_rfl) (by simp) ?_
  refine AllReadyH.cons (o := { dst := some 19, op := .call { callee := .value (.func 24), args := #[.tmp 18], argTypes := #[9] }, type := 3, pos := _, after := _, guard := none }) rfl (fun K hK => ?_) ?_
  · go_simp
    go_at_call 24
    (with_reducible refine (c4 _).mono ?_)
    rintro e u ⟨rfl, rfl⟩
    go_wp2_with fail
    refine hK.out _ _ trivial (fun _ => ?_)
    clear hK K
    try simp only [Act.put, List.setIfInBounds_toArray, List.set_cons_zero, List.set_cons_succ]
    refine wpAnyH_ready (rs := [5, 21]) (by kernel_rfl) (by simp) ?_
    refine AllReadyH.cons (o := { dst := some 22, op := .call { callee := .value (.func 24), args := #[.tmp 21], argTypes := #[9] }, type := 3, pos := _, after := _, guard := none }) rfl (fun K hK => ?_) ?_
    · go_simp
      go_at_call 24
      (with_reducible refine (c6 _).mono ?_)
      rintro e u ⟨rfl, rfl⟩
      go_wp2_with fail
      refine hK.out _ _ trivial (fun _ => ?_)
      clear hK K
      try simp only [Act.put, List.setIfInBounds_toArray, List.set_cons_zero, List.set_cons_succ]
      refine wpAnyH_take (i := 20) (oi := { dst := some 37, op := .build 23 #[(0, .tmp 19), (1, .tmp 22), (2, .tmp 25), (3, .tmp 28), (4, .tmp 30), (5, .tmp 36)], type := 23, pos := _, after := _, guard := none }) (v := .agg #[.int .i64 b, .int .i64 l, .int .i64 p, .int .i64 q, .int .u8 k, .string xd]) rfl (by kernel_rfl) (by kernel_rfl) (by kernel_rfl) (fun _ _ _ h => h) (Or.inl ⟨by rfl, fun w1 _ => by go_simp⟩) trivial ?_
      simp only [Act.put, List.setIfInBounds_toArray, List.set_cons_zero, List.set_cons_succ]
      refine wpAnyH_ready (rs := [21]) (by kernel_rfl) (by simp) ?_
      refine AllReadyH.cons (o := { dst := some 4, op := .alloc 23, type := 0, pos := _, after := _, guard := none }) rfl (fun K hK => ?_) ?_
      · go_simp
        refine hK.out _ _ trivial (fun _ => ?_)
        clear hK K
        try simp only [Act.put, List.setIfInBounds_toArray, List.set_cons_zero, List.set_cons_succ]
        refine wpAnyH_ready (rs := [22]) (by kernel_rfl) (by simp) ?_
        refine AllReadyH.cons (o := { dst := none, op := .store 23 (.tmp 4) (.tmp 37), type := 0, pos := _, after := _, guard := none }) rfl (fun K hK => ?_) ?_
        · go_simp
          refine hK.out _ _ trivial (fun _ => ?_)
          clear hK K
          try simp only [Act.put, List.setIfInBounds_toArray, List.set_cons_zero, List.set_cons_succ]
          refine wpAnyH_done (by kernel_rfl) ?_ _
          refine NoPanic.normal ?_
          go_wp2_with (go_at_call 11; (with_reducible refine (ce _).mono ?_); rintro e u3 ⟨rfl, k3⟩; obtain ⟨_, d0, d1, d2, d3, d4, d5⟩ := HX.out.1.kept k3; have hR3 := k3.at HX.out.2; obtain ⟨⟨r0, r1, r2, r3, r4, r5⟩, fz⟩ := rblock hR3)
          have hy := six (b := b) (l := l) (p := (p : Int)) (q := (q : Int)) (k := (k : Int)) (d := xd) hR3
          have ky := six_below (b := b) (l := l) (p := (p : Int)) (q := (q : Int)) (k := (k : Int)) (d := xd) (HR.out.1.trans (((Kept.refl x).alloc (.cells #[.int .i64 b, .int .i64 l, .int .i64 (p : Int), .int .i64 (q : Int), .int .u8 (k : Int), .string xd] 23)).drew.trans k3)) (Nat.le_refl w.heap.size)
          clear d0 d1 d2 d3 d4 d5 r0 r1 r2 r3 r4 r5 hR3 k3 fz
          generalize ((((((u3.setCell ⟨w.heap.size, 0, none⟩ (.int .i64 b)).setCell ⟨w.heap.size, 1, none⟩ (.int .i64 l)).setCell ⟨w.heap.size, 2, none⟩ (.int .i64 (p : Int))).setCell ⟨w.heap.size, 3, none⟩ (.int .i64 (q : Int))).setCell ⟨w.heap.size, 4, none⟩ (.int .u8 (k : Int))).setCell ⟨w.heap.size, 5, none⟩ (.string xd)) = Y at hy ky ⊢
          obtain ⟨d0, d1, d2, d3, d4, d5⟩ := six_cells hy
          exact bodyPost_ret (v := .tuple #[.agg #[.int .i64 b, .int .i64 l, .int .i64 (p : Int), .int .i64 (q : Int), .int .u8 (k : Int), .string xd], .int .i64 0]) (by simp [results, Try.results13, go_sem, d0, d1, d2, d3, d4, d5]) rfl ⟨rfl, ky⟩
        exact AllReadyH.nil
      exact AllReadyH.nil
    refine AllReadyH.cons (o := { dst := some 4, op := .alloc 23, type := 0, pos := _, after := _, guard := none }) rfl (fun K hK => ?_) ?_
    · go_simp
      refine hK.out _ _ trivial (fun _ => ?_)
      clear hK K
      try simp only [Act.put, List.setIfInBounds_toArray, List.set_cons_zero, List.set_cons_succ]
      refine wpAnyH_ready (rs := [5]) (by kernel_rfl) (by simp) ?_
      refine AllReadyH.cons (o := { dst := some 22, op := .call { callee := .value (.func 24), args := #[.tmp 21], argTypes := #[9] }, type := 3, pos := _, after := _, guard := none }) rfl (fun K hK => ?_) ?_
      · go_simp
        go_at_call 24
        (with_reducible refine (c6 _).mono ?_)
        rintro e u ⟨rfl, rfl⟩
        go_wp2_with fail
        refine hK.out _ _ trivial (fun _ => ?_)
        clear hK K
        try simp only [Act.put, List.setIfInBounds_toArray, List.set_cons_zero, List.set_cons_succ]
        refine wpAnyH_take (i := 20) (oi := { dst := some 37, op := .build 23 #[(0, .tmp 19), (1, .tmp 22), (2, .tmp 25), (3, .tmp 28), (4, .tmp 30), (5, .tmp 36)], type := 23, pos := _, after := _, guard := none }) (v := .agg #[.int .i64 b, .int .i64 l, .int .i64 p, .int .i64 q, .int .u8 k, .string xd]) rfl (by kernel_rfl) (by kernel_rfl) (by kernel_rfl) (fun _ _ _ h => h) (Or.inl ⟨by rfl, fun w1 _ => by go_simp⟩) trivial ?_
        simp only [Act.put, List.setIfInBounds_toArray, List.set_cons_zero, List.set_cons_succ]
        refine wpAnyH_ready (rs := [22]) (by kernel_rfl) (by simp) ?_
        refine AllReadyH.cons (o := { dst := none, op := .store 23 (.tmp 4) (.tmp 37), type := 0, pos := _, after := _, guard := none }) rfl (fun K hK => ?_) ?_
        · go_simp
          refine hK.out _ _ trivial (fun _ => ?_)
          clear hK K
          try simp only [Act.put, List.setIfInBounds_toArray, List.set_cons_zero, List.set_cons_succ]
          refine wpAnyH_done (by kernel_rfl) ?_ _
          refine NoPanic.normal ?_
          go_wp2_with (go_at_call 11; (with_reducible refine (ce _).mono ?_); rintro e u3 ⟨rfl, k3⟩; obtain ⟨_, d0, d1, d2, d3, d4, d5⟩ := HX.out.1.kept k3; have hR3 := k3.at HX.out.2; obtain ⟨⟨r0, r1, r2, r3, r4, r5⟩, fz⟩ := rblock hR3)
          have hy := six (b := b) (l := l) (p := (p : Int)) (q := (q : Int)) (k := (k : Int)) (d := xd) hR3
          have ky := six_below (b := b) (l := l) (p := (p : Int)) (q := (q : Int)) (k := (k : Int)) (d := xd) (HR.out.1.trans (((Kept.refl x).alloc (.cells #[.int .i64 b, .int .i64 l, .int .i64 (p : Int), .int .i64 (q : Int), .int .u8 (k : Int), .string xd] 23)).drew.trans k3)) (Nat.le_refl w.heap.size)
          clear d0 d1 d2 d3 d4 d5 r0 r1 r2 r3 r4 r5 hR3 k3 fz
          generalize ((((((u3.setCell ⟨w.heap.size, 0, none⟩ (.int .i64 b)).setCell ⟨w.heap.size, 1, none⟩ (.int .i64 l)).setCell ⟨w.heap.size, 2, none⟩ (.int .i64 (p : Int))).setCell ⟨w.heap.size, 3, none⟩ (.int .i64 (q : Int))).setCell ⟨w.heap.size, 4, none⟩ (.int .u8 (k : Int))).setCell ⟨w.heap.size, 5, none⟩ (.string xd)) = Y at hy ky ⊢
          obtain ⟨d0, d1, d2, d3, d4, d5⟩ := six_cells hy
          exact bodyPost_ret (v := .tuple #[.agg #[.int .i64 b, .int .i64 l, .int .i64 (p : Int), .int .i64 (q : Int), .int .u8 (k : Int), .string xd], .int .i64 0]) (by simp [results, Try.results13, go_sem, d0, d1, d2, d3, d4, d5]) rfl ⟨rfl, ky⟩
        exact AllReadyH.nil
      exact AllReadyH.nil
    exact AllReadyH.nil
  refine AllReadyH.cons (o := { dst := some 4, op := .alloc 23, type := 0, pos := _, after := _, guard := none }) rfl (fun K hK => ?_) ?_
  · go_simp
    refine hK.out _ _ trivial (fun _ => ?_)
    clear hK K
    try simp only [Act.put, List.setIfInBounds_toArray, List.set_cons_zero, List.set_cons_succ]
    refine wpAnyH_ready (rs := [2]) (by kernel_rfl) (by simp) ?_
    refine AllReadyH.cons (o := { dst := some 19, op := .call { callee := .value (.func 24), args := #[.tmp 18], argTypes := #[9] }, type := 3, pos := _, after := _, guard := none }) rfl (fun K hK => ?_) ?_
    · go_simp
      go_at_call 24
      (with_reducible refine (c4 _).mono ?_)
      rintro e u ⟨rfl, rfl⟩
      go_wp2_with fail
      refine hK.out _ _ trivial (fun _ => ?_)
      clear hK K
      try simp only [Act.put, List.setIfInBounds_toArray, List.set_cons_zero, List.set_cons_succ]
      refine wpAnyH_ready (rs := [5]) (by kernel_rfl) (by simp) ?_
      refine AllReadyH.cons (o := { dst := some 22, op := .call { callee := .value (.func 24), args := #[.tmp 21], argTypes := #[9] }, type := 3, pos := _, after := _, guard := none }) rfl (fun K hK => ?_) ?_
      · go_simp
        go_at_call 24
        (with_reducible refine (c6 _).mono ?_)
        rintro e u ⟨rfl, rfl⟩
        go_wp2_with fail
        refine hK.out _ _ trivial (fun _ => ?_)
        clear hK K
        try simp only [Act.put, List.setIfInBounds_toArray, List.set_cons_zero, List.set_cons_succ]
        refine wpAnyH_take (i := 20) (oi := { dst := some 37, op := .build 23 #[(0, .tmp 19), (1, .tmp 22), (2, .tmp 25), (3, .tmp 28), (4, .tmp 30), (5, .tmp 36)], type := 23, pos := _, after := _, guard := none }) (v := .agg #[.int .i64 b, .int .i64 l, .int .i64 p, .int .i64 q, .int .u8 k, .string xd]) rfl (by kernel_rfl) (by kernel_rfl) (by kernel_rfl) (fun _ _ _ h => h) (Or.inl ⟨by rfl, fun w1 _ => by go_simp⟩) trivial ?_
        simp only [Act.put, List.setIfInBounds_toArray, List.set_cons_zero, List.set_cons_succ]
        refine wpAnyH_ready (rs := [22]) (by kernel_rfl) (by simp) ?_
        refine AllReadyH.cons (o := { dst := none, op := .store 23 (.tmp 4) (.tmp 37), type := 0, pos := _, after := _, guard := none }) rfl (fun K hK => ?_) ?_
        · go_simp
          refine hK.out _ _ trivial (fun _ => ?_)
          clear hK K
          try simp only [Act.put, List.setIfInBounds_toArray, List.set_cons_zero, List.set_cons_succ]
          refine wpAnyH_done (by kernel_rfl) ?_ _
          refine NoPanic.normal ?_
          go_wp2_with (go_at_call 11; (with_reducible refine (ce _).mono ?_); rintro e u3 ⟨rfl, k3⟩; obtain ⟨_, d0, d1, d2, d3, d4, d5⟩ := HX.out.1.kept k3; have hR3 := k3.at HX.out.2; obtain ⟨⟨r0, r1, r2, r3, r4, r5⟩, fz⟩ := rblock hR3)
          have hy := six (b := b) (l := l) (p := (p : Int)) (q := (q : Int)) (k := (k : Int)) (d := xd) hR3
          have ky := six_below (b := b) (l := l) (p := (p : Int)) (q := (q : Int)) (k := (k : Int)) (d := xd) (HR.out.1.trans (((Kept.refl x).alloc (.cells #[.int .i64 b, .int .i64 l, .int .i64 (p : Int), .int .i64 (q : Int), .int .u8 (k : Int), .string xd] 23)).drew.trans k3)) (Nat.le_refl w.heap.size)
          clear d0 d1 d2 d3 d4 d5 r0 r1 r2 r3 r4 r5 hR3 k3 fz
          generalize ((((((u3.setCell ⟨w.heap.size, 0, none⟩ (.int .i64 b)).setCell ⟨w.heap.size, 1, none⟩ (.int .i64 l)).setCell ⟨w.heap.size, 2, none⟩ (.int .i64 (p : Int))).setCell ⟨w.heap.size, 3, none⟩ (.int .i64 (q : Int))).setCell ⟨w.heap.size, 4, none⟩ (.int .u8 (k : Int))).setCell ⟨w.heap.size, 5, none⟩ (.string xd)) = Y at hy ky ⊢
          obtain ⟨d0, d1, d2, d3, d4, d5⟩ := six_cells hy
          exact bodyPost_ret (v := .tuple #[.agg #[.int .i64 b, .int .i64 l, .int .i64 (p : Int), .int .i64 (q : Int), .int .u8 (k : Int), .string xd], .int .i64 0]) (by simp [results, Try.results13, go_sem, d0, d1, d2, d3, d4, d5]) rfl ⟨rfl, ky⟩
        exact AllReadyH.nil
      exact AllReadyH.nil
    exact AllReadyH.nil
  exact AllReadyH.nil
set_option maxHeartbeats 4000000 in
set_option maxRecDepth 100000 in
theorem rdecode_b {s x4 x6 xd : ByteArray} {b l : Int} {p q k z y : Nat} (G : RdG s x4 x6 xd b l p q k z y) (hs : z ≤ 44) (w : World) (t : ByteArray) (E : Int) (h : (E != 0) = true ∨ (E = 0 ∧ (!t.toList == s.toList) = true))
    (ce : ∀ w, Calls Try.prog 11 #[.agg #[.int .i64 b, .int .i64 l, .int .i64 p, .int .i64 q, .int .u8 k, .string xd]] w fun e w' => e = .returned (.tuple #[.string t, .int .i64 E]) ∧ Kept w w') :
    Calls Try.prog 13 #[.string s] w fun e w' => e = .returned (.tuple #[.agg #[.int .i64 0, .int .i64 0, .int .i64 0, .int .i64 0, .int .u8 0, .string ⟨#[]⟩], .int .i64 12]) ∧ Kept w w' := by
  obtain ⟨sz, i10, i11, i12, i13, hp, hq, hk, hz, e4, e6, hy, ed, c4, c6⟩ := G
  have y1 : (18 : Int) ≤ (y : Int) := by omega
  have y2 : (y : Int) ≤ (s.size : Int) := by omega
  have y3 : (y : Int) ≤ 80 := by omega
  have t1 : ((s.size : Int) != 80) = false := by rw [sz]; rfl
  have t2 : decide (44 < (z : Int)) = false := by simp; omega
  have b1 : (s.size : Int) = 80 := by omega
  have hx1 : Kept w (w.alloc (.cells #[.int .i64 0, .int .i64 0, .int .i64 0, .int .i64 0, .int .u8 0, .string ⟨#[]⟩] 23)) := (Kept.refl w).alloc _
  have hR0 := (MapKept.heap_alloc w (.cells (fcells 0 0 0 0 0 ⟨#[]⟩) 23)).1
  obtain ⟨x, hx⟩ : ∃ x, x = w.alloc (.cells #[.int .i64 0, .int .i64 0, .int .i64 0, .int .i64 0, .int .u8 0, .string ⟨#[]⟩] 23) := ⟨_, rfl⟩
  have hR : x.heap[w.heap.size]? = some (.cells (fcells 0 0 0 0 0 ⟨#[]⟩) 23 (0, 0)) := by rw [hx]; exact hR0
  rw [← hx] at hx1
  have HR := Lib.hid (And.intro hx1 hR)
  have hbx := (Box.start x 23 b l p q k xd).kept (Kept.refl _).drew
  have hRx := (((Kept.refl x).alloc (.cells #[.int .i64 b, .int .i64 l, .int .i64 (p : Int), .int .i64 (q : Int), .int .u8 (k : Int), .string xd] 23)).drew).at HR.out.2
  have HX := Lib.hid (And.intro hbx hRx)
  clear hx1 hR0 hR hbx hRx
  have wp : IntKind.i64.wrap (p : Int) = (p : Int) := by rw [IntKind.wrap_i64]; omega
  have wq : IntKind.i64.wrap (q : Int) = (q : Int) := by rw [IntKind.wrap_i64]; omega
  have wz : IntKind.i64.wrap (z : Int) = (z : Int) := by rw [IntKind.wrap_i64]; omega
  have wz2 : IntKind.i64.wrap (y : Int) = (y : Int) := by rw [IntKind.wrap_i64]; omega
  rcases h with h | ⟨rfl, h⟩
  · go_enter Try.func13, Try.ntmps13
    go_wp2
    rw [← hx]
    clear hx
    refine wp_region_noPanic ?_
    refine wp_region_held_drew (S := fun _ => True) (by kernel_rfl) trivial (fun _ => ?_)
    refine wpAnyH_take (i := 0) (oi := { dst := some 17, op := .move (.tmp 0), type := 9, pos := _, after := _, guard := none }) (v := .string s) rfl (by kernel_rfl) (by kernel_rfl) (by kernel_rfl) (fun _ _ _ h => h) (Or.inl ⟨by rfl, fun w1 _ => by go_simp⟩) trivial ?_
    simp only [Act.put, List.setIfInBounds_toArray, List.set_cons_zero, List.set_cons_succ]
    refine wpAnyH_take (i := 1) (oi := { dst := some 18, op := .slice 9 (.tmp 17) none (some (.const (.int .i64 4))) none, type := 9, pos := _, after := _, guard := none }) (v := .string x4) rfl (by kernel_rfl) (by kernel_rfl) (by kernel_rfl) (fun _ _ _ h => h) (Or.inl ⟨by rfl, fun w1 _ => by go_simp⟩) trivial ?_
    simp only [Act.put, List.setIfInBounds_toArray, List.set_cons_zero, List.set_cons_succ]
    refine wpAnyH_take (i := 3) (oi := { dst := some 20, op := .move (.tmp 0), type := 9, pos := _, after := _, guard := none }) (v := .string s) rfl (by kernel_rfl) (by kernel_rfl) (by kernel_rfl) (fun _ _ _ h => h) (Or.inl ⟨by rfl, fun w1 _ => by go_simp⟩) trivial ?_
    simp only [Act.put, List.setIfInBounds_toArray, List.set_cons_zero, List.set_cons_succ]
    refine wpAnyH_take (i := 4) (oi := { dst := some 21, op := .slice 9 (.tmp 20) (some (.const (.int .i64 4))) (some (.const (.int .i64 10))) none, type := 9, pos := _, after := _, guard := none }) (v := .string x6) rfl (by kernel_rfl) (by kernel_rfl) (by kernel_rfl) (fun _ _ _ h => h) (Or.inl ⟨by rfl, fun w1 _ => by go_simp⟩) trivial ?_
    simp only [Act.put, List.setIfInBounds_toArray, List.set_cons_zero, List.set_cons_succ]
    refine wpAnyH_take (i := 6) (oi := { dst := some 23, op := .move (.tmp 0), type := 9, pos := _, after := _, guard := none }) (v := .string s) rfl (by kernel_rfl) (by kernel_rfl) (by kernel_rfl) (fun _ _ _ h => h) (Or.inl ⟨by rfl, fun w1 _ => by go_simp⟩) trivial ?_
    simp only [Act.put, List.setIfInBounds_toArray, List.set_cons_zero, List.set_cons_succ]
    refine wpAnyH_take (i := 7) (oi := { dst := some 24, op := .index 9 (.tmp 23) (.const (.int .i64 10)), type := 5, pos := _, after := _, guard := none }) (v := .int .u8 p) rfl (by kernel_rfl) (by kernel_rfl) (by kernel_rfl) (fun _ _ _ h => h) (Or.inl ⟨by rfl, fun w1 _ => by go_simp⟩) trivial ?_
    simp only [Act.put, List.setIfInBounds_toArray, List.set_cons_zero, List.set_cons_succ]
    refine wpAnyH_take (i := 8) (oi := { dst := some 25, op := .convert 5 3 (.tmp 24), type := 3, pos := _, after := _, guard := none }) (v := .int .i64 p) rfl (by kernel_rfl) (by kernel_rfl) (by kernel_rfl) (fun _ _ _ h => h) (Or.inl ⟨by rfl, fun w1 _ => by go_simp⟩) trivial ?_
    simp only [Act.put, List.setIfInBounds_toArray, List.set_cons_zero, List.set_cons_succ]
    refine wpAnyH_take (i := 9) (oi := { dst := some 26, op := .move (.tmp 0), type := 9, pos := _, after := _, guard := none }) (v := .string s) rfl (by kernel_rfl) (by kernel_rfl) (by kernel_rfl) (fun _ _ _ h => h) (Or.inl ⟨by rfl, fun w1 _ => by go_simp⟩) trivial ?_
    simp only [Act.put, List.setIfInBounds_toArray, List.set_cons_zero, List.set_cons_succ]
    refine wpAnyH_take (i := 10) (oi := { dst := some 27, op := .index 9 (.tmp 26) (.const (.int .i64 11)), type := 5, pos := _, after := _, guard := none }) (v := .int .u8 q) rfl (by kernel_rfl) (by kernel_rfl) (by kernel_rfl) (fun _ _ _ h => h) (Or.inl ⟨by rfl, fun w1 _ => by go_simp⟩) trivial ?_
    simp only [Act.put, List.setIfInBounds_toArray, List.set_cons_zero, List.set_cons_succ]
    refine wpAnyH_take (i := 11) (oi := { dst := some 28, op := .convert 5 3 (.tmp 27), type := 3, pos := _, after := _, guard := none }) (v := .int .i64 q) rfl (by kernel_rfl) (by kernel_rfl) (by kernel_rfl) (fun _ _ _ h => h) (Or.inl ⟨by rfl, fun w1 _ => by go_simp⟩) trivial ?_
    simp only [Act.put, List.setIfInBounds_toArray, List.set_cons_zero, List.set_cons_succ]
    refine wpAnyH_take (i := 12) (oi := { dst := some 29, op := .move (.tmp 0), type := 9, pos := _, after := _, guard := none }) (v := .string s) rfl (by kernel_rfl) (by kernel_rfl) (by kernel_rfl) (fun _ _ _ h => h) (Or.inl ⟨by rfl, fun w1 _ => by go_simp⟩) trivial ?_
    simp only [Act.put, List.setIfInBounds_toArray, List.set_cons_zero, List.set_cons_succ]
    refine wpAnyH_take (i := 13) (oi := { dst := some 30, op := .index 9 (.tmp 29) (.const (.int .i64 12)), type := 5, pos := _, after := _, guard := none }) (v := .int .u8 k) rfl (by kernel_rfl) (by kernel_rfl) (by kernel_rfl) (fun _ _ _ h => h) (Or.inl ⟨by rfl, fun w1 _ => by go_simp⟩) trivial ?_
    simp only [Act.put, List.setIfInBounds_toArray, List.set_cons_zero, List.set_cons_succ]
    refine wpAnyH_take (i := 14) (oi := { dst := some 31, op := .move (.tmp 0), type := 9, pos := _, after := _, guard := none }) (v := .string s) rfl (by kernel_rfl) (by kernel_rfl) (by kernel_rfl) (fun _ _ _ h => h) (Or.inl ⟨by rfl, fun w1 _ => by go_simp⟩) trivial ?_
    simp only [Act.put, List.setIfInBounds_toArray, List.set_cons_zero, List.set_cons_succ]
    refine wpAnyH_take (i := 15) (oi := { dst := some 32, op := .move (.tmp 0), type := 9, pos := _, after := _, guard := none }) (v := .string s) rfl (by kernel_rfl) (by kernel_rfl) (by kernel_rfl) (fun _ _ _ h => h) (Or.inl ⟨by rfl, fun w1 _ => by go_simp⟩) trivial ?_
    simp only [Act.put, List.setIfInBounds_toArray, List.set_cons_zero, List.set_cons_succ]
    refine wpAnyH_take (i := 16) (oi := { dst := some 33, op := .index 9 (.tmp 32) (.const (.int .i64 13)), type := 5, pos := _, after := _, guard := none }) (v := .int .u8 z) rfl (by kernel_rfl) (by kernel_rfl) (by kernel_rfl) (fun _ _ _ h => h) (Or.inl ⟨by rfl, fun w1 _ => by go_simp⟩) trivial ?_
    simp only [Act.put, List.setIfInBounds_toArray, List.set_cons_zero, List.set_cons_succ]
    refine wpAnyH_take (i := 17) (oi := { dst := some 34, op := .convert 5 3 (.tmp 33), type := 3, pos := _, after := _, guard := none }) (v := .int .i64 z) rfl (by kernel_rfl) (by kernel_rfl) (by kernel_rfl) (fun _ _ _ h => h) (Or.inl ⟨by rfl, fun w1 _ => by go_simp⟩) trivial ?_
    simp only [Act.put, List.setIfInBounds_toArray, List.set_cons_zero, List.set_cons_succ]
    refine wpAnyH_take (i := 18) (oi := { dst := some 35, op := .binOp .add 3 (.const (.int .i64 18)) (.tmp 34) 3, type := 3, pos := _, after := _, guard := none }) (v := .int .i64 y) rfl (by kernel_rfl) (by kernel_rfl) (by kernel_rfl) (fun _ _ _ h => h) (Or.inl ⟨by rfl, fun w1 _ => by go_simp⟩) trivial ?_
    simp only [Act.put, List.setIfInBounds_toArray, List.set_cons_zero, List.set_cons_succ]
    refine wpAnyH_take (i := 19) (oi := { dst := some 36, op := .slice 9 (.tmp 31) (some (.const (.int .i64 18))) (some (.tmp 35)) none, type := 9, pos := _, after := _, guard := none }) (v := .string xd) rfl (by kernel_rfl) (by kernel_rfl) (by kernel_rfl) (fun _ _ _ h => h) (Or.inl ⟨by rfl, fun w1 _ => by go_simp⟩) trivial ?_
    simp only [Act.put, List.setIfInBounds_toArray, List.set_cons_zero, List.set_cons_succ]
    refine wpAnyH_ready (rs := [2, 21]) (by kernel_rfl) (by simp) ?_
    refine AllReadyH.cons (o := { dst := some 19, op := .call { callee := .value (.func 24), args := #[.tmp 18], argTypes := #[9] }, type := 3, pos := _, after := _, guard := none }) rfl (fun K hK => ?_) ?_
    · go_simp
      go_at_call 24
      (with_reducible refine (c4 _).mono ?_)
      rintro e u ⟨rfl, rfl⟩
      go_wp2_with fail
      refine hK.out _ _ trivial (fun _ => ?_)
      clear hK K
      try simp only [Act.put, List.setIfInBounds_toArray, List.set_cons_zero, List.set_cons_succ]
      refine wpAnyH_ready (rs := [5, 21]) (by kernel_rfl) (by simp) ?_
      refine AllReadyH.cons (o := { dst := some 22, op := .call { callee := .value (.func 24), args := #[.tmp 21], argTypes := #[9] }, type := 3, pos := _, after := _, guard := none }) rfl (fun K hK => ?_) ?_
      · go_simp
        go_at_call 24
        (with_reducible refine (c6 _).mono ?_)
        rintro e u ⟨rfl, rfl⟩
        go_wp2_with fail
        refine hK.out _ _ trivial (fun _ => ?_)
        clear hK K
        try simp only [Act.put, List.setIfInBounds_toArray, List.set_cons_zero, List.set_cons_succ]
        refine wpAnyH_take (i := 20) (oi := { dst := some 37, op := .build 23 #[(0, .tmp 19), (1, .tmp 22), (2, .tmp 25), (3, .tmp 28), (4, .tmp 30), (5, .tmp 36)], type := 23, pos := _, after := _, guard := none }) (v := .agg #[.int .i64 b, .int .i64 l, .int .i64 p, .int .i64 q, .int .u8 k, .string xd]) rfl (by kernel_rfl) (by kernel_rfl) (by kernel_rfl) (fun _ _ _ h => h) (Or.inl ⟨by rfl, fun w1 _ => by go_simp⟩) trivial ?_
        simp only [Act.put, List.setIfInBounds_toArray, List.set_cons_zero, List.set_cons_succ]
        refine wpAnyH_ready (rs := [21]) (by kernel_rfl) (by simp) ?_
        refine AllReadyH.cons (o := { dst := some 4, op := .alloc 23, type := 0, pos := _, after := _, guard := none }) rfl (fun K hK => ?_) ?_
        · go_simp
          refine hK.out _ _ trivial (fun _ => ?_)
          clear hK K
          try simp only [Act.put, List.setIfInBounds_toArray, List.set_cons_zero, List.set_cons_succ]
          refine wpAnyH_ready (rs := [22]) (by kernel_rfl) (by simp) ?_
          refine AllReadyH.cons (o := { dst := none, op := .store 23 (.tmp 4) (.tmp 37), type := 0, pos := _, after := _, guard := none }) rfl (fun K hK => ?_) ?_
          · go_simp
            refine hK.out _ _ trivial (fun _ => ?_)
            clear hK K
            try simp only [Act.put, List.setIfInBounds_toArray, List.set_cons_zero, List.set_cons_succ]
            refine wpAnyH_done (by kernel_rfl) ?_ _
            refine NoPanic.normal ?_
            go_wp2_with (go_at_call 11; (with_reducible refine (ce _).mono ?_); rintro e u3 ⟨rfl, k3⟩; obtain ⟨_, d0, d1, d2, d3, d4, d5⟩ := HX.out.1.kept k3; have hR3 := k3.at HX.out.2; obtain ⟨⟨r0, r1, r2, r3, r4, r5⟩, fz⟩ := rblock hR3)
            have hy := six (b := 0) (l := 0) (p := 0) (q := 0) (k := 0) (d := ⟨#[]⟩) hR3
            have ky := six_below (b := 0) (l := 0) (p := 0) (q := 0) (k := 0) (d := ⟨#[]⟩) (HR.out.1.trans (((Kept.refl x).alloc (.cells #[.int .i64 b, .int .i64 l, .int .i64 (p : Int), .int .i64 (q : Int), .int .u8 (k : Int), .string xd] 23)).drew.trans k3)) (Nat.le_refl w.heap.size)
            clear d0 d1 d2 d3 d4 d5 r0 r1 r2 r3 r4 r5 hR3 k3 fz
            generalize ((((((u3.setCell ⟨w.heap.size, 0, none⟩ (.int .i64 0)).setCell ⟨w.heap.size, 1, none⟩ (.int .i64 0)).setCell ⟨w.heap.size, 2, none⟩ (.int .i64 0)).setCell ⟨w.heap.size, 3, none⟩ (.int .i64 0)).setCell ⟨w.heap.size, 4, none⟩ (.int .u8 0)).setCell ⟨w.heap.size, 5, none⟩ (.string ⟨#[]⟩)) = Y at hy ky ⊢
            obtain ⟨d0, d1, d2, d3, d4, d5⟩ := six_cells hy
            exact bodyPost_ret (v := .tuple #[.agg #[.int .i64 0, .int .i64 0, .int .i64 0, .int .i64 0, .int .u8 0, .string ⟨#[]⟩], .int .i64 12]) (by simp [results, Try.results13, go_sem, d0, d1, d2, d3, d4, d5]) rfl ⟨rfl, ky⟩
          exact AllReadyH.nil
        exact AllReadyH.nil
      refine AllReadyH.cons (o := { dst := some 4, op := .alloc 23, type := 0, pos := _, after := _, guard := none }) rfl (fun K hK => ?_) ?_
      · go_simp
        refine hK.out _ _ trivial (fun _ => ?_)
        clear hK K
        try simp only [Act.put, List.setIfInBounds_toArray, List.set_cons_zero, List.set_cons_succ]
        refine wpAnyH_ready (rs := [5]) (by kernel_rfl) (by simp) ?_
        refine AllReadyH.cons (o := { dst := some 22, op := .call { callee := .value (.func 24), args := #[.tmp 21], argTypes := #[9] }, type := 3, pos := _, after := _, guard := none }) rfl (fun K hK => ?_) ?_
        · go_simp
          go_at_call 24
          (with_reducible refine (c6 _).mono ?_)
          rintro e u ⟨rfl, rfl⟩
          go_wp2_with fail
          refine hK.out _ _ trivial (fun _ => ?_)
          clear hK K
          try simp only [Act.put, List.setIfInBounds_toArray, List.set_cons_zero, List.set_cons_succ]
          refine wpAnyH_take (i := 20) (oi := { dst := some 37, op := .build 23 #[(0, .tmp 19), (1, .tmp 22), (2, .tmp 25), (3, .tmp 28), (4, .tmp 30), (5, .tmp 36)], type := 23, pos := _, after := _, guard := none }) (v := .agg #[.int .i64 b, .int .i64 l, .int .i64 p, .int .i64 q, .int .u8 k, .string xd]) rfl (by kernel_rfl) (by kernel_rfl) (by kernel_rfl) (fun _ _ _ h => h) (Or.inl ⟨by rfl, fun w1 _ => by go_simp⟩) trivial ?_
          simp only [Act.put, List.setIfInBounds_toArray, List.set_cons_zero, List.set_cons_succ]
          refine wpAnyH_ready (rs := [22]) (by kernel_rfl) (by simp) ?_
          refine AllReadyH.cons (o := { dst := none, op := .store 23 (.tmp 4) (.tmp 37), type := 0, pos := _, after := _, guard := none }) rfl (fun K hK => ?_) ?_
          · go_simp
            refine hK.out _ _ trivial (fun _ => ?_)
            clear hK K
            try simp only [Act.put, List.setIfInBounds_toArray, List.set_cons_zero, List.set_cons_succ]
            refine wpAnyH_done (by kernel_rfl) ?_ _
            refine NoPanic.normal ?_
            go_wp2_with (go_at_call 11; (with_reducible refine (ce _).mono ?_); rintro e u3 ⟨rfl, k3⟩; obtain ⟨_, d0, d1, d2, d3, d4, d5⟩ := HX.out.1.kept k3; have hR3 := k3.at HX.out.2; obtain ⟨⟨r0, r1, r2, r3, r4, r5⟩, fz⟩ := rblock hR3)
            have hy := six (b := 0) (l := 0) (p := 0) (q := 0) (k := 0) (d := ⟨#[]⟩) hR3
            have ky := six_below (b := 0) (l := 0) (p := 0) (q := 0) (k := 0) (d := ⟨#[]⟩) (HR.out.1.trans (((Kept.refl x).alloc (.cells #[.int .i64 b, .int .i64 l, .int .i64 (p : Int), .int .i64 (q : Int), .int .u8 (k : Int), .string xd] 23)).drew.trans k3)) (Nat.le_refl w.heap.size)
            clear d0 d1 d2 d3 d4 d5 r0 r1 r2 r3 r4 r5 hR3 k3 fz
            generalize ((((((u3.setCell ⟨w.heap.size, 0, none⟩ (.int .i64 0)).setCell ⟨w.heap.size, 1, none⟩ (.int .i64 0)).setCell ⟨w.heap.size, 2, none⟩ (.int .i64 0)).setCell ⟨w.heap.size, 3, none⟩ (.int .i64 0)).setCell ⟨w.heap.size, 4, none⟩ (.int .u8 0)).setCell ⟨w.heap.size, 5, none⟩ (.string ⟨#[]⟩)) = Y at hy ky ⊢
            obtain ⟨d0, d1, d2, d3, d4, d5⟩ := six_cells hy
            exact bodyPost_ret (v := .tuple #[.agg #[.int .i64 0, .int .i64 0, .int .i64 0, .int .i64 0, .int .u8 0, .string ⟨#[]⟩], .int .i64 12]) (by simp [results, Try.results13, go_sem, d0, d1, d2, d3, d4, d5]) rfl ⟨rfl, ky⟩
          exact AllReadyH.nil
        exact AllReadyH.nil
      exact AllReadyH.nil
    refine AllReadyH.cons (o := { dst := some 4, op := .alloc 23, type := 0, pos := _, after := _, guard := none }) rfl (fun K hK => ?_) ?_
    · go_simp
      refine hK.out _ _ trivial (fun _ => ?_)
      clear hK K
      try simp only [Act.put, List.setIfInBounds_toArray, List.set_cons_zero, List.set_cons_succ]
      refine wpAnyH_ready (rs := [2]) (by kernel_rfl) (by simp) ?_
      refine AllReadyH.cons (o := { dst := some 19, op := .call { callee := .value (.func 24), args := #[.tmp 18], argTypes := #[9] }, type := 3, pos := _, after := _, guard := none }) rfl (fun K hK => ?_) ?_
      · go_simp
        go_at_call 24
        (with_reducible refine (c4 _).mono ?_)
        rintro e u ⟨rfl, rfl⟩
        go_wp2_with fail
        refine hK.out _ _ trivial (fun _ => ?_)
        clear hK K
        try simp only [Act.put, List.setIfInBounds_toArray, List.set_cons_zero, List.set_cons_succ]
        refine wpAnyH_ready (rs := [5]) (by kernel_rfl) (by simp) ?_
        refine AllReadyH.cons (o := { dst := some 22, op := .call { callee := .value (.func 24), args := #[.tmp 21], argTypes := #[9] }, type := 3, pos := _, after := _, guard := none }) rfl (fun K hK => ?_) ?_
        · go_simp
          go_at_call 24
          (with_reducible refine (c6 _).mono ?_)
          rintro e u ⟨rfl, rfl⟩
          go_wp2_with fail
          refine hK.out _ _ trivial (fun _ => ?_)
          clear hK K
          try simp only [Act.put, List.setIfInBounds_toArray, List.set_cons_zero, List.set_cons_succ]
          refine wpAnyH_take (i := 20) (oi := { dst := some 37, op := .build 23 #[(0, .tmp 19), (1, .tmp 22), (2, .tmp 25), (3, .tmp 28), (4, .tmp 30), (5, .tmp 36)], type := 23, pos := _, after := _, guard := none }) (v := .agg #[.int .i64 b, .int .i64 l, .int .i64 p, .int .i64 q, .int .u8 k, .string xd]) rfl (by kernel_rfl) (by kernel_rfl) (by kernel_rfl) (fun _ _ _ h => h) (Or.inl ⟨by rfl, fun w1 _ => by go_simp⟩) trivial ?_
          simp only [Act.put, List.setIfInBounds_toArray, List.set_cons_zero, List.set_cons_succ]
          refine wpAnyH_ready (rs := [22]) (by kernel_rfl) (by simp) ?_
          refine AllReadyH.cons (o := { dst := none, op := .store 23 (.tmp 4) (.tmp 37), type := 0, pos := _, after := _, guard := none }) rfl (fun K hK => ?_) ?_
          · go_simp
            refine hK.out _ _ trivial (fun _ => ?_)
            clear hK K
            try simp only [Act.put, List.setIfInBounds_toArray, List.set_cons_zero, List.set_cons_succ]
            refine wpAnyH_done (by kernel_rfl) ?_ _
            refine NoPanic.normal ?_
            go_wp2_with (go_at_call 11; (with_reducible refine (ce _).mono ?_); rintro e u3 ⟨rfl, k3⟩; obtain ⟨_, d0, d1, d2, d3, d4, d5⟩ := HX.out.1.kept k3; have hR3 := k3.at HX.out.2; obtain ⟨⟨r0, r1, r2, r3, r4, r5⟩, fz⟩ := rblock hR3)
            have hy := six (b := 0) (l := 0) (p := 0) (q := 0) (k := 0) (d := ⟨#[]⟩) hR3
            have ky := six_below (b := 0) (l := 0) (p := 0) (q := 0) (k := 0) (d := ⟨#[]⟩) (HR.out.1.trans (((Kept.refl x).alloc (.cells #[.int .i64 b, .int .i64 l, .int .i64 (p : Int), .int .i64 (q : Int), .int .u8 (k : Int), .string xd] 23)).drew.trans k3)) (Nat.le_refl w.heap.size)
            clear d0 d1 d2 d3 d4 d5 r0 r1 r2 r3 r4 r5 hR3 k3 fz
            generalize ((((((u3.setCell ⟨w.heap.size, 0, none⟩ (.int .i64 0)).setCell ⟨w.heap.size, 1, none⟩ (.int .i64 0)).setCell ⟨w.heap.size, 2, none⟩ (.int .i64 0)).setCell ⟨w.heap.size, 3, none⟩ (.int .i64 0)).setCell ⟨w.heap.size, 4, none⟩ (.int .u8 0)).setCell ⟨w.heap.size, 5, none⟩ (.string ⟨#[]⟩)) = Y at hy ky ⊢
            obtain ⟨d0, d1, d2, d3, d4, d5⟩ := six_cells hy
            exact bodyPost_ret (v := .tuple #[.agg #[.int .i64 0, .int .i64 0, .int .i64 0, .int .i64 0, .int .u8 0, .string ⟨#[]⟩], .int .i64 12]) (by simp [results, Try.results13, go_sem, d0, d1, d2, d3, d4, d5]) rfl ⟨rfl, ky⟩
          exact AllReadyH.nil
        exact AllReadyH.nil
      exact AllReadyH.nil
    exact AllReadyH.nil
  · go_enter Try.func13, Try.ntmps13
    go_wp2
    rw [← hx]
    clear hx
    refine wp_region_noPanic ?_
    refine wp_region_held_drew (S := fun _ => True) (by kernel_rfl) trivial (fun _ => ?_)
    refine wpAnyH_take (i := 0) (oi := { dst := some 17, op := .move (.tmp 0), type := 9, pos := _, after := _, guard := none }) (v := .string s) rfl (by kernel_rfl) (by kernel_rfl) (by kernel_rfl) (fun _ _ _ h => h) (Or.inl ⟨by rfl, fun w1 _ => by go_simp⟩) trivial ?_
    simp only [Act.put, List.setIfInBounds_toArray, List.set_cons_zero, List.set_cons_succ]
    refine wpAnyH_take (i := 1) (oi := { dst := some 18, op := .slice 9 (.tmp 17) none (some (.const (.int .i64 4))) none, type := 9, pos := _, after := _, guard := none }) (v := .string x4) rfl (by kernel_rfl) (by kernel_rfl) (by kernel_rfl) (fun _ _ _ h => h) (Or.inl ⟨by rfl, fun w1 _ => by go_simp⟩) trivial ?_
    simp only [Act.put, List.setIfInBounds_toArray, List.set_cons_zero, List.set_cons_succ]
    refine wpAnyH_take (i := 3) (oi := { dst := some 20, op := .move (.tmp 0), type := 9, pos := _, after := _, guard := none }) (v := .string s) rfl (by kernel_rfl) (by kernel_rfl) (by kernel_rfl) (fun _ _ _ h => h) (Or.inl ⟨by rfl, fun w1 _ => by go_simp⟩) trivial ?_
    simp only [Act.put, List.setIfInBounds_toArray, List.set_cons_zero, List.set_cons_succ]
    refine wpAnyH_take (i := 4) (oi := { dst := some 21, op := .slice 9 (.tmp 20) (some (.const (.int .i64 4))) (some (.const (.int .i64 10))) none, type := 9, pos := _, after := _, guard := none }) (v := .string x6) rfl (by kernel_rfl) (by kernel_rfl) (by kernel_rfl) (fun _ _ _ h => h) (Or.inl ⟨by rfl, fun w1 _ => by go_simp⟩) trivial ?_
    simp only [Act.put, List.setIfInBounds_toArray, List.set_cons_zero, List.set_cons_succ]
    refine wpAnyH_take (i := 6) (oi := { dst := some 23, op := .move (.tmp 0), type := 9, pos := _, after := _, guard := none }) (v := .string s) rfl (by kernel_rfl) (by kernel_rfl) (by kernel_rfl) (fun _ _ _ h => h) (Or.inl ⟨by rfl, fun w1 _ => by go_simp⟩) trivial ?_
    simp only [Act.put, List.setIfInBounds_toArray, List.set_cons_zero, List.set_cons_succ]
    refine wpAnyH_take (i := 7) (oi := { dst := some 24, op := .index 9 (.tmp 23) (.const (.int .i64 10)), type := 5, pos := _, after := _, guard := none }) (v := .int .u8 p) rfl (by kernel_rfl) (by kernel_rfl) (by kernel_rfl) (fun _ _ _ h => h) (Or.inl ⟨by rfl, fun w1 _ => by go_simp⟩) trivial ?_
    simp only [Act.put, List.setIfInBounds_toArray, List.set_cons_zero, List.set_cons_succ]
    refine wpAnyH_take (i := 8) (oi := { dst := some 25, op := .convert 5 3 (.tmp 24), type := 3, pos := _, after := _, guard := none }) (v := .int .i64 p) rfl (by kernel_rfl) (by kernel_rfl) (by kernel_rfl) (fun _ _ _ h => h) (Or.inl ⟨by rfl, fun w1 _ => by go_simp⟩) trivial ?_
    simp only [Act.put, List.setIfInBounds_toArray, List.set_cons_zero, List.set_cons_succ]
    refine wpAnyH_take (i := 9) (oi := { dst := some 26, op := .move (.tmp 0), type := 9, pos := _, after := _, guard := none }) (v := .string s) rfl (by kernel_rfl) (by kernel_rfl) (by kernel_rfl) (fun _ _ _ h => h) (Or.inl ⟨by rfl, fun w1 _ => by go_simp⟩) trivial ?_
    simp only [Act.put, List.setIfInBounds_toArray, List.set_cons_zero, List.set_cons_succ]
    refine wpAnyH_take (i := 10) (oi := { dst := some 27, op := .index 9 (.tmp 26) (.const (.int .i64 11)), type := 5, pos := _, after := _, guard := none }) (v := .int .u8 q) rfl (by kernel_rfl) (by kernel_rfl) (by kernel_rfl) (fun _ _ _ h => h) (Or.inl ⟨by rfl, fun w1 _ => by go_simp⟩) trivial ?_
    simp only [Act.put, List.setIfInBounds_toArray, List.set_cons_zero, List.set_cons_succ]
    refine wpAnyH_take (i := 11) (oi := { dst := some 28, op := .convert 5 3 (.tmp 27), type := 3, pos := _, after := _, guard := none }) (v := .int .i64 q) rfl (by kernel_rfl) (by kernel_rfl) (by kernel_rfl) (fun _ _ _ h => h) (Or.inl ⟨by rfl, fun w1 _ => by go_simp⟩) trivial ?_
    simp only [Act.put, List.setIfInBounds_toArray, List.set_cons_zero, List.set_cons_succ]
    refine wpAnyH_take (i := 12) (oi := { dst := some 29, op := .move (.tmp 0), type := 9, pos := _, after := _, guard := none }) (v := .string s) rfl (by kernel_rfl) (by kernel_rfl) (by kernel_rfl) (fun _ _ _ h => h) (Or.inl ⟨by rfl, fun w1 _ => by go_simp⟩) trivial ?_
    simp only [Act.put, List.setIfInBounds_toArray, List.set_cons_zero, List.set_cons_succ]
    refine wpAnyH_take (i := 13) (oi := { dst := some 30, op := .index 9 (.tmp 29) (.const (.int .i64 12)), type := 5, pos := _, after := _, guard := none }) (v := .int .u8 k) rfl (by kernel_rfl) (by kernel_rfl) (by kernel_rfl) (fun _ _ _ h => h) (Or.inl ⟨by rfl, fun w1 _ => by go_simp⟩) trivial ?_
    simp only [Act.put, List.setIfInBounds_toArray, List.set_cons_zero, List.set_cons_succ]
    refine wpAnyH_take (i := 14) (oi := { dst := some 31, op := .move (.tmp 0), type := 9, pos := _, after := _, guard := none }) (v := .string s) rfl (by kernel_rfl) (by kernel_rfl) (by kernel_rfl) (fun _ _ _ h => h) (Or.inl ⟨by rfl, fun w1 _ => by go_simp⟩) trivial ?_
    simp only [Act.put, List.setIfInBounds_toArray, List.set_cons_zero, List.set_cons_succ]
    refine wpAnyH_take (i := 15) (oi := { dst := some 32, op := .move (.tmp 0), type := 9, pos := _, after := _, guard := none }) (v := .string s) rfl (by kernel_rfl) (by kernel_rfl) (by kernel_rfl) (fun _ _ _ h => h) (Or.inl ⟨by rfl, fun w1 _ => by go_simp⟩) trivial ?_
    simp only [Act.put, List.setIfInBounds_toArray, List.set_cons_zero, List.set_cons_succ]
    refine wpAnyH_take (i := 16) (oi := { dst := some 33, op := .index 9 (.tmp 32) (.const (.int .i64 13)), type := 5, pos := _, after := _, guard := none }) (v := .int .u8 z) rfl (by kernel_rfl) (by kernel_rfl) (by kernel_rfl) (fun _ _ _ h => h) (Or.inl ⟨by rfl, fun w1 _ => by go_simp⟩) trivial ?_
    simp only [Act.put, List.setIfInBounds_toArray, List.set_cons_zero, List.set_cons_succ]
    refine wpAnyH_take (i := 17) (oi := { dst := some 34, op := .convert 5 3 (.tmp 33), type := 3, pos := _, after := _, guard := none }) (v := .int .i64 z) rfl (by kernel_rfl) (by kernel_rfl) (by kernel_rfl) (fun _ _ _ h => h) (Or.inl ⟨by rfl, fun w1 _ => by go_simp⟩) trivial ?_
    simp only [Act.put, List.setIfInBounds_toArray, List.set_cons_zero, List.set_cons_succ]
    refine wpAnyH_take (i := 18) (oi := { dst := some 35, op := .binOp .add 3 (.const (.int .i64 18)) (.tmp 34) 3, type := 3, pos := _, after := _, guard := none }) (v := .int .i64 y) rfl (by kernel_rfl) (by kernel_rfl) (by kernel_rfl) (fun _ _ _ h => h) (Or.inl ⟨by rfl, fun w1 _ => by go_simp⟩) trivial ?_
    simp only [Act.put, List.setIfInBounds_toArray, List.set_cons_zero, List.set_cons_succ]
    refine wpAnyH_take (i := 19) (oi := { dst := some 36, op := .slice 9 (.tmp 31) (some (.const (.int .i64 18))) (some (.tmp 35)) none, type := 9, pos := _, after := _, guard := none }) (v := .string xd) rfl (by kernel_rfl) (by kernel_rfl) (by kernel_rfl) (fun _ _ _ h => h) (Or.inl ⟨by rfl, fun w1 _ => by go_simp⟩) trivial ?_
    simp only [Act.put, List.setIfInBounds_toArray, List.set_cons_zero, List.set_cons_succ]
    refine wpAnyH_ready (rs := [2, 21]) (by kernel_rfl) (by simp) ?_
    refine AllReadyH.cons (o := { dst := some 19, op := .call { callee := .value (.func 24), args := #[.tmp 18], argTypes := #[9] }, type := 3, pos := _, after := _, guard := none }) rfl (fun K hK => ?_) ?_
    · go_simp
      go_at_call 24
      (with_reducible refine (c4 _).mono ?_)
      rintro e u ⟨rfl, rfl⟩
      go_wp2_with fail
      refine hK.out _ _ trivial (fun _ => ?_)
      clear hK K
      try simp only [Act.put, List.setIfInBounds_toArray, List.set_cons_zero, List.set_cons_succ]
      refine wpAnyH_ready (rs := [5, 21]) (by kernel_rfl) (by simp) ?_
      refine AllReadyH.cons (o := { dst := some 22, op := .call { callee := .value (.func 24), args := #[.tmp 21], argTypes := #[9] }, type := 3, pos := _, after := _, guard := none }) rfl (fun K hK => ?_) ?_
      · go_simp
        go_at_call 24
        (with_reducible refine (c6 _).mono ?_)
        rintro e u ⟨rfl, rfl⟩
        go_wp2_with fail
        refine hK.out _ _ trivial (fun _ => ?_)
        clear hK K
        try simp only [Act.put, List.setIfInBounds_toArray, List.set_cons_zero, List.set_cons_succ]
        refine wpAnyH_take (i := 20) (oi := { dst := some 37, op := .build 23 #[(0, .tmp 19), (1, .tmp 22), (2, .tmp 25), (3, .tmp 28), (4, .tmp 30), (5, .tmp 36)], type := 23, pos := _, after := _, guard := none }) (v := .agg #[.int .i64 b, .int .i64 l, .int .i64 p, .int .i64 q, .int .u8 k, .string xd]) rfl (by kernel_rfl) (by kernel_rfl) (by kernel_rfl) (fun _ _ _ h => h) (Or.inl ⟨by rfl, fun w1 _ => by go_simp⟩) trivial ?_
        simp only [Act.put, List.setIfInBounds_toArray, List.set_cons_zero, List.set_cons_succ]
        refine wpAnyH_ready (rs := [21]) (by kernel_rfl) (by simp) ?_
        refine AllReadyH.cons (o := { dst := some 4, op := .alloc 23, type := 0, pos := _, after := _, guard := none }) rfl (fun K hK => ?_) ?_
        · go_simp
          refine hK.out _ _ trivial (fun _ => ?_)
          clear hK K
          try simp only [Act.put, List.setIfInBounds_toArray, List.set_cons_zero, List.set_cons_succ]
          refine wpAnyH_ready (rs := [22]) (by kernel_rfl) (by simp) ?_
          refine AllReadyH.cons (o := { dst := none, op := .store 23 (.tmp 4) (.tmp 37), type := 0, pos := _, after := _, guard := none }) rfl (fun K hK => ?_) ?_
          · go_simp
            refine hK.out _ _ trivial (fun _ => ?_)
            clear hK K
            try simp only [Act.put, List.setIfInBounds_toArray, List.set_cons_zero, List.set_cons_succ]
            refine wpAnyH_done (by kernel_rfl) ?_ _
            refine NoPanic.normal ?_
            go_wp2_with (go_at_call 11; (with_reducible refine (ce _).mono ?_); rintro e u3 ⟨rfl, k3⟩; obtain ⟨_, d0, d1, d2, d3, d4, d5⟩ := HX.out.1.kept k3; have hR3 := k3.at HX.out.2; obtain ⟨⟨r0, r1, r2, r3, r4, r5⟩, fz⟩ := rblock hR3)
            have hy := six (b := 0) (l := 0) (p := 0) (q := 0) (k := 0) (d := ⟨#[]⟩) hR3
            have ky := six_below (b := 0) (l := 0) (p := 0) (q := 0) (k := 0) (d := ⟨#[]⟩) (HR.out.1.trans (((Kept.refl x).alloc (.cells #[.int .i64 b, .int .i64 l, .int .i64 (p : Int), .int .i64 (q : Int), .int .u8 (k : Int), .string xd] 23)).drew.trans k3)) (Nat.le_refl w.heap.size)
            clear d0 d1 d2 d3 d4 d5 r0 r1 r2 r3 r4 r5 hR3 k3 fz
            generalize ((((((u3.setCell ⟨w.heap.size, 0, none⟩ (.int .i64 0)).setCell ⟨w.heap.size, 1, none⟩ (.int .i64 0)).setCell ⟨w.heap.size, 2, none⟩ (.int .i64 0)).setCell ⟨w.heap.size, 3, none⟩ (.int .i64 0)).setCell ⟨w.heap.size, 4, none⟩ (.int .u8 0)).setCell ⟨w.heap.size, 5, none⟩ (.string ⟨#[]⟩)) = Y at hy ky ⊢
            obtain ⟨d0, d1, d2, d3, d4, d5⟩ := six_cells hy
            exact bodyPost_ret (v := .tuple #[.agg #[.int .i64 0, .int .i64 0, .int .i64 0, .int .i64 0, .int .u8 0, .string ⟨#[]⟩], .int .i64 12]) (by simp [results, Try.results13, go_sem, d0, d1, d2, d3, d4, d5]) rfl ⟨rfl, ky⟩
          exact AllReadyH.nil
        exact AllReadyH.nil
      refine AllReadyH.cons (o := { dst := some 4, op := .alloc 23, type := 0, pos := _, after := _, guard := none }) rfl (fun K hK => ?_) ?_
      · go_simp
        refine hK.out _ _ trivial (fun _ => ?_)
        clear hK K
        try simp only [Act.put, List.setIfInBounds_toArray, List.set_cons_zero, List.set_cons_succ]
        refine wpAnyH_ready (rs := [5]) (by kernel_rfl) (by simp) ?_
        refine AllReadyH.cons (o := { dst := some 22, op := .call { callee := .value (.func 24), args := #[.tmp 21], argTypes := #[9] }, type := 3, pos := _, after := _, guard := none }) rfl (fun K hK => ?_) ?_
        · go_simp
          go_at_call 24
          (with_reducible refine (c6 _).mono ?_)
          rintro e u ⟨rfl, rfl⟩
          go_wp2_with fail
          refine hK.out _ _ trivial (fun _ => ?_)
          clear hK K
          try simp only [Act.put, List.setIfInBounds_toArray, List.set_cons_zero, List.set_cons_succ]
          refine wpAnyH_take (i := 20) (oi := { dst := some 37, op := .build 23 #[(0, .tmp 19), (1, .tmp 22), (2, .tmp 25), (3, .tmp 28), (4, .tmp 30), (5, .tmp 36)], type := 23, pos := _, after := _, guard := none }) (v := .agg #[.int .i64 b, .int .i64 l, .int .i64 p, .int .i64 q, .int .u8 k, .string xd]) rfl (by kernel_rfl) (by kernel_rfl) (by kernel_rfl) (fun _ _ _ h => h) (Or.inl ⟨by rfl, fun w1 _ => by go_simp⟩) trivial ?_
          simp only [Act.put, List.setIfInBounds_toArray, List.set_cons_zero, List.set_cons_succ]
          refine wpAnyH_ready (rs := [22]) (by kernel_rfl) (by simp) ?_
          refine AllReadyH.cons (o := { dst := none, op := .store 23 (.tmp 4) (.tmp 37), type := 0, pos := _, after := _, guard := none }) rfl (fun K hK => ?_) ?_
          · go_simp
            refine hK.out _ _ trivial (fun _ => ?_)
            clear hK K
            try simp only [Act.put, List.setIfInBounds_toArray, List.set_cons_zero, List.set_cons_succ]
            refine wpAnyH_done (by kernel_rfl) ?_ _
            refine NoPanic.normal ?_
            go_wp2_with (go_at_call 11; (with_reducible refine (ce _).mono ?_); rintro e u3 ⟨rfl, k3⟩; obtain ⟨_, d0, d1, d2, d3, d4, d5⟩ := HX.out.1.kept k3; have hR3 := k3.at HX.out.2; obtain ⟨⟨r0, r1, r2, r3, r4, r5⟩, fz⟩ := rblock hR3)
            have hy := six (b := 0) (l := 0) (p := 0) (q := 0) (k := 0) (d := ⟨#[]⟩) hR3
            have ky := six_below (b := 0) (l := 0) (p := 0) (q := 0) (k := 0) (d := ⟨#[]⟩) (HR.out.1.trans (((Kept.refl x).alloc (.cells #[.int .i64 b, .int .i64 l, .int .i64 (p : Int), .int .i64 (q : Int), .int .u8 (k : Int), .string xd] 23)).drew.trans k3)) (Nat.le_refl w.heap.size)
            clear d0 d1 d2 d3 d4 d5 r0 r1 r2 r3 r4 r5 hR3 k3 fz
            generalize ((((((u3.setCell ⟨w.heap.size, 0, none⟩ (.int .i64 0)).setCell ⟨w.heap.size, 1, none⟩ (.int .i64 0)).setCell ⟨w.heap.size, 2, none⟩ (.int .i64 0)).setCell ⟨w.heap.size, 3, none⟩ (.int .i64 0)).setCell ⟨w.heap.size, 4, none⟩ (.int .u8 0)).setCell ⟨w.heap.size, 5, none⟩ (.string ⟨#[]⟩)) = Y at hy ky ⊢
            obtain ⟨d0, d1, d2, d3, d4, d5⟩ := six_cells hy
            exact bodyPost_ret (v := .tuple #[.agg #[.int .i64 0, .int .i64 0, .int .i64 0, .int .i64 0, .int .u8 0, .string ⟨#[]⟩], .int .i64 12]) (by simp [results, Try.results13, go_sem, d0, d1, d2, d3, d4, d5]) rfl ⟨rfl, ky⟩
          exact AllReadyH.nil
        exact AllReadyH.nil
      exact AllReadyH.nil
    refine AllReadyH.cons (o := { dst := some 4, op := .alloc 23, type := 0, pos := _, after := _, guard := none }) rfl (fun K hK => ?_) ?_
    · go_simp
      refine hK.out _ _ trivial (fun _ => ?_)
      clear hK K
      try simp only [Act.put, List.setIfInBounds_toArray, List.set_cons_zero, List.set_cons_succ]
      refine wpAnyH_ready (rs := [2]) (by kernel_rfl) (by simp) ?_
      refine AllReadyH.cons (o := { dst := some 19, op := .call { callee := .value (.func 24), args := #[.tmp 18], argTypes := #[9] }, type := 3, pos := _, after := _, guard := none }) rfl (fun K hK => ?_) ?_
      · go_simp
        go_at_call 24
        (with_reducible refine (c4 _).mono ?_)
        rintro e u ⟨rfl, rfl⟩
        go_wp2_with fail
        refine hK.out _ _ trivial (fun _ => ?_)
        clear hK K
        try simp only [Act.put, List.setIfInBounds_toArray, List.set_cons_zero, List.set_cons_succ]
        refine wpAnyH_ready (rs := [5]) (by kernel_rfl) (by simp) ?_
        refine AllReadyH.cons (o := { dst := some 22, op := .call { callee := .value (.func 24), args := #[.tmp 21], argTypes := #[9] }, type := 3, pos := _, after := _, guard := none }) rfl (fun K hK => ?_) ?_
        · go_simp
          go_at_call 24
          (with_reducible refine (c6 _).mono ?_)
          rintro e u ⟨rfl, rfl⟩
          go_wp2_with fail
          refine hK.out _ _ trivial (fun _ => ?_)
          clear hK K
          try simp only [Act.put, List.setIfInBounds_toArray, List.set_cons_zero, List.set_cons_succ]
          refine wpAnyH_take (i := 20) (oi := { dst := some 37, op := .build 23 #[(0, .tmp 19), (1, .tmp 22), (2, .tmp 25), (3, .tmp 28), (4, .tmp 30), (5, .tmp 36)], type := 23, pos := _, after := _, guard := none }) (v := .agg #[.int .i64 b, .int .i64 l, .int .i64 p, .int .i64 q, .int .u8 k, .string xd]) rfl (by kernel_rfl) (by kernel_rfl) (by kernel_rfl) (fun _ _ _ h => h) (Or.inl ⟨by rfl, fun w1 _ => by go_simp⟩) trivial ?_
          simp only [Act.put, List.setIfInBounds_toArray, List.set_cons_zero, List.set_cons_succ]
          refine wpAnyH_ready (rs := [22]) (by kernel_rfl) (by simp) ?_
          refine AllReadyH.cons (o := { dst := none, op := .store 23 (.tmp 4) (.tmp 37), type := 0, pos := _, after := _, guard := none }) rfl (fun K hK => ?_) ?_
          · go_simp
            refine hK.out _ _ trivial (fun _ => ?_)
            clear hK K
            try simp only [Act.put, List.setIfInBounds_toArray, List.set_cons_zero, List.set_cons_succ]
            refine wpAnyH_done (by kernel_rfl) ?_ _
            refine NoPanic.normal ?_
            go_wp2_with (go_at_call 11; (with_reducible refine (ce _).mono ?_); rintro e u3 ⟨rfl, k3⟩; obtain ⟨_, d0, d1, d2, d3, d4, d5⟩ := HX.out.1.kept k3; have hR3 := k3.at HX.out.2; obtain ⟨⟨r0, r1, r2, r3, r4, r5⟩, fz⟩ := rblock hR3)
            have hy := six (b := 0) (l := 0) (p := 0) (q := 0) (k := 0) (d := ⟨#[]⟩) hR3
            have ky := six_below (b := 0) (l := 0) (p := 0) (q := 0) (k := 0) (d := ⟨#[]⟩) (HR.out.1.trans (((Kept.refl x).alloc (.cells #[.int .i64 b, .int .i64 l, .int .i64 (p : Int), .int .i64 (q : Int), .int .u8 (k : Int), .string xd] 23)).drew.trans k3)) (Nat.le_refl w.heap.size)
            clear d0 d1 d2 d3 d4 d5 r0 r1 r2 r3 r4 r5 hR3 k3 fz
            generalize ((((((u3.setCell ⟨w.heap.size, 0, none⟩ (.int .i64 0)).setCell ⟨w.heap.size, 1, none⟩ (.int .i64 0)).setCell ⟨w.heap.size, 2, none⟩ (.int .i64 0)).setCell ⟨w.heap.size, 3, none⟩ (.int .i64 0)).setCell ⟨w.heap.size, 4, none⟩ (.int .u8 0)).setCell ⟨w.heap.size, 5, none⟩ (.string ⟨#[]⟩)) = Y at hy ky ⊢
            obtain ⟨d0, d1, d2, d3, d4, d5⟩ := six_cells hy
            exact bodyPost_ret (v := .tuple #[.agg #[.int .i64 0, .int .i64 0, .int .i64 0, .int .i64 0, .int .u8 0, .string ⟨#[]⟩], .int .i64 12]) (by simp [results, Try.results13, go_sem, d0, d1, d2, d3, d4, d5]) rfl ⟨rfl, ky⟩
          exact AllReadyH.nil
        exact AllReadyH.nil
      exact AllReadyH.nil
    exact AllReadyH.nil
set_option maxHeartbeats 4000000 in
set_option maxRecDepth 100000 in
theorem rdecode_n {s : ByteArray} (w : World) (h : ((s.size : Int) != 80) = true ∨ (((s.size : Int) != 80) = false ∧ ∃ z : Nat, z < 256 ∧ 44 < z ∧ ∀ w : World, (Instr.index 9 (.string s) (.int .i64 13)).run Try.prog w = .ok (.int .u8 (z : Int)) w)) :
    Calls Try.prog 13 #[.string s] w fun e w' => e = .returned (.tuple #[.agg #[.int .i64 0, .int .i64 0, .int .i64 0, .int .i64 0, .int .u8 0, .string ⟨#[]⟩], .int .i64 12]) ∧ Kept w w' := by
  have hk0 := (Kept.refl w).alloc (.cells (fcells 0 0 0 0 0 ⟨#[]⟩) 23)
  rcases h with h | ⟨h, z, z1, z2, i13⟩
  · go_enter Try.func13, Try.ntmps13
    go_wp2
    exact bodyPost_ret (v := .tuple #[.agg #[.int .i64 0, .int .i64 0, .int .i64 0, .int .i64 0, .int .u8 0, .string ⟨#[]⟩], .int .i64 12]) (by simp [results, Try.results13, go_sem]) rfl ⟨rfl, hk0⟩
  · have t2 : decide (44 < (z : Int)) = true := by simp; omega
    go_enter Try.func13, Try.ntmps13
    go_wp2
    exact bodyPost_ret (v := .tuple #[.agg #[.int .i64 0, .int .i64 0, .int .i64 0, .int .i64 0, .int .u8 0, .string ⟨#[]⟩], .int .i64 12]) (by simp [results, Try.results13, go_sem]) rfl ⟨rfl, hk0⟩
end Go.Proofs.Ytnpjmjnekakgeaa.Fk
