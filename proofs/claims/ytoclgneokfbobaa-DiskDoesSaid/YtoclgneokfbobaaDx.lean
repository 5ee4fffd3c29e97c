/-
  Package disk's New and Copy.
-/
import Derived.Test.YtoclgneokfbobaaDv
import Derived.Lib.SliceRun
namespace Go.Proofs.Ytoclgneokfbobaa.Dz
open Go.RowKit Go.ChangeShapes Go.WideShapes Go.ChangeAt Go.Proofs.Ytoclgneokfbobaa.Mem Go.Proofs.Ytoclgneokfbobaa.Fz
set_option linter.unusedVariables false

/-- A fuse by itself. -/
def fzA (F : Nat) (s : St) : As where
  p S w := Fz F s w ∧ s.ok ∧ S F
  mono := fun S T w ⟨h, h1, h2⟩ hs => ⟨h, h1, hs _ h2⟩
  loc := fun S w w' ⟨h, h1, h2⟩ hs => ⟨(hs _ h2 h.lt).trans h, h1, h2⟩
set_option maxRecDepth 100000 in
theorem new_c (F : Nat) (st : St) (n : Nat) (h1 : 1 ≤ n) (h2 : n ≤ 65536) (S : Nat → Prop) (w : World) (h : Fz F st w) (hst : st.ok) (hF : S F) :
    Calls Try.prog 24 #[.int .i64 (n : Int), .pointer (some ⟨F, 0, none⟩)] w fun e w' => e = .returned (.tuple #[.pointer (some ⟨w.heap.size + 2, 0, none⟩), .int .i64 0]) ∧ Off S w w' ∧ (dk F (w.heap.size + 2) (fresh n st)).p (grew S w w') w' := by
  have hmm := @run_makeMap Try.prog
  have a1 : decide ((n : Int) < 1) = false := by simp; omega
  have a2 : decide ((n : Int) > 65536) = false := by simp; omega
  have a3 : decide ((65536 : Int) < (n : Int)) = false := by simp; omega
  have H := Lib.hid (And.intro h (And.intro h1 h2))
  clear h h1 h2
  go_enter Try.func24, Try.ntmps24
  go_wp2
  go_ret2
  obtain ⟨h, h1, h2⟩ := H.out
  have e1 : (w.alloc (.map #[] 0)).heap.size = w.heap.size + 1 := by simp
  have e2 : ((w.alloc (.map #[] 0)).alloc (.map #[] 0)).heap.size = w.heap.size + 2 := by simp
  have m1 := Mp.made w (N := n) (by omega)
  have m2 := Mp.made (w.alloc (.map #[] 0)) (N := n) (by omega)
  rw [e1] at m2
  obtain ⟨w2, hw2⟩ : ∃ w2, w2 = (w.alloc (.map #[] 0)).alloc (.map #[] 0) := ⟨_, rfl⟩
  have k2 : Kept (w.alloc (.map #[] 0)) w2 := by rw [hw2]; exact (Kept.refl _).alloc _
  have k1 : Kept w w2 := ((Kept.refl w).alloc _).trans k2
  have m1 := m1.keep k2
  rw [← hw2] at m2 e2 ⊢
  obtain ⟨o, ho⟩ : ∃ o, o = Obj.cells (blockOf F (w.heap.size + 2) w.heap.size (w.heap.size + 1) (.slice none 0 0) (fresh n st)) 83 (0, 0) := ⟨_, rfl⟩
  have k3 : Kept w2 (w2.alloc o) := (Kept.refl _).alloc _
  have hD : Dk F (w.heap.size + 2) w.heap.size (w.heap.size + 1) (.slice none 0 0) (fresh n st) (w2.alloc o) := by
    refine ⟨h.kept (k1.trans k3), ?_, (m1.keep k3).same fun i _ => by simp [fresh, dg], (m2.keep k3).same fun i _ => rfl, World.ownsRow_nil _ _ _ _, ok_fresh h1 h2 hst, by omega⟩
    rw [← ho, ← e2]; exact heap_alloc_new _ _
  have hk := k1.trans k3
  rw [ho] at hD hk
  exact ⟨rfl, hk.off S, w.heap.size, w.heap.size + 1, _, hD, .inl hF, .inr ⟨by omega, hD.lts.2.1⟩, .inr ⟨by omega, hD.lts.2.2.1⟩, .inr ⟨by omega, hD.lts.2.2.2.1⟩, fun g hg => by simp [Value.ownBlock] at hg⟩
theorem new_range (n : Int) (p : Option Addr) (h : n < 1 ∨ 65536 < n) (w : World) : Calls Try.prog 24 #[.int .i64 n, .pointer p] w fun e w' => e = .returned (.tuple #[.pointer none, .int .i64 3]) ∧ w = w' := by
  by_cases h1 : n < 1
  · have a1 : decide (n < 1) = true := by simpa using h1
    clear h
    go_enter Try.func24, Try.ntmps24
    go_wp2
    go_ret2
    exact ⟨rfl, rfl⟩
  · have a1 : decide (n < 1) = false := by simpa using h1
    have a2 : decide (n > 65536) = true := by simp; omega
    have a3 : decide (65536 < n) = true := by simp; omega
    clear h
    go_enter Try.func24, Try.ntmps24
    go_wp2
    go_ret2
    exact ⟨rfl, rfl⟩
theorem new_nil (n : Nat) (h1 : 1 ≤ n) (h2 : n ≤ 65536) (w : World) : Calls Try.prog 24 #[.int .i64 (n : Int), .pointer none] w fun e w' => e = .returned (.tuple #[.pointer none, .int .i64 1]) ∧ w = w' := by
  have a1 : decide ((n : Int) < 1) = false := by simp; omega
  have a2 : decide ((n : Int) > 65536) = false := by simp; omega
  have a3 : decide ((65536 : Int) < (n : Int)) = false := by simp; omega
  clear h1 h2
  go_enter Try.func24, Try.ntmps24
  go_wp2
  go_ret2
  exact ⟨rfl, rfl⟩
set_option maxRecDepth 100000 in
theorem mclone_c (M N : Nat) (g : Nat → Option ByteArray) (w : World) (h : Mp M N g w) :
    Calls Try.prog 44 #[.map (some M)] w fun e w' => e = .returned (.map (some w.heap.size)) ∧ Kept w w' ∧ Mp w.heap.size N g w' := by
  obtain ⟨es, clock, hb⟩ := h.obj
  have hq := fun w => run_eql_map_nil_sl (P := Try.prog) w 80 _ _ (some M) Try.underlying80
  have H := Lib.hid h
  clear h
  go_enter Try.func44, Try.ntmps44
  go_wp2
  rw [run_callFunc_extern Try.func58 (by kernel_rfl) (by kernel_rfl) (by kernel_rfl) (e := Extern.MapsClone.clone) (by kernel_rfl), run_maps_clone_sl w 80 hb]
  simp only [Result.andThen]
  rw [Oper.upon_value]
  go_wp2
  rw [run_typeAssert_map_sl _ 80 20 _ _ _ Try.underlying80]
  simp only [Result.andThen]
  rw [Oper.upon_value]
  go_wp2
  go_ret
  exact ⟨rfl, (Kept.refl w).alloc _, H.out.copy hb⟩
set_option maxRecDepth 100000 in
theorem mclone2_c (M N : Nat) (g : Nat → Option ByteArray) (w : World) (h : Mp M N g w) :
    Calls Try.prog 46 #[.map (some M)] w fun e w' => e = .returned (.map (some w.heap.size)) ∧ Kept w w' ∧ Mp w.heap.size N g w' := by
  obtain ⟨es, clock, hb⟩ := h.obj
  have hq := fun w => run_eql_map_nil_sl (P := Try.prog) w 79 _ _ (some M) Try.underlying79
  have H := Lib.hid h
  clear h
  go_enter Try.func46, Try.ntmps46
  go_wp2
  rw [run_callFunc_extern Try.func58 (by kernel_rfl) (by kernel_rfl) (by kernel_rfl) (e := Extern.MapsClone.clone) (by kernel_rfl), run_maps_clone_sl w 79 hb]
  simp only [Result.andThen]
  rw [Oper.upon_value]
  go_wp2
  rw [run_typeAssert_map_sl _ 79 20 _ _ _ Try.underlying79]
  simp only [Result.andThen]
  rw [Oper.upon_value]
  go_wp2
  go_ret
  exact ⟨rfl, (Kept.refl w).alloc _, H.out.copy hb⟩
theorem grown_later {a b : World} {row : Option Nat} {w : World} (h : Kept w a) (k : a.grownBy b row) (hr : ∀ g, row = some g → w.heap.size ≤ g) : Kept w b := grown_kept h k hr
set_option maxRecDepth 100000 in
theorem sclone_c (pv : Value) (l : Pend) (hroom : l.length < 4294967296) (w : World) (h : w.ownsRow 0 85 2 pv l.length (cellsOf l)) :
    Calls Try.prog 45 #[pv] w fun e w' => ∃ v', e = .returned v' ∧ Kept w w' ∧ w'.ownsRow 0 85 2 v' l.length (cellsOf l) ∧ ∀ g, v'.ownBlock = some g → w.heap.size ≤ g := by
  rcases row_slice h with rfl | ⟨g, cap, rfl⟩
  · have hq := fun (w : World) => Lib.run_eql_slice_nil (P := Try.prog) w 81 _ none 0 0 0 0 Try.underlying81
    go_enter Try.func45, Try.ntmps45
    go_wp2
    go_ret
    exact ⟨_, rfl, Kept.refl _, h, fun g hg => by simp [Value.ownBlock] at hg⟩
  · have hq := fun (w : World) => Lib.run_eql_slice_nil (P := Try.prog) w 81 _ (some ⟨g, 0, none⟩) l.length cap 0 0 Try.underlying81
    obtain ⟨i0, hi, hz0, hz1, hz2⟩ := info_parts write_info
    have hm := World.ownsRow_made (base := 0) (e := 85) (size := 2) w #[] 0 (Nat.zero_le _) (by unfold maxLen; omega) rfl
    have hcl : ∀ j u, (cellsOf l)[j]? = some u → (w.alloc (.cells #[] 85)).cell? ((⟨g, 0, none⟩ : Addr).add j) = some u := (h.alloc _).cells (g := g) rfl
    have h1 : ∀ u ∈ cellsOf l, u.oneCell' = true := fun u hu => by
      obtain ⟨p, _, hp⟩ := List.mem_flatMap.1 hu
      simp at hp
      rcases hp with rfl | rfl <;> rfl
    have Hm := Lib.hid (And.intro hm (And.intro hcl (And.intro h1 hroom)))
    clear hm hcl h1 h
    go_enter Try.func45, Try.ntmps45
    go_wp2_with (at_builtin; refine wpList_append_own_at _ rfl _ _ 81 rfl 0 85 i0 (.agg #[.int .i64 0, .string ByteArray.empty]) 2 24 Try.underlying81 hi hz0 hz1 hz2 rfl (by decide) _ 0 [] rfl Hm.out.1 ⟨g, 0, none⟩ l.length cap (cellsOf l) rfl (cells_length l) Hm.out.2.1 Hm.out.2.2.1 (by have := Hm.out.2.2.2; unfold maxLen; omega) (by have := Hm.out.2.2.2; omega) (Nat.zero_le _) ?_; intro v' w1 hown1 hgrow hnil hloc)
    go_ret
    have hgrow' : (w.alloc (.cells #[] 85)).grownBy w1 (some w.heap.size) := hgrow
    have hl : v'.ownBlock = some w.heap.size ∨ v'.ownBlock = some (w.alloc (.cells #[] 85)).heap.size := hloc
    refine ⟨_, rfl, grown_kept ((Kept.refl w).alloc _) hgrow' (fun k hk => Nat.le_of_eq (Option.some.inj hk)), by simpa using hown1, fun k hk => ?_⟩
    replace hk : v'.ownBlock = some k := hk
    rcases hl with e | e <;> rw [e] at hk <;> simp at hk <;> omega
theorem row_shape {w : World} {e : TypeId} {size : Nat} {v : Value} {n : Nat} {xs : List Value} (h : w.ownsRow 0 e size v n xs) : ∃ ao cap, v = .slice ao n cap := by
  rcases h.2 with ⟨rfl, h0⟩ | ⟨g, cap, cur, rfl, _⟩
  · exact ⟨none, 0, by rw [h0]⟩
  · exact ⟨_, cap, rfl⟩
set_option maxHeartbeats 1000000 in
set_option maxRecDepth 100000 in
theorem copy_c (F D M1 M2 : Nat) (pv : Value) (s : Ds) (F2 : Nat) (st : St) (hst : st.ok) (hroom : s.pend.length < 4294967296) (w : World) (h : Dk F D M1 M2 pv s w) (h2 : Fz F2 st w) :
    Calls Try.prog 20 #[.pointer (some ⟨D, 0, none⟩), .pointer (some ⟨F2, 0, none⟩)] w fun e w' => e = .returned (.pointer (some ⟨w.heap.size, 0, none⟩)) ∧ Kept w w' ∧
      ∃ N1 N2 qv, Dk F2 w.heap.size N1 N2 qv { s with fu := st } w' ∧ w.heap.size ≤ N1 ∧ w.heap.size ≤ N2 ∧ ∀ g, qv.ownBlock = some g → w.heap.size ≤ g := by
  have c0 := h.cell 0
  have c1 := h.cell 1
  have c2 := h.cell 2
  have c3 := h.cell 3
  have c4 := h.cell 4
  have c5 := h.cell 5
  simp [blockOf] at c0 c1 c2 c3 c4 c5
  have H := Lib.hid (And.intro h (And.intro h2 hroom))
  obtain ⟨ao, cap, rfl⟩ := row_shape h.row
  have hlt := h.lts.2.1
  have hne : D ≠ w.heap.size := Nat.ne_of_lt hlt
  have hne2 : ¬ w.heap.size = D := fun e => hne e.symm
  clear h h2 hroom
  go_enter Try.func20, Try.ntmps20
  go_wp2_with (first
    | (go_at_call 44; refine (mclone_c M1 s.n (dg s.dur) _ (H.out.1.dur.keep ((Kept.refl w).alloc _))).mono ?_; rintro e u1 ⟨rfl, k1, m1⟩
       have q1 : Kept w u1 := ((Kept.refl w).alloc _).trans k1
       have b1 := k1.at (heap_alloc_new _ _)
       have c4' := Kept.cell (p := ⟨D, 4, none⟩) q1 hlt
       rw [c4] at c4'
       have c5' := Kept.cell (p := ⟨D, 5, none⟩) q1 hlt
       rw [c5] at c5'
       have d3 := cell_of_row u1 w.heap.size 3 _ _ _ b1
       have f3 := frozen_of_row u1 w.heap.size 3 _ _ b1
       simp at d3
       have H1 := Lib.hid (And.intro k1 (And.intro m1 (And.intro q1 b1)))
       clear k1 m1 q1 b1)
    | (go_at_call 45; refine (sclone_c _ s.pend H.out.2.2 _ (row_at (H.out.1.keep H1.out.2.2.1).row (fun g hg => heap_setCell_other _ _ _ _ (Nat.ne_of_lt (H.out.1.lts.2.2.2.2 g hg))))).mono ?_; rintro e u2 ⟨v', rfl, k2, r2, n2⟩
       obtain ⟨ao2, cap2, hv⟩ := row_shape r2
       have w1 := heap_setCell_same u1 w.heap.size 3 _ _ (.map (some (w.heap.size + 1))) H1.out.2.2.2
       have b2 := k2.at w1
       have q2 : Kept w u2 := ((But.set w.heap.size 3 u1 _).kept H1.out.2.2.1 (Nat.le_refl _)).trans k2
       have c5'' := Kept.cell (p := ⟨D, 5, none⟩) q2 hlt
       rw [c5] at c5''
       have d4 := cell_of_row u2 w.heap.size 4 _ _ _ b2
       have f4 := frozen_of_row u2 w.heap.size 4 _ _ b2
       simp at d4
       have m1' : Mp (w.heap.size + 1) s.n (dg s.dur) u2 := by
         have m := H1.out.2.1
         simp only [World.size_alloc] at m
         exact (m.but (But.set w.heap.size 3 u1 _) (by omega)).keep k2
       have n2' : ∀ g, v'.ownBlock = some g → w.heap.size < g := fun g hg => by
         have := n2 g hg
         have h1 := H1.out.2.1.lt
         simp at this h1
         omega
       have H2 := Lib.hid (And.intro k2 (And.intro r2 (And.intro n2' (And.intro q2 (And.intro b2 (And.intro m1' hv))))))
       clear k2 r2 n2 n2' w1 b2 q2 m1'
       rw [hv]
       clear hv)
    | (go_at_call 46; refine (mclone2_c M2 s.n (last s.pend) _ ((H.out.1.lat.keep H2.out.2.2.2.1).but (But.set w.heap.size 4 u2 _) (Nat.ne_of_lt H.out.1.lts.2.2.2.1))).mono ?_; rintro e u3 ⟨rfl, k3, m3⟩
       have w2 := heap_setCell_same u2 w.heap.size 4 _ _ (.slice ao2 s.pend.length cap2) H2.out.2.2.2.2.1
       have b3 := k3.at w2
       have d5 := cell_of_row u3 w.heap.size 5 _ _ _ b3
       have f5 := frozen_of_row u3 w.heap.size 5 _ _ b3
       simp at d5
       have H3 := Lib.hid (And.intro k3 (And.intro m3 b3))
       clear k3 m3 b3 w2))
  go_ret
  obtain ⟨h, h2, hroom⟩ := H.out
  obtain ⟨k2, r2, n2, q2, b2, m1, rfl⟩ := H2.out
  obtain ⟨k3, m3, b3⟩ := H3.out
  have e3 : (u2.setCell ⟨w.heap.size, 4, none⟩ (.slice ao2 s.pend.length cap2)).heap.size = u2.heap.size := by simp
  rw [e3] at m3
  have q3 : Kept w u3 := ((But.set w.heap.size 4 u2 _).kept q2 (Nat.le_refl _)).trans k3
  have kb := But.set w.heap.size 5 u3 (.map (some u2.heap.size))
  have q4 : Kept w (u3.setCell ⟨w.heap.size, 5, none⟩ (.map (some u2.heap.size))) := kb.kept q3 (Nat.le_refl _)
  have l1 := m1.lt
  have hb := heap_setCell_same u3 w.heap.size 5 _ _ (.map (some u2.heap.size)) b3
  refine ⟨rfl, q4, w.heap.size + 1, u2.heap.size, _, ⟨Fz.kept h2 q4, by simpa [blockOf] using hb, ?_, m3.but kb (by omega), ?_, ⟨h.ok.lo, h.ok.hi, hst, h.ok.dur, h.ok.pend⟩, by omega⟩, by omega, by omega, fun g hg => Nat.le_of_lt (n2 g hg)⟩
  · exact ((m1.but (But.set w.heap.size 4 u2 _) (by omega)).keep k3).but kb (by omega)
  · refine row_at r2 fun g hg => ?_
    have hne : g ≠ w.heap.size := Nat.ne_of_gt (n2 g hg)
    have hlt := (r2.lt g hg).2
    rw [heap_setCell_other _ _ _ _ hne, Below.block k3 g (by simpa using hlt), heap_setCell_other _ _ _ _ hne]
end Go.Proofs.Ytoclgneokfbobaa.Dz
