/-
  The specification's Encode and Decode of headers. (By gen_rhead.py.)
-/
import Derived.Test.YtckbhjjflpobbaaGreatKb
import Derived.Test.YtckbhjjflpobbaaGreatEb
namespace Go.Proofs.YtckbhjjflpobbaaGreat.Hk
open Go.RowKit Go.Proofs.YtckbhjjflpobbaaGreat.Mem Go.Proofs.YtckbhjjflpobbaaGreat.Pk
open Go.Proofs.YtckbhjjflpobbaaGreat.Fk (btw btw_iff cat_c rfixed_i rfixed_n rzeros_c rnumber_s index_s byte_val val_short)

/-- What the specification's Encode takes: the pieces, and what each call returns. -/
structure RecG (q b a f n : Int) (sQ sB sA sF sN s1 s2 s3 sH sX sHX sZ sHZ sR : ByteArray) (N1 : Int) : Prop where
  cQ : ∀ w, Calls Tryz.prog 86 #[.int .i64 q, .int .i64 6] w fun e w' => e = .returned (.string sQ) ∧ Kept w w'
  cB : ∀ w, Calls Tryz.prog 86 #[.int .i64 b, .int .i64 4] w fun e w' => e = .returned (.string sB) ∧ Kept w w'
  cA : ∀ w, Calls Tryz.prog 86 #[.int .i64 a, .int .i64 1] w fun e w' => e = .returned (.string sA) ∧ Kept w w'
  cF : ∀ w, Calls Tryz.prog 86 #[.int .i64 f, .int .i64 6] w fun e w' => e = .returned (.string sF) ∧ Kept w w'
  cN : ∀ w, Calls Tryz.prog 86 #[.int .i64 n, .int .i64 2] w fun e w' => e = .returned (.string sN) ∧ Kept w w'
  a1 : ∀ w, (Op.stringOp .add sQ sB).run Tryz.prog w = .ok (.string s1) w
  a2 : ∀ w, (Op.stringOp .add s1 sA).run Tryz.prog w = .ok (.string s2) w
  a3 : ∀ w, (Op.stringOp .add s2 sF).run Tryz.prog w = .ok (.string s3) w
  a4 : ∀ w, (Op.stringOp .add s3 sN).run Tryz.prog w = .ok (.string sH) w
  cS : ∀ w, Calls Tryz.prog 87 #[.string sH] w fun e w' => e = .returned (.int .u32 N1) ∧ Kept w w'
  n0 : 0 ≤ N1
  n1 : N1 < 4294967296
  cX : ∀ w, Calls Tryz.prog 86 #[.int .i64 N1, .int .i64 4] w fun e w' => e = .returned (.string sX) ∧ Kept w w'
  aX : ∀ w, (Op.stringOp .add sH sX).run Tryz.prog w = .ok (.string sHX) w
  cZ : ∀ w, Calls Tryz.prog 88 #[.int .i64 51] w fun e w' => e = .returned (.string sZ) ∧ Kept w w'
  aZ : ∀ w, (Op.stringOp .add sHX sZ).run Tryz.prog w = .ok (.string sHZ) w
  aR : ∀ w, (Op.stringOp .add sHZ sQ).run Tryz.prog w = .ok (.string sR) w

set_option maxHeartbeats 4000000 in
set_option maxRecDepth 100000 in
theorem rencode_g {q b a f n : Int} {sQ sB sA sF sN s1 s2 s3 sH sX sHX sZ sHZ sR : ByteArray} {N1 : Int} (G : RecG q b a f n sQ sB sA sF sN s1 s2 s3 sH sX sHX sZ sHZ sR N1) (g : (Hd.mk q b a f n).good) (w : World) :
    Calls Tryz.prog 65 #[.agg #[.int .i64 q, .int .i64 b, .int .i64 a, .int .i64 f, .int .i64 n]] w fun e w' => e = .returned (.tuple #[.string sR, .int .i64 0]) ∧ Kept w w' := by
  obtain ⟨cQ, cB, cA, cF, cN, a1, a2, a3, a4, cS, n0, n1, cX, aX, cZ, aZ, aR⟩ := G
  have t1 : decide (q < 1) = false := by have := g.s1; simpa using this
  have t2 : decide (281474976710656 ≤ q) = false := by have := g.s2; simp at this ⊢; omega
  have t3 : decide (f < 1) = false := by have := g.f1; simpa using this
  have t4 : decide (281474976710656 ≤ f) = false := by have := g.f2; simp at this ⊢; omega
  have t5 : decide (b < 1) = false := by have := g.b1; simpa using this
  have t6 : decide (4294967296 ≤ b) = false := by have := g.b2; simp at this ⊢; omega
  have t7 : decide (a < 0) = false := by have := g.a1; simpa using this
  have t8 : decide (1 < a) = false := by have := g.a2; simpa using this
  have t9 : decide (n < 0) = false := by have := g.n1; simpa using this
  have t10 : decide (65535 < n) = false := by have := g.n2; simpa using this
  clear g
  have wn : IntKind.i64.wrap N1 = N1 := by rw [IntKind.wrap_i64]; omega
  have hb0 := Box.start w 74 q b a f n
  have hk0 := Kept.alloc (Kept.refl w) (.cells #[.int .i64 q, .int .i64 b, .int .i64 a, .int .i64 f, .int .i64 n] 74)
  obtain ⟨x, hx⟩ : ∃ x, x = w.alloc (.cells #[.int .i64 q, .int .i64 b, .int .i64 a, .int .i64 f, .int .i64 n] 74) := ⟨_, rfl⟩
  rw [← hx] at hb0 hk0
  have hB : ∀ W, Kept x W → W.cell? ⟨w.heap.size, 0, none⟩ = some (.int .i64 q) ∧ W.cell? ⟨w.heap.size, 1, none⟩ = some (.int .i64 b) ∧ W.cell? ⟨w.heap.size, 2, none⟩ = some (.int .i64 a) ∧ W.cell? ⟨w.heap.size, 3, none⟩ = some (.int .i64 f) ∧ W.cell? ⟨w.heap.size, 4, none⟩ = some (.int .i64 n) := fun W hW => (hb0.kept hW).all
  have HB := Lib.hid hB
  have HK := Lib.hid hk0
  have S1 := hb0.all
  clear hb0 hB hk0
  go_enter Tryz.func65, Tryz.ntmps65
  go_wp2_with fail
  rw [← hx]
  clear hx
  obtain ⟨_, _, _, _, _⟩ := S1
  go_wp2_with (go_at_call 86; (with_reducible refine (cQ _).mono ?_); rintro e u0 ⟨rfl, k0⟩)
  have S1 := HB.out _ k0
  have S1' := HB.out _ k0.drew
  have kd0 := k0.drew
  clear cQ t1 t2 t3 t4 t5 t6 t7 t8 t9 t10
  go_wp2_with fail
  go_region_held3 (fun W => W.cell? ⟨w.heap.size, 0, none⟩ = some (.int .i64 q) ∧ W.cell? ⟨w.heap.size, 1, none⟩ = some (.int .i64 b) ∧ W.cell? ⟨w.heap.size, 2, none⟩ = some (.int .i64 a) ∧ W.cell? ⟨w.heap.size, 3, none⟩ = some (.int .i64 f) ∧ W.cell? ⟨w.heap.size, 4, none⟩ = some (.int .i64 n))
    (first | assumption | exact HB.out _ ‹_›)
    (first
      | (go_at_call 86; (with_reducible refine (cB _).mono ?_); rintro e u1 ⟨rfl, k1⟩; have k1 := Kept.trans kd0 k1)
      | (go_at_call 86; (with_reducible refine (cA _).mono ?_); rintro e u2 ⟨rfl, k2⟩; have k2 := Kept.trans k1 k2)
      | (go_at_call 86; (with_reducible refine (cF _).mono ?_); rintro e u3 ⟨rfl, k3⟩; have k3 := Kept.trans k2 k3)
      | (go_at_call 86; (with_reducible refine (cN _).mono ?_); rintro e u4 ⟨rfl, k4⟩; have k4 := Kept.trans k3 k4))
  have k4 := HK.out.trans k4
  clear S1 S1' cB cA cF cN a1 a2 a3 a4 kd0 k1 k2 k3
  go_wp2_with (first
    | (go_at_call 87; (with_reducible refine (cS _).mono ?_); rintro e u5 ⟨rfl, k5⟩)
    | (go_at_call 86; (with_reducible refine (cX _).mono ?_); rintro e u6 ⟨rfl, k6⟩)
    | (go_at_call 88; (with_reducible refine (cZ _).mono ?_); rintro e u7 ⟨rfl, k7⟩))
  go_ret2
  exact ⟨rfl, ((k4.trans k5).trans k6).trans k7⟩
theorem recG (h : Hd) (g : h.good) : ∃ sQ sB sA sF sN s1 s2 s3 sH sX sHX sZ sHZ N1, RecG h.seq h.boot h.area h.first h.snaps sQ sB sA sF sN s1 s2 s3 sH sX sHX sZ sHZ (str h.sec) N1 := by
  have s1 := g.s1; have s2 := g.s2; have f1 := g.f1; have f2 := g.f2; have b1 := g.b1; have b2 := g.b2; have a1 := g.a1; have a2 := g.a2; have n1 := g.n1; have n2 := g.n2
  have hl := head_len h
  have sm := h.sum.isLt
  refine ⟨str (be h.seq.toNat 6), str (be h.boot.toNat 4), str (be h.area.toNat 1), str (be h.first.toNat 6), str (be h.snaps.toNat 2), str (be h.seq.toNat 6 ++ be h.boot.toNat 4), str (be h.seq.toNat 6 ++ be h.boot.toNat 4 ++ be h.area.toNat 1), str (be h.seq.toNat 6 ++ be h.boot.toNat 4 ++ be h.area.toNat 1 ++ be h.first.toNat 6), str h.head, str (be h.sum.toNat 4), str (h.head ++ be h.sum.toNat 4), str (List.replicate 51 0), str (h.head ++ be h.sum.toNat 4 ++ List.replicate 51 0), Crc.num h.sum, ?_⟩
  exact {
    cQ := rfixed_i h.seq 6 (by omega) (by omega) (by decide) (by decide) (by omega)
    cB := rfixed_i h.boot 4 (by omega) (by omega) (by decide) (by decide) (by omega)
    cA := rfixed_i h.area 1 (by omega) (by omega) (by decide) (by decide) (by omega)
    cF := rfixed_i h.first 6 (by omega) (by omega) (by decide) (by decide) (by omega)
    cN := rfixed_i h.snaps 2 (by omega) (by omega) (by decide) (by decide) (by omega)
    a1 := cat_c _ _ _ rfl (by rw [be_length, be_length]; omega)
    a2 := cat_c _ _ _ rfl (by simp only [List.length_append, be_length]; omega)
    a3 := cat_c _ _ _ rfl (by simp only [List.length_append, be_length]; omega)
    a4 := cat_c _ _ _ (by unfold Hd.head; simp only [List.append_assoc]) (by simp only [List.length_append, be_length]; omega)
    cS := fun w => by
      refine (Crc.ref_sum (str h.head) w (by rw [size_str, hl]; unfold maxLen; omega)).mono fun e w' ⟨h1, h2⟩ => ?_
      rw [list_str] at h1
      exact ⟨h1, h2 ▸ Kept.refl w⟩
    n0 := Crc.num_lo _
    n1 := Crc.num_hi _
    cX := fun w => rfixed_n h.sum.toNat 4 (by omega) (by decide) (by decide) (by omega) w
    aX := cat_c _ _ _ rfl (by rw [hl, be_length]; omega)
    cZ := fun w => rzeros_c 51 (by omega) w
    aZ := cat_c _ _ _ rfl (by rw [List.length_append, hl, be_length, List.length_replicate]; omega)
    aR := cat_c _ _ _ (by unfold Hd.sec; simp only [List.append_assoc]) (by rw [List.length_append, List.length_append, hl, be_length, List.length_replicate, be_length]; omega) }
set_option maxHeartbeats 4000000 in
set_option maxRecDepth 100000 in
theorem rencode_b {q b a f n : Int} (w : World) (g : ¬ (Hd.mk q b a f n).good) :
    Calls Tryz.prog 65 #[.agg #[.int .i64 q, .int .i64 b, .int .i64 a, .int .i64 f, .int .i64 n]] w fun e w' => e = .returned (.tuple #[.string ⟨#[]⟩, .int .i64 2]) ∧ Kept w w' := by
  have hk0 := Kept.alloc (Kept.refl w) (.cells #[.int .i64 q, .int .i64 b, .int .i64 a, .int .i64 f, .int .i64 n] 74)
  have key : decide (q < 1) = true ∨ decide (281474976710656 ≤ q) = true ∨ decide (f < 1) = true ∨ decide (281474976710656 ≤ f) = true ∨ decide (b < 1) = true ∨ decide (4294967296 ≤ b) = true ∨ decide (a < 0) = true ∨ decide (1 < a) = true ∨ decide (n < 0) = true ∨ decide (65535 < n) = true := by
    simp only [decide_eq_true_eq]
    by_cases h : 1 ≤ q ∧ q ≤ 281474976710655 ∧ 1 ≤ f ∧ f ≤ 281474976710655 ∧ 1 ≤ b ∧ b ≤ 4294967295 ∧ 0 ≤ a ∧ a ≤ 1 ∧ 0 ≤ n ∧ n ≤ 65535
    · obtain ⟨h1, h2, h3, h4, h5, h6, h7, h8, h9, h10⟩ := h
      exact absurd ⟨h1, h2, h3, h4, h5, h6, h7, h8, h9, h10⟩ g
    · omega
  clear g
  have go : ∀ T1 T2 T3 T4 T5 T6 T7 T8 T9 T10 : Bool, decide (q < 1) = T1 → decide (281474976710656 ≤ q) = T2 → decide (f < 1) = T3 → decide (281474976710656 ≤ f) = T4 → decide (b < 1) = T5 → decide (4294967296 ≤ b) = T6 → decide (a < 0) = T7 → decide (1 < a) = T8 → decide (n < 0) = T9 → decide (65535 < n) = T10 → (T1 = true ∨ T2 = true ∨ T3 = true ∨ T4 = true ∨ T5 = true ∨ T6 = true ∨ T7 = true ∨ T8 = true ∨ T9 = true ∨ T10 = true) → Calls Tryz.prog 65 #[.agg #[.int .i64 q, .int .i64 b, .int .i64 a, .int .i64 f, .int .i64 n]] w fun e w' => e = .returned (.tuple #[.string ⟨#[]⟩, .int .i64 2]) ∧ Kept w w' := by
    intro T1 T2 T3 T4 T5 T6 T7 T8 T9 T10 t1 t2 t3 t4 t5 t6 t7 t8 t9 t10 k
    clear key
    cases T1 with
    | true =>
      clear k
      go_enter Tryz.func65, Tryz.ntmps65
      go_wp2
      go_ret2
      exact ⟨rfl, hk0⟩
    | false =>
      cases T2 with
      | true =>
        clear k
        go_enter Tryz.func65, Tryz.ntmps65
        go_wp2
        go_ret2
        exact ⟨rfl, hk0⟩
      | false =>
        cases T3 with
        | true =>
          clear k
          go_enter Tryz.func65, Tryz.ntmps65
          go_wp2
          go_ret2
          exact ⟨rfl, hk0⟩
        | false =>
          cases T4 with
          | true =>
            clear k
            go_enter Tryz.func65, Tryz.ntmps65
            go_wp2
            go_ret2
            exact ⟨rfl, hk0⟩
          | false =>
            cases T5 with
            | true =>
              clear k
              go_enter Tryz.func65, Tryz.ntmps65
              go_wp2
              go_ret2
              exact ⟨rfl, hk0⟩
            | false =>
              cases T6 with
              | true =>
                clear k
                go_enter Tryz.func65, Tryz.ntmps65
                go_wp2
                go_ret2
                exact ⟨rfl, hk0⟩
              | false =>
                cases T7 with
                | true =>
                  clear k
                  go_enter Tryz.func65, Tryz.ntmps65
                  go_wp2
                  go_ret2
                  exact ⟨rfl, hk0⟩
                | false =>
                  cases T8 with
                  | true =>
                    clear k
                    go_enter Tryz.func65, Tryz.ntmps65
                    go_wp2
                    go_ret2
                    exact ⟨rfl, hk0⟩
                  | false =>
                    cases T9 with
                    | true =>
                      clear k
                      go_enter Tryz.func65, Tryz.ntmps65
                      go_wp2
                      go_ret2
                      exact ⟨rfl, hk0⟩
                    | false =>
                      cases T10 with
                      | true =>
                        clear k
                        go_enter Tryz.func65, Tryz.ntmps65
                        go_wp2
                        go_ret2
                        exact ⟨rfl, hk0⟩
                      | false =>
                        simp at k
  exact go _ _ _ _ _ _ _ _ _ _ rfl rfl rfl rfl rfl rfl rfl rfl rfl rfl key
/-- Encode of the specification. -/
theorem rencode_c (h : Hd) (w : World) :
    Calls Tryz.prog 65 #[.agg #[.int .i64 h.seq, .int .i64 h.boot, .int .i64 h.area, .int .i64 h.first, .int .i64 h.snaps]] w fun e w' => e = .returned (.tuple #[.string h.enc, .int .i64 h.err]) ∧ Kept w w' := by
  by_cases g : h.good
  · rw [h.err_zero.mpr g, Hd.enc_good g]
    obtain ⟨_, _, _, _, _, _, _, _, _, _, _, _, _, _, G⟩ := recG h g
    exact rencode_g G g w
  · obtain ⟨e1, e2⟩ := Hd.enc_bad g
    rw [e1, e2]
    exact rencode_b w g

/-- What the specification's Decode takes. -/
structure RdG (s x1 x2 x3 x4 : ByteArray) (q b f n : Int) (p : Nat) : Prop where
  sz : s.size = 80
  ix : ∀ w : World, (Instr.index 9 (.string s) (.int .i64 10)).run Tryz.prog w = .ok (.int .u8 (p : Int)) w
  hp : p < 256
  e1 : s.extract 0 6 = x1
  e2 : s.extract 6 10 = x2
  e3 : s.extract 11 17 = x3
  e4 : s.extract 17 19 = x4
  c1 : ∀ w, Calls Tryz.prog 96 #[.string x1] w fun e w' => e = .returned (.int .i64 q) ∧ w = w'
  c2 : ∀ w, Calls Tryz.prog 96 #[.string x2] w fun e w' => e = .returned (.int .i64 b) ∧ w = w'
  c3 : ∀ w, Calls Tryz.prog 96 #[.string x3] w fun e w' => e = .returned (.int .i64 f) ∧ w = w'
  c4 : ∀ w, Calls Tryz.prog 96 #[.string x4] w fun e w' => e = .returned (.int .i64 n) ∧ w = w'
set_option maxHeartbeats 8000000 in
set_option maxRecDepth 100000 in
theorem rdecode_g {s x1 x2 x3 x4 t : ByteArray} {q b f n E : Int} {p : Nat} {R : Value} (G : RdG s x1 x2 x3 x4 q b f n p) (w : World)
    (h : ((E != 0) = true ∧ R = .tuple #[.agg #[.int .i64 0, .int .i64 0, .int .i64 0, .int .i64 0, .int .i64 0], .int .i64 12]) ∨ (E = 0 ∧ (!t.toList == s.toList) = true ∧ R = .tuple #[.agg #[.int .i64 0, .int .i64 0, .int .i64 0, .int .i64 0, .int .i64 0], .int .i64 12]) ∨ (E = 0 ∧ (!t.toList == s.toList) = false ∧ R = .tuple #[.agg #[.int .i64 q, .int .i64 b, .int .i64 p, .int .i64 f, .int .i64 n], .int .i64 0]))
    (ce : ∀ w, Calls Tryz.prog 65 #[.agg #[.int .i64 q, .int .i64 b, .int .i64 p, .int .i64 f, .int .i64 n]] w fun e w' => e = .returned (.tuple #[.string t, .int .i64 E]) ∧ Kept w w') :
    Calls Tryz.prog 76 #[.string s] w fun e w' => e = .returned R ∧ Kept w w' := by
  obtain ⟨sz, ix, hp, e1, e2, e3, e4, c1, c2, c3, c4⟩ := G
  have t1 : ((s.size : Int) != 80) = false := by rw [sz]; rfl
  have b1 : (s.size : Int) = 80 := by omega
  have hx1 : Kept w (w.alloc (.cells #[.int .i64 0, .int .i64 0, .int .i64 0, .int .i64 0, .int .i64 0] 74)) := (Kept.refl w).alloc _
  have hR0 := (MapKept.heap_alloc w (.cells (hcells 0 0 0 0 0) 74)).1
  obtain ⟨x, hx⟩ : ∃ x, x = w.alloc (.cells #[.int .i64 0, .int .i64 0, .int .i64 0, .int .i64 0, .int .i64 0] 74) := ⟨_, rfl⟩
  have hR : x.heap[w.heap.size]? = some (.cells (hcells 0 0 0 0 0) 74 (0, 0)) := by rw [hx]; exact hR0
  rw [← hx] at hx1
  have HR := Lib.hid (And.intro hx1 hR)
  have hbx := (Box.start x 74 q b p f n).kept (Kept.refl _).drew
  have hRx := (((Kept.refl x).alloc (.cells #[.int .i64 q, .int .i64 b, .int .i64 (p : Int), .int .i64 f, .int .i64 n] 74)).drew).at HR.out.2
  have HX := Lib.hid (And.intro hbx hRx)
  clear hx1 hR0 hR hbx hRx
  have wp : IntKind.i64.wrap (p : Int) = (p : Int) := by rw [IntKind.wrap_i64]; omega
  go_enter Tryz.func76, Tryz.ntmps76
  go_wp2
  rw [← hx]
  clear hx
  refine wp_region_noPanic ?_
  refine wp_region_held_drew (S := fun _ => True) (by kernel_rfl) trivial (fun _ => ?_)
  refine wpAnyH_take (i := 0) (oi := { dst := some 11, op := .move (.tmp 0), type := 9, pos := _, after := _, guard := none }) (v := .string s) rfl (by kernel_rfl) (by kernel_rfl) (by kernel_rfl) (fun _ _ _ h => h) (Or.inl ⟨by rfl, fun w1 _ => by go_simp⟩) trivial ?_
  simp only [Act.put, List.setIfInBounds_toArray, List.set_cons_zero, List.set_cons_succ]
  refine wpAnyH_take (i := 1) (oi := { dst := some 12, op := .slice 9 (.tmp 11) none (some (.const (.int .i64 6))) none, type := 9, pos := _, after := _, guard := none }) (v := .string x1) rfl (by kernel_rfl) (by kernel_rfl) (by kernel_rfl) (fun _ _ _ h => h) (Or.inl ⟨by rfl, fun w1 _ => by go_simp⟩) trivial ?_
  simp only [Act.put, List.setIfInBounds_toArray, List.set_cons_zero, List.set_cons_succ]
  refine wpAnyH_take (i := 3) (oi := { dst := some 14, op := .move (.tmp 0), type := 9, pos := _, after := _, guard := none }) (v := .string s) rfl (by kernel_rfl) (by kernel_rfl) (by kernel_rfl) (fun _ _ _ h => h) (Or.inl ⟨by rfl, fun w1 _ => by go_simp⟩) trivial ?_
  simp only [Act.put, List.setIfInBounds_toArray, List.set_cons_zero, List.set_cons_succ]
  refine wpAnyH_take (i := 4) (oi := { dst := some 15, op := .slice 9 (.tmp 14) (some (.const (.int .i64 6))) (some (.const (.int .i64 10))) none, type := 9, pos := _, after := _, guard := none }) (v := .string x2) rfl (by kernel_rfl) (by kernel_rfl) (by kernel_rfl) (fun _ _ _ h => h) (Or.inl ⟨by rfl, fun w1 _ => by go_simp⟩) trivial ?_
  simp only [Act.put, List.setIfInBounds_toArray, List.set_cons_zero, List.set_cons_succ]
  refine wpAnyH_take (i := 6) (oi := { dst := some 17, op := .move (.tmp 0), type := 9, pos := _, after := _, guard := none }) (v := .string s) rfl (by kernel_rfl) (by kernel_rfl) (by kernel_rfl) (fun _ _ _ h => h) (Or.inl ⟨by rfl, fun w1 _ => by go_simp⟩) trivial ?_
  simp only [Act.put, List.setIfInBounds_toArray, List.set_cons_zero, List.set_cons_succ]
  refine wpAnyH_take (i := 7) (oi := { dst := some 18, op := .index 9 (.tmp 17) (.const (.int .i64 10)), type := 5, pos := _, after := _, guard := none }) (v := .int .u8 p) rfl (by kernel_rfl) (by kernel_rfl) (by kernel_rfl) (fun _ _ _ h => h) (Or.inl ⟨by rfl, fun w1 _ => by go_simp⟩) trivial ?_
  simp only [Act.put, List.setIfInBounds_toArray, List.set_cons_zero, List.set_cons_succ]
  refine wpAnyH_take (i := 8) (oi := { dst := some 19, op := .convert 5 3 (.tmp 18), type := 3, pos := _, after := _, guard := none }) (v := .int .i64 p) rfl (by kernel_rfl) (by kernel_rfl) (by kernel_rfl) (fun _ _ _ h => h) (Or.inl ⟨by rfl, fun w1 _ => by go_simp⟩) trivial ?_
  simp only [Act.put, List.setIfInBounds_toArray, List.set_cons_zero, List.set_cons_succ]
  refine wpAnyH_take (i := 9) (oi := { dst := some 20, op := .move (.tmp 0), type := 9, pos := _, after := _, guard := none }) (v := .string s) rfl (by kernel_rfl) (by kernel_rfl) (by kernel_rfl) (fun _ _ _ h => h) (Or.inl ⟨by rfl, fun w1 _ => by go_simp⟩) trivial ?_
  simp only [Act.put, List.setIfInBounds_toArray, List.set_cons_zero, List.set_cons_succ]
  refine wpAnyH_take (i := 10) (oi := { dst := some 21, op := .slice 9 (.tmp 20) (some (.const (.int .i64 11))) (some (.const (.int .i64 17))) none, type := 9, pos := _, after := _, guard := none }) (v := .string x3) rfl (by kernel_rfl) (by kernel_rfl) (by kernel_rfl) (fun _ _ _ h => h) (Or.inl ⟨by rfl, fun w1 _ => by go_simp⟩) trivial ?_
  simp only [Act.put, List.setIfInBounds_toArray, List.set_cons_zero, List.set_cons_succ]
  refine wpAnyH_take (i := 12) (oi := { dst := some 23, op := .move (.tmp 0), type := 9, pos := _, after := _, guard := none }) (v := .string s) rfl (by kernel_rfl) (by kernel_rfl) (by kernel_rfl) (fun _ _ _ h => h) (Or.inl ⟨by rfl, fun w1 _ => by go_simp⟩) trivial ?_
  simp only [Act.put, List.setIfInBounds_toArray, List.set_cons_zero, List.set_cons_succ]
  refine wpAnyH_take (i := 13) (oi := { dst := some 24, op := .slice 9 (.tmp 23) (some (.const (.int .i64 17))) (some (.const (.int .i64 19))) none, type := 9, pos := _, after := _, guard := none }) (v := .string x4) rfl (by kernel_rfl) (by kernel_rfl) (by kernel_rfl) (fun _ _ _ h => h) (Or.inl ⟨by rfl, fun w1 _ => by go_simp⟩) trivial ?_
  simp only [Act.put, List.setIfInBounds_toArray, List.set_cons_zero, List.set_cons_succ]
  refine wpAnyH_ready (rs := [2, 16]) (by kernel_rfl) (by simp) ?_
  refine AllReadyH.cons (o := { dst := some 13, op := .call { callee := .value (.func 96), args := #[.tmp 12], argTypes := #[9] }, type := 3, pos := _, after := _, guard := none }) rfl (fun K hK => ?_) ?_
  · go_simp
    go_at_call 96
    (with_reducible refine (c1 _).mono ?_)
    rintro e u ⟨rfl, rfl⟩
    go_wp2_with fail
    refine hK.out _ _ trivial (fun _ => ?_)
    clear hK K
    try simp only [Act.put, List.setIfInBounds_toArray, List.set_cons_zero, List.set_cons_succ]
    refine wpAnyH_ready (rs := [5, 16]) (by kernel_rfl) (by simp) ?_
    refine AllReadyH.cons (o := { dst := some 16, op := .call { callee := .value (.func 96), args := #[.tmp 15], argTypes := #[9] }, type := 3, pos := _, after := _, guard := none }) rfl (fun K hK => ?_) ?_
    · go_simp
      go_at_call 96
      (with_reducible refine (c2 _).mono ?_)
      rintro e u ⟨rfl, rfl⟩
      go_wp2_with fail
      refine hK.out _ _ trivial (fun _ => ?_)
      clear hK K
      try simp only [Act.put, List.setIfInBounds_toArray, List.set_cons_zero, List.set_cons_succ]
      refine wpAnyH_ready (rs := [11, 16]) (by kernel_rfl) (by simp) ?_
      refine AllReadyH.cons (o := { dst := some 22, op := .call { callee := .value (.func 96), args := #[.tmp 21], argTypes := #[9] }, type := 3, pos := _, after := _, guard := none }) rfl (fun K hK => ?_) ?_
      · go_simp
        go_at_call 96
        (with_reducible refine (c3 _).mono ?_)
        rintro e u ⟨rfl, rfl⟩
        go_wp2_with fail
        refine hK.out _ _ trivial (fun _ => ?_)
        clear hK K
        try simp only [Act.put, List.setIfInBounds_toArray, List.set_cons_zero, List.set_cons_succ]
        refine wpAnyH_ready (rs := [14, 16]) (by kernel_rfl) (by simp) ?_
        refine AllReadyH.cons (o := { dst := some 25, op := .call { callee := .value (.func 96), args := #[.tmp 24], argTypes := #[9] }, type := 3, pos := _, after := _, guard := none }) rfl (fun K hK => ?_) ?_
        · go_simp
          go_at_call 96
          (with_reducible refine (c4 _).mono ?_)
          rintro e u ⟨rfl, rfl⟩
          go_wp2_with fail
          refine hK.out _ _ trivial (fun _ => ?_)
          clear hK K
          try simp only [Act.put, List.setIfInBounds_toArray, List.set_cons_zero, List.set_cons_succ]
          refine wpAnyH_take (i := 15) (oi := { dst := some 26, op := .build 74 #[(0, .tmp 13), (1, .tmp 16), (2, .tmp 19), (3, .tmp 22), (4, .tmp 25)], type := 74, pos := _, after := _, guard := none }) (v := .agg #[.int .i64 q, .int .i64 b, .int .i64 p, .int .i64 f, .int .i64 n]) rfl (by kernel_rfl) (by kernel_rfl) (by kernel_rfl) (fun _ _ _ h => h) (Or.inl ⟨by rfl, fun w1 _ => by go_simp⟩) trivial ?_
          simp only [Act.put, List.setIfInBounds_toArray, List.set_cons_zero, List.set_cons_succ]
          refine wpAnyH_ready (rs := [16]) (by kernel_rfl) (by simp) ?_
          refine AllReadyH.cons (o := { dst := some 4, op := .alloc 74, type := 0, pos := _, after := _, guard := none }) rfl (fun K hK => ?_) ?_
          · go_simp
            refine hK.out _ _ trivial (fun _ => ?_)
            clear hK K
            try simp only [Act.put, List.setIfInBounds_toArray, List.set_cons_zero, List.set_cons_succ]
            refine wpAnyH_ready (rs := [17]) (by kernel_rfl) (by simp) ?_
            refine AllReadyH.cons (o := { dst := none, op := .store 74 (.tmp 4) (.tmp 26), type := 0, pos := _, after := _, guard := none }) rfl (fun K hK => ?_) ?_
            · go_simp
              refine hK.out _ _ trivial (fun _ => ?_)
              clear hK K
              try simp only [Act.put, List.setIfInBounds_toArray, List.set_cons_zero, List.set_cons_succ]
              refine wpAnyH_done (by kernel_rfl) ?_ _
              refine NoPanic.normal ?_
              rcases h with ⟨h, rfl⟩ | ⟨rfl, h, rfl⟩ | ⟨rfl, h, rfl⟩
              · go_wp2_with (go_at_call 65; (with_reducible refine (ce _).mono ?_); rintro e u3 ⟨rfl, k3⟩; obtain ⟨_, d0, d1, d2, d3, d4⟩ := HX.out.1.kept k3; have hR3 := k3.at HX.out.2; obtain ⟨⟨r0, r1, r2, r3, r4⟩, fz⟩ := hblock hR3)
                have hy := five (q := 0) (b := 0) (a := 0) (f := 0) (n := 0) hR3
                have ky := five_below (q := 0) (b := 0) (a := 0) (f := 0) (n := 0) (HR.out.1.trans (((Kept.refl x).alloc (.cells #[.int .i64 q, .int .i64 b, .int .i64 (p : Int), .int .i64 f, .int .i64 n] 74)).drew.trans k3)) (Nat.le_refl w.heap.size)
                clear d0 d1 d2 d3 d4 r0 r1 r2 r3 r4 hR3 k3 fz
                generalize (((((u3.setCell ⟨w.heap.size, 0, none⟩ (.int .i64 0)).setCell ⟨w.heap.size, 1, none⟩ (.int .i64 0)).setCell ⟨w.heap.size, 2, none⟩ (.int .i64 0)).setCell ⟨w.heap.size, 3, none⟩ (.int .i64 0)).setCell ⟨w.heap.size, 4, none⟩ (.int .i64 0)) = Y at hy ky ⊢
                obtain ⟨⟨d0, d1, d2, d3, d4⟩, _⟩ := hblock hy
                exact bodyPost_ret (v := .tuple #[.agg #[.int .i64 0, .int .i64 0, .int .i64 0, .int .i64 0, .int .i64 0], .int .i64 12]) (by simp [results, Tryz.results76, go_sem, d0, d1, d2, d3, d4]) rfl ⟨rfl, ky⟩
              · go_wp2_with (go_at_call 65; (with_reducible refine (ce _).mono ?_); rintro e u3 ⟨rfl, k3⟩; obtain ⟨_, d0, d1, d2, d3, d4⟩ := HX.out.1.kept k3; have hR3 := k3.at HX.out.2; obtain ⟨⟨r0, r1, r2, r3, r4⟩, fz⟩ := hblock hR3)
                have hy := five (q := 0) (b := 0) (a := 0) (f := 0) (n := 0) hR3
                have ky := five_below (q := 0) (b := 0) (a := 0) (f := 0) (n := 0) (HR.out.1.trans (((Kept.refl x).alloc (.cells #[.int .i64 q, .int .i64 b, .int .i64 (p : Int), .int .i64 f, .int .i64 n] 74)).drew.trans k3)) (Nat.le_refl w.heap.size)
                clear d0 d1 d2 d3 d4 r0 r1 r2 r3 r4 hR3 k3 fz
                generalize (((((u3.setCell ⟨w.heap.size, 0, none⟩ (.int .i64 0)).setCell ⟨w.heap.size, 1, none⟩ (.int .i64 0)).setCell ⟨w.heap.size, 2, none⟩ (.int .i64 0)).setCell ⟨w.heap.size, 3, none⟩ (.int .i64 0)).setCell ⟨w.heap.size, 4, none⟩ (.int .i64 0)) = Y at hy ky ⊢
                obtain ⟨⟨d0, d1, d2, d3, d4⟩, _⟩ := hblock hy
                exact bodyPost_ret (v := .tuple #[.agg #[.int .i64 0, .int .i64 0, .int .i64 0, .int .i64 0, .int .i64 0], .int .i64 12]) (by simp [results, Tryz.results76, go_sem, d0, d1, d2, d3, d4]) rfl ⟨rfl, ky⟩
              · go_wp2_with (go_at_call 65; (with_reducible refine (ce _).mono ?_); rintro e u3 ⟨rfl, k3⟩; obtain ⟨_, d0, d1, d2, d3, d4⟩ := HX.out.1.kept k3; have hR3 := k3.at HX.out.2; obtain ⟨⟨r0, r1, r2, r3, r4⟩, fz⟩ := hblock hR3)
                have hy := five (q := q) (b := b) (a := (p : Int)) (f := f) (n := n) hR3
                have ky := five_below (q := q) (b := b) (a := (p : Int)) (f := f) (n := n) (HR.out.1.trans (((Kept.refl x).alloc (.cells #[.int .i64 q, .int .i64 b, .int .i64 (p : Int), .int .i64 f, .int .i64 n] 74)).drew.trans k3)) (Nat.le_refl w.heap.size)
                clear d0 d1 d2 d3 d4 r0 r1 r2 r3 r4 hR3 k3 fz
                generalize (((((u3.setCell ⟨w.heap.size, 0, none⟩ (.int .i64 q)).setCell ⟨w.heap.size, 1, none⟩ (.int .i64 b)).setCell ⟨w.heap.size, 2, none⟩ (.int .i64 (p : Int))).setCell ⟨w.heap.size, 3, none⟩ (.int .i64 f)).setCell ⟨w.heap.size, 4, none⟩ (.int .i64 n)) = Y at hy ky ⊢
                obtain ⟨⟨d0, d1, d2, d3, d4⟩, _⟩ := hblock hy
                exact bodyPost_ret (v := .tuple #[.agg #[.int .i64 q, .int .i64 b, .int .i64 (p : Int), .int .i64 f, .int .i64 n], .int .i64 0]) (by simp [results, Tryz.results76, go_sem, d0, d1, d2, d3, d4]) rfl ⟨rfl, ky⟩
            exact AllReadyH.nil
          exact AllReadyH.nil
        refine AllReadyH.cons (o := { dst := some 4, op := .alloc 74, type := 0, pos := _, after := _, guard := none }) rfl (fun K hK => ?_) ?_
        · go_simp
          refine hK.out _ _ trivial (fun _ => ?_)
          clear hK K
          try simp only [Act.put, List.setIfInBounds_toArray, List.set_cons_zero, List.set_cons_succ]
          refine wpAnyH_ready (rs := [14]) (by kernel_rfl) (by simp) ?_
          refine AllReadyH.cons (o := { dst := some 25, op := .call { callee := .value (.func 96), args := #[.tmp 24], argTypes := #[9] }, type := 3, pos := _, after := _, guard := none }) rfl (fun K hK => ?_) ?_
          · go_simp
            go_at_call 96
            (with_reducible refine (c4 _).mono ?_)
            rintro e u ⟨rfl, rfl⟩
            go_wp2_with fail
            refine hK.out _ _ trivial (fun _ => ?_)
            clear hK K
            try simp only [Act.put, List.setIfInBounds_toArray, List.set_cons_zero, List.set_cons_succ]
            refine wpAnyH_take (i := 15) (oi := { dst := some 26, op := .build 74 #[(0, .tmp 13), (1, .tmp 16), (2, .tmp 19), (3, .tmp 22), (4, .tmp 25)], type := 74, pos := _, after := _, guard := none }) (v := .agg #[.int .i64 q, .int .i64 b, .int .i64 p, .int .i64 f, .int .i64 n]) rfl (by kernel_rfl) (by kernel_rfl) (by kernel_rfl) (fun _ _ _ h => h) (Or.inl ⟨by rfl, fun w1 _ => by go_simp⟩) trivial ?_
            simp only [Act.put, List.setIfInBounds_toArray, List.set_cons_zero, List.set_cons_succ]
            refine wpAnyH_ready (rs := [17]) (by kernel_rfl) (by simp) ?_
            refine AllReadyH.cons (o := { dst := none, op := .store 74 (.tmp 4) (.tmp 26), type := 0, pos := _, after := _, guard := none }) rfl (fun K hK => ?_) ?_
            · go_simp
              refine hK.out _ _ trivial (fun _ => ?_)
              clear hK K
              try simp only [Act.put, List.setIfInBounds_toArray, List.set_cons_zero, List.set_cons_succ]
              refine wpAnyH_done (by kernel_rfl) ?_ _
              refine NoPanic.normal ?_
              rcases h with ⟨h, rfl⟩ | ⟨rfl, h, rfl⟩ | ⟨rfl, h, rfl⟩
              · go_wp2_with (go_at_call 65; (with_reducible refine (ce _).mono ?_); rintro e u3 ⟨rfl, k3⟩; obtain ⟨_, d0, d1, d2, d3, d4⟩ := HX.out.1.kept k3; have hR3 := k3.at HX.out.2; obtain ⟨⟨r0, r1, r2, r3, r4⟩, fz⟩ := hblock hR3)
                have hy := five (q := 0) (b := 0) (a := 0) (f := 0) (n := 0) hR3
                have ky := five_below (q := 0) (b := 0) (a := 0) (f := 0) (n := 0) (HR.out.1.trans (((Kept.refl x).alloc (.cells #[.int .i64 q, .int .i64 b, .int .i64 (p : Int), .int .i64 f, .int .i64 n] 74)).drew.trans k3)) (Nat.le_refl w.heap.size)
                clear d0 d1 d2 d3 d4 r0 r1 r2 r3 r4 hR3 k3 fz
                generalize (((((u3.setCell ⟨w.heap.size, 0, none⟩ (.int .i64 0)).setCell ⟨w.heap.size, 1, none⟩ (.int .i64 0)).setCell ⟨w.heap.size, 2, none⟩ (.int .i64 0)).setCell ⟨w.heap.size, 3, none⟩ (.int .i64 0)).setCell ⟨w.heap.size, 4, none⟩ (.int .i64 0)) = Y at hy ky ⊢
                obtain ⟨⟨d0, d1, d2, d3, d4⟩, _⟩ := hblock hy
                exact bodyPost_ret (v := .tuple #[.agg #[.int .i64 0, .int .i64 0, .int .i64 0, .int .i64 0, .int .i64 0], .int .i64 12]) (by simp [results, Tryz.results76, go_sem, d0, d1, d2, d3, d4]) rfl ⟨rfl, ky⟩
              · go_wp2_with (go_at_call 65; (with_reducible refine (ce _).mono ?_); rintro e u3 ⟨rfl, k3⟩; obtain ⟨_, d0, d1, d2, d3, d4⟩ := HX.out.1.kept k3; have hR3 := k3.at HX.out.2; obtain ⟨⟨r0, r1, r2, r3, r4⟩, fz⟩ := hblock hR3)
                have hy := five (q := 0) (b := 0) (a := 0) (f := 0) (n := 0) hR3
                have ky := five_below (q := 0) (b := 0) (a := 0) (f := 0) (n := 0) (HR.out.1.trans (((Kept.refl x).alloc (.cells #[.int .i64 q, .int .i64 b, .int .i64 (p : Int), .int .i64 f, .int .i64 n] 74)).drew.trans k3)) (Nat.le_refl w.heap.size)
                clear d0 d1 d2 d3 d4 r0 r1 r2 r3 r4 hR3 k3 fz
                generalize (((((u3.setCell ⟨w.heap.size, 0, none⟩ (.int .i64 0)).setCell ⟨w.heap.size, 1, none⟩ (.int .i64 0)).setCell ⟨w.heap.size, 2, none⟩ (.int .i64 0)).setCell ⟨w.heap.size, 3, none⟩ (.int .i64 0)).setCell ⟨w.heap.size, 4, none⟩ (.int .i64 0)) = Y at hy ky ⊢
                obtain ⟨⟨d0, d1, d2, d3, d4⟩, _⟩ := hblock hy
                exact bodyPost_ret (v := .tuple #[.agg #[.int .i64 0, .int .i64 0, .int .i64 0, .int .i64 0, .int .i64 0], .int .i64 12]) (by simp [results, Tryz.results76, go_sem, d0, d1, d2, d3, d4]) rfl ⟨rfl, ky⟩
              · go_wp2_with (go_at_call 65; (with_reducible refine (ce _).mono ?_); rintro e u3 ⟨rfl, k3⟩; obtain ⟨_, d0, d1, d2, d3, d4⟩ := HX.out.1.kept k3; have hR3 := k3.at HX.out.2; obtain ⟨⟨r0, r1, r2, r3, r4⟩, fz⟩ := hblock hR3)
                have hy := five (q := q) (b := b) (a := (p : Int)) (f := f) (n := n) hR3
                have ky := five_below (q := q) (b := b) (a := (p : Int)) (f := f) (n := n) (HR.out.1.trans (((Kept.refl x).alloc (.cells #[.int .i64 q, .int .i64 b, .int .i64 (p : Int), .int .i64 f, .int .i64 n] 74)).drew.trans k3)) (Nat.le_refl w.heap.size)
                clear d0 d1 d2 d3 d4 r0 r1 r2 r3 r4 hR3 k3 fz
                generalize (((((u3.setCell ⟨w.heap.size, 0, none⟩ (.int .i64 q)).setCell ⟨w.heap.size, 1, none⟩ (.int .i64 b)).setCell ⟨w.heap.size, 2, none⟩ (.int .i64 (p : Int))).setCell ⟨w.heap.size, 3, none⟩ (.int .i64 f)).setCell ⟨w.heap.size, 4, none⟩ (.int .i64 n)) = Y at hy ky ⊢
                obtain ⟨⟨d0, d1, d2, d3, d4⟩, _⟩ := hblock hy
                exact bodyPost_ret (v := .tuple #[.agg #[.int .i64 q, .int .i64 b, .int .i64 (p : Int), .int .i64 f, .int .i64 n], .int .i64 0]) (by simp [results, Tryz.results76, go_sem, d0, d1, d2, d3, d4]) rfl ⟨rfl, ky⟩
            exact AllReadyH.nil
          exact AllReadyH.nil
        exact AllReadyH.nil
      refine AllReadyH.cons (o := { dst := some 4, op := .alloc 74, type := 0, pos := _, after := _, guard := none }) rfl (fun K hK => ?_) ?_
      · go_simp
        refine hK.out _ _ trivial (fun _ => ?_)
        clear hK K
        try simp only [Act.put, List.setIfInBounds_toArray, List.set_cons_zero, List.set_cons_succ]
        refine wpAnyH_ready (rs := [11]) (by kernel_rfl) (by simp) ?_
        refine AllReadyH.cons (o := { dst := some 22, op := .call { callee := .value (.func 96), args := #[.tmp 21], argTypes := #[9] }, type := 3, pos := _, after := _, guard := none }) rfl (fun K hK => ?_) ?_
        · go_simp
          go_at_call 96
          (with_reducible refine (c3 _).mono ?_)
          rintro e u ⟨rfl, rfl⟩
          go_wp2_with fail
          refine hK.out _ _ trivial (fun _ => ?_)
          clear hK K
          try simp only [Act.put, List.setIfInBounds_toArray, List.set_cons_zero, List.set_cons_succ]
          refine wpAnyH_ready (rs := [14]) (by kernel_rfl) (by simp) ?_
          refine AllReadyH.cons (o := { dst := some 25, op := .call { callee := .value (.func 96), args := #[.tmp 24], argTypes := #[9] }, type := 3, pos := _, after := _, guard := none }) rfl (fun K hK => ?_) ?_
          · go_simp
            go_at_call 96
            (with_reducible refine (c4 _).mono ?_)
            rintro e u ⟨rfl, rfl⟩
            go_wp2_with fail
            refine hK.out _ _ trivial (fun _ => ?_)
            clear hK K
            try simp only [Act.put, List.setIfInBounds_toArray, List.set_cons_zero, List.set_cons_succ]
            refine wpAnyH_take (i := 15) (oi := { dst := some 26, op := .build 74 #[(0, .tmp 13), (1, .tmp 16), (2, .tmp 19), (3, .tmp 22), (4, .tmp 25)], type := 74, pos := _, after := _, guard := none }) (v := .agg #[.int .i64 q, .int .i64 b, .int .i64 p, .int .i64 f, .int .i64 n]) rfl (by kernel_rfl) (by kernel_rfl) (by kernel_rfl) (fun _ _ _ h => h) (Or.inl ⟨by rfl, fun w1 _ => by go_simp⟩) trivial ?_
            simp only [Act.put, List.setIfInBounds_toArray, List.set_cons_zero, List.set_cons_succ]
            refine wpAnyH_ready (rs := [17]) (by kernel_rfl) (by simp) ?_
            refine AllReadyH.cons (o := { dst := none, op := .store 74 (.tmp 4) (.tmp 26), type := 0, pos := _, after := _, guard := none }) rfl (fun K hK => ?_) ?_
            · go_simp
              refine hK.out _ _ trivial (fun _ => ?_)
              clear hK K
              try simp only [Act.put, List.setIfInBounds_toArray, List.set_cons_zero, List.set_cons_succ]
              refine wpAnyH_done (by kernel_rfl) ?_ _
              refine NoPanic.normal ?_
              rcases h with ⟨h, rfl⟩ | ⟨rfl, h, rfl⟩ | ⟨rfl, h, rfl⟩
              · go_wp2_with (go_at_call 65; (with_reducible refine (ce _).mono ?_); rintro e u3 ⟨rfl, k3⟩; obtain ⟨_, d0, d1, d2, d3, d4⟩ := HX.out.1.kept k3; have hR3 := k3.at HX.out.2; obtain ⟨⟨r0, r1, r2, r3, r4⟩, fz⟩ := hblock hR3)
                have hy := five (q := 0) (b := 0) (a := 0) (f := 0) (n := 0) hR3
                have ky := five_below (q := 0) (b := 0) (a := 0) (f := 0) (n := 0) (HR.out.1.trans (((Kept.refl x).alloc (.cells #[.int .i64 q, .int .i64 b, .int .i64 (p : Int), .int .i64 f, .int .i64 n] 74)).drew.trans k3)) (Nat.le_refl w.heap.size)
                clear d0 d1 d2 d3 d4 r0 r1 r2 r3 r4 hR3 k3 fz
                generalize (((((u3.setCell ⟨w.heap.size, 0, none⟩ (.int .i64 0)).setCell ⟨w.heap.size, 1, none⟩ (.int .i64 0)).setCell ⟨w.heap.size, 2, none⟩ (.int .i64 0)).setCell ⟨w.heap.size, 3, none⟩ (.int .i64 0)).setCell ⟨w.heap.size, 4, none⟩ (.int .i64 0)) = Y at hy ky ⊢
                obtain ⟨⟨d0, d1, d2, d3, d4⟩, _⟩ := hblock hy
                exact bodyPost_ret (v := .tuple #[.agg #[.int .i64 0, .int .i64 0, .int .i64 0, .int .i64 0, .int .i64 0], .int .i64 12]) (by simp [results, Tryz.results76, go_sem, d0, d1, d2, d3, d4]) rfl ⟨rfl, ky⟩
              · go_wp2_with (go_at_call 65; (with_reducible refine (ce _).mono ?_); rintro e u3 ⟨rfl, k3⟩; obtain ⟨_, d0, d1, d2, d3, d4⟩ := HX.out.1.kept k3; have hR3 := k3.at HX.out.2; obtain ⟨⟨r0, r1, r2, r3, r4⟩, fz⟩ := hblock hR3)
                have hy := five (q := 0) (b := 0) (a := 0) (f := 0) (n := 0) hR3
                have ky := five_below (q := 0) (b := 0) (a := 0) (f := 0) (n := 0) (HR.out.1.trans (((Kept.refl x).alloc (.cells #[.int .i64 q, .int .i64 b, .int .i64 (p : Int), .int .i64 f, .int .i64 n] 74)).drew.trans k3)) (Nat.le_refl w.heap.size)
                clear d0 d1 d2 d3 d4 r0 r1 r2 r3 r4 hR3 k3 fz
                generalize (((((u3.setCell ⟨w.heap.size, 0, none⟩ (.int .i64 0)).setCell ⟨w.heap.size, 1, none⟩ (.int .i64 0)).setCell ⟨w.heap.size, 2, none⟩ (.int .i64 0)).setCell ⟨w.heap.size, 3, none⟩ (.int .i64 0)).setCell ⟨w.heap.size, 4, none⟩ (.int .i64 0)) = Y at hy ky ⊢
                obtain ⟨⟨d0, d1, d2, d3, d4⟩, _⟩ := hblock hy
                exact bodyPost_ret (v := .tuple #[.agg #[.int .i64 0, .int .i64 0, .int .i64 0, .int .i64 0, .int .i64 0], .int .i64 12]) (by simp [results, Tryz.results76, go_sem, d0, d1, d2, d3, d4]) rfl ⟨rfl, ky⟩
              · go_wp2_with (go_at_call 65; (with_reducible refine (ce _).mono ?_); rintro e u3 ⟨rfl, k3⟩; obtain ⟨_, d0, d1, d2, d3, d4⟩ := HX.out.1.kept k3; have hR3 := k3.at HX.out.2; obtain ⟨⟨r0, r1, r2, r3, r4⟩, fz⟩ := hblock hR3)
                have hy := five (q := q) (b := b) (a := (p : Int)) (f := f) (n := n) hR3
                have ky := five_below (q := q) (b := b) (a := (p : Int)) (f := f) (n := n) (HR.out.1.trans (((Kept.refl x).alloc (.cells #[.int .i64 q, .int .i64 b, .int .i64 (p : Int), .int .i64 f, .int .i64 n] 74)).drew.trans k3)) (Nat.le_refl w.heap.size)
                clear d0 d1 d2 d3 d4 r0 r1 r2 r3 r4 hR3 k3 fz
                generalize (((((u3.setCell ⟨w.heap.size, 0, none⟩ (.int .i64 q)).setCell ⟨w.heap.size, 1, none⟩ (.int .i64 b)).setCell ⟨w.heap.size, 2, none⟩ (.int .i64 (p : Int))).setCell ⟨w.heap.size, 3, none⟩ (.int .i64 f)).setCell ⟨w.heap.size, 4, none⟩ (.int .i64 n)) = Y at hy ky ⊢
                obtain ⟨⟨d0, d1, d2, d3, d4⟩, _⟩ := hblock hy
                exact bodyPost_ret (v := .tuple #[.agg #[.int .i64 q, .int .i64 b, .int .i64 (p : Int), .int .i64 f, .int .i64 n], .int .i64 0]) (by simp [results, Tryz.results76, go_sem, d0, d1, d2, d3, d4]) rfl ⟨rfl, ky⟩
            exact AllReadyH.nil
          exact AllReadyH.nil
        exact AllReadyH.nil
      exact AllReadyH.nil
    refine AllReadyH.cons (o := { dst := some 4, op := .alloc 74, type := 0, pos := _, after := _, guard := none }) rfl (fun K hK => ?_) ?_
    · go_simp
      refine hK.out _ _ trivial (fun _ => ?_)
      clear hK K
      try simp only [Act.put, List.setIfInBounds_toArray, List.set_cons_zero, List.set_cons_succ]
      refine wpAnyH_ready (rs := [5]) (by kernel_rfl) (by simp) ?_
      refine AllReadyH.cons (o := { dst := some 16, op := .call { callee := .value (.func 96), args := #[.tmp 15], argTypes := #[9] }, type := 3, pos := _, after := _, guard := none }) rfl (fun K hK => ?_) ?_
      · go_simp
        go_at_call 96
        (with_reducible refine (c2 _).mono ?_)
        rintro e u ⟨rfl, rfl⟩
        go_wp2_with fail
        refine hK.out _ _ trivial (fun _ => ?_)
        clear hK K
        try simp only [Act.put, List.setIfInBounds_toArray, List.set_cons_zero, List.set_cons_succ]
        refine wpAnyH_ready (rs := [11]) (by kernel_rfl) (by simp) ?_
        refine AllReadyH.cons (o := { dst := some 22, op := .call { callee := .value (.func 96), args := #[.tmp 21], argTypes := #[9] }, type := 3, pos := _, after := _, guard := none }) rfl (fun K hK => ?_) ?_
        · go_simp
          go_at_call 96
          (with_reducible refine (c3 _).mono ?_)
          rintro e u ⟨rfl, rfl⟩
          go_wp2_with fail
          refine hK.out _ _ trivial (fun _ => ?_)
          clear hK K
          try simp only [Act.put, List.setIfInBounds_toArray, List.set_cons_zero, List.set_cons_succ]
          refine wpAnyH_ready (rs := [14]) (by kernel_rfl) (by simp) ?_
          refine AllReadyH.cons (o := { dst := some 25, op := .call { callee := .value (.func 96), args := #[.tmp 24], argTypes := #[9] }, type := 3, pos := _, after := _, guard := none }) rfl (fun K hK => ?_) ?_
          · go_simp
            go_at_call 96
            (with_reducible refine (c4 _).mono ?_)
            rintro e u ⟨rfl, rfl⟩
            go_wp2_with fail
            refine hK.out _ _ trivial (fun _ => ?_)
            clear hK K
            try simp only [Act.put, List.setIfInBounds_toArray, List.set_cons_zero, List.set_cons_succ]
            refine wpAnyH_take (i := 15) (oi := { dst := some 26, op := .build 74 #[(0, .tmp 13), (1, .tmp 16), (2, .tmp 19), (3, .tmp 22), (4, .tmp 25)], type := 74, pos := _, after := _, guard := none }) (v := .agg #[.int .i64 q, .int .i64 b, .int .i64 p, .int .i64 f, .int .i64 n]) rfl (by kernel_rfl) (by kernel_rfl) (by kernel_rfl) (fun _ _ _ h => h) (Or.inl ⟨by rfl, fun w1 _ => by go_simp⟩) trivial ?_
            simp only [Act.put, List.setIfInBounds_toArray, List.set_cons_zero, List.set_cons_succ]
            refine wpAnyH_ready (rs := [17]) (by kernel_rfl) (by simp) ?_
            refine AllReadyH.cons (o := { dst := none, op := .store 74 (.tmp 4) (.tmp 26), type := 0, pos := _, after := _, guard := none }) rfl (fun K hK => ?_) ?_
            · go_simp
              refine hK.out _ _ trivial (fun _ => ?_)
              clear hK K
              try simp only [Act.put, List.setIfInBounds_toArray, List.set_cons_zero, List.set_cons_succ]
              refine wpAnyH_done (by kernel_rfl) ?_ _
              refine NoPanic.normal ?_
              rcases h with ⟨h, rfl⟩ | ⟨rfl, h, rfl⟩ | ⟨rfl, h, rfl⟩
              · go_wp2_with (go_at_call 65; (with_reducible refine (ce _).mono ?_); rintro e u3 ⟨rfl, k3⟩; obtain ⟨_, d0, d1, d2, d3, d4⟩ := HX.out.1.kept k3; have hR3 := k3.at HX.out.2; obtain ⟨⟨r0, r1, r2, r3, r4⟩, fz⟩ := hblock hR3)
                have hy := five (q := 0) (b := 0) (a := 0) (f := 0) (n := 0) hR3
                have ky := five_below (q := 0) (b := 0) (a := 0) (f := 0) (n := 0) (HR.out.1.trans (((Kept.refl x).alloc (.cells #[.int .i64 q, .int .i64 b, .int .i64 (p : Int), .int .i64 f, .int .i64 n] 74)).drew.trans k3)) (Nat.le_refl w.heap.size)
                clear d0 d1 d2 d3 d4 r0 r1 r2 r3 r4 hR3 k3 fz
                generalize (((((u3.setCell ⟨w.heap.size, 0, none⟩ (.int .i64 0)).setCell ⟨w.heap.size, 1, none⟩ (.int .i64 0)).setCell ⟨w.heap.size, 2, none⟩ (.int .i64 0)).setCell ⟨w.heap.size, 3, none⟩ (.int .i64 0)).setCell ⟨w.heap.size, 4, none⟩ (.int .i64 0)) = Y at hy ky ⊢
                obtain ⟨⟨d0, d1, d2, d3, d4⟩, _⟩ := hblock hy
                exact bodyPost_ret (v := .tuple #[.agg #[.int .i64 0, .int .i64 0, .int .i64 0, .int .i64 0, .int .i64 0], .int .i64 12]) (by simp [results, Tryz.results76, go_sem, d0, d1, d2, d3, d4]) rfl ⟨rfl, ky⟩
              · go_wp2_with (go_at_call 65; (with_reducible refine (ce _).mono ?_); rintro e u3 ⟨rfl, k3⟩; obtain ⟨_, d0, d1, d2, d3, d4⟩ := HX.out.1.kept k3; have hR3 := k3.at HX.out.2; obtain ⟨⟨r0, r1, r2, r3, r4⟩, fz⟩ := hblock hR3)
                have hy := five (q := 0) (b := 0) (a := 0) (f := 0) (n := 0) hR3
                have ky := five_below (q := 0) (b := 0) (a := 0) (f := 0) (n := 0) (HR.out.1.trans (((Kept.refl x).alloc (.cells #[.int .i64 q, .int .i64 b, .int .i64 (p : Int), .int .i64 f, .int .i64 n] 74)).drew.trans k3)) (Nat.le_refl w.heap.size)
                clear d0 d1 d2 d3 d4 r0 r1 r2 r3 r4 hR3 k3 fz
                generalize (((((u3.setCell ⟨w.heap.size, 0, none⟩ (.int .i64 0)).setCell ⟨w.heap.size, 1, none⟩ (.int .i64 0)).setCell ⟨w.heap.size, 2, none⟩ (.int .i64 0)).setCell ⟨w.heap.size, 3, none⟩ (.int .i64 0)).setCell ⟨w.heap.size, 4, none⟩ (.int .i64 0)) = Y at hy ky ⊢
                obtain ⟨⟨d0, d1, d2, d3, d4⟩, _⟩ := hblock hy
                exact bodyPost_ret (v := .tuple #[.agg #[.int .i64 0, .int .i64 0, .int .i64 0, .int .i64 0, .int .i64 0], .int .i64 12]) (by simp [results, Tryz.results76, go_sem, d0, d1, d2, d3, d4]) rfl ⟨rfl, ky⟩
              · go_wp2_with (go_at_call 65; (with_reducible refine (ce _).mono ?_); rintro e u3 ⟨rfl, k3⟩; obtain ⟨_, d0, d1, d2, d3, d4⟩ := HX.out.1.kept k3; have hR3 := k3.at HX.out.2; obtain ⟨⟨r0, r1, r2, r3, r4⟩, fz⟩ := hblock hR3)
                have hy := five (q := q) (b := b) (a := (p : Int)) (f := f) (n := n) hR3
                have ky := five_below (q := q) (b := b) (a := (p : Int)) (f := f) (n := n) (HR.out.1.trans (((Kept.refl x).alloc (.cells #[.int .i64 q, .int .i64 b, .int .i64 (p : Int), .int .i64 f, .int .i64 n] 74)).drew.trans k3)) (Nat.le_refl w.heap.size)
                clear d0 d1 d2 d3 d4 r0 r1 r2 r3 r4 hR3 k3 fz
                generalize (((((u3.setCell ⟨w.heap.size, 0, none⟩ (.int .i64 q)).setCell ⟨w.heap.size, 1, none⟩ (.int .i64 b)).setCell ⟨w.heap.size, 2, none⟩ (.int .i64 (p : Int))).setCell ⟨w.heap.size, 3, none⟩ (.int .i64 f)).setCell ⟨w.heap.size, 4, none⟩ (.int .i64 n)) = Y at hy ky ⊢
                obtain ⟨⟨d0, d1, d2, d3, d4⟩, _⟩ := hblock hy
                exact bodyPost_ret (v := .tuple #[.agg #[.int .i64 q, .int .i64 b, .int .i64 (p : Int), .int .i64 f, .int .i64 n], .int .i64 0]) (by simp [results, Tryz.results76, go_sem, d0, d1, d2, d3, d4]) rfl ⟨rfl, ky⟩
            exact AllReadyH.nil
          exact AllReadyH.nil
        exact AllReadyH.nil
      exact AllReadyH.nil
    exact AllReadyH.nil
  refine AllReadyH.cons (o := { dst := some 4, op := .alloc 74, type := 0, pos := _, after := _, guard := none }) rfl (fun K hK => ?_) ?_
  · go_simp
    refine hK.out _ _ trivial (fun _ => ?_)
    clear hK K
    try simp only [Act.put, List.setIfInBounds_toArray, List.set_cons_zero, List.set_cons_succ]
    refine wpAnyH_ready (rs := [2]) (by kernel_rfl) (by simp) ?_
    refine AllReadyH.cons (o := { dst := some 13, op := .call { callee := .value (.func 96), args := #[.tmp 12], argTypes := #[9] }, type := 3, pos := _, after := _, guard := none }) rfl (fun K hK => ?_) ?_
    · go_simp
      go_at_call 96
      (with_reducible refine (c1 _).mono ?_)
      rintro e u ⟨rfl, rfl⟩
      go_wp2_with fail
      refine hK.out _ _ trivial (fun _ => ?_)
      clear hK K
      try simp only [Act.put, List.setIfInBounds_toArray, List.set_cons_zero, List.set_cons_succ]
      refine wpAnyH_ready (rs := [5]) (by kernel_rfl) (by simp) ?_
      refine AllReadyH.cons (o := { dst := some 16, op := .call { callee := .value (.func 96), args := #[.tmp 15], argTypes := #[9] }, type := 3, pos := _, after := _, guard := none }) rfl (fun K hK => ?_) ?_
      · go_simp
        go_at_call 96
        (with_reducible refine (c2 _).mono ?_)
        rintro e u ⟨rfl, rfl⟩
        go_wp2_with fail
        refine hK.out _ _ trivial (fun _ => ?_)
        clear hK K
        try simp only [Act.put, List.setIfInBounds_toArray, List.set_cons_zero, List.set_cons_succ]
        refine wpAnyH_ready (rs := [11]) (by kernel_rfl) (by simp) ?_
        refine AllReadyH.cons (o := { dst := some 22, op := .call { callee := .value (.func 96), args := #[.tmp 21], argTypes := #[9] }, type := 3, pos := _, after := _, guard := none }) rfl (fun K hK => ?_) ?_
        · go_simp
          go_at_call 96
          (with_reducible refine (c3 _).mono ?_)
          rintro e u ⟨rfl, rfl⟩
          go_wp2_with fail
          refine hK.out _ _ trivial (fun _ => ?_)
          clear hK K
          try simp only [Act.put, List.setIfInBounds_toArray, List.set_cons_zero, List.set_cons_succ]
          refine wpAnyH_ready (rs := [14]) (by kernel_rfl) (by simp) ?_
          refine AllReadyH.cons (o := { dst := some 25, op := .call { callee := .value (.func 96), args := #[.tmp 24], argTypes := #[9] }, type := 3, pos := _, after := _, guard := none }) rfl (fun K hK => ?_) ?_
          · go_simp
            go_at_call 96
            (with_reducible refine (c4 _).mono ?_)
            rintro e u ⟨rfl, rfl⟩
            go_wp2_with fail
            refine hK.out _ _ trivial (fun _ => ?_)
            clear hK K
            try simp only [Act.put, List.setIfInBounds_toArray, List.set_cons_zero, List.set_cons_succ]
            refine wpAnyH_take (i := 15) (oi := { dst := some 26, op := .build 74 #[(0, .tmp 13), (1, .tmp 16), (2, .tmp 19), (3, .tmp 22), (4, .tmp 25)], type := 74, pos := _, after := _, guard := none }) (v := .agg #[.int .i64 q, .int .i64 b, .int .i64 p, .int .i64 f, .int .i64 n]) rfl (by kernel_rfl) (by kernel_rfl) (by kernel_rfl) (fun _ _ _ h => h) (Or.inl ⟨by rfl, fun w1 _ => by go_simp⟩) trivial ?_
            simp only [Act.put, List.setIfInBounds_toArray, List.set_cons_zero, List.set_cons_succ]
            refine wpAnyH_ready (rs := [17]) (by kernel_rfl) (by simp) ?_
            refine AllReadyH.cons (o := { dst := none, op := .store 74 (.tmp 4) (.tmp 26), type := 0, pos := _, after := _, guard := none }) rfl (fun K hK => ?_) ?_
            · go_simp
              refine hK.out _ _ trivial (fun _ => ?_)
              clear hK K
              try simp only [Act.put, List.setIfInBounds_toArray, List.set_cons_zero, List.set_cons_succ]
              refine wpAnyH_done (by kernel_rfl) ?_ _
              refine NoPanic.normal ?_
              rcases h with ⟨h, rfl⟩ | ⟨rfl, h, rfl⟩ | ⟨rfl, h, rfl⟩
              · go_wp2_with (go_at_call 65; (with_reducible refine (ce _).mono ?_); rintro e u3 ⟨rfl, k3⟩; obtain ⟨_, d0, d1, d2, d3, d4⟩ := HX.out.1.kept k3; have hR3 := k3.at HX.out.2; obtain ⟨⟨r0, r1, r2, r3, r4⟩, fz⟩ := hblock hR3)
                have hy := five (q := 0) (b := 0) (a := 0) (f := 0) (n := 0) hR3
                have ky := five_below (q := 0) (b := 0) (a := 0) (f := 0) (n := 0) (HR.out.1.trans (((Kept.refl x).alloc (.cells #[.int .i64 q, .int .i64 b, .int .i64 (p : Int), .int .i64 f, .int .i64 n] 74)).drew.trans k3)) (Nat.le_refl w.heap.size)
                clear d0 d1 d2 d3 d4 r0 r1 r2 r3 r4 hR3 k3 fz
                generalize (((((u3.setCell ⟨w.heap.size, 0, none⟩ (.int .i64 0)).setCell ⟨w.heap.size, 1, none⟩ (.int .i64 0)).setCell ⟨w.heap.size, 2, none⟩ (.int .i64 0)).setCell ⟨w.heap.size, 3, none⟩ (.int .i64 0)).setCell ⟨w.heap.size, 4, none⟩ (.int .i64 0)) = Y at hy ky ⊢
                obtain ⟨⟨d0, d1, d2, d3, d4⟩, _⟩ := hblock hy
                exact bodyPost_ret (v := .tuple #[.agg #[.int .i64 0, .int .i64 0, .int .i64 0, .int .i64 0, .int .i64 0], .int .i64 12]) (by simp [results, Tryz.results76, go_sem, d0, d1, d2, d3, d4]) rfl ⟨rfl, ky⟩
              · go_wp2_with (go_at_call 65; (with_reducible refine (ce _).mono ?_); rintro e u3 ⟨rfl, k3⟩; obtain ⟨_, d0, d1, d2, d3, d4⟩ := HX.out.1.kept k3; have hR3 := k3.at HX.out.2; obtain ⟨⟨r0, r1, r2, r3, r4⟩, fz⟩ := hblock hR3)
                have hy := five (q := 0) (b := 0) (a := 0) (f := 0) (n := 0) hR3
                have ky := five_below (q := 0) (b := 0) (a := 0) (f := 0) (n := 0) (HR.out.1.trans (((Kept.refl x).alloc (.cells #[.int .i64 q, .int .i64 b, .int .i64 (p : Int), .int .i64 f, .int .i64 n] 74)).drew.trans k3)) (Nat.le_refl w.heap.size)
                clear d0 d1 d2 d3 d4 r0 r1 r2 r3 r4 hR3 k3 fz
                generalize (((((u3.setCell ⟨w.heap.size, 0, none⟩ (.int .i64 0)).setCell ⟨w.heap.size, 1, none⟩ (.int .i64 0)).setCell ⟨w.heap.size, 2, none⟩ (.int .i64 0)).setCell ⟨w.heap.size, 3, none⟩ (.int .i64 0)).setCell ⟨w.heap.size, 4, none⟩ (.int .i64 0)) = Y at hy ky ⊢
                obtain ⟨⟨d0, d1, d2, d3, d4⟩, _⟩ := hblock hy
                exact bodyPost_ret (v := .tuple #[.agg #[.int .i64 0, .int .i64 0, .int .i64 0, .int .i64 0, .int .i64 0], .int .i64 12]) (by simp [results, Tryz.results76, go_sem, d0, d1, d2, d3, d4]) rfl ⟨rfl, ky⟩
              · go_wp2_with (go_at_call 65; (with_reducible refine (ce _).mono ?_); rintro e u3 ⟨rfl, k3⟩; obtain ⟨_, d0, d1, d2, d3, d4⟩ := HX.out.1.kept k3; have hR3 := k3.at HX.out.2; obtain ⟨⟨r0, r1, r2, r3, r4⟩, fz⟩ := hblock hR3)
                have hy := five (q := q) (b := b) (a := (p : Int)) (f := f) (n := n) hR3
                have ky := five_below (q := q) (b := b) (a := (p : Int)) (f := f) (n := n) (HR.out.1.trans (((Kept.refl x).alloc (.cells #[.int .i64 q, .int .i64 b, .int .i64 (p : Int), .int .i64 f, .int .i64 n] 74)).drew.trans k3)) (Nat.le_refl w.heap.size)
                clear d0 d1 d2 d3 d4 r0 r1 r2 r3 r4 hR3 k3 fz
                generalize (((((u3.setCell ⟨w.heap.size, 0, none⟩ (.int .i64 q)).setCell ⟨w.heap.size, 1, none⟩ (.int .i64 b)).setCell ⟨w.heap.size, 2, none⟩ (.int .i64 (p : Int))).setCell ⟨w.heap.size, 3, none⟩ (.int .i64 f)).setCell ⟨w.heap.size, 4, none⟩ (.int .i64 n)) = Y at hy ky ⊢
                obtain ⟨⟨d0, d1, d2, d3, d4⟩, _⟩ := hblock hy
                exact bodyPost_ret (v := .tuple #[.agg #[.int .i64 q, .int .i64 b, .int .i64 (p : Int), .int .i64 f, .int .i64 n], .int .i64 0]) (by simp [results, Tryz.results76, go_sem, d0, d1, d2, d3, d4]) rfl ⟨rfl, ky⟩
            exact AllReadyH.nil
          exact AllReadyH.nil
        exact AllReadyH.nil
      exact AllReadyH.nil
    exact AllReadyH.nil
  exact AllReadyH.nil
set_option maxRecDepth 100000 in
theorem rdecode_long {s : ByteArray} (w : World) (h : ((s.size : Int) != 80) = true) :
    Calls Tryz.prog 76 #[.string s] w fun e w' => e = .returned (.tuple #[.agg #[.int .i64 0, .int .i64 0, .int .i64 0, .int .i64 0, .int .i64 0], .int .i64 12]) ∧ Kept w w' := by
  have hk0 := (Kept.refl w).alloc (.cells (hcells 0 0 0 0 0) 74)
  go_enter Tryz.func76, Tryz.ntmps76
  go_wp2
  exact bodyPost_ret (v := .tuple #[.agg #[.int .i64 0, .int .i64 0, .int .i64 0, .int .i64 0, .int .i64 0], .int .i64 12]) (by simp [results, Tryz.results76, go_sem]) rfl ⟨rfl, hk0⟩
theorem m_drops (s : ByteArray) : m1 s = s.data.toList.drop 6 ∧ m2 s = s.data.toList.drop 10 ∧ m3 s = s.data.toList.drop 11 ∧ m4 s = s.data.toList.drop 17 := by
  unfold m4 m3 m2 m1
  simp [List.drop_drop]
theorem rdG (s : ByteArray) (h : s.size = 80) : RdG s (str (s.data.toList.take 6)) (str ((m1 s).take 4)) (str ((m3 s).take 6)) (str ((m4 s).take 2)) (flds s).seq (flds s).boot (flds s).first (flds s).snaps (val ((m2 s).take 1)) := by
  obtain ⟨e1, e2, e3, e4⟩ := m_drops s
  have hl : s.data.toList.length = 80 := by rw [size_list, h]
  have b2 : val ((m2 s).take 1) = (s.data.toList.getD 10 0).toNat := by rw [e2]; exact byte_val _ _ (by omega)
  exact {
    sz := h
    ix := fun w => by rw [b2]; exact index_s s 10 (by omega) w
    hp := val_short
    e1 := str_inj (by rw [Lib.extract_data, list_str]; rfl)
    e2 := str_inj (by rw [Lib.extract_data, list_str, e1])
    e3 := str_inj (by rw [Lib.extract_data, list_str, e3])
    e4 := str_inj (by rw [Lib.extract_data, list_str, e4])
    c1 := fun w => by
      have := rnumber_s (str (s.data.toList.take 6)) (by rw [size_str, List.length_take]; omega) w
      rwa [list_str] at this
    c2 := fun w => by
      have := rnumber_s (str ((m1 s).take 4)) (by rw [size_str, List.length_take, e1, List.length_drop]; omega) w
      rwa [list_str] at this
    c3 := fun w => by
      have := rnumber_s (str ((m3 s).take 6)) (by rw [size_str, List.length_take, e3, List.length_drop]; omega) w
      rwa [list_str] at this
    c4 := fun w => by
      have := rnumber_s (str ((m4 s).take 2)) (by rw [size_str, List.length_take, e4, List.length_drop]; omega) w
      rwa [list_str] at this }
/-- Decode of the specification. -/
theorem rdecode_c (s : ByteArray) (w : World) :
    Calls Tryz.prog 76 #[.string s] w fun e w' => e = .returned (.tuple #[.agg #[.int .i64 (decF s).seq, .int .i64 (decF s).boot, .int .i64 (decF s).area, .int .i64 (decF s).first, .int .i64 (decF s).snaps], .int .i64 (decE s)]) ∧ Kept w w' := by
  by_cases hs : s.size = 80
  · have ce := rencode_c (flds s)
    by_cases ho : (flds s).ok = true
    · have hg := (flds s).ok_iff.mp ho
      rw [Hd.enc_good hg, (Hd.err_zero _).mpr hg] at ce
      by_cases he : str (flds s).sec = s
      · obtain ⟨e1, e2⟩ := dec_yes ho he
        rw [e1, e2]
        refine rdecode_g (rdG s hs) w (.inr (.inr ⟨rfl, ?_, rfl⟩)) ce
        rw [he]; simp
      · have hd : dec s = none := by unfold dec; rw [if_neg (fun h => he (by rw [← Hd.enc_good hg]; exact h.2))]
        rw [(dec_nil hd).1, (dec_nil hd).2]
        refine rdecode_g (rdG s hs) w (.inr (.inl ⟨rfl, ?_, rfl⟩)) ce
        simp only [Bool.not_eq_true', beq_eq_false_iff_ne, ne_eq]
        intro h
        exact he (str_inj (by rw [← Lib.toList_data, ← Lib.toList_data]; exact h))
    · have hd : dec s = none := by unfold dec; rw [if_neg (fun h => ho h.1)]
      have he : (flds s).err = 2 := (Hd.enc_bad (fun g => ho ((flds s).ok_iff.mpr g))).2
      rw [he] at ce
      rw [(dec_nil hd).1, (dec_nil hd).2]
      exact rdecode_g (rdG s hs) w (.inl ⟨rfl, rfl⟩) ce
  · have hd : dec s = none := by
      cases h : dec s with
      | none => rfl
      | some c => exact absurd (dec_size h) hs
    rw [(dec_nil hd).1, (dec_nil hd).2]
    exact rdecode_long w (by simp only [bne_iff_ne, ne_eq]; omega)
end Go.Proofs.YtckbhjjflpobbaaGreat.Hk
