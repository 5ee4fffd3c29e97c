/-
  SpecConfigs (layer 13): its walk, and a configuration opened.
-/
import Derived.Test.YtngojgocplmedaaRZu
import Derived.Test.YtngojgocplmedaaRZv
namespace Go.Proofs.YtngojgocplmedaaR.Ls
open Go.RowKit Go.Proofs.YtngojgocplmedaaR.Mem Go.Proofs.YtngojgocplmedaaR.Bx Go.Proofs.YtngojgocplmedaaR.In Go.Proofs.YtngojgocplmedaaR.Sp Go.ChangeShapes Go.WideShapes Go.ChangeAt
set_option linter.unusedVariables false

theorem fields_conf : fieldsOf Try.prog 43 = some [(23, 0), (3, 3), (3, 4), (3, 5), (3, 6), (3, 7), (3, 8), (3, 9), (3, 10)] := by kernel_rfl
theorem size_conf : Try.prog.cellsOf 43 = 11 := by kernel_rfl
set_option maxRecDepth 100000 in
theorem open_conf {H : Type} {enc : TypeId × Value → H} {W : World} {v : Value} {d : DataW H} {p : List MemPlace} {r : Reach} {b0 : Nat} (hv : Value.okWide Try.prog W r b0 43 v) (h : DataW.Trod enc Try.prog W 0 (fun _ => true) true 43 v d p) : ∃ f : Cf, v = .agg (cfC f) := by
  obtain ⟨cs, rfl, _⟩ := okWide_struct Try.underlying43 hv
  obtain ⟨fuel, hf⟩ := h
  obtain ⟨m, hl, hq⟩ := trod_fields fields_conf hf
  rw [size_conf] at hl
  have hcl : (Value.agg cs).cells = cs := by simp [Value.cells]
  rw [hcl] at hl hq
  obtain ⟨cs⟩ := cs
  match cs, hl with
  | [c0, c1, c2, c3, c4, c5, c6, c7, c8, c9, c10], _ =>
    obtain ⟨y0, h0⟩ := hq 0 _ rfl
    rw [size_res] at h0
    obtain ⟨m1, hl1, hq1⟩ := trod_fields fields_res h0
    obtain ⟨z0, k0⟩ := hq1 0 _ rfl
    obtain ⟨z1, k1⟩ := hq1 1 _ rfl
    obtain ⟨z2, k2⟩ := hq1 2 _ rfl
    rw [size_int] at k0 k1 k2
    obtain ⟨a0, f0, _⟩ := of_int k0
    obtain ⟨a1, f1, _⟩ := of_int k1
    obtain ⟨a2, f2, _⟩ := of_int k2
    obtain rfl : c0 = .int .i64 a0 := by simpa using f0
    obtain rfl : c1 = .int .i64 a1 := by simpa using f1
    obtain rfl : c2 = .int .i64 a2 := by simpa using f2
    obtain ⟨y1, h1⟩ := hq 1 _ rfl
    rw [size_int] at h1
    obtain ⟨v1, e1, _⟩ := of_int h1
    obtain rfl : c3 = .int .i64 v1 := by simpa using e1
    obtain ⟨y2, h2⟩ := hq 2 _ rfl
    rw [size_int] at h2
    obtain ⟨v2, e2, _⟩ := of_int h2
    obtain rfl : c4 = .int .i64 v2 := by simpa using e2
    obtain ⟨y3, h3⟩ := hq 3 _ rfl
    rw [size_int] at h3
    obtain ⟨v3, e3, _⟩ := of_int h3
    obtain rfl : c5 = .int .i64 v3 := by simpa using e3
    obtain ⟨y4, h4⟩ := hq 4 _ rfl
    rw [size_int] at h4
    obtain ⟨v4, e4, _⟩ := of_int h4
    obtain rfl : c6 = .int .i64 v4 := by simpa using e4
    obtain ⟨y5, h5⟩ := hq 5 _ rfl
    rw [size_int] at h5
    obtain ⟨v5, e5, _⟩ := of_int h5
    obtain rfl : c7 = .int .i64 v5 := by simpa using e5
    obtain ⟨y6, h6⟩ := hq 6 _ rfl
    rw [size_int] at h6
    obtain ⟨v6, e6, _⟩ := of_int h6
    obtain rfl : c8 = .int .i64 v6 := by simpa using e6
    obtain ⟨y7, h7⟩ := hq 7 _ rfl
    rw [size_int] at h7
    obtain ⟨v7, e7, _⟩ := of_int h7
    obtain rfl : c9 = .int .i64 v7 := by simpa using e7
    obtain ⟨y8, h8⟩ := hq 8 _ rfl
    rw [size_int] at h8
    obtain ⟨v8, e8, _⟩ := of_int h8
    obtain rfl : c10 = .int .i64 v8 := by simpa using e8
    exact ⟨⟨a0, a1, a2, v1, v2, v3, v4, v5, v6, v7, v8⟩, rfl⟩
set_option maxHeartbeats 4000000 in
set_option maxRecDepth 100000 in
theorem confs_core (P : SpecP) (f : Cf) (a : Int) (w : World) : Calls Try.prog 5 #[.agg (cfC f), .int .i64 a] w fun e w' => e = .returned (.bool true) ∧ Kept w w' := by
  have hS : ∀ W, Kept (w.alloc (.cells (cfC f) 43)) W → W.cell? ⟨w.heap.size, 0, none⟩ = some (.int .i64 f.c) ∧ W.cell? ⟨w.heap.size, 1, none⟩ = some (.int .i64 f.m) ∧ W.cell? ⟨w.heap.size, 2, none⟩ = some (.int .i64 f.d) ∧ W.cell? ⟨w.heap.size, 3, none⟩ = some (.int .i64 f.allocs) ∧ W.cell? ⟨w.heap.size, 4, none⟩ = some (.int .i64 f.area) ∧ W.cell? ⟨w.heap.size, 5, none⟩ = some (.int .i64 f.files) ∧ W.cell? ⟨w.heap.size, 6, none⟩ = some (.int .i64 f.blocks) ∧ W.cell? ⟨w.heap.size, 7, none⟩ = some (.int .i64 f.beat) ∧ W.cell? ⟨w.heap.size, 8, none⟩ = some (.int .i64 f.lease) ∧ W.cell? ⟨w.heap.size, 9, none⟩ = some (.int .i64 f.grace) ∧ W.cell? ⟨w.heap.size, 10, none⟩ = some (.int .i64 f.wait) := fun W k => box11 ((((Own.nil w).box (cfC f) 43).later k).boxed 0 rfl)
  obtain ⟨E, hE⟩ : ∃ E, E = cfSays f := ⟨_, rfl⟩
  obtain ⟨V, hV⟩ : ∃ V, V = needV a := ⟨_, rfl⟩
  have q1 := P.conf f
  have q2 := rconf_c f
  have q3 := P.need a
  have q4 := rneed_c a
  rw [← hE] at q1 q2
  rw [← hV] at q3 q4
  have HQ := Lib.hid (And.intro q1 (And.intro q2 (And.intro q3 (And.intro q4 (awake_c P)))))
  clear hE hV q1 q2 q3 q4 P
  have b1 : (E == E) = true := by simp
  have b2 : (V == V) = true := by simp
  unfold cfC at hS HQ ⊢
  have HS := Lib.hid hS
  have hS0 := hS _ (Kept.refl _)
  clear hS
  go_enter Try.func5, Try.ntmps5
  go_wp2_with fail
  go_region_held3 (fun W => W.cell? ⟨w.heap.size, 0, none⟩ = some (.int .i64 f.c) ∧ W.cell? ⟨w.heap.size, 1, none⟩ = some (.int .i64 f.m) ∧ W.cell? ⟨w.heap.size, 2, none⟩ = some (.int .i64 f.d) ∧ W.cell? ⟨w.heap.size, 3, none⟩ = some (.int .i64 f.allocs) ∧ W.cell? ⟨w.heap.size, 4, none⟩ = some (.int .i64 f.area) ∧ W.cell? ⟨w.heap.size, 5, none⟩ = some (.int .i64 f.files) ∧ W.cell? ⟨w.heap.size, 6, none⟩ = some (.int .i64 f.blocks) ∧ W.cell? ⟨w.heap.size, 7, none⟩ = some (.int .i64 f.beat) ∧ W.cell? ⟨w.heap.size, 8, none⟩ = some (.int .i64 f.lease) ∧ W.cell? ⟨w.heap.size, 9, none⟩ = some (.int .i64 f.grace) ∧ W.cell? ⟨w.heap.size, 10, none⟩ = some (.int .i64 f.wait))
    (first | with_reducible assumption | exact HS.out _ (Kept.refl _).drew)
    (first
      | (go_at_call 20; (with_reducible refine (HQ.out.1 _).mono ?_); rintro e w1 ⟨rfl, k1⟩; have K1 := Lib.hid ((Kept.refl (w.alloc (.cells #[.int .i64 f.c, .int .i64 f.m, .int .i64 f.d, .int .i64 f.allocs, .int .i64 f.area, .int .i64 f.files, .int .i64 f.blocks, .int .i64 f.beat, .int .i64 f.lease, .int .i64 f.grace, .int .i64 f.wait] 43))).drew.trans k1); have S1 := HS.out _ K1.out)
      | (go_at_call 21; (with_reducible refine (HQ.out.2.1 _).mono ?_); rintro e w2 ⟨rfl, k2⟩; have K2 := Lib.hid (K1.out.trans k2); have S2 := HS.out _ K2.out)
      | (go_at_call 22; (with_reducible refine (HQ.out.2.2.1 _).mono ?_); rintro e w3 ⟨rfl, k3⟩; have K3 := Lib.hid (K2.out.trans k3); have S3 := HS.out _ K3.out)
      | (go_at_call 23; (with_reducible refine (HQ.out.2.2.2.1 _).mono ?_); rintro e w4 ⟨rfl, rfl⟩)
      | (go_at_call 17; (with_reducible refine (HQ.out.2.2.2.2 _).mono ?_); rintro e w5 ⟨rfl, k5⟩; have K5 := Lib.hid (K3.out.trans k5); have S5 := HS.out _ K5.out))
  all_goals
    go_wp2_with fail
    go_ret
    exact ⟨rfl, ((Kept.refl w).alloc _).trans K5.out⟩
end Go.Proofs.YtngojgocplmedaaR.Ls
