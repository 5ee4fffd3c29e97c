/-
  Bytes read as a specification (the specification's Decode of layer 13).
-/
import Derived.Test.YtngojgocplmedaaRZm
namespace Go.Proofs.YtngojgocplmedaaR.Ls
open Go.RowKit Go.Proofs.YtngojgocplmedaaR.Mem Go.Proofs.YtngojgocplmedaaR.Bx Go.Proofs.YtngojgocplmedaaR.In Go.Proofs.YtngojgocplmedaaR.Sp Go.Proofs.YtngojgocplmedaaR.Nr Go.Proofs.YtngojgocplmedaaR.Pk Go.ChangeShapes Go.WideShapes Go.ChangeAt
set_option linter.unusedVariables false

def zeroS : Sp := ⟨0, 0, 0, 0, [], []⟩
def zeroP : Pl := ⟨none, 0, 0, none, 0, 0⟩
/-- What Decode answers. -/
def DecPost (w : World) (s : ByteArray) (e : Ending) (w' : World) : Prop :=
  (∃ (S : Sp) (q : Pl) (t : ByteArray), SpRead s S t ∧ e = .returned (.tuple #[.agg (spC S q), .string t, .int .i64 0]) ∧ SpAt w' S q ∧ Kept w w') ∨
  (NoRead s ∧ e = .returned (.tuple #[.agg (spC zeroS zeroP), .string ⟨#[]⟩, .int .i64 4]) ∧ Kept w w')
set_option maxHeartbeats 2000000 in
set_option maxRecDepth 100000 in
theorem rdec_c (s : ByteArray) (w : World) : Calls Try.prog 19 #[.string s] w fun e w' => DecPost w s e w' := by
  have eA : (w.alloc (.cells #[.int .i64 0, .int .i64 0, .int .i64 0, .int .i64 0, .slice none 0 0, .slice none 0 0] 27)).heap.size = w.heap.size + 1 := by simp
  have OA := Lib.hid (show Mem.Own (w.alloc (.cells #[.int .i64 0, .int .i64 0, .int .i64 0, .int .i64 0, .slice none 0 0, .slice none 0 0] 27)) [rdA (w.heap.size + 1) s false] ((w.alloc (.cells #[.int .i64 0, .int .i64 0, .int .i64 0, .int .i64 0, .slice none 0 0, .slice none 0 0] 27)).alloc (.cells #[.string s, .bool false] 82)) from by
    have h := (Own.nil (w.alloc (.cells #[.int .i64 0, .int .i64 0, .int .i64 0, .int .i64 0, .slice none 0 0, .slice none 0 0] 27))).box #[.string s, .bool false] 82
    rw [eA] at h; exact h)
  have OB := Lib.hid (show Mem.Own w [bxA w.heap.size 0 0 0 0 (.slice none 0 0) (.slice none 0 0)] (w.alloc (.cells #[.int .i64 0, .int .i64 0, .int .i64 0, .int .i64 0, .slice none 0 0, .slice none 0 0] 27)) from (Own.nil w).box _ _)
  have EA := Lib.hid eA
  clear eA
  go_enter Try.func19, Try.ntmps19
  go_upto_region 3 with (go_at_call 55; (with_reducible refine (rread_c OA.out).mono ?_); rintro e w1 ⟨S, ⟨po, pn, pc, uo, un, uc⟩, t, c, rfl, hS, hO, hr⟩; have O1 := Lib.hid (hO.box #[.int .i64 S.id, .int .i64 S.c, .int .i64 S.m, .int .i64 S.d, .slice po pn pc, .slice uo un uc] 27); have B1 := Lib.hid (OB.out.later hO.kept); have S1 := Lib.hid hS; have R1 := Lib.hid hr; clear hS hO hr; unfold spC)
  obtain ⟨r0, r1, _⟩ := rd_cells O1.out 1 rfl
  have BX := Lib.hid (show Mem.Own w [bxA w.heap.size 0 0 0 0 (.slice none 0 0) (.slice none 0 0)] (w1.alloc (.cells #[.int .i64 S.id, .int .i64 S.c, .int .i64 S.m, .int .i64 S.d, .slice po pn pc, .slice uo un uc] 27)) from B1.out.alloc _)
  obtain ⟨⟨b0, b1, b2, b3, b4, b5⟩, bf⟩ := bx_cells BX.out 0 rfl
  have y0 := bf 0
  have y1 := bf 1
  have y2 := bf 2
  have y3 := bf 3
  have y4 := bf 4
  have y5 := bf 5
  clear bf
  cases c with
  | true =>
    have N1 := Lib.hid (R1.out.2 rfl)
    go_wp2_with fail
    refine bodyPost_ret (v := .tuple #[.agg #[.int .i64 0, .int .i64 0, .int .i64 0, .int .i64 0, .slice none 0 0, .slice none 0 0], .string ⟨#[]⟩, .int .i64 4]) (by simp [results, Try.results19, go_sem, b0, b1, b2, b3, b4, b5]) rfl ?_
    exact .inr ⟨N1.out, rfl, ((((((BX.out.boxset 0 rfl 0 (.int .i64 0)).boxset 0 rfl 1 (.int .i64 0)).boxset 0 rfl 2 (.int .i64 0)).boxset 0 rfl 3 (.int .i64 0)).boxset 0 rfl 4 (.slice none 0 0)).boxset 0 rfl 5 (.slice none 0 0)).kept⟩
  | false =>
    have N1 := Lib.hid (R1.out.1 rfl)
    obtain ⟨⟨d0, d1, d2, d3, d4, d5⟩, _⟩ := bx_cells O1.out.drew 0 rfl
    obtain ⟨q0, q1, _⟩ := rd_cells O1.out.drew 1 rfl
    obtain ⟨⟨e0, e1, e2, e3, e4, e5⟩, bg⟩ := bx_cells BX.out.drew 0 rfl
    have g0 := bg 0
    have g1 := bg 1
    have g2 := bg 2
    have g3 := bg 3
    have g4 := bg 4
    have g5 := bg 5
    clear bg
    go_wp2_with fail
    go_region
    all_goals
      go_wp2_with fail
      refine bodyPost_ret (v := .tuple #[.agg #[.int .i64 S.id, .int .i64 S.c, .int .i64 S.m, .int .i64 S.d, .slice po pn pc, .slice uo un uc], .string t, .int .i64 0]) (by simp [results, Try.results19, go_sem, b0, b1, b2, b3, b4, b5]) rfl ?_
      have hF : w.heap.size ≤ w.heap.size ∧ w.heap.size < w.heap.size + 1 := by omega
      have n := (S1.out.kept ((Kept.refl w1).alloc (.cells #[.int .i64 S.id, .int .i64 S.c, .int .i64 S.m, .int .i64 S.d, .slice po pn pc, .slice uo un uc] 27)))
      rw [EA.out] at n
      have o := ((((((Only.refl w.heap.size (w.heap.size + 1) (w1.alloc (.cells #[.int .i64 S.id, .int .i64 S.c, .int .i64 S.m, .int .i64 S.d, .slice po pn pc, .slice uo un uc] 27))).set (p := ⟨w.heap.size, 0, none⟩) (v := .int .i64 S.id) hF).set (p := ⟨w.heap.size, 1, none⟩) (v := .int .i64 S.c) hF).set (p := ⟨w.heap.size, 2, none⟩) (v := .int .i64 S.m) hF).set (p := ⟨w.heap.size, 3, none⟩) (v := .int .i64 S.d) hF).set (p := ⟨w.heap.size, 4, none⟩) (v := .slice po pn pc) hF).set (p := ⟨w.heap.size, 5, none⟩) (v := .slice uo un uc) hF
      have nn : SpNew (w.heap.size + 1) _ S ⟨po, pn, pc, uo, un, uc⟩ := ⟨n.ports.off fun g hg => o.block g (by omega), n.tasks.off fun g hg => o.block g (by omega)⟩
      exact .inl ⟨S, ⟨po, pn, pc, uo, un, uc⟩, t, N1.out, rfl, (nn.kept (Kept.refl _).drew).at, ((((((BX.out.boxset 0 rfl 0 (.int .i64 S.id)).boxset 0 rfl 1 (.int .i64 S.c)).boxset 0 rfl 2 (.int .i64 S.m)).boxset 0 rfl 3 (.int .i64 S.d)).boxset 0 rfl 4 (.slice po pn pc)).boxset 0 rfl 5 (.slice uo un uc)).kept.drew⟩
end Go.Proofs.YtngojgocplmedaaR.Ls
