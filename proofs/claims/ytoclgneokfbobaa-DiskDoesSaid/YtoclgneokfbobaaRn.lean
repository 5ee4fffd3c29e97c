/-
  Layer 4's statements: the disk and the specification's, made together.
-/
import Derived.Test.YtoclgneokfbobaaRk
namespace Go.Proofs.Ytoclgneokfbobaa.Dz
open Go.RowKit Go.ChangeShapes Go.WideShapes Go.ChangeAt Go.Proofs.Ytoclgneokfbobaa.Mem Go.Proofs.Ytoclgneokfbobaa.Fz
set_option linter.unusedVariables false

theorem o_rnew {w0 w : World} {L : List As} (h : Own w0 L w) (i : Nat) {G : Nat} {st : St} (hi : L[i]? = some (rfA G st)) {n : Nat} (h1 : 1 ≤ n) (h2 : n ≤ 65536) :
    Calls Try.prog 31 #[.int .i64 (n : Int), .pointer (some ⟨G, 0, none⟩)] w fun e w' => ∃ R, e = .returned (.tuple #[.pointer (some ⟨R, 0, none⟩), .int .i64 0]) ∧ Own w0 (L.set i (rk G R (fresh n st))) w' :=
  (h.lift1 i hi fun S ⟨hf, ho, hF⟩ _ => rnew_c G st n h1 h2 S w hf ho hF).mono fun e w' ⟨he, hk⟩ => ⟨_, he, hk⟩
def bothOf (F D G R : Value) : Array Value := #[F, D, G, R]
theorem Own.both {w0 w : World} {L : List As} (h : Own w0 L w) (F : Nat) :
    Own w0 (boxA (w.heap.size + 1) #[.pointer (some ⟨F, 0, none⟩), .pointer none, .pointer (some ⟨w.heap.size, 0, none⟩), .pointer none] 40 :: rfA w.heap.size .idle :: L)
      ((w.alloc (.cells #[.bool false, .bool false, .int .i64 0] 71)).alloc (.cells #[.pointer (some ⟨F, 0, none⟩), .pointer none, .pointer (some ⟨w.heap.size, 0, none⟩), .pointer none] 40)) := by
  have q := (h.push (b := rfA w.heap.size .idle) ((Kept.refl w).alloc (.cells #[.bool false, .bool false, .int .i64 0] 71)) ⟨heap_alloc_new _ _, trivial, .inr ⟨Nat.le_refl _, by simp⟩⟩).front
  have q2 := q.box #[.pointer (some ⟨F, 0, none⟩), .pointer none, .pointer (some ⟨w.heap.size, 0, none⟩), .pointer none] 40
  rw [World.size_alloc] at q2
  exact q2
theorem box4 {u : World} {B : Nat} {x y z t : Value} {T : TypeId} (h : u.heap[B]? = some (.cells #[x, y, z, t] T (0, 0))) : u.cell? ⟨B, 0, none⟩ = some x ∧ u.cell? ⟨B, 1, none⟩ = some y ∧ u.cell? ⟨B, 2, none⟩ = some z ∧ u.cell? ⟨B, 3, none⟩ = some t ∧ ∀ i, u.frozen? ⟨B, i, none⟩ = false :=
  ⟨cell_of_row _ _ _ _ _ _ h, cell_of_row _ _ _ _ _ _ h, cell_of_row _ _ _ _ _ _ h, cell_of_row _ _ _ _ _ _ h, fun i => frozen_of_row _ _ _ _ _ h⟩
set_option maxHeartbeats 2000000 in
set_option maxRecDepth 100000 in
theorem bnew_c {w0 w : World} {L : List As} (h : Own w0 L w) (n : Nat) (h1 : 1 ≤ n) (h2 : n ≤ 65536) :
    Calls Try.prog 10 #[.int .i64 (n : Int)] w fun e w' => ∃ X F D G R, e = .returned (.pointer (some ⟨X, 0, none⟩)) ∧
      Own w0 (boxA X #[.pointer (some ⟨F, 0, none⟩), .pointer (some ⟨D, 0, none⟩), .pointer (some ⟨G, 0, none⟩), .pointer (some ⟨R, 0, none⟩)] 40 :: rk G R (fresh n .idle) :: dk F D (fresh n .idle) :: L) w' := by
  have hfn : Calls Try.prog 21 #[] w fun e w' => ∃ F, e = .returned (.pointer (some ⟨F, 0, none⟩)) ∧ Own w0 (fzA F .idle :: L) w' := (o_fnew h).mono fun e w' ⟨F, he, hk⟩ => ⟨F, he, hk.front⟩
  have hnew : ∀ {A B : As} {F : Nat} {W : World}, Own w0 (A :: B :: fzA F .idle :: L) W → Calls Try.prog 24 #[.int .i64 (n : Int), .pointer (some ⟨F, 0, none⟩)] W fun e w' => ∃ D, e = .returned (.tuple #[.pointer (some ⟨D, 0, none⟩), .int .i64 0]) ∧ Own w0 (A :: B :: dk F D (fresh n .idle) :: L) w' := fun h => o_new h 2 rfl h1 h2
  have hrn : ∀ {A B : As} {G : Nat} {W : World}, Own w0 (A :: rfA G .idle :: B :: L) W → Calls Try.prog 31 #[.int .i64 (n : Int), .pointer (some ⟨G, 0, none⟩)] W fun e w' => ∃ R, e = .returned (.tuple #[.pointer (some ⟨R, 0, none⟩), .int .i64 0]) ∧ Own w0 (A :: rk G R (fresh n .idle) :: B :: L) w' := fun h => o_rnew h 1 rfl h1 h2
  clear h h1 h2
  go_enter Try.func10, Try.ntmps10
  go_wp2_with (first
    | (go_at_call 21; (with_reducible refine hfn.mono ?_); rintro e u1 ⟨F, rfl, k1⟩)
    | (go_at_call 24; (with_reducible refine (hnew (Own.both k1 F)).mono ?_); rintro e u2 ⟨D, rfl, k2⟩; obtain ⟨b0, b1, b2, b3, bf⟩ := box4 (Own.boxed k2 0 rfl))
    | (go_at_call 31; (with_reducible refine (hrn k2).mono ?_); rintro e u3 ⟨R, rfl, k3⟩; obtain ⟨d0, d1, d2, d3, df⟩ := box4 (Own.boxed k3 0 rfl); have df1 := df 1; have df3 := df 3))
  go_ret
  refine ⟨u1.heap.size + 1, F, D, u1.heap.size, R, rfl, ?_⟩
  have q := (k3.boxset 0 rfl 1 (.pointer (some ⟨D, 0, none⟩))).boxset 0 rfl 3 (.pointer (some ⟨R, 0, none⟩))
  simpa using q
end Go.Proofs.Ytoclgneokfbobaa.Dz
