/-
  RecordExamples' walk.
-/
import Derived.Test.YtmmlgnoicecgfaaHn
namespace Go.Proofs.Ytmmlgnoicecgfaa.Rc
open Go Go.RowKit Go.ChangeShapes Go.WideShapes Go.ChangeAt Go.Proofs.Ytmmlgnoicecgfaa.Mem Go.Proofs.Ytmmlgnoicecgfaa.Pk Go.Proofs.Ytmmlgnoicecgfaa.Fk Go.Proofs.Ytmmlgnoicecgfaa.Dz Go.Proofs.Ytmmlgnoicecgfaa.Fz
set_option linter.unusedVariables false

theorem fblock {y : World} {F : Nat} {T : TypeId} {a b c d e f : Value} (h : y.heap[F]? = some (.cells #[a, b, c, d, e, f] T (0, 0))) :
    (y.cell? ⟨F, 0, none⟩ = some a ∧ y.cell? ⟨F, 1, none⟩ = some b ∧ y.cell? ⟨F, 2, none⟩ = some c ∧ y.cell? ⟨F, 3, none⟩ = some d ∧ y.cell? ⟨F, 4, none⟩ = some e ∧ y.cell? ⟨F, 5, none⟩ = some f) ∧ ∀ i, y.frozen? ⟨F, i, none⟩ = false :=
  ⟨⟨cell_of_row _ _ _ _ _ _ h, cell_of_row _ _ _ _ _ _ h, cell_of_row _ _ _ _ _ _ h, cell_of_row _ _ _ _ _ _ h, cell_of_row _ _ _ _ _ _ h, cell_of_row _ _ _ _ _ _ h⟩, fun i => frozen_of_row y F i _ _ h⟩
set_option maxRecDepth 100000 in
set_option maxHeartbeats 8000000 in
theorem examples (w : World) : Calls Try.prog 3 #[] w fun e w' => e = .returned (.bool true) ∧ Kept w w' := by
  have hnew : ∀ L W, Mem.Own w L W → Calls Try.prog 11 #[.int .i64 10] W fun e w' => ∃ X F D G R, e = .returned (.pointer (some ⟨X, 0, none⟩)) ∧ Mem.Own w (pair X F D G R xs0 L) w' := fun L W hW => bnew_c hW 10 (by decide) (by decide)
  have hm1 : ∀ W, Calls Try.prog 12 #[.int .u8 120, .int .i64 50] W fun e w' => e = .returned (.string xS) ∧ Kept W w' := manyn_c 120 50 (by decide) (by decide)
  have hm2 : ∀ W, Calls Try.prog 12 #[.int .u8 120, .int .i64 4097] W fun e w' => e = .returned (.string (repB 120 4097)) ∧ Kept W w' := manyn_c 120 4097 (by decide) (by decide)
  have hs1 : ∀ L W, Mem.Own w L W → Calls Try.prog 13 #[.int .i64 1, .int .i64 5, .int .u8 2, .string xS] W fun e w' => ∃ g cap, e = .returned (.tuple #[.slice (some ⟨g, 0, none⟩) 2 cap, .int .i64 0]) ∧ Mem.Own w (secA (.slice (some ⟨g, 0, none⟩) 2 cap) 2 xX :: L) w' := fun L W hW => by
    refine (o_secs hW 1 5 2 xS (by decide) (by rw [x_size]; decide)).mono ?_
    rintro e w' ⟨ao, cap, he, hp⟩
    rw [x_secs.1, x_secs.2] at he
    rw [x_secs.2] at hp
    obtain ⟨g, rfl, _⟩ := own_strs hp 0 rfl 0 (by decide)
    exact ⟨g, cap, he, hp⟩
  have hs2 : ∀ W, Calls Try.prog 13 #[.int .i64 0, .int .i64 5, .int .u8 2, .string xS] W fun e w' => ∃ ao cap, e = .returned (.tuple #[.slice ao 0 cap, .int .i64 2]) ∧ Kept W w' := fun W => by
    refine (sectors_c 0 5 2 xS (by decide) (by rw [x_size]; decide) W).mono ?_
    rintro e w' ⟨v, he, hrow, hk⟩
    obtain ⟨ao, cap, rfl, _⟩ := strings_at hrow
    rw [x_secs0.1, x_secs0.2] at he
    exact ⟨ao, cap, he, hk⟩
  obtain ⟨xB, hxB⟩ : ∃ xB, xB = repB 120 4097 := ⟨_, rfl⟩
  have hs3 : ∀ W, Calls Try.prog 13 #[.int .i64 0, .int .i64 5, .int .u8 2, .string xB] W fun e w' => ∃ ao cap, e = .returned (.tuple #[.slice ao 0 cap, .int .i64 5]) ∧ Kept W w' := fun W => by
    rw [hxB]
    refine (sectors_c 0 5 2 _ (by decide) (by rw [repB_size]; decide) W).mono ?_
    rintro e w' ⟨v, he, hrow, hk⟩
    obtain ⟨ao, cap, rfl, _⟩ := strings_at hrow
    rw [x_big.1, x_big.2] at he
    exact ⟨ao, cap, he, hk⟩
  rw [← hxB] at hm2
  clear hxB
  obtain ⟨Y0, hY0⟩ : ∃ Y0, Y0 = xX 0 := ⟨_, rfl⟩
  obtain ⟨Y1, hY1⟩ : ∃ Y1, Y1 = xX 1 := ⟨_, rfl⟩
  obtain ⟨sA, hsA⟩ : ∃ sA, sA = xs0.wrote 3 Y0 := ⟨_, rfl⟩
  have hw3 : ∀ {A0 A1 A2 : As} {M : List As} {F D : Nat} {W : World}, Mem.Own w (A0 :: A1 :: A2 :: dk F D xs0 :: M) W → Calls Try.prog 14 #[.pointer (some ⟨D, 0, none⟩), .int .i64 3, .string Y0] W fun e w' => e = .returned (.int .i64 0) ∧ Mem.Own w (A0 :: A1 :: A2 :: dk F D sA :: M) w' := fun h => by
    have := o_w3 h (s := xs0) rfl (by decide) (k := 3) (by decide) (d := Y0) (by rw [hY0]; exact x_80 0 (by decide))
    rw [← hsA] at this
    exact this
  have eA : sA.wrote 4 Y1 = xs1 := by rw [hsA, hY0, hY1]; rfl
  have hw4 : ∀ {A0 A1 A2 : As} {M : List As} {F D : Nat} {W : World}, Mem.Own w (A0 :: A1 :: A2 :: dk F D sA :: M) W → Calls Try.prog 14 #[.pointer (some ⟨D, 0, none⟩), .int .i64 4, .string Y1] W fun e w' => e = .returned (.int .i64 0) ∧ Mem.Own w (A0 :: A1 :: A2 :: dk F D xs1 :: M) w' := fun h => by
    have := o_w3 h (s := sA) (by rw [hsA]; rfl) (by rw [hsA]; show 1 < _; decide) (k := 4) (by rw [hsA]; show 4 < 10; decide) (d := Y1) (by rw [hY1]; exact x_80 1 (by decide))
    rw [eA] at this
    exact this
  have hfx : ∀ {X F D G R g cap : Nat} {A B : As} {M : List As} (W : World), Mem.Own w (secA (.slice (some ⟨g, 0, none⟩) 2 cap) 2 xX :: boxA X #[.pointer (some ⟨F, 0, none⟩), .pointer (some ⟨D, 0, none⟩), .pointer (some ⟨G, 0, none⟩), .pointer (some ⟨R, 0, none⟩)] 38 :: A :: B :: M) W → W.cell? ⟨X, 1, none⟩ = some (.pointer (some ⟨D, 0, none⟩)) ∧ W.cell? ⟨g, 0, none⟩ = some (.string Y0) ∧ W.cell? ⟨g, 1, none⟩ = some (.string Y1) := fun W h => by
    obtain ⟨_, h1, _, _⟩ := pair_cells h.tail W (Kept.refl W)
    have hs := own_strs h 0 rfl
    obtain ⟨g0, e0, x0⟩ := hs 0 (by decide)
    obtain ⟨g1, e1, x1⟩ := hs 1 (by decide)
    cases e0; cases e1
    exact ⟨h1, by rw [hY0]; exact x0, by rw [hY1]; exact x1⟩
  have hbx : ∀ {X F D G R TB : Nat} {cs : Array Value} {T : TypeId} {A0 : As} {M : List As} (W : World), Mem.Own w (boxA TB cs T :: A0 :: boxA X #[.pointer (some ⟨F, 0, none⟩), .pointer (some ⟨D, 0, none⟩), .pointer (some ⟨G, 0, none⟩), .pointer (some ⟨R, 0, none⟩)] 38 :: M) W → W.cell? ⟨X, 0, none⟩ = some (.pointer (some ⟨F, 0, none⟩)) ∧ W.cell? ⟨X, 1, none⟩ = some (.pointer (some ⟨D, 0, none⟩)) := fun W h => by
    obtain ⟨h0, h1, _, _⟩ := pair_cells h.tail.tail W (Kept.refl W)
    exact ⟨h0, h1⟩
  have hr : ∀ {A0 A1 A2 : As} {M : List As} {F D : Nat} {W : World}, Mem.Own w (A0 :: A1 :: A2 :: dk F D xs1 :: M) W → Calls Try.prog 15 #[.pointer (some ⟨D, 0, none⟩), .int .i64 3, .int .i64 5, .int .i64 5, .int .i64 1] W fun ed w' => ed = .returned (.tuple #[.agg #[.int .i64 1, .int .i64 5, .int .i64 0, .int .i64 2, .int .u8 2, .string xS], .int .i64 0]) ∧ Mem.Own w (A0 :: A1 :: A2 :: dk F D xs1 :: M) w' := fun h => o_fx h 3 rfl xs1_ok fx0 (by decide) (by decide)
  have hr0 : ∀ (L : List As) (i : Nat) (F D : Nat) (W : World), L[i]? = some (dk F D xs1) → Mem.Own w L W → Calls Try.prog 15 #[.pointer (some ⟨D, 0, none⟩), .int .i64 3, .int .i64 4, .int .i64 5, .int .i64 1] W fun ed w' => ed = .returned (.tuple #[.agg #[.int .i64 0, .int .i64 0, .int .i64 0, .int .i64 0, .int .u8 0, .string ⟨#[]⟩], .int .i64 12]) ∧ Mem.Own w L w' := fun _ i _ _ _ hi h => o_fx h i hi xs1_ok fx1 (by decide) (by decide)
  have hr1 : ∀ (L : List As) (i : Nat) (F D : Nat) (W : World), L[i]? = some (dk F D xs1) → Mem.Own w L W → Calls Try.prog 15 #[.pointer (some ⟨D, 0, none⟩), .int .i64 4, .int .i64 5, .int .i64 5, .int .i64 1] W fun ed w' => ed = .returned (.tuple #[.agg #[.int .i64 0, .int .i64 0, .int .i64 0, .int .i64 0, .int .u8 0, .string ⟨#[]⟩], .int .i64 12]) ∧ Mem.Own w L w' := fun _ i _ _ _ hi h => o_fx h i hi xs1_ok fx2 (by decide) (by decide)
  have hr2 : ∀ (L : List As) (i : Nat) (F D : Nat) (W : World), L[i]? = some (dk F D xs1) → Mem.Own w L W → Calls Try.prog 15 #[.pointer (some ⟨D, 0, none⟩), .int .i64 3, .int .i64 5, .int .i64 6, .int .i64 1] W fun ed w' => ed = .returned (.tuple #[.agg #[.int .i64 0, .int .i64 0, .int .i64 0, .int .i64 0, .int .u8 0, .string ⟨#[]⟩], .int .i64 12]) ∧ Mem.Own w L w' := fun _ i _ _ _ hi h => o_fx h i hi xs1_ok fx3 (by decide) (by decide)
  have hr3 : ∀ (L : List As) (i : Nat) (F D : Nat) (W : World), L[i]? = some (dk F D xs1) → Mem.Own w L W → Calls Try.prog 15 #[.pointer (some ⟨D, 0, none⟩), .int .i64 3, .int .i64 5, .int .i64 5, .int .i64 2] W fun ed w' => ed = .returned (.tuple #[.agg #[.int .i64 0, .int .i64 0, .int .i64 0, .int .i64 0, .int .u8 0, .string ⟨#[]⟩], .int .i64 12]) ∧ Mem.Own w L w' := fun _ i _ _ _ hi h => o_fx h i hi xs1_ok fx4 (by decide) (by decide)
  have hr4 : ∀ (L : List As) (i : Nat) (F D : Nat) (W : World), L[i]? = some (dk F D xs1) → Mem.Own w L W → Calls Try.prog 15 #[.pointer (some ⟨D, 0, none⟩), .int .i64 5, .int .i64 5, .int .i64 5, .int .i64 1] W fun ed w' => ed = .returned (.tuple #[.agg #[.int .i64 0, .int .i64 0, .int .i64 0, .int .i64 0, .int .u8 0, .string ⟨#[]⟩], .int .i64 12]) ∧ Mem.Own w L w' := fun _ i _ _ _ hi h => o_fx h i hi xs1_ok fx5 (by decide) (by decide)
  have hr5 : ∀ (L : List As) (i : Nat) (F D : Nat) (W : World), L[i]? = some (dk F D xs1) → Mem.Own w L W → Calls Try.prog 15 #[.pointer (some ⟨D, 0, none⟩), .int .i64 5, .int .i64 4, .int .i64 1, .int .i64 1] W fun ed w' => ed = .returned (.tuple #[.agg #[.int .i64 0, .int .i64 0, .int .i64 0, .int .i64 0, .int .u8 0, .string ⟨#[]⟩], .int .i64 3]) ∧ Mem.Own w L w' := fun _ i _ _ _ hi h => o_fx h i hi xs1_ok fx6 (by decide) (by decide)
  have hr6 : ∀ (L : List As) (i : Nat) (F D : Nat) (W : World), L[i]? = some (dk F D xs1) → Mem.Own w L W → Calls Try.prog 15 #[.pointer (some ⟨D, 0, none⟩), .int .i64 0, .int .i64 999, .int .i64 1, .int .i64 1] W fun ed w' => ed = .returned (.tuple #[.agg #[.int .i64 0, .int .i64 0, .int .i64 0, .int .i64 0, .int .u8 0, .string ⟨#[]⟩], .int .i64 3]) ∧ Mem.Own w L w' := fun _ i _ _ _ hi h => o_fx h i hi xs1_ok fx7 (by decide) (by decide)
  have hr7 : ∀ (L : List As) (i : Nat) (F D : Nat) (W : World), L[i]? = some (dk F D xs1) → Mem.Own w L W → Calls Try.prog 15 #[.pointer (some ⟨D, 0, none⟩), .int .i64 (-1), .int .i64 5, .int .i64 1, .int .i64 1] W fun ed w' => ed = .returned (.tuple #[.agg #[.int .i64 0, .int .i64 0, .int .i64 0, .int .i64 0, .int .u8 0, .string ⟨#[]⟩], .int .i64 3]) ∧ Mem.Own w L w' := fun _ i _ _ _ hi h => o_fx h i hi xs1_ok fx8 (by decide) (by decide)
  have hr8 : ∀ (L : List As) (i : Nat) (F D : Nat) (W : World), L[i]? = some (dk F D xs1) → Mem.Own w L W → Calls Try.prog 15 #[.pointer (some ⟨D, 0, none⟩), .int .i64 3, .int .i64 10, .int .i64 5, .int .i64 (-9)] W fun ed w' => ed = .returned (.tuple #[.agg #[.int .i64 1, .int .i64 5, .int .i64 0, .int .i64 2, .int .u8 2, .string xS], .int .i64 0]) ∧ Mem.Own w L w' := fun _ i _ _ _ hi h => o_fx h i hi xs1_ok fx9 (by decide) (by decide)
  have hr9 : ∀ (L : List As) (i : Nat) (F D : Nat) (W : World), L[i]? = some (dk F D xs1) → Mem.Own w L W → Calls Try.prog 15 #[.pointer (some ⟨D, 0, none⟩), .int .i64 10, .int .i64 10, .int .i64 5, .int .i64 1] W fun ed w' => ed = .returned (.tuple #[.agg #[.int .i64 0, .int .i64 0, .int .i64 0, .int .i64 0, .int .u8 0, .string ⟨#[]⟩], .int .i64 12]) ∧ Mem.Own w L w' := fun _ i _ _ _ hi h => o_fx h i hi xs1_ok fx10 (by decide) (by decide)
  have har : ∀ {A0 A1 A2 A3 : As} {M : List As} {F D : Nat} {W : World}, Mem.Own w (A0 :: A1 :: A2 :: A3 :: dk F D xs1 :: M) W → Calls Try.prog 16 #[.pointer (some ⟨F, 0, none⟩), .int .i64 0] W fun e w' => e = .returned (.int .i64 0) ∧ Mem.Own w (A0 :: A1 :: A2 :: A3 :: dk F D xs2 :: M) w' := fun h => o_fuse h 4 rfl (f := .armed 0) (by show (0 : Nat) < 9223372036854775808; decide) fun hf _ => by rw [xs1_fu] at hf; exact arm_c _ .idle 0 _ hf
  have hbu : ∀ {A0 A1 A2 A3 : As} {M : List As} {F D : Nat} {W : World}, Mem.Own w (A0 :: A1 :: A2 :: A3 :: dk F D xs2 :: M) W → Calls Try.prog 17 #[.pointer (some ⟨F, 0, none⟩)] W fun e w' => e = .returned (.int .i64 10) ∧ Mem.Own w (A0 :: A1 :: A2 :: A3 :: dk F D xs3 :: M) w' := fun h => o_fuse h 4 rfl (f := .blown) trivial fun hf _ => burn_c _ (.armed 0) (by show (0 : Nat) < 9223372036854775808; decide) _ hf
  have hrz : ∀ {A0 A1 A2 A3 : As} {M : List As} {F D : Nat} {W : World}, Mem.Own w (A0 :: A1 :: A2 :: A3 :: dk F D xs3 :: M) W → Calls Try.prog 15 #[.pointer (some ⟨D, 0, none⟩), .int .i64 3, .int .i64 5, .int .i64 5, .int .i64 1] W fun ed w' => ed = .returned (.tuple #[.agg #[.int .i64 0, .int .i64 0, .int .i64 0, .int .i64 0, .int .u8 0, .string ⟨#[]⟩], .int .i64 10]) ∧ Mem.Own w (A0 :: A1 :: A2 :: A3 :: dk F D xs3 :: M) w' := fun h => o_fx h 4 rfl xs3_ok fx11 (by decide) (by decide)
  have hrn : ∀ W, Calls Try.prog 15 #[.pointer none, .int .i64 0, .int .i64 0, .int .i64 1, .int .i64 1] W fun e w' => e = .returned (.tuple #[.agg #[.int .i64 0, .int .i64 0, .int .i64 0, .int .i64 0, .int .u8 0, .string ⟨#[]⟩], .int .i64 1]) ∧ Kept W w' := fetch_nil
  have hop : ∀ W, (binOp .neq 41 (.agg #[.int .i64 1, .int .i64 5, .int .i64 0, .int .i64 2, .int .u8 2, .string xS]) (.agg #[.int .i64 1, .int .i64 5, .int .i64 0, .int .i64 2, .int .u8 2, .string xS])).run Try.prog W = .ok (.bool false) W := fun W => by
    have := neqF 1 5 0 2 2 xS 1 5 0 2 2 xS W
    rw [show same 1 5 0 2 2 xS 1 5 0 2 2 xS = true from same_iff.mpr rfl] at this
    exact this
  clear hsA hY0 hY1 eA
  obtain ⟨S5, hS5⟩ : ∃ S5, S5 = xS := ⟨_, rfl⟩
  rw [← hS5] at hm1 hs1 hs2 hr hr8 hop
  clear hS5
  have HR := Lib.hid (And.intro @hr (And.intro @hr0 (And.intro @hr1 (And.intro @hr2 (And.intro @hr3 (And.intro @hr4 (And.intro @hr5 (And.intro @hr6 (And.intro @hr7 (And.intro @hr8 (And.intro @hr9 (And.intro @har (And.intro @hbu (And.intro @hrz hrn))))))))))))))
  have HW := Lib.hid (And.intro @hw3 (And.intro @hw4 (And.intro @hfx @hbx)))
  clear hr hr0 hr1 hr2 hr3 hr4 hr5 hr6 hr7 hr8 hr9 har hbu hrz hrn hw3 hw4 hfx hbx
  have h0 := Mem.Own.nil w
  go_enter Try.func3, Try.ntmps3
  go_wp2
  have q1 := h0.box #[.int .i64 0, .int .i64 1, .int .i64 0, .int .i64 44, .int .i64 1, .int .i64 0, .int .i64 45, .int .i64 2, .int .i64 0, .int .i64 4096, .int .i64 94, .int .i64 0, .int .i64 4097, .int .i64 0, .int .i64 5, .int .i64 (-1), .int .i64 0, .int .i64 3] 23
  generalize (w.alloc (.cells #[.int .i64 0, .int .i64 1, .int .i64 0, .int .i64 44, .int .i64 1, .int .i64 0, .int .i64 45, .int .i64 2, .int .i64 0, .int .i64 4096, .int .i64 94, .int .i64 0, .int .i64 4097, .int .i64 0, .int .i64 5, .int .i64 (-1), .int .i64 0, .int .i64 3] 23)) = wT at q1 ⊢
  have HQ := Lib.hid q1
  clear q1 h0
  go_loopw [2] (fun i wr => ∃ k : Nat, k ≤ 6 ∧ i = .int .i64 k ∧ wr = wT) (fun i _ => 6 - (intOf i).toNat)
  case atStart => exact ⟨0, by omega, rfl, rfl⟩
  case round =>
    obtain ⟨k, hk6, rfl, hwr⟩ := hrel
    subst hwr
    have h7 : k = 0 ∨ k = 1 ∨ k = 2 ∨ k = 3 ∨ k = 4 ∨ k = 5 ∨ k = 6 := by omega
    clear hk6
    rcases h7 with rfl | rfl | rfl | rfl | rfl | rfl | rfl
    · have c0 : wr.cell? ⟨w.heap.size, 0, none⟩ = some (.int .i64 0) := cell_of_row _ _ _ _ _ _ (Mem.Own.boxed HQ.out 0 rfl)
      have c1 : wr.cell? ⟨w.heap.size, 1, none⟩ = some (.int .i64 1) := cell_of_row _ _ _ _ _ _ (Mem.Own.boxed HQ.out 0 rfl)
      have c2 : wr.cell? ⟨w.heap.size, 2, none⟩ = some (.int .i64 0) := cell_of_row _ _ _ _ _ _ (Mem.Own.boxed HQ.out 0 rfl)
      go_wp2_with (go_at_call 10; (with_reducible refine (px0 _).mono ?_); rintro e u7 ⟨rfl, rfl⟩)
      go_roundw
      case rel => exact ⟨1, by omega, rfl, trivial⟩
      case measure => simp [intOf]
    · have c0 : wr.cell? ⟨w.heap.size, 3, none⟩ = some (.int .i64 44) := cell_of_row _ _ _ _ _ _ (Mem.Own.boxed HQ.out 0 rfl)
      have c1 : wr.cell? ⟨w.heap.size, 4, none⟩ = some (.int .i64 1) := cell_of_row _ _ _ _ _ _ (Mem.Own.boxed HQ.out 0 rfl)
      have c2 : wr.cell? ⟨w.heap.size, 5, none⟩ = some (.int .i64 0) := cell_of_row _ _ _ _ _ _ (Mem.Own.boxed HQ.out 0 rfl)
      go_wp2_with (go_at_call 10; (with_reducible refine (px1 _).mono ?_); rintro e u7 ⟨rfl, rfl⟩)
      go_roundw
      case rel => exact ⟨2, by omega, rfl, trivial⟩
      case measure => simp [intOf]
    · have c0 : wr.cell? ⟨w.heap.size, 6, none⟩ = some (.int .i64 45) := cell_of_row _ _ _ _ _ _ (Mem.Own.boxed HQ.out 0 rfl)
      have c1 : wr.cell? ⟨w.heap.size, 7, none⟩ = some (.int .i64 2) := cell_of_row _ _ _ _ _ _ (Mem.Own.boxed HQ.out 0 rfl)
      have c2 : wr.cell? ⟨w.heap.size, 8, none⟩ = some (.int .i64 0) := cell_of_row _ _ _ _ _ _ (Mem.Own.boxed HQ.out 0 rfl)
      go_wp2_with (go_at_call 10; (with_reducible refine (px2 _).mono ?_); rintro e u7 ⟨rfl, rfl⟩)
      go_roundw
      case rel => exact ⟨3, by omega, rfl, trivial⟩
      case measure => simp [intOf]
    · have c0 : wr.cell? ⟨w.heap.size, 9, none⟩ = some (.int .i64 4096) := cell_of_row _ _ _ _ _ _ (Mem.Own.boxed HQ.out 0 rfl)
      have c1 : wr.cell? ⟨w.heap.size, 10, none⟩ = some (.int .i64 94) := cell_of_row _ _ _ _ _ _ (Mem.Own.boxed HQ.out 0 rfl)
      have c2 : wr.cell? ⟨w.heap.size, 11, none⟩ = some (.int .i64 0) := cell_of_row _ _ _ _ _ _ (Mem.Own.boxed HQ.out 0 rfl)
      go_wp2_with (go_at_call 10; (with_reducible refine (px3 _).mono ?_); rintro e u7 ⟨rfl, rfl⟩)
      go_roundw
      case rel => exact ⟨4, by omega, rfl, trivial⟩
      case measure => simp [intOf]
    · have c0 : wr.cell? ⟨w.heap.size, 12, none⟩ = some (.int .i64 4097) := cell_of_row _ _ _ _ _ _ (Mem.Own.boxed HQ.out 0 rfl)
      have c1 : wr.cell? ⟨w.heap.size, 13, none⟩ = some (.int .i64 0) := cell_of_row _ _ _ _ _ _ (Mem.Own.boxed HQ.out 0 rfl)
      have c2 : wr.cell? ⟨w.heap.size, 14, none⟩ = some (.int .i64 5) := cell_of_row _ _ _ _ _ _ (Mem.Own.boxed HQ.out 0 rfl)
      go_wp2_with (go_at_call 10; (with_reducible refine (px4 _).mono ?_); rintro e u7 ⟨rfl, rfl⟩)
      go_roundw
      case rel => exact ⟨5, by omega, rfl, trivial⟩
      case measure => simp [intOf]
    · have c0 : wr.cell? ⟨w.heap.size, 15, none⟩ = some (.int .i64 (-1)) := cell_of_row _ _ _ _ _ _ (Mem.Own.boxed HQ.out 0 rfl)
      have c1 : wr.cell? ⟨w.heap.size, 16, none⟩ = some (.int .i64 0) := cell_of_row _ _ _ _ _ _ (Mem.Own.boxed HQ.out 0 rfl)
      have c2 : wr.cell? ⟨w.heap.size, 17, none⟩ = some (.int .i64 3) := cell_of_row _ _ _ _ _ _ (Mem.Own.boxed HQ.out 0 rfl)
      go_wp2_with (go_at_call 10; (with_reducible refine (px5 _).mono ?_); rintro e u7 ⟨rfl, rfl⟩)
      go_roundw
      case rel => exact ⟨6, by omega, rfl, trivial⟩
      case measure => simp [intOf]
    · rw [show ((6 : Nat) : Int) = 6 from rfl]
      go_wp2_with (first
        | (go_at_call 11; (with_reducible refine (hnew _ _ HQ.out).mono ?_); rintro e u1 ⟨X, F, D, G, R, rfl, k1⟩)
        | (go_at_call 12; (with_reducible refine (hm1 _).mono ?_); rintro e u2 ⟨rfl, q⟩; have k2 := k1.later q; clear q k1)
        | (go_at_call 13; (with_reducible refine (hs1 _ _ k2).mono ?_); rintro e u3 ⟨g, cap, rfl, k3⟩; clear k2)
        | (go_at_call 13; (with_reducible refine (hs2 _).mono ?_); rintro e u4 ⟨ao4, cap4, rfl, q⟩; have k4 := k3.later q; clear q k3)
        | (go_at_call 12; (with_reducible refine (hm2 _).mono ?_); rintro e u5 ⟨rfl, q⟩; have k5 := k4.later q; clear q k4)
        | (go_at_call 13; (with_reducible refine (hs3 _).mono ?_); rintro e u6 ⟨ao6, cap6, rfl, q⟩; have k6 := k5.later q; clear q k5))
      obtain ⟨y1, x0, x1⟩ := HW.out.2.2.1 _ k6
      have hc3 := HW.out.1 k6.drew
      have HD := Lib.hid (HW.out.2.2.1 _ k6.drew)
      have HK6 := Lib.hid k6
      clear k6
      go_region_held3 (fun W => W.cell? ⟨X, 1, none⟩ = some (.pointer (some ⟨D, 0, none⟩)) ∧ W.cell? ⟨g, 0, none⟩ = some (.string Y0) ∧ W.cell? ⟨g, 1, none⟩ = some (.string Y1))
        (first | with_reducible assumption | with_reducible exact ⟨y1, x0, x1⟩ | with_reducible exact HD.out | with_reducible exact HW.out.2.2.1 _ k7 | with_reducible exact HW.out.2.2.1 _ k8)
        (first
          | (go_at_call 14; (with_reducible refine hc3.mono ?_); rintro e u7 ⟨rfl, k7⟩)
          | (go_at_call 14; (with_reducible refine (HW.out.2.1 k7).mono ?_); rintro e u8 ⟨rfl, k8⟩))
      have k9a : ∀ {LT : List As} {W : World}, Mem.Own w (secA (.slice (some ⟨g, 0, none⟩) 2 cap) 2 xX :: boxA X #[.pointer (some ⟨F, 0, none⟩), .pointer (some ⟨D, 0, none⟩), .pointer (some ⟨G, 0, none⟩), .pointer (some ⟨R, 0, none⟩)] 38 :: rk G R xs0 :: dk F D xs1 :: LT) W → W.cell? ⟨X, 1, none⟩ = some (.pointer (some ⟨D, 0, none⟩)) := fun h => (HW.out.2.2.1 _ h).1
      have y8 := k9a k8
      have hr9 := HR.out.1 k8
      have K8 := Lib.hid k8
      clear k8 k9a
      go_wp2_with (go_at_call 15; (with_reducible refine hr9.mono ?_); rintro e u9 ⟨rfl, k9⟩; have K9 := Lib.hid k9; clear k9)
      have q2 := (K9.out.alloc (.cells #[.int .i64 1, .int .i64 5, .int .i64 0, .int .i64 2, .int .u8 2, .string S5] 41)).box #[.int .i64 3, .int .i64 4, .int .i64 5, .int .i64 1, .int .i64 12, .int .i64 4, .int .i64 5, .int .i64 5, .int .i64 1, .int .i64 12, .int .i64 3, .int .i64 5, .int .i64 6, .int .i64 1, .int .i64 12, .int .i64 3, .int .i64 5, .int .i64 5, .int .i64 2, .int .i64 12, .int .i64 5, .int .i64 5, .int .i64 5, .int .i64 1, .int .i64 12, .int .i64 5, .int .i64 4, .int .i64 1, .int .i64 1, .int .i64 3, .int .i64 0, .int .i64 999, .int .i64 1, .int .i64 1, .int .i64 3, .int .i64 (-1), .int .i64 5, .int .i64 1, .int .i64 1, .int .i64 3, .int .i64 3, .int .i64 10, .int .i64 5, .int .i64 (-9), .int .i64 0, .int .i64 10, .int .i64 10, .int .i64 5, .int .i64 1, .int .i64 12] 44
      rw [World.size_alloc] at q2
      generalize ((u9.alloc (.cells #[.int .i64 1, .int .i64 5, .int .i64 0, .int .i64 2, .int .u8 2, .string S5] 41)).alloc (.cells #[.int .i64 3, .int .i64 4, .int .i64 5, .int .i64 1, .int .i64 12, .int .i64 4, .int .i64 5, .int .i64 5, .int .i64 1, .int .i64 12, .int .i64 3, .int .i64 5, .int .i64 6, .int .i64 1, .int .i64 12, .int .i64 3, .int .i64 5, .int .i64 5, .int .i64 2, .int .i64 12, .int .i64 5, .int .i64 5, .int .i64 5, .int .i64 1, .int .i64 12, .int .i64 5, .int .i64 4, .int .i64 1, .int .i64 1, .int .i64 3, .int .i64 0, .int .i64 999, .int .i64 1, .int .i64 1, .int .i64 3, .int .i64 (-1), .int .i64 5, .int .i64 1, .int .i64 1, .int .i64 3, .int .i64 3, .int .i64 10, .int .i64 5, .int .i64 (-9), .int .i64 0, .int .i64 10, .int .i64 10, .int .i64 5, .int .i64 1, .int .i64 12] 44)) = w2 at q2 ⊢
      have Q2 := Lib.hid q2
      clear q2 hr9
      go_loopw [15] (fun i wr => ∃ k : Nat, k ≤ 10 ∧ i = .int .i64 k ∧ Mem.Own w (boxA (u9.heap.size + 1) #[.int .i64 3, .int .i64 4, .int .i64 5, .int .i64 1, .int .i64 12, .int .i64 4, .int .i64 5, .int .i64 5, .int .i64 1, .int .i64 12, .int .i64 3, .int .i64 5, .int .i64 6, .int .i64 1, .int .i64 12, .int .i64 3, .int .i64 5, .int .i64 5, .int .i64 2, .int .i64 12, .int .i64 5, .int .i64 5, .int .i64 5, .int .i64 1, .int .i64 12, .int .i64 5, .int .i64 4, .int .i64 1, .int .i64 1, .int .i64 3, .int .i64 0, .int .i64 999, .int .i64 1, .int .i64 1, .int .i64 3, .int .i64 (-1), .int .i64 5, .int .i64 1, .int .i64 1, .int .i64 3, .int .i64 3, .int .i64 10, .int .i64 5, .int .i64 (-9), .int .i64 0, .int .i64 10, .int .i64 10, .int .i64 5, .int .i64 1, .int .i64 12] 44 :: secA (.slice (some ⟨g, 0, none⟩) 2 cap) 2 xX :: boxA X #[.pointer (some ⟨F, 0, none⟩), .pointer (some ⟨D, 0, none⟩), .pointer (some ⟨G, 0, none⟩), .pointer (some ⟨R, 0, none⟩)] 38 :: rk G R xs0 :: dk F D xs1 :: [boxA w.heap.size #[.int .i64 0, .int .i64 1, .int .i64 0, .int .i64 44, .int .i64 1, .int .i64 0, .int .i64 45, .int .i64 2, .int .i64 0, .int .i64 4096, .int .i64 94, .int .i64 0, .int .i64 4097, .int .i64 0, .int .i64 5, .int .i64 (-1), .int .i64 0, .int .i64 3] 23]) wr) (fun i _ => 10 - (intOf i).toNat)
      case atStart => exact ⟨0, by omega, rfl, Q2.out⟩
      case round =>
        obtain ⟨k, hk10, rfl, hp⟩ := hrel
        have HP := Lib.hid hp
        clear hp
        by_cases hlt : k < 10
        · obtain ⟨x0, x1, x2, x3, x4, f0, f1, f2, f3, f4, f5, hg, hr⟩ : ∃ (x0 x1 x2 x3 x4 f0 f1 f2 f3 f4 : Int) (f5 : ByteArray), (∀ (A1 : As) (M : List As) (W : World), Mem.Own w (boxA (u9.heap.size + 1) #[.int .i64 3, .int .i64 4, .int .i64 5, .int .i64 1, .int .i64 12, .int .i64 4, .int .i64 5, .int .i64 5, .int .i64 1, .int .i64 12, .int .i64 3, .int .i64 5, .int .i64 6, .int .i64 1, .int .i64 12, .int .i64 3, .int .i64 5, .int .i64 5, .int .i64 2, .int .i64 12, .int .i64 5, .int .i64 5, .int .i64 5, .int .i64 1, .int .i64 12, .int .i64 5, .int .i64 4, .int .i64 1, .int .i64 1, .int .i64 3, .int .i64 0, .int .i64 999, .int .i64 1, .int .i64 1, .int .i64 3, .int .i64 (-1), .int .i64 5, .int .i64 1, .int .i64 1, .int .i64 3, .int .i64 3, .int .i64 10, .int .i64 5, .int .i64 (-9), .int .i64 0, .int .i64 10, .int .i64 10, .int .i64 5, .int .i64 1, .int .i64 12] 44 :: A1 :: boxA X #[.pointer (some ⟨F, 0, none⟩), .pointer (some ⟨D, 0, none⟩), .pointer (some ⟨G, 0, none⟩), .pointer (some ⟨R, 0, none⟩)] 38 :: M) W → W.cell? ⟨X, 1, none⟩ = some (.pointer (some ⟨D, 0, none⟩)) ∧ W.cell? ⟨u9.heap.size + 1, k * 5, none⟩ = some (.int .i64 x0) ∧ W.cell? ⟨u9.heap.size + 1, k * 5 + 1, none⟩ = some (.int .i64 x1) ∧ W.cell? ⟨u9.heap.size + 1, k * 5 + 2, none⟩ = some (.int .i64 x2) ∧ W.cell? ⟨u9.heap.size + 1, k * 5 + 3, none⟩ = some (.int .i64 x3) ∧ W.cell? ⟨u9.heap.size + 1, k * 5 + 4, none⟩ = some (.int .i64 x4)) ∧
              (∀ (L : List As) (i : Nat) (F D : Nat) (W : World), L[i]? = some (dk F D xs1) → Mem.Own w L W → Calls Try.prog 15 #[.pointer (some ⟨D, 0, none⟩), .int .i64 x0, .int .i64 x1, .int .i64 x2, .int .i64 x3] W fun ed w' => ed = .returned (.tuple #[.agg #[.int .i64 f0, .int .i64 f1, .int .i64 f2, .int .i64 f3, .int .u8 f4, .string f5], .int .i64 x4]) ∧ Mem.Own w L w') := by
            have h11 : k = 0 ∨ k = 1 ∨ k = 2 ∨ k = 3 ∨ k = 4 ∨ k = 5 ∨ k = 6 ∨ k = 7 ∨ k = 8 ∨ k = 9 := by omega
            rcases h11 with rfl | rfl | rfl | rfl | rfl | rfl | rfl | rfl | rfl | rfl
            · refine ⟨3, 4, 5, 1, 12, 0, 0, 0, 0, 0, ⟨#[]⟩, fun A1 M W h => ?_, HR.out.2.1⟩
              have hb := Mem.Own.boxed h 0 rfl
              exact ⟨(HW.out.2.2.2 W h).2, cell_of_row _ _ _ _ _ _ hb, cell_of_row _ _ _ _ _ _ hb, cell_of_row _ _ _ _ _ _ hb, cell_of_row _ _ _ _ _ _ hb, cell_of_row _ _ _ _ _ _ hb⟩
            · refine ⟨4, 5, 5, 1, 12, 0, 0, 0, 0, 0, ⟨#[]⟩, fun A1 M W h => ?_, HR.out.2.2.1⟩
              have hb := Mem.Own.boxed h 0 rfl
              exact ⟨(HW.out.2.2.2 W h).2, cell_of_row _ _ _ _ _ _ hb, cell_of_row _ _ _ _ _ _ hb, cell_of_row _ _ _ _ _ _ hb, cell_of_row _ _ _ _ _ _ hb, cell_of_row _ _ _ _ _ _ hb⟩
            · refine ⟨3, 5, 6, 1, 12, 0, 0, 0, 0, 0, ⟨#[]⟩, fun A1 M W h => ?_, HR.out.2.2.2.1⟩
              have hb := Mem.Own.boxed h 0 rfl
              exact ⟨(HW.out.2.2.2 W h).2, cell_of_row _ _ _ _ _ _ hb, cell_of_row _ _ _ _ _ _ hb, cell_of_row _ _ _ _ _ _ hb, cell_of_row _ _ _ _ _ _ hb, cell_of_row _ _ _ _ _ _ hb⟩
            · refine ⟨3, 5, 5, 2, 12, 0, 0, 0, 0, 0, ⟨#[]⟩, fun A1 M W h => ?_, HR.out.2.2.2.2.1⟩
              have hb := Mem.Own.boxed h 0 rfl
              exact ⟨(HW.out.2.2.2 W h).2, cell_of_row _ _ _ _ _ _ hb, cell_of_row _ _ _ _ _ _ hb, cell_of_row _ _ _ _ _ _ hb, cell_of_row _ _ _ _ _ _ hb, cell_of_row _ _ _ _ _ _ hb⟩
            · refine ⟨5, 5, 5, 1, 12, 0, 0, 0, 0, 0, ⟨#[]⟩, fun A1 M W h => ?_, HR.out.2.2.2.2.2.1⟩
              have hb := Mem.Own.boxed h 0 rfl
              exact ⟨(HW.out.2.2.2 W h).2, cell_of_row _ _ _ _ _ _ hb, cell_of_row _ _ _ _ _ _ hb, cell_of_row _ _ _ _ _ _ hb, cell_of_row _ _ _ _ _ _ hb, cell_of_row _ _ _ _ _ _ hb⟩
            · refine ⟨5, 4, 1, 1, 3, 0, 0, 0, 0, 0, ⟨#[]⟩, fun A1 M W h => ?_, HR.out.2.2.2.2.2.2.1⟩
              have hb := Mem.Own.boxed h 0 rfl
              exact ⟨(HW.out.2.2.2 W h).2, cell_of_row _ _ _ _ _ _ hb, cell_of_row _ _ _ _ _ _ hb, cell_of_row _ _ _ _ _ _ hb, cell_of_row _ _ _ _ _ _ hb, cell_of_row _ _ _ _ _ _ hb⟩
            · refine ⟨0, 999, 1, 1, 3, 0, 0, 0, 0, 0, ⟨#[]⟩, fun A1 M W h => ?_, HR.out.2.2.2.2.2.2.2.1⟩
              have hb := Mem.Own.boxed h 0 rfl
              exact ⟨(HW.out.2.2.2 W h).2, cell_of_row _ _ _ _ _ _ hb, cell_of_row _ _ _ _ _ _ hb, cell_of_row _ _ _ _ _ _ hb, cell_of_row _ _ _ _ _ _ hb, cell_of_row _ _ _ _ _ _ hb⟩
            · refine ⟨(-1), 5, 1, 1, 3, 0, 0, 0, 0, 0, ⟨#[]⟩, fun A1 M W h => ?_, HR.out.2.2.2.2.2.2.2.2.1⟩
              have hb := Mem.Own.boxed h 0 rfl
              exact ⟨(HW.out.2.2.2 W h).2, cell_of_row _ _ _ _ _ _ hb, cell_of_row _ _ _ _ _ _ hb, cell_of_row _ _ _ _ _ _ hb, cell_of_row _ _ _ _ _ _ hb, cell_of_row _ _ _ _ _ _ hb⟩
            · refine ⟨3, 10, 5, (-9), 0, 1, 5, 0, 2, 2, S5, fun A1 M W h => ?_, HR.out.2.2.2.2.2.2.2.2.2.1⟩
              have hb := Mem.Own.boxed h 0 rfl
              exact ⟨(HW.out.2.2.2 W h).2, cell_of_row _ _ _ _ _ _ hb, cell_of_row _ _ _ _ _ _ hb, cell_of_row _ _ _ _ _ _ hb, cell_of_row _ _ _ _ _ _ hb, cell_of_row _ _ _ _ _ _ hb⟩
            · refine ⟨10, 10, 5, 1, 12, 0, 0, 0, 0, 0, ⟨#[]⟩, fun A1 M W h => ?_, HR.out.2.2.2.2.2.2.2.2.2.2.1⟩
              have hb := Mem.Own.boxed h 0 rfl
              exact ⟨(HW.out.2.2.2 W h).2, cell_of_row _ _ _ _ _ _ hb, cell_of_row _ _ _ _ _ _ hb, cell_of_row _ _ _ _ _ _ hb, cell_of_row _ _ _ _ _ _ hb, cell_of_row _ _ _ _ _ _ hb⟩
          have q1 := HP.out.box #[.int .i64 0, .int .i64 0, .int .i64 0, .int .i64 0, .int .u8 0, .string ⟨#[]⟩] 41
          have S0 := hg _ _ _ HP.out
          have S0' := hg _ _ _ HP.out.drew
          have S1 := hg _ _ _ q1.tail
          have S1' := hg _ _ _ q1.drew.tail
          have HG := Lib.hid hg
          clear hg
          have HQ1 := Lib.hid q1.drew
          clear q1
          have hrA := hr _ 5 _ _ _ rfl HQ1.out
          have hrB := hr _ 4 _ _ _ rfl HP.out.drew
          have HRA := Lib.hid hrA
          have HRB := Lib.hid hrB
          clear hrA hrB hr
          go_wp2
          go_region_held3 (fun W => W.cell? ⟨X, 1, none⟩ = some (.pointer (some ⟨D, 0, none⟩)) ∧ W.cell? ⟨u9.heap.size + 1, k * 5, none⟩ = some (.int .i64 x0) ∧ W.cell? ⟨u9.heap.size + 1, k * 5 + 1, none⟩ = some (.int .i64 x1) ∧ W.cell? ⟨u9.heap.size + 1, k * 5 + 2, none⟩ = some (.int .i64 x2) ∧ W.cell? ⟨u9.heap.size + 1, k * 5 + 3, none⟩ = some (.int .i64 x3) ∧ W.cell? ⟨u9.heap.size + 1, k * 5 + 4, none⟩ = some (.int .i64 x4))
            (first | with_reducible assumption)
            (first
              | (go_at_call 15; (with_reducible refine HRA.out.mono ?_); rintro e u10 ⟨rfl, k10⟩; have S2 := HG.out _ _ _ k10.tail; obtain ⟨⟨_, _, _, _, _, _⟩, fz⟩ := fblock (Mem.Own.boxed k10 0 rfl); have fz0 := fz 0; have fz1 := fz 1; have fz2 := fz 2; have fz3 := fz 3; have fz4 := fz 4; have fz5 := fz 5; clear fz; have k12 := Mem.Own.tail ((((((k10.boxset 0 rfl 0 (.int .i64 f0)).boxset 0 rfl 1 (.int .i64 f1)).boxset 0 rfl 2 (.int .i64 f2)).boxset 0 rfl 3 (.int .i64 f3)).boxset 0 rfl 4 (.int .u8 f4)).boxset 0 rfl 5 (.string f5)); have S4 := HG.out _ _ _ k12; have K12 := Lib.hid k12; clear k10 k12)
              | (go_at_call 15; (with_reducible refine HRB.out.mono ?_); rintro e u11 ⟨rfl, k11⟩; have S3 := HG.out _ _ _ k11; have T5 := HG.out _ _ _ (k11.later ((Kept.refl u11).alloc (.cells #[.int .i64 0, .int .i64 0, .int .i64 0, .int .i64 0, .int .u8 0, .string ⟨#[]⟩] 41))); have k13 := k11.later ((Kept.refl u11).alloc (.cells #[.int .i64 f0, .int .i64 f1, .int .i64 f2, .int .i64 f3, .int .u8 f4, .string f5] 41)); have T6 := HG.out _ _ _ k13; have K13 := Lib.hid k13; clear k11 k13))
          all_goals (
            go_wp2
            go_roundw
            case rel => first | exact ⟨k + 1, by omega, by go_num, K12.out⟩ | exact ⟨k + 1, by omega, by go_num, K13.out⟩
            case measure => simp [intOf]; omega)
        · obtain rfl : k = 10 := by omega
          rw [show ((10 : Nat) : Int) = 10 from rfl]
          obtain ⟨y0, y1⟩ := HW.out.2.2.2 _ HP.out
          clear hlt
          go_wp2_with (first
            | (go_at_call 15; first | ((with_reducible refine (HR.out.2.2.2.2.2.2.2.2.2.2.2.2.2.2 _).mono ?_); rintro e u20 ⟨rfl, q20⟩; have P20 := Lib.hid (HP.out.later q20); clear q20; obtain ⟨_, _⟩ := HW.out.2.2.2 _ P20.out) | ((with_reducible refine (HR.out.2.2.2.2.2.2.2.2.2.2.2.2.2.1 P22.out).mono ?_); rintro e u23 ⟨rfl, q23⟩; have P23 := Lib.hid q23; clear q23))
            | (go_at_call 16; (with_reducible refine (HR.out.2.2.2.2.2.2.2.2.2.2.2.1 P20.out).mono ?_); rintro e u21 ⟨rfl, q21⟩; have P21 := Lib.hid q21; clear q21; obtain ⟨_, _⟩ := HW.out.2.2.2 _ P21.out)
            | (go_at_call 17; (with_reducible refine (HR.out.2.2.2.2.2.2.2.2.2.2.2.2.1 P21.out).mono ?_); rintro e u22 ⟨rfl, q22⟩; have P22 := Lib.hid q22; clear q22; obtain ⟨_, _⟩ := HW.out.2.2.2 _ P22.out))
          go_ret
          exact ⟨rfl, P23.out.kept⟩
end Go.Proofs.Ytmmlgnoicecgfaa.Rc
