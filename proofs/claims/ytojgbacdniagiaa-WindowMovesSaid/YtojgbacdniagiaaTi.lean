/-
  Layer 12: what the calls of package window hand back at valid starts (Num, Boo, Lis).
-/
import Derived.Test.YtojgbacdniagiaaTe
namespace Go.Proofs.Ytojgbacdniagiaa.Wi
open Go.RowKit Go.Proofs.Ytojgbacdniagiaa.Mem Go.Proofs.Ytojgbacdniagiaa.Bx Go.Proofs.Ytojgbacdniagiaa.In Go.ChangeShapes Go.WideShapes Go.ChangeAt
set_option linter.unusedVariables false

/-- A call that hands back a number and no error. -/
abbrev Num (f : FuncId) (l : List Int) (v t : Int) (C : Int) : Prop := ∀ {u : World} {bo : Option Addr} {n c : Nat}, At u bo n c l → Calls Try.prog f #[.slice bo n c, .int .i64 v, .int .i64 t] u fun e w' => e = .returned (.tuple #[.int .i64 C, .int .i64 0]) ∧ Kept u w'
abbrev Boo (f : FuncId) (l : List Int) (v t : Int) (q : Bool) : Prop := ∀ {u : World} {bo : Option Addr} {n c : Nat}, At u bo n c l → Calls Try.prog f #[.slice bo n c, .int .i64 v, .int .i64 t] u fun e w' => e = .returned (.tuple #[.bool q, .int .i64 0]) ∧ Kept u w'
abbrev Lis (f : FuncId) (l : List Int) (v t : Int) (K : List Int) (s : Nat) : Prop := ∀ {u : World} {bo : Option Addr} {n c : Nat}, At u bo n c l → n ≤ 10000 → Calls Try.prog f #[.slice bo n c, .int .i64 v, .int .i64 t] u fun e w' => ∃ ro d, e = .returned (.tuple #[.slice ro s d, .int .i64 0]) ∧ At w' ro s d K ∧ Kept u w'
theorem num_ok {l : List Int} {v t : Int} (hg : Good l) (h1 : 1 ≤ v) (h2 : v ≤ 1000) (h3 : 0 ≤ t) (h4 : t ≤ 200000) : Num 10 l v t (cnt l v t : Int) := fun h => by
  have e := errT_ok hg h1 (by omega) h3 (by omega)
  have := count_c h v t
  rwa [countV_ok e, e] at this
theorem boo_ok {l : List Int} {v m : Int} (hg : Good l) (h1 : 1 ≤ v) (h2 : v ≤ 1000) (h3 : 0 ≤ m) : Boo 14 l v m (decide (Within l v m.toNat)) := fun h => by
  have e := errM_ok hg h1 (by omega) h3
  have := within_c h v m
  rwa [withinV_ok e, e] at this
theorem lis_ok {l : List Int} {v t : Int} (hg : Good l) (h1 : 1 ≤ v) (h2 : v ≤ 1000) (h3 : 0 ≤ t) (h4 : t ≤ 200000) {K : List Int} (hK : keep v t l = K) : Lis 12 l v t K K.length := fun h hn => by
  have e := errT_ok hg h1 (by omega) h3 (by omega)
  have := keep_c h hn v t
  rw [keepV_ok e, e, hK] at this
  refine this.mono fun e w' ⟨bo, m, c, he, hn, hk⟩ => ?_
  have hl := hn.len
  subst hl
  exact ⟨bo, c, he, hn.at, hk⟩
def three (a b c : Int) (j : Nat) : Int := if j = 0 then a else if j = 1 then b else c
theorem three_index (a b c : Int) (j : Nat) (h : j < 3) (w : World) : (Instr.index 37 (.agg #[.int .i64 a, .int .i64 b, .int .i64 c]) (.int .i64 (j : Int))).run Try.prog w = .ok (.int .i64 (three a b c j)) w := by
  match j, h with
  | 0, _ => rfl
  | 1, _ => rfl
  | 2, _ => rfl
end Go.Proofs.Ytojgbacdniagiaa.Wi
