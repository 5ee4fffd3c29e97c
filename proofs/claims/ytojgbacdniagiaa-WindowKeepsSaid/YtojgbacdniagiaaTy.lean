import Derived.Test.YtojgbacdniagiaaTi
import Derived.Test.YtojgbacdniagiaaUq
namespace Go.Proofs.Ytojgbacdniagiaa.Wi
open Go.RowKit Go.Proofs.Ytojgbacdniagiaa.Mem Go.Proofs.Ytojgbacdniagiaa.Bx Go.Proofs.Ytojgbacdniagiaa.In Go.ChangeShapes Go.WideShapes Go.ChangeAt
theorem bin_yields {ρ : Operand → Value} {o : Oper} {op : BinOp} {T T2 : TypeId} {x y : Operand} {a b : Int} {v : Value} {w : World} (hop : o.op = .binOp op T x y T2) (hx : ρ x = .int .i64 a) (hy : ρ y = .int .i64 b) (h : (binOp op T (.int .i64 a) (.int .i64 b)).run Try.prog w = .ok v w) : (execOp ρ o).run Try.prog w = .ok (.value v) w := by
  unfold execOp
  rw [hop]
  simp [hx, hy, h, eqGuard, go_sem]
theorem b_gtr (a b : Int) (q : Bool) (h : decide (b < a) = q) (w : World) : (binOp .gtr 3 (.int .i64 a) (.int .i64 b)).run Try.prog w = .ok (.bool q) w := by
  subst h
  simp [go_sem]
theorem b_eql (a b : Int) (q : Bool) (h : (a == b) = q) (w : World) : (binOp .eql 3 (.int .i64 a) (.int .i64 b)).run Try.prog w = .ok (.bool q) w := by
  subst h
  simp [go_sem]
theorem b_neq (a b : Int) (q : Bool) (h : (a != b) = q) (w : World) : (binOp .neq 3 (.int .i64 a) (.int .i64 b)).run Try.prog w = .ok (.bool q) w := by
  subst h
  simp [go_sem]
theorem b_sub (a b c : Int) (h : IntKind.i64.wrap (a - b) = c) (w : World) : (binOp .sub 3 (.int .i64 a) (.int .i64 b)).run Try.prog w = .ok (.int .i64 c) w := by
  subst h
  simp [go_sem]
theorem index_yields {ρ : Operand → Value} {o : Oper} {x y : Operand} {g f n c j : Nat} {w : World} (hop : o.op = .indexAddr 22 x y) (hx : ρ x = .slice (some ⟨g, f, none⟩) n c) (hy : ρ y = .int .i64 (j : Int)) (hj : j < n) : (execOp ρ o).run Try.prog w = .ok (.value (.pointer (some ⟨g, f + j, none⟩))) w := by
  unfold execOp
  rw [hop]
  simp [go_sem, hx, hy, hj]
theorem slicel_yields {ρ : Operand → Value} {o : Oper} {x y : Operand} {bo : Option Addr} {n c m : Nat} {v : Value} {w : World} (hop : o.op = .slice 22 x (some y) none none) (hx : ρ x = .slice bo n c) (hy : ρ y = .int .i64 (m : Int)) (h : (Instr.slice 22 (.slice bo n c) (some (.int .i64 (m : Int))) none none).run Try.prog w = .ok v w) : (execOp ρ o).run Try.prog w = .ok (.value v) w := by
  have h2 : (Instr.sliceAt 22 (.slice bo n c) (some (.int .i64 (m : Int))) none none).run Try.prog w = .ok v w := by
    rw [← h]
    simp [go_sem, Instr.sliceAt, Try.underlying22]
  unfold execOp
  rw [hop]
  simp only [Option.map_none, Option.map_some, hx, hy, Sem.run_bind, Sem.run_pure, h2, Result.andThen_ok]
end Go.Proofs.Ytojgbacdniagiaa.Wi
