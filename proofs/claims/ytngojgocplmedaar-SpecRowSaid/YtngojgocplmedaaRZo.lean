/-
  Single operations of a drawn region by hand: cuts of slices, the smaller of two, loads and stores of one cell.
-/
import Derived.Test.YtngojgocplmedaaRZn
import Derived.Test.YtngojgocplmedaaRUq
namespace Go.Proofs.YtngojgocplmedaaR.Ls
open Go.RowKit Go.Proofs.YtngojgocplmedaaR.Mem Go.Proofs.YtngojgocplmedaaR.Bx Go.Proofs.YtngojgocplmedaaR.In Go.Proofs.YtngojgocplmedaaR.Sp Go.ChangeShapes Go.WideShapes Go.ChangeAt
set_option linter.unusedVariables false

theorem op_cut {ρ : Operand → Value} {o : Oper} {x y : Operand} {S : TypeId} {ao : Option Addr} {n c : Nat} {z r : Value} {w : World} (hop : o.op = .slice S x none (some y) none) (hx : ρ x = .slice ao n c) (hy : ρ y = z) (e : (Instr.slice S (.slice ao n c) none (some z) none).run Try.prog w = .ok r w) {t : TypeId} (hu : Try.prog.underlying S = some (.slice t)) : (execOp ρ o).run Try.prog w = .ok (.value r) w := by
  unfold execOp
  rw [hop]
  simp only [hx, hy, Option.map]
  unfold Instr.sliceAt
  simp [run_underlying hu, e, Result.andThen]
theorem op_len {ρ : Operand → Value} {o : Oper} {x : Operand} {S : TypeId} {ao : Option Addr} {n c : Nat} {w : World} (hop : o.op = .call { callee := .builtin .len, args := #[x], argTypes := #[S] }) (hx : ρ x = .slice ao n c) {t : TypeId} (hu : Try.prog.underlying S = some (.slice t)) : (execOp ρ o).run Try.prog w = .ok (.value (.int .i64 (n : Int))) w := by
  unfold execOp
  rw [hop]
  simp [go_sem, resolve, invoke, builtin, hx, run_underlying hu, Result.andThen, Builtin.len_]
theorem op_min {ρ : Operand → Value} {o : Oper} {x y : Operand} {ts : Array TypeId} {a b m : Int} {w : World} (hop : o.op = .call { callee := .builtin .min, args := #[x, y], argTypes := ts }) (hx : ρ x = .int .i64 a) (hy : ρ y = .int .i64 b) (e : min a b = m) : (execOp ρ o).run Try.prog w = .ok (.value (.int .i64 m)) w := by
  unfold execOp
  rw [hop]
  have e2 : (if b < a then b else a) = m := by rw [← e]; split <;> omega
  simp [go_sem, resolve, invoke, builtin, hx, hy, Result.andThen, e2]
theorem op_load {ρ : Operand → Value} {o : Oper} {x : Operand} {ty : TypeId} {ad : Addr} {v : Value} {w : World} (hop : o.op = .load ty x) (hx : ρ x = .pointer (some ad)) (hc : w.cell? ad = some v) (hu : ∀ W, (isAgg ty).run Try.prog W = .ok false W) : (execOp ρ o).run Try.prog w = .ok (.value v) w := by
  unfold execOp
  rw [hop]
  simp [go_sem, hx, hc, hu, Result.andThen]
theorem op_store {ρ : Operand → Value} {o : Oper} {x y : Operand} {ty : TypeId} {ad : Addr} {ao : Option Addr} {n cp : Nat} {c : Value} {w : World} (hop : o.op = .store ty x y) (hx : ρ x = .pointer (some ad)) (hy : ρ y = .slice ao n cp) (hc : w.cell? ad = some c) (hf : w.frozen? ad = false) (hu : ∀ W, (sizeOf ty).run Try.prog W = .ok 1 W) : (execOp ρ o).run Try.prog w = .ok .skip (w.setCell ad (.slice ao n cp)) := by
  unfold execOp
  rw [hop]
  simp [go_sem, hx, hy, hc, hf, hu, Result.andThen]
end Go.Proofs.YtngojgocplmedaaR.Ls
