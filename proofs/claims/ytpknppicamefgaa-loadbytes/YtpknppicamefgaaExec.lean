/- Single operations, run. -/
import Derived.Test.YtpknppicamefgaaCopies
import Derived.Test.YtpknppicamefgaaInv
namespace Go.Proofs.Ytpknppicamefgaa
open Go.ChangeShapes Go.WideShapes Go.ChangeAt Go.RowKit
set_option linter.unusedVariables false
section
variable {ρ : Operand → Value} {o : Oper}
theorem exec_move {x : Operand} {u : Value} (hop : o.op = .move x) (hx : ρ x = u) (w : World) : (execOp ρ o).run Try.prog w = .ok (.value u) w := by
  unfold execOp
  rw [hop]
  simp [hx, go_sem]
theorem exec_load {x : Operand} {a : Addr} {v : Value} (t : TypeId) (hop : o.op = .load t x) (hx : ρ x = .pointer (some a)) (w : World) (hv : (loadVar t a).run Try.prog w = .ok v w) : (execOp ρ o).run Try.prog w = .ok (.value v) w := by
  unfold execOp
  rw [hop]
  simp only [hx, Instr.loadAt, Instr.sureAddr, Sem.run_bind, Sem.run_pure, Result.andThen_ok, hv]
theorem load3 {w : World} {a : Addr} {v : Value} (hc : w.cell? a = some v) : (loadVar 3 a).run Try.prog w = .ok v w := by
  simp [loadVar, isAgg, Sem.run_bind, run_underlying Try.underlying3, hc, go_sem]
theorem load5 {w : World} {a : Addr} {v : Value} (hc : w.cell? a = some v) : (loadVar 5 a).run Try.prog w = .ok v w := by
  simp [loadVar, isAgg, Sem.run_bind, run_underlying Try.underlying5, hc, go_sem]
theorem exec_build {parts : Array (Nat × Operand)} {ps : Array (Nat × Value)} {v : Value} (t : TypeId) (hop : o.op = .build t parts) (hp : (parts.map fun (i, x) => (i, ρ x)) = ps) (w : World) (hr : (Instr.build t ps).run Try.prog w = .ok v w) : (execOp ρ o).run Try.prog w = .ok (.value v) w := by
  unfold execOp
  simp only [hop, hp, Sem.run_bind, Sem.run_pure, Result.andThen_ok, hr]
theorem exec_box {x : Operand} {c : Array Value} (t : TypeId) (hop : o.op = .box t x) (hx : ρ x = .agg c) (w : World) : (execOp ρ o).run Try.prog w = .ok (.value (.pointer (some ⟨w.heap.size, 0, none⟩))) (w.alloc (.cells c t)) := by
  unfold execOp
  rw [hop]
  simp [hx, Instr.box, newVar, Value.cells, go_sem]
theorem exec_neq {x y : Operand} {k : IntKind} {n : Int} (t : TypeId) (hop : o.op = .binOp .neq t x y t) (ht : Try.prog.underlying t = some (.int k)) (hx : ρ x = .int k n) (hy : ρ y = .int k n) (w : World) : (execOp ρ o).run Try.prog w = .ok (.value (.bool false)) w := by
  unfold execOp
  rw [hop]
  simp [hx, hy, go_sem]
theorem exec_eql {x y : Operand} {k : IntKind} {n : Int} (t : TypeId) (hop : o.op = .binOp .eql t x y t) (ht : Try.prog.underlying t = some (.int k)) (hx : ρ x = .int k n) (hy : ρ y = .int k n) (w : World) : (execOp ρ o).run Try.prog w = .ok (.value (.bool true)) w := by
  unfold execOp
  rw [hop]
  simp [hx, hy, go_sem]
end
end Go.Proofs.Ytpknppicamefgaa
