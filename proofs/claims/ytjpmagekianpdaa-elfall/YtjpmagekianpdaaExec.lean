/- Single operations, run. -/
import Derived.Test.YtjpmagekianpdaaWord4
import Derived.Test.YtjpmagekianpdaaPlain
import Derived.Test.YtjpmagekianpdaaInv
namespace Go.Proofs.Ytjpmagekianpdaa
open Go.ChangeShapes Go.WideShapes Go.ChangeAt Go.RowKit
set_option linter.unusedVariables false
section
variable {ρ : Operand → Value} {o : Oper}
theorem exec_move {x : Operand} {u : Value} (hop : o.op = .move x) (hx : ρ x = u) (w : World) : (execOp ρ o).run Try.prog w = .ok (.value u) w := by
  unfold execOp
  rw [hop]
  simp [hx, go_sem]
theorem exec_load {x : Operand} {a : Addr} {v : Value} (t : TypeId) (hop : o.op = .load t x) (hx : ρ x = .pointer (some a)) (w : World) (hv : (loadVar t a).run Try.prog w = .ok v w) : (execOp ρ o).run Try.prog w = .ok (.value v) w := by
  unfold execOp
  rw [hop]
  simp only [hx, Instr.loadAt, Instr.sureAddr, Sem.run_bind, Sem.run_pure, Result.andThen_ok, hv]
theorem load3 {w : World} {a : Addr} {v : Value} (hc : w.cell? a = some v) : (loadVar 3 a).run Try.prog w = .ok v w := by
  simp [loadVar, isAgg, Sem.run_bind, run_underlying Try.underlying3, hc, go_sem]
theorem load5 {w : World} {a : Addr} {v : Value} (hc : w.cell? a = some v) : (loadVar 5 a).run Try.prog w = .ok v w := by
  simp [loadVar, isAgg, Sem.run_bind, run_underlying Try.underlying5, hc, go_sem]
theorem exec_build {parts : Array (Nat × Operand)} {ps : Array (Nat × Value)} {v : Value} (t : TypeId) (hop : o.op = .build t parts) (hp : (parts.map fun (i, x) => (i, ρ x)) = ps) (w : World) (hr : (Instr.build t ps).run Try.prog w = .ok v w) : (execOp ρ o).run Try.prog w = .ok (.value v) w := by
  unfold execOp
  simp only [hop, hp, Sem.run_bind, Sem.run_pure, Result.andThen_ok, hr]
theorem exec_box {x : Operand} {c : Array Value} (t : TypeId) (hop : o.op = .box t x) (hx : ρ x = .agg c) (w : World) : (execOp ρ o).run Try.prog w = .ok (.value (.pointer (some ⟨w.heap.size, 0, none⟩))) (w.alloc (.cells c t)) := by
  unfold execOp
  rw [hop]
  simp [hx, Instr.box, newVar, Value.cells, go_sem]
theorem exec_neq {x y : Operand} {k : IntKind} {n : Int} (t : TypeId) (hop : o.op = .binOp .neq t x y t) (ht : Try.prog.underlying t = some (.int k)) (hx : ρ x = .int k n) (hy : ρ y = .int k n) (w : World) : (execOp ρ o).run Try.prog w = .ok (.value (.bool false)) w := by
  unfold execOp
  rw [hop]
  simp [hx, hy, go_sem]
theorem exec_eql {x y : Operand} {k : IntKind} {n : Int} (t : TypeId) (hop : o.op = .binOp .eql t x y t) (ht : Try.prog.underlying t = some (.int k)) (hx : ρ x = .int k n) (hy : ρ y = .int k n) (w : World) : (execOp ρ o).run Try.prog w = .ok (.value (.bool true)) w := by
  unfold execOp
  rw [hop]
  simp [hx, hy, go_sem]
theorem exec_str {x : Operand} {ao : Option Addr} {c : Nat} (l : List UInt8) (hop : o.op = .convert 22 9 x) (hx : ρ x = .slice ao l.length c) (w : World) (h : Lies w ao l) : (execOp ρ o).run Try.prog w = .ok (.value (.string ⟨l.toArray⟩)) w := by
  unfold execOp
  rw [hop]
  simp only [hx, Sem.run_bind, Sem.run_pure, Result.andThen_ok, run_str w ao l c h]
theorem load23 {w : World} {a : Addr} {v : Value} (hc : w.cell? a = some v) : (loadVar 23 a).run Try.prog w = .ok v w := by
  simp [loadVar, isAgg, Sem.run_bind, run_underlying Try.underlying23, hc, go_sem]
theorem exec_quo {x : Operand} {n : Nat} (hop : o.op = .binOp .quo 23 x (.const (.int .u32 256)) 23) (hx : ρ x = .int .u32 (n : Int) ∧ ρ (.const (.int .u32 256)) = .int .u32 256) (hn : n < 4294967296) (w : World) : (execOp ρ o).run Try.prog w = .ok (.value (.int .u32 ((n / 256 : Nat) : Int))) w := by
  unfold execOp
  rw [hop]
  simp [hx.1, hx.2, go_sem]
  rw [IntKind.wrap_u32]
  omega
theorem exec_leq {x y : Operand} {a b : Nat} (hop : o.op = .binOp .leq 23 x y 23) (hx : ρ x = .int .u32 (a : Int)) (hy : ρ y = .int .u32 (b : Int)) (w : World) : (execOp ρ o).run Try.prog w = .ok (.value (.bool (decide (a ≤ b)))) w := by
  unfold execOp
  rw [hop]
  simp [hx, hy, go_sem]
theorem size43 : (Try.prog.info? 43).map (·.size) = some 4 := by kernel_rfl
theorem load43 {w : World} {g : Nat} {c0 c1 c2 c3 : Value} (hg : w.heap[g]? = some (.cells #[c0, c1, c2, c3] 43 (0, 0))) : (loadVar 43 ⟨g, 0, none⟩).run Try.prog w = .ok (.agg #[c0, c1, c2, c3]) w :=
  run_loadVar_row w g 43 43 _ _ _ hg Try.underlying43 rfl size43
end
end Go.Proofs.Ytjpmagekianpdaa
