/- Single operations, run. -/
import Derived.Test.YtpknppicamefgaaPEPlain
namespace Go.Proofs.Ytpknppicamefgaa
open Go.ChangeShapes Go.WideShapes Go.ChangeAt Go.RowKit
set_option linter.unusedVariables false
section
variable {ρ : Operand → Value} {o : Oper}
theorem exec_str {x : Operand} {ao : Option Addr} {c : Nat} (l : List UInt8) (hop : o.op = .convert 51 9 x) (hx : ρ x = .slice ao l.length c) (w : World) (h : Lies w ao l) : (execOp ρ o).run Try.prog w = .ok (.value (.string ⟨l.toArray⟩)) w := by
  unfold execOp
  rw [hop]
  simp only [hx, Sem.run_bind, Sem.run_pure, Result.andThen_ok, run_str w ao l c h]
theorem load23 {w : World} {a : Addr} {v : Value} (hc : w.cell? a = some v) : (loadVar 22 a).run Try.prog w = .ok v w := by
  simp [loadVar, isAgg, Sem.run_bind, run_underlying Try.underlying22, hc, go_sem]
theorem exec_quo {x : Operand} {n : Nat} (hop : o.op = .binOp .quo 22 x (.const (.int .u32 256)) 22) (hx : ρ x = .int .u32 (n : Int) ∧ ρ (.const (.int .u32 256)) = .int .u32 256) (hn : n < 4294967296) (w : World) : (execOp ρ o).run Try.prog w = .ok (.value (.int .u32 ((n / 256 : Nat) : Int))) w := by
  unfold execOp
  rw [hop]
  simp [hx.1, hx.2, go_sem]
  rw [IntKind.wrap_u32]
  omega
theorem exec_leq {x y : Operand} {a b : Nat} (hop : o.op = .binOp .leq 22 x y 22) (hx : ρ x = .int .u32 (a : Int)) (hy : ρ y = .int .u32 (b : Int)) (w : World) : (execOp ρ o).run Try.prog w = .ok (.value (.bool (decide (a ≤ b)))) w := by
  unfold execOp
  rw [hop]
  simp [hx, hy, go_sem]
theorem size43 : (Try.prog.info? 44).map (·.size) = some 4 := by kernel_rfl
theorem load43 {w : World} {g : Nat} {c0 c1 c2 c3 : Value} (hg : w.heap[g]? = some (.cells #[c0, c1, c2, c3] 44 (0, 0))) : (loadVar 44 ⟨g, 0, none⟩).run Try.prog w = .ok (.agg #[c0, c1, c2, c3]) w :=
  run_loadVar_row w g 44 44 _ _ _ hg Try.underlying44 rfl size43
end
end Go.Proofs.Ytpknppicamefgaa
