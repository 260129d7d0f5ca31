/- Single operations, run. -/
import Derived.Test.YtlheilpaafjeiaaPAluBase
import Derived.Test.YtlheilpaafjeiaaPInv
import Derived.Laws.BitsAllLaws
namespace Go.Proofs.Ytlheilpaafjeiaa
open Go.ChangeShapes Go.WideShapes Go.ChangeAt Go.RowKit
set_option linter.unusedVariables false
/-- A block with these cells. -/
def Blk (w : World) (n : Nat) (cs : Array Value) (T : TypeId) : Prop := w.heap[n]? = some (.cells cs T (0, 0))
theorem Blk.lt {w : World} {n : Nat} {cs : Array Value} {T : TypeId} (h : Blk w n cs T) : n < w.heap.size := (Array.getElem?_eq_some_iff.1 h).1
theorem Blk.cell {w : World} {n : Nat} {cs : Array Value} {T : TypeId} (h : Blk w n cs T) {j : Nat} {v : Value} (hj : cs[j]? = some v) : w.cell? ⟨n, j, none⟩ = some v := (cell_of_row _ _ _ _ _ _ h).trans hj
theorem Blk.later {w w' : World} {n : Nat} {cs : Array Value} {T : TypeId} (h : Blk w n cs T) (hb : Below w.heap.size w w') : Blk w' n cs T := (hb.block n h.lt).trans h
theorem Blk.new (w : World) (cs : Array Value) (T : TypeId) : Blk (w.alloc (.cells cs T)) w.heap.size cs T := heap_alloc_new w _
section
variable {ρ : Operand → Value} {o : Oper}
theorem exec_move {x : Operand} {u : Value} (hop : o.op = .move x) (hx : ρ x = u) (w : World) : (execOp ρ o).run Try.prog w = .ok (.value u) w := by
  unfold execOp
  rw [hop]
  simp [hx, go_sem]
theorem exec_load {x : Operand} {a : Addr} {v : Value} (t : TypeId) (hop : o.op = .load t x) (hx : ρ x = .pointer (some a)) (w : World) (hv : (loadVar t a).run Try.prog w = .ok v w) : (execOp ρ o).run Try.prog w = .ok (.value v) w := by
  unfold execOp
  rw [hop]
  simp only [hx, Instr.loadAt, Instr.sureAddr, Sem.run_bind, Sem.run_pure, Result.andThen_ok, hv]
theorem exec_eql {x y : Operand} {k : IntKind} {n : Int} (t : TypeId) (hop : o.op = .binOp .eql t x y t) (ht : Try.prog.underlying t = some (.int k)) (hx : ρ x = .int k n) (hy : ρ y = .int k n) (w : World) : (execOp ρ o).run Try.prog w = .ok (.value (.bool true)) w := by
  unfold execOp
  rw [hop]
  simp [hx, hy, go_sem]
theorem exec_eqlB {x y : Operand} {b : Bool} (hop : o.op = .binOp .eql 4 x y 4) (hx : ρ x = .bool b) (hy : ρ y = .bool b) (w : World) : (execOp ρ o).run Try.prog w = .ok (.value (.bool true)) w := by
  unfold execOp
  rw [hop]
  cases b <;> simp [hx, hy, go_sem]
theorem load24 {w : World} {g : Nat} {op S T D A m : Int} (hg : Blk w g (insC op S T D A m) 24) : (loadVar 24 ⟨g, 0, none⟩).run Try.prog w = .ok (.agg (insC op S T D A m)) w :=
  run_loadVar_row w g 24 24 _ _ _ hg Try.underlying24 rfl (by kernel_rfl)
theorem load3 {w : World} {a : Addr} {v : Value} (hc : w.cell? a = some v) : (loadVar 3 a).run Try.prog w = .ok v w := by
  simp [loadVar, isAgg, Sem.run_bind, run_underlying Try.underlying3, hc, go_sem]
end
/-- An instruction's cells in memory. -/
theorem insF {w : World} {g : Nat} {op S T D A m : Int} (h : Blk w g (insC op S T D A m) 24) : w.cell? ⟨g, 0, none⟩ = some (.int .i64 op) ∧ w.cell? ⟨g, 1, none⟩ = some (.int .i64 S) ∧ w.cell? ⟨g, 2, none⟩ = some (.int .i64 T) ∧ w.cell? ⟨g, 3, none⟩ = some (.int .i64 D) ∧ w.cell? ⟨g, 4, none⟩ = some (.int .i64 A) ∧ w.cell? ⟨g, 5, none⟩ = some (.int .u32 m) :=
  ⟨h.cell rfl, h.cell rfl, h.cell rfl, h.cell rfl, h.cell rfl, h.cell rfl⟩
theorem insH {w : World} {g : Nat} {op S T D A m : Int} (h : Blk w g (insC op S T D A m) 24) : w.heap[g]? = some (.cells (insC op S T D A m) 24 (0, 0)) := h
end Go.Proofs.Ytlheilpaafjeiaa
