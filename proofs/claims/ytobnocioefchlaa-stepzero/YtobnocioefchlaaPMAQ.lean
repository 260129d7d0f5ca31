/- Instructions as values, blocks of memory that are made on the way, and what layer 9 answers as plain functions. -/
import Derived.Test.YtobnocioefchlaaPMAN
import Derived.Test.YtobnocioefchlaaPMAP
import Derived.Test.YtobnocioefchlaaPMAC
import Derived.Laws.BitsAllLaws
namespace Go.Proofs.Ytobnocioefchlaa
open Go.ChangeShapes Go.WideShapes Go.ChangeAt Go.RowKit
set_option linter.unusedVariables false
def lt32 (s t : Int) : Bool := decide (sg s < sg t)
def oneI (b : Bool) : Int := match b with
  | true => 1
  | false => 0
theorem oneI_range (b : Bool) : 0 ≤ oneI b ∧ oneI b < 4294967296 := by cases b <;> decide
theorem below_any (s t : Int) (h1 : 0 ≤ s) (h2 : s < 4294967296) (h3 : 0 ≤ t) (h4 : t < 4294967296) (w : World) :
    Calls Try.prog 73 #[.int .u32 s, .int .u32 t] w fun e w' => e = .returned (.bool (lt32 s t)) ∧ w' = w := by
  have ha := wrap32_sg h1 h2
  have hb := wrap32_sg h3 h4
  go_enter Try.func73, Try.ntmps73
  go_wp2
  go_ret
  exact ⟨ret_bool rfl, rfl⟩
theorem oneIf_any (b : Bool) (w : World) : Calls Try.prog 81 #[.bool b] w fun e w' => e = .returned (.int .u32 (oneI b)) ∧ w' = w := by
  cases b
  · go_enter Try.func81, Try.ntmps81
    go_wp2
    go_ret
    exact ⟨rfl, rfl⟩
  · go_enter Try.func81, Try.ntmps81
    go_wp2
    go_ret
    exact ⟨rfl, rfl⟩
end Go.Proofs.Ytobnocioefchlaa
namespace Go.Proofs.Ytobnocioefchlaa
open Go.ChangeShapes Go.WideShapes Go.ChangeAt Go.RowKit
set_option linter.unusedVariables false
section
variable {ρ : Operand → Value} {o : Oper}
theorem exec_eqlB {x y : Operand} {b : Bool} (hop : o.op = .binOp .eql 4 x y 4) (hx : ρ x = .bool b) (hy : ρ y = .bool b) (w : World) : (execOp ρ o).run Try.prog w = .ok (.value (.bool true)) w := by
  unfold execOp
  rw [hop]
  cases b <;> simp [hx, hy, go_sem]
theorem load24 {w : World} {g : Nat} {op S T D A m : Int} (hg : Blk w g (insC op S T D A m) 62) : (loadVar 62 ⟨g, 0, none⟩).run Try.prog w = .ok (.agg (insC op S T D A m)) w :=
  run_loadVar_row w g 62 62 _ _ _ hg Try.underlying62 rfl (by kernel_rfl)
end
/-- An instruction's cells in memory. -/
theorem insF {w : World} {g : Nat} {op S T D A m : Int} (h : Blk w g (insC op S T D A m) 62) : w.cell? ⟨g, 0, none⟩ = some (.int .i64 op) ∧ w.cell? ⟨g, 1, none⟩ = some (.int .i64 S) ∧ w.cell? ⟨g, 2, none⟩ = some (.int .i64 T) ∧ w.cell? ⟨g, 3, none⟩ = some (.int .i64 D) ∧ w.cell? ⟨g, 4, none⟩ = some (.int .i64 A) ∧ w.cell? ⟨g, 5, none⟩ = some (.int .u32 m) :=
  ⟨h.cell rfl, h.cell rfl, h.cell rfl, h.cell rfl, h.cell rfl, h.cell rfl⟩
theorem insH {w : World} {g : Nat} {op S T D A m : Int} (h : Blk w g (insC op S T D A m) 62) : w.heap[g]? = some (.cells (insC op S T D A m) 62 (0, 0)) := h
end Go.Proofs.Ytobnocioefchlaa
