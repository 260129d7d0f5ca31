/- The own registers of an instruction that has none of these. -/
import Derived.Test.YtlheilpaafjeiaaPAluMix
namespace Go.Proofs.Ytlheilpaafjeiaa
open Go.ChangeShapes Go.WideShapes Go.ChangeAt Go.RowKit
set_option linter.unusedVariables false
set_option maxRecDepth 20000 in
theorem regs_none (op S T D A m s t : Int) (h1 : 0 ≤ s) (h2 : s < 4294967296) (h3 : 0 ≤ t) (h4 : t < 4294967296) (h5 : 0 ≤ m) (h6 : m < 4294967296) (k1 : (op == 1) = false) (k2 : (op == 2) = false) (k3 : (op == 3) = false) (k4 : (op == 4) = false) (k5 : (op == 5) = false) (k6 : (op == 6) = false) (k7 : (op == 7) = false) (k8 : (op == 8) = false) (k9 : (op == 9) = false) (k10 : (op == 10) = false) (k11 : (op == 11) = false) (k12 : (op == 12) = false) (k13 : (op == 13) = false) (w : World) :
    Calls Try.prog 33 #[.agg (insC op S T D A m), .int .u32 s, .int .u32 t] w fun e w' => e = .returned (.tuple #[.int .u32 0, .bool false]) ∧ Below w.heap.size w w' := by
  have hB := hidden (below_new w (.cells (insC op S T D A m) 24))
  go_enter Try.func33, Try.ntmps33
  go_wp2
  go_ret2
  exact ⟨ret_intb rfl rfl, hB.out⟩
end Go.Proofs.Ytlheilpaafjeiaa
