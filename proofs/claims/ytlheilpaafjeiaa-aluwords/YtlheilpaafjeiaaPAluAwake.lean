/- The first sentence of each statement of layer 9. -/
import Derived.Test.YtlheilpaafjeiaaPAluRk
import Derived.Test.YtlheilpaafjeiaaPAluTk
import Derived.Test.YtlheilpaafjeiaaPAluWr
namespace Go.Proofs.Ytlheilpaafjeiaa
open Go.ChangeShapes Go.WideShapes Go.ChangeAt Go.RowKit
set_option linter.unusedVariables false
theorem awkR (w : World) : Calls Try.prog 8 #[.agg (insC 7 0 0 0 0 0), .int .u32 4294967295, .int .u32 0] w fun e w' => e = .returned (.tuple #[.int .u32 1, .bool true]) ∧ Below w.heap.size w w' := by
  have e1 : reck 7 4294967295 0 0 0 = (1, true) := by decide
  have h := reckon_any 7 0 0 0 0 0 4294967295 0 (by omega) (by omega) (by omega) (by omega) (by omega) (by omega) w
  rw [e1] at h
  exact h
theorem awkT (w : World) : Calls Try.prog 14 #[.agg (insC 60 0 0 0 0 0), .int .u32 5, .int .u32 5] w fun e w' => e = .returned (.bool true) ∧ Below w.heap.size w w' := by
  have e1 : takeB 60 5 5 0 = true := by decide
  have h := takes_any 60 0 0 0 0 0 5 5 (by omega) (by omega) (by omega) (by omega) (by omega) (by omega) w
  rw [e1] at h
  exact h
theorem awkW (w : World) : Calls Try.prog 16 #[.agg (insC 69 0 0 0 0 0)] w fun e w' => e = .returned (.int .i64 31) ∧ Below w.heap.size w w' := by
  have e1 : writeV 69 0 0 = 31 := by decide
  have h := writes_any 69 0 0 0 0 0 w
  rw [e1] at h
  exact h
theorem awake9_any (w : World) : Calls Try.prog 18 #[] w fun e w' => e = .returned (.bool true) ∧ Below w.heap.size w w' := by
  go_enter Try.func18, Try.ntmps18
  go_wp2_with (first | (go_at_call 8; refine (awkR _).mono ?_; rintro e w1 ⟨rfl, b1⟩) | (go_at_call 14; refine (awkT _).mono ?_; rintro e w2 ⟨rfl, b2⟩) | (go_at_call 16; refine (awkW _).mono ?_; rintro e w3 ⟨rfl, b3⟩))
  go_ret
  exact ⟨rfl, bthen (bthen b1 b2) b3⟩
end Go.Proofs.Ytlheilpaafjeiaa
