/- The way out of blocks that lie one in another, a step at a time. -/
import Derived.Test.YtlheilpaafjeiaaPAluMix
namespace Go.Proofs.Ytlheilpaafjeiaa
open Go.ChangeShapes Go.WideShapes Go.ChangeAt Go.RowKit
set_option linter.unusedVariables false
section
variable {K : Act → World → Prop} {Q : Exit → Act → World → Prop} {a : Act} {w : World} {b id : Nat}
def isExitB : Exit → Bool
  | .exit _ => true
  | _ => false
theorem leave_then {e : Exit} (he : isExitB e = true) (h : Q e a w) : Exit.then K Q e a w := by
  cases e with
  | exit id => exact h
  | _ => cases he
theorem leave_block (hne : ¬ id = b) (h : Q (.exit id) a w) : Exit.inBlock b Q (.exit id) a w := by
  simp only [Exit.inBlock, hne, if_false]
  exact h
theorem leave_at (h : Q .normal a w) : Exit.inBlock b Q (.exit b) a w := by
  simp only [Exit.inBlock, if_true]
  exact h
theorem leave_block_end (h : Q .normal a w) : Exit.inBlock b Q .normal a w := h
theorem leave_then_end (h : K a w) : Exit.then K Q .normal a w := h
end
end Go.Proofs.Ytlheilpaafjeiaa
