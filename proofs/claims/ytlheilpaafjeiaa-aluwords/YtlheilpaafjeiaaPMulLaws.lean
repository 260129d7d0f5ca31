/- The plain laws that BitsMuls asks of products. -/
import Derived.Test.YtlheilpaafjeiaaPShiftLaws
namespace Go.Proofs.Ytlheilpaafjeiaa
open Go.RowKit
set_option linter.unusedVariables false
theorem sg_mod (a : Int) : sg a % 4294967296 = a % 4294967296 := by unfold sg; split <;> omega
theorem lo_mod (x y : Int) : mulLo x y = x * y % 4294967296 := by
  unfold mulLo
  rw [IntKind.wrap_u64]
  generalize x * y = p
  omega
theorem muls1 (x y : Int) : mulHi x y = mulHi y x := by unfold mulHi; rw [Int.mul_comm]
theorem muls2 (x y : Int) : mulLo x y = mulLo y x := by unfold mulLo; rw [Int.mul_comm]
theorem muls3 (a b : Int) : mulLo a b = mulLo (sg a) (sg b) := by
  rw [lo_mod, lo_mod, Int.mul_emod, Int.mul_emod (sg a), sg_mod, sg_mod]
theorem sg1 : sg 1 = 1 := by decide
theorem muls4 (a : Int) (h1 : 0 ≤ a) (h2 : a < 4294967296) : mulHi (sg a) (sg 1) = sar32 a 31 := by
  have e : sg a = a ∨ sg a = a - 4294967296 := by unfold sg; split <;> omega
  have r := sg_range h1 h2
  rw [sg1]
  unfold mulHi sar32
  rw [Int.mul_one, IntKind.wrap_u64]
  generalize sg a = s at *
  simp
  omega
theorem muls5 (a : Int) (h1 : 0 ≤ a) (h2 : a < 4294967296) : mulLo (sg a) (sg 1) = a := by
  rw [sg1, lo_mod, Int.mul_one, sg_mod]; omega
theorem muls6 (a : Int) : mulLo a 0 = 0 := by rw [lo_mod]; simp
theorem muls7 (a b : Int) (h1 : a < 2147483648) (h2 : b < 2147483648) : mulHi a b = mulHi (sg a) (sg b) := by
  have e1 : sg a = a := by unfold sg; split <;> omega
  have e2 : sg b = b := by unfold sg; split <;> omega
  rw [e1, e2]
theorem mulHi_range (a b : Int) : 0 ≤ mulHi a b ∧ mulHi a b < 4294967296 := by unfold mulHi; omega
theorem mulLo_range (a b : Int) : 0 ≤ mulLo a b ∧ mulLo a b < 4294967296 := by unfold mulLo; omega
end Go.Proofs.Ytlheilpaafjeiaa
