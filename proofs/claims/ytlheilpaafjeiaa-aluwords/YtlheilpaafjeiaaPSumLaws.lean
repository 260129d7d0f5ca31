/- The plain laws that BitsSums asks of sums and differences. -/
import Derived.Test.YtlheilpaafjeiaaPNums
namespace Go.Proofs.Ytlheilpaafjeiaa
open Go.RowKit
set_option linter.unusedVariables false
theorem u32_of_wf {a : Int} (h : (Lit.int .u32 a).wf = true) : 0 ≤ a ∧ a < 4294967296 := by
  simp [Lit.wf, IntKind.bits, IntKind.signed, IntKind.min, IntKind.max] at h; omega
theorem div31_range {a : Int} (h1 : 0 ≤ a) (h2 : a < 4294967296) : 0 ≤ a / 2147483648 ∧ a / 2147483648 < 4294967296 := by omega
theorem sums_back (a b : Int) (h1 : 0 ≤ a) (h2 : a < 4294967296) (h3 : 0 ≤ b) (h4 : b < 4294967296) : sub32 (add32 a b) b = a := by
  unfold sub32 add32; omega
theorem sums_backOv (a b : Int) (h1 : 0 ≤ a) (h2 : a < 4294967296) (h3 : 0 ≤ b) (h4 : b < 4294967296) : subOv (add32 a b) b = addOv a b := by
  unfold subOv addOv
  rw [sums_back a b h1 h2 h3 h4]
  unfold top add32
  by_cases x : 2147483648 ≤ a <;> by_cases y : 2147483648 ≤ b <;> by_cases z : 2147483648 ≤ (a + b) % 4294967296 <;> simp [x, y, z] <;> omega
theorem sar_sext (a : Int) (h1 : 0 ≤ a) (h2 : a < 4294967296) : sar32 a 31 = sext32 (a / 2147483648) 1 := by
  unfold sar32 sext32 clip
  by_cases x : a < 2147483648
  · have : a / 2147483648 = 0 := by omega
    rw [this]
    simp [sg, x]
    omega
  · have : a / 2147483648 = 1 := by omega
    rw [this]
    simp [sg, x]
    omega
theorem sums_cases (a b : Int) (h1 : 0 ≤ a) (h2 : a < 4294967296) (h3 : 0 ≤ b) (h4 : b < 4294967296) :
    (a / 2147483648 = 0 ∧ b / 2147483648 = 0 ∧ add32 a b / 2147483648 = 0 ∧ addOv a b = false) ∨
    (a / 2147483648 = 0 ∧ b / 2147483648 = 0 ∧ add32 a b / 2147483648 = 1 ∧ addOv a b = true) ∨
    (a / 2147483648 = 1 ∧ b / 2147483648 = 1 ∧ add32 a b / 2147483648 = 0 ∧ addOv a b = true) ∨
    (a / 2147483648 = 1 ∧ b / 2147483648 = 1 ∧ add32 a b / 2147483648 = 1 ∧ addOv a b = false) ∨
    (a / 2147483648 = 0 ∧ b / 2147483648 = 1 ∧ (add32 a b / 2147483648 = 0 ∨ add32 a b / 2147483648 = 1) ∧ addOv a b = false) ∨
    (a / 2147483648 = 1 ∧ b / 2147483648 = 0 ∧ (add32 a b / 2147483648 = 0 ∨ add32 a b / 2147483648 = 1) ∧ addOv a b = false) := by
  have hs := add32_range a b
  have ho : addOv a b = ((top a != top (add32 a b)) && (top b != top (add32 a b))) := rfl
  generalize add32 a b = s at *
  unfold top at ho
  by_cases x : 2147483648 ≤ a <;> by_cases y : 2147483648 ≤ b <;> by_cases z : 2147483648 ≤ s <;> simp [x, y, z] at ho <;> simp [ho] <;> omega
end Go.Proofs.Ytlheilpaafjeiaa
