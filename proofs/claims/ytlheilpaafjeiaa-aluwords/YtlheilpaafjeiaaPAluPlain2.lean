/- What layer 9 answers of traps, jumps, long registers, and which register it writes, as plain functions. -/
import Derived.Test.YtlheilpaafjeiaaPAluPlain
namespace Go.Proofs.Ytlheilpaafjeiaa
open Go.ChangeShapes Go.WideShapes Go.ChangeAt Go.RowKit
set_option linter.unusedVariables false
/-- Whether an instruction traps. -/
def trapB (op s t m : Int) : Bool :=
  if op = 9 then (addOv s t) else
  if op = 10 then (subOv s t) else
  if op = 29 then (!lt32 s t) else
  if op = 30 then (decide (t ≤ s)) else
  if op = 31 then (lt32 s t) else
  if op = 32 then (decide (s < t)) else
  if op = 33 then (s == t) else
  if op = 34 then (s != t) else
  if op = 41 then (addOv s m) else
  false
/-- Whether an instruction jumps. -/
def takeB (op s t m : Int) : Bool :=
  if op = 27 then (true) else
  if op = 28 then (true) else
  if op = 60 then (s == t) else
  if op = 61 then (s != t) else
  if op = 62 then (!lt32 0 s) else
  if op = 63 then (lt32 0 s) else
  if op = 64 then (lt32 s 0) else
  if op = 65 then (!lt32 s 0) else
  if op = 66 then (lt32 s 0) else
  if op = 67 then (!lt32 s 0) else
  if op = 68 then (true) else
  if op = 69 then (true) else
  false
/-- What the long registers are behind an instruction: HI, LO. -/
def longV (op s t hi lo : Int) : Int × Int :=
  if op = 19 then (mulHi (sg s) (sg t), mulLo (sg s) (sg t)) else
  if op = 20 then (mulHi s t, mulLo s t) else
  if op = 21 then (if t = 0 then (0, 0) else (remT s t, quoT s t)) else
  if op = 22 then (if t = 0 then (0, 0) else (s % t, s / t)) else
  if op = 25 then (s, lo) else
  if op = 26 then (hi, s) else
  (hi, lo)
/-- Into which register an instruction puts something. -/
def writeV (op T D : Int) : Int :=
  if 1 ≤ op ∧ op ≤ 18 ∨ op = 23 ∨ op = 24 ∨ op = 28 ∨ 37 ≤ op ∧ op ≤ 39 then D else
  if 40 ≤ op ∧ op ≤ 54 then T else
  if op = 66 ∨ op = 67 ∨ op = 69 then 31 else 0
theorem lt0s (s : Int) : (!lt32 0 s) = decide (sg s ≤ 0) := by
  have : sg 0 = 0 := by decide
  unfold lt32; rw [this]; by_cases h : 0 < sg s <;> simp [h] <;> omega
theorem lt0p (s : Int) : lt32 0 s = decide (0 < sg s) := by
  have : sg 0 = 0 := by decide
  unfold lt32; rw [this]
theorem lts0 (s : Int) : lt32 s 0 = decide (sg s < 0) := by
  have : sg 0 = 0 := by decide
  unfold lt32; rw [this]
theorem lts0n (s : Int) : (!lt32 s 0) = decide (0 ≤ sg s) := by
  have : sg 0 = 0 := by decide
  unfold lt32; rw [this]; by_cases h : sg s < 0 <;> simp [h] <;> omega
theorem ret_boolB {a b : Bool} (h : a = b) : Ending.returned (.bool a) = .returned (.bool b) := by rw [h]
theorem notdec (s t : Int) : (!lt32 s t) = !decide (sg s < sg t) := rfl
end Go.Proofs.Ytlheilpaafjeiaa
