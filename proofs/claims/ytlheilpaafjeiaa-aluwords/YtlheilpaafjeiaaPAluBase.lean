/- Instructions as values, blocks of memory that are made on the way, and what layer 9 answers as plain functions. -/
import Derived.Test.YtlheilpaafjeiaaPRefs
import Derived.Test.YtlheilpaafjeiaaPMulLaws
namespace Go.Proofs.Ytlheilpaafjeiaa
open Go.ChangeShapes Go.WideShapes Go.ChangeAt Go.RowKit
set_option linter.unusedVariables false
/-- An instruction's cells. -/
abbrev insC (op S T D A m : Int) : Array Value := #[.int .i64 op, .int .i64 S, .int .i64 T, .int .i64 D, .int .i64 A, .int .u32 m]
theorem below_new (w : World) (o : Obj) : Below w.heap.size w (w.alloc o) := (Below.refl _ w).alloc (Nat.le_refl _) _
theorem bthen {u v w : World} (h : Below u.heap.size u v) (k : Below v.heap.size v w) : Below u.heap.size u w := h.trans (k.mono h.size)
def lt32 (s t : Int) : Bool := decide (sg s < sg t)
def oneI (b : Bool) : Int := match b with
  | true => 1
  | false => 0
theorem oneI_range (b : Bool) : 0 ≤ oneI b ∧ oneI b < 4294967296 := by cases b <;> decide
theorem below_any (s t : Int) (h1 : 0 ≤ s) (h2 : s < 4294967296) (h3 : 0 ≤ t) (h4 : t < 4294967296) (w : World) :
    Calls Try.prog 23 #[.int .u32 s, .int .u32 t] w fun e w' => e = .returned (.bool (lt32 s t)) ∧ w' = w := by
  have ha := wrap32_sg h1 h2
  have hb := wrap32_sg h3 h4
  go_enter Try.func23, Try.ntmps23
  go_wp2
  go_ret
  exact ⟨ret_bool rfl, rfl⟩
theorem refBelow_any (s t : Int) (h1 : 0 ≤ s) (h2 : s < 4294967296) (h3 : 0 ≤ t) (h4 : t < 4294967296) (w : World) :
    Calls Try.prog 32 #[.int .u32 s, .int .u32 t] w fun e w' => e = .returned (.bool (lt32 s t)) ∧ w' = w := by
  have ha := wrap32_sg h1 h2
  have hb := wrap32_sg h3 h4
  go_enter Try.func32, Try.ntmps32
  go_wp2
  go_ret
  exact ⟨ret_bool rfl, rfl⟩
theorem oneIf_any (b : Bool) (w : World) : Calls Try.prog 22 #[.bool b] w fun e w' => e = .returned (.int .u32 (oneI b)) ∧ w' = w := by
  cases b
  · go_enter Try.func22, Try.ntmps22
    go_wp2
    go_ret
    exact ⟨rfl, rfl⟩
  · go_enter Try.func22, Try.ntmps22
    go_wp2
    go_ret
    exact ⟨rfl, rfl⟩
theorem refBit_any (b : Bool) (w : World) : Calls Try.prog 31 #[.bool b] w fun e w' => e = .returned (.int .u32 (oneI b)) ∧ w' = w := by
  cases b
  · go_enter Try.func31, Try.ntmps31
    go_wp2
    go_ret
    exact ⟨rfl, rfl⟩
  · go_enter Try.func31, Try.ntmps31
    go_wp2
    go_ret
    exact ⟨rfl, rfl⟩
end Go.Proofs.Ytlheilpaafjeiaa
