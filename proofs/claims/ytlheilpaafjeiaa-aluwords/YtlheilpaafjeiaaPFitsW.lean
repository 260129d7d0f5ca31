/- Whether a word is of a row, any row: it is told. -/
import Derived.Test.YtlheilpaafjeiaaPFitsA
import Derived.Test.YtlheilpaafjeiaaPFitsB
import Derived.Test.YtlheilpaafjeiaaPFitsD
namespace Go.Proofs.Ytlheilpaafjeiaa
open Go.ChangeShapes Go.WideShapes Go.ChangeAt Go.RowKit
set_option linter.unusedVariables false
theorem fits_any (op c o n : Int) (nm : ByteArray) (v : Int) (h1 : 0 ≤ v) (h2 : v < 4294967296) (w : World) : Calls Try.prog 41 #[.agg (rwC op c o n nm), .int .u32 v] w fun e w' => (∃ b, e = .returned (.bool b)) ∧ Below w.heap.size w w' := by
  by_cases k68 : c = 68
  · subst k68
    exact fits_68 op o n nm v h1 h2 w
  by_cases k88 : c = 88
  · subst k88
    exact fits_88 op o n nm v h1 h2 w
  by_cases k72 : c = 72
  · subst k72
    exact fits_72 op o n nm v h1 h2 w
  by_cases k77 : c = 77
  · subst k77
    exact fits_77 op o n nm v h1 h2 w
  by_cases k70 : c = 70
  · subst k70
    exact fits_70 op o n nm v h1 h2 w
  by_cases k76 : c = 76
  · subst k76
    exact fits_76 op o n nm v h1 h2 w
  by_cases k71 : c = 71
  · subst k71
    exact fits_71 op o n nm v h1 h2 w
  by_cases k84 : c = 84
  · subst k84
    exact fits_84 op o n nm v h1 h2 w
  by_cases k67 : c = 67
  · subst k67
    exact fits_67 op o n nm v h1 h2 w
  by_cases k89 : c = 89
  · subst k89
    exact fits_89 op o n nm v h1 h2 w
  by_cases k86 : c = 86
  · subst k86
    exact fits_86 op o n nm v h1 h2 w
  by_cases k90 : c = 90
  · subst k90
    exact fits_90 op o n nm v h1 h2 w
  by_cases k82 : c = 82
  · subst k82
    exact fits_82 op o n nm v h1 h2 w
  exact fits_none op c o n nm v h1 h2 (beq_eq_false_iff_ne.2 k68) (beq_eq_false_iff_ne.2 k88) (beq_eq_false_iff_ne.2 k72) (beq_eq_false_iff_ne.2 k77) (beq_eq_false_iff_ne.2 k70) (beq_eq_false_iff_ne.2 k76) (beq_eq_false_iff_ne.2 k71) (beq_eq_false_iff_ne.2 k84) (beq_eq_false_iff_ne.2 k67) (beq_eq_false_iff_ne.2 k89) (beq_eq_false_iff_ne.2 k86) (beq_eq_false_iff_ne.2 k90) (beq_eq_false_iff_ne.2 k82) w
end Go.Proofs.Ytlheilpaafjeiaa
