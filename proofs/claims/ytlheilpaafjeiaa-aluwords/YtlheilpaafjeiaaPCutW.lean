/- What any row makes of a word: some instruction. -/
import Derived.Test.YtlheilpaafjeiaaPCutA
import Derived.Test.YtlheilpaafjeiaaPCutB
import Derived.Test.YtlheilpaafjeiaaPCutD
import Derived.Test.YtlheilpaafjeiaaPCutE
namespace Go.Proofs.Ytlheilpaafjeiaa
open Go.ChangeShapes Go.WideShapes Go.ChangeAt Go.RowKit
set_option linter.unusedVariables false
theorem cut_any (op c o n : Int) (nm : ByteArray) (v : Int) (h1 : 0 ≤ v) (h2 : v < 4294967296) (w : World) : Calls Try.prog 42 #[.agg (rwC op c o n nm), .int .u32 v] w fun e w' => (∃ p S T D A m, e = .returned (.agg (insC p S T D A m)) ∧ 0 ≤ m ∧ m < 4294967296) ∧ Below w.heap.size w w' := by
  by_cases k68 : c = 68
  · subst k68
    exact cut_68 op o n nm v h1 h2 w
  by_cases k88 : c = 88
  · subst k88
    exact cut_88 op o n nm v h1 h2 w
  by_cases k89 : c = 89
  · subst k89
    exact cut_89 op o n nm v h1 h2 w
  by_cases k72 : c = 72
  · subst k72
    exact cut_72 op o n nm v h1 h2 w
  by_cases k77 : c = 77
  · subst k77
    exact cut_77 op o n nm v h1 h2 w
  by_cases k70 : c = 70
  · subst k70
    exact cut_70 op o n nm v h1 h2 w
  by_cases k76 : c = 76
  · subst k76
    exact cut_76 op o n nm v h1 h2 w
  by_cases k71 : c = 71
  · subst k71
    exact cut_71 op o n nm v h1 h2 w
  by_cases k84 : c = 84
  · subst k84
    exact cut_84 op o n nm v h1 h2 w
  by_cases k67 : c = 67
  · subst k67
    exact cut_67 op o n nm v h1 h2 w
  by_cases k73 : c = 73
  · subst k73
    exact cut_73 op o n nm v h1 h2 w
  by_cases k80 : c = 80
  · subst k80
    exact cut_80 op o n nm v h1 h2 w
  by_cases k85 : c = 85
  · subst k85
    exact cut_85 op o n nm v h1 h2 w
  by_cases k86 : c = 86
  · subst k86
    exact cut_86 op o n nm v h1 h2 w
  by_cases k66 : c = 66
  · subst k66
    exact cut_66 op o n nm v h1 h2 w
  by_cases k90 : c = 90
  · subst k90
    exact cut_90 op o n nm v h1 h2 w
  by_cases k82 : c = 82
  · subst k82
    exact cut_82 op o n nm v h1 h2 w
  by_cases k74 : c = 74
  · subst k74
    exact cut_74 op o n nm v h1 h2 w
  exact cut_none op c o n nm v h1 h2 (beq_eq_false_iff_ne.2 k68) (beq_eq_false_iff_ne.2 k88) (beq_eq_false_iff_ne.2 k89) (beq_eq_false_iff_ne.2 k72) (beq_eq_false_iff_ne.2 k77) (beq_eq_false_iff_ne.2 k70) (beq_eq_false_iff_ne.2 k76) (beq_eq_false_iff_ne.2 k71) (beq_eq_false_iff_ne.2 k84) (beq_eq_false_iff_ne.2 k67) (beq_eq_false_iff_ne.2 k73) (beq_eq_false_iff_ne.2 k80) (beq_eq_false_iff_ne.2 k85) (beq_eq_false_iff_ne.2 k86) (beq_eq_false_iff_ne.2 k66) (beq_eq_false_iff_ne.2 k90) (beq_eq_false_iff_ne.2 k82) (beq_eq_false_iff_ne.2 k74) w
end Go.Proofs.Ytlheilpaafjeiaa
