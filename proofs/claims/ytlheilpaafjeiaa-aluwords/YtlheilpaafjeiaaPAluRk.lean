/- Reckon of any instruction. -/
import Derived.Test.YtlheilpaafjeiaaPAluRk1
import Derived.Test.YtlheilpaafjeiaaPAluRk2
import Derived.Test.YtlheilpaafjeiaaPAluRk3
import Derived.Deep.CutBlock
namespace Go.Proofs.Ytlheilpaafjeiaa
open Go.ChangeShapes Go.WideShapes Go.ChangeAt Go.RowKit
set_option linter.unusedVariables false
set_option maxRecDepth 20000 in
theorem reckon_none (op S T D A m s t : Int) (h1 : 0 ≤ s) (h2 : s < 4294967296) (h3 : 0 ≤ t) (h4 : t < 4294967296) (h5 : 0 ≤ m) (h6 : m < 4294967296) (k1 : (op == 1) = false) (k2 : (op == 2) = false) (k3 : (op == 3) = false) (k4 : (op == 4) = false) (k5 : (op == 5) = false) (k6 : (op == 6) = false) (k7 : (op == 7) = false) (k8 : (op == 8) = false) (k9 : (op == 9) = false) (k10 : (op == 10) = false) (k11 : (op == 11) = false) (k12 : (op == 12) = false) (k13 : (op == 13) = false) (k16 : (op == 16) = false) (k17 : (op == 17) = false) (k18 : (op == 18) = false) (k37 : (op == 37) = false) (k38 : (op == 38) = false) (k39 : (op == 39) = false) (k40 : (op == 40) = false) (k41 : (op == 41) = false) (k42 : (op == 42) = false) (k43 : (op == 43) = false) (k44 : (op == 44) = false) (k45 : (op == 45) = false) (k46 : (op == 46) = false) (k47 : (op == 47) = false) (w : World) :
    Calls Try.prog 8 #[.agg (insC op S T D A m), .int .u32 s, .int .u32 t] w fun e w' => e = .returned (.tuple #[.int .u32 0, .bool false]) ∧ Below w.heap.size w w' := by
  have hB := hidden (below_new w (.cells (insC op S T D A m) 24))
  go_enter Try.func8, Try.ntmps8
  go_upto_region 28 with fail
  repeat ((fail_if_success ((with_reducible refine leave_then ?_ ?_); exact rfl)); (first | go_values | go_skip | go_guarded | go_step | go_upon | go_back | (simp only [Int.not_lt, Int.not_le] at *; go_simp)))
  repeat (first | ((with_reducible refine leave_then ?_ ?_); exact rfl) | (with_reducible refine leave_at ?_) | ((with_reducible refine leave_block ?_ ?_); exact of_decide_eq_true rfl) | (with_reducible refine leave_block_end ?_) | (with_reducible refine leave_then_end ?_))
  go_wp2
  go_ret2
  exact ⟨ret_intb rfl rfl, hB.out⟩
theorem reckon_any (op S T D A m s t : Int) (h1 : 0 ≤ s) (h2 : s < 4294967296) (h3 : 0 ≤ t) (h4 : t < 4294967296) (h5 : 0 ≤ m) (h6 : m < 4294967296) (w : World) :
    Calls Try.prog 8 #[.agg (insC op S T D A m), .int .u32 s, .int .u32 t] w fun e w' => e = .returned (.tuple #[.int .u32 (reck op s t A m).1, .bool (reck op s t A m).2]) ∧ Below w.heap.size w w' := by
  by_cases k1 : op = 1
  · subst k1
    exact reckon_1 S T D A m s t h1 h2 h3 h4 h5 h6 w
  by_cases k2 : op = 2
  · subst k2
    exact reckon_2 S T D A m s t h1 h2 h3 h4 h5 h6 w
  by_cases k3 : op = 3
  · subst k3
    exact reckon_3 S T D A m s t h1 h2 h3 h4 h5 h6 w
  by_cases k4 : op = 4
  · subst k4
    exact reckon_4 S T D A m s t h1 h2 h3 h4 h5 h6 w
  by_cases k5 : op = 5
  · subst k5
    exact reckon_5 S T D A m s t h1 h2 h3 h4 h5 h6 w
  by_cases k6 : op = 6
  · subst k6
    exact reckon_6 S T D A m s t h1 h2 h3 h4 h5 h6 w
  by_cases k7 : op = 7
  · subst k7
    exact reckon_7 S T D A m s t h1 h2 h3 h4 h5 h6 w
  by_cases k8 : op = 8
  · subst k8
    exact reckon_8 S T D A m s t h1 h2 h3 h4 h5 h6 w
  by_cases k9 : op = 9
  · subst k9
    exact reckon_9 S T D A m s t h1 h2 h3 h4 h5 h6 w
  by_cases k10 : op = 10
  · subst k10
    exact reckon_10 S T D A m s t h1 h2 h3 h4 h5 h6 w
  by_cases k11 : op = 11
  · subst k11
    exact reckon_11 S T D A m s t h1 h2 h3 h4 h5 h6 w
  by_cases k12 : op = 12
  · subst k12
    exact reckon_12 S T D A m s t h1 h2 h3 h4 h5 h6 w
  by_cases k13 : op = 13
  · subst k13
    exact reckon_13 S T D A m s t h1 h2 h3 h4 h5 h6 w
  by_cases k16 : op = 16
  · subst k16
    exact reckon_16 S T D A m s t h1 h2 h3 h4 h5 h6 w
  by_cases k17 : op = 17
  · subst k17
    exact reckon_17 S T D A m s t h1 h2 h3 h4 h5 h6 w
  by_cases k18 : op = 18
  · subst k18
    exact reckon_18 S T D A m s t h1 h2 h3 h4 h5 h6 w
  by_cases k37 : op = 37
  · subst k37
    exact reckon_37 S T D A m s t h1 h2 h3 h4 h5 h6 w
  by_cases k38 : op = 38
  · subst k38
    exact reckon_38 S T D A m s t h1 h2 h3 h4 h5 h6 w
  by_cases k39 : op = 39
  · subst k39
    exact reckon_39 S T D A m s t h1 h2 h3 h4 h5 h6 w
  by_cases k40 : op = 40
  · subst k40
    exact reckon_40 S T D A m s t h1 h2 h3 h4 h5 h6 w
  by_cases k41 : op = 41
  · subst k41
    exact reckon_41 S T D A m s t h1 h2 h3 h4 h5 h6 w
  by_cases k42 : op = 42
  · subst k42
    exact reckon_42 S T D A m s t h1 h2 h3 h4 h5 h6 w
  by_cases k43 : op = 43
  · subst k43
    exact reckon_43 S T D A m s t h1 h2 h3 h4 h5 h6 w
  by_cases k44 : op = 44
  · subst k44
    exact reckon_44 S T D A m s t h1 h2 h3 h4 h5 h6 w
  by_cases k45 : op = 45
  · subst k45
    exact reckon_45 S T D A m s t h1 h2 h3 h4 h5 h6 w
  by_cases k46 : op = 46
  · subst k46
    exact reckon_46 S T D A m s t h1 h2 h3 h4 h5 h6 w
  by_cases k47 : op = 47
  · subst k47
    exact reckon_47 S T D A m s t h1 h2 h3 h4 h5 h6 w
  have e : reck op s t A m = (0, false) := by simp only [reck, k1, k2, k3, k4, k5, k6, k7, k8, k9, k10, k11, k12, k13, k16, k17, k18, k37, k38, k39, k40, k41, k42, k43, k44, k45, k46, k47, if_false]
  rw [e]
  exact reckon_none op S T D A m s t h1 h2 h3 h4 h5 h6 (beq_eq_false_iff_ne.2 k1) (beq_eq_false_iff_ne.2 k2) (beq_eq_false_iff_ne.2 k3) (beq_eq_false_iff_ne.2 k4) (beq_eq_false_iff_ne.2 k5) (beq_eq_false_iff_ne.2 k6) (beq_eq_false_iff_ne.2 k7) (beq_eq_false_iff_ne.2 k8) (beq_eq_false_iff_ne.2 k9) (beq_eq_false_iff_ne.2 k10) (beq_eq_false_iff_ne.2 k11) (beq_eq_false_iff_ne.2 k12) (beq_eq_false_iff_ne.2 k13) (beq_eq_false_iff_ne.2 k16) (beq_eq_false_iff_ne.2 k17) (beq_eq_false_iff_ne.2 k18) (beq_eq_false_iff_ne.2 k37) (beq_eq_false_iff_ne.2 k38) (beq_eq_false_iff_ne.2 k39) (beq_eq_false_iff_ne.2 k40) (beq_eq_false_iff_ne.2 k41) (beq_eq_false_iff_ne.2 k42) (beq_eq_false_iff_ne.2 k43) (beq_eq_false_iff_ne.2 k44) (beq_eq_false_iff_ne.2 k45) (beq_eq_false_iff_ne.2 k46) (beq_eq_false_iff_ne.2 k47) w
end Go.Proofs.Ytlheilpaafjeiaa
