/- The own Writes of any instruction. -/
import Derived.Test.YtlheilpaafjeiaaPAluPlain2
namespace Go.Proofs.Ytlheilpaafjeiaa
open Go.ChangeShapes Go.WideShapes Go.ChangeAt Go.RowKit
set_option linter.unusedVariables false
set_option maxRecDepth 20000 in
theorem refWrites_a (op S T D A m : Int) (a1 : decide (1 ≤ op) = true) (a2 : decide (op ≤ 18) = true) (w : World) :
    Calls Try.prog 17 #[.agg (insC op S T D A m)] w fun e w' => e = .returned (.int .i64 D) ∧ Below w.heap.size w w' := by
  have hB := hidden (below_new w (.cells (insC op S T D A m) 24))
  go_enter Try.func17, Try.ntmps17
  go_wp2
  go_ret
  exact ⟨rfl, hB.out⟩
set_option maxRecDepth 20000 in
theorem refWrites_low (op S T D A m : Int) (a1 : decide (1 ≤ op) = false) (k23 : (op == 23) = false) (k24 : (op == 24) = false) (k28 : (op == 28) = false) (c1 : decide (37 ≤ op) = false) (d1 : decide (40 ≤ op) = false) (k66 : (op == 66) = false) (k67 : (op == 67) = false) (k69 : (op == 69) = false) (w : World) :
    Calls Try.prog 17 #[.agg (insC op S T D A m)] w fun e w' => e = .returned (.int .i64 0) ∧ Below w.heap.size w w' := by
  have hB := hidden (below_new w (.cells (insC op S T D A m) 24))
  go_enter Try.func17, Try.ntmps17
  go_wp2
  go_ret
  exact ⟨rfl, hB.out⟩
set_option maxRecDepth 20000 in
theorem refWrites_b23 (op S T D A m : Int) (a1 : decide (1 ≤ op) = true) (a2 : decide (op ≤ 18) = false) (k23 : (op == 23) = true) (w : World) :
    Calls Try.prog 17 #[.agg (insC op S T D A m)] w fun e w' => e = .returned (.int .i64 D) ∧ Below w.heap.size w w' := by
  have hB := hidden (below_new w (.cells (insC op S T D A m) 24))
  go_enter Try.func17, Try.ntmps17
  go_wp2
  go_ret
  exact ⟨rfl, hB.out⟩
set_option maxRecDepth 20000 in
theorem refWrites_b24 (op S T D A m : Int) (a1 : decide (1 ≤ op) = true) (a2 : decide (op ≤ 18) = false) (k23 : (op == 23) = false) (k24 : (op == 24) = true) (w : World) :
    Calls Try.prog 17 #[.agg (insC op S T D A m)] w fun e w' => e = .returned (.int .i64 D) ∧ Below w.heap.size w w' := by
  have hB := hidden (below_new w (.cells (insC op S T D A m) 24))
  go_enter Try.func17, Try.ntmps17
  go_wp2
  go_ret
  exact ⟨rfl, hB.out⟩
set_option maxRecDepth 20000 in
theorem refWrites_b28 (op S T D A m : Int) (a1 : decide (1 ≤ op) = true) (a2 : decide (op ≤ 18) = false) (k23 : (op == 23) = false) (k24 : (op == 24) = false) (k28 : (op == 28) = true) (w : World) :
    Calls Try.prog 17 #[.agg (insC op S T D A m)] w fun e w' => e = .returned (.int .i64 D) ∧ Below w.heap.size w w' := by
  have hB := hidden (below_new w (.cells (insC op S T D A m) 24))
  go_enter Try.func17, Try.ntmps17
  go_wp2
  go_ret
  exact ⟨rfl, hB.out⟩
set_option maxRecDepth 20000 in
theorem refWrites_c (op S T D A m : Int) (a1 : decide (1 ≤ op) = true) (a2 : decide (op ≤ 18) = false) (k23 : (op == 23) = false) (k24 : (op == 24) = false) (k28 : (op == 28) = false) (c1 : decide (37 ≤ op) = true) (c2 : decide (op ≤ 39) = true) (w : World) :
    Calls Try.prog 17 #[.agg (insC op S T D A m)] w fun e w' => e = .returned (.int .i64 D) ∧ Below w.heap.size w w' := by
  have hB := hidden (below_new w (.cells (insC op S T D A m) 24))
  go_enter Try.func17, Try.ntmps17
  go_wp2
  go_ret
  exact ⟨rfl, hB.out⟩
set_option maxRecDepth 20000 in
theorem refWrites_mid (op S T D A m : Int) (a1 : decide (1 ≤ op) = true) (a2 : decide (op ≤ 18) = false) (k23 : (op == 23) = false) (k24 : (op == 24) = false) (k28 : (op == 28) = false) (c1 : decide (37 ≤ op) = false) (d1 : decide (40 ≤ op) = false) (k66 : (op == 66) = false) (k67 : (op == 67) = false) (k69 : (op == 69) = false) (w : World) :
    Calls Try.prog 17 #[.agg (insC op S T D A m)] w fun e w' => e = .returned (.int .i64 0) ∧ Below w.heap.size w w' := by
  have hB := hidden (below_new w (.cells (insC op S T D A m) 24))
  go_enter Try.func17, Try.ntmps17
  go_wp2
  go_ret
  exact ⟨rfl, hB.out⟩
set_option maxRecDepth 20000 in
theorem refWrites_d (op S T D A m : Int) (a1 : decide (1 ≤ op) = true) (a2 : decide (op ≤ 18) = false) (k23 : (op == 23) = false) (k24 : (op == 24) = false) (k28 : (op == 28) = false) (c1 : decide (37 ≤ op) = true) (c2 : decide (op ≤ 39) = false) (d1 : decide (40 ≤ op) = true) (d2 : decide (op ≤ 54) = true) (w : World) :
    Calls Try.prog 17 #[.agg (insC op S T D A m)] w fun e w' => e = .returned (.int .i64 T) ∧ Below w.heap.size w w' := by
  have hB := hidden (below_new w (.cells (insC op S T D A m) 24))
  go_enter Try.func17, Try.ntmps17
  go_wp2
  go_ret
  exact ⟨rfl, hB.out⟩
set_option maxRecDepth 20000 in
theorem refWrites_e66 (op S T D A m : Int) (a1 : decide (1 ≤ op) = true) (a2 : decide (op ≤ 18) = false) (k23 : (op == 23) = false) (k24 : (op == 24) = false) (k28 : (op == 28) = false) (c1 : decide (37 ≤ op) = true) (c2 : decide (op ≤ 39) = false) (d1 : decide (40 ≤ op) = true) (d2 : decide (op ≤ 54) = false) (k66 : (op == 66) = true) (w : World) :
    Calls Try.prog 17 #[.agg (insC op S T D A m)] w fun e w' => e = .returned (.int .i64 31) ∧ Below w.heap.size w w' := by
  have hB := hidden (below_new w (.cells (insC op S T D A m) 24))
  go_enter Try.func17, Try.ntmps17
  go_wp2
  go_ret
  exact ⟨rfl, hB.out⟩
set_option maxRecDepth 20000 in
theorem refWrites_e67 (op S T D A m : Int) (a1 : decide (1 ≤ op) = true) (a2 : decide (op ≤ 18) = false) (k23 : (op == 23) = false) (k24 : (op == 24) = false) (k28 : (op == 28) = false) (c1 : decide (37 ≤ op) = true) (c2 : decide (op ≤ 39) = false) (d1 : decide (40 ≤ op) = true) (d2 : decide (op ≤ 54) = false) (k66 : (op == 66) = false) (k67 : (op == 67) = true) (w : World) :
    Calls Try.prog 17 #[.agg (insC op S T D A m)] w fun e w' => e = .returned (.int .i64 31) ∧ Below w.heap.size w w' := by
  have hB := hidden (below_new w (.cells (insC op S T D A m) 24))
  go_enter Try.func17, Try.ntmps17
  go_wp2
  go_ret
  exact ⟨rfl, hB.out⟩
set_option maxRecDepth 20000 in
theorem refWrites_e69 (op S T D A m : Int) (a1 : decide (1 ≤ op) = true) (a2 : decide (op ≤ 18) = false) (k23 : (op == 23) = false) (k24 : (op == 24) = false) (k28 : (op == 28) = false) (c1 : decide (37 ≤ op) = true) (c2 : decide (op ≤ 39) = false) (d1 : decide (40 ≤ op) = true) (d2 : decide (op ≤ 54) = false) (k66 : (op == 66) = false) (k67 : (op == 67) = false) (k69 : (op == 69) = true) (w : World) :
    Calls Try.prog 17 #[.agg (insC op S T D A m)] w fun e w' => e = .returned (.int .i64 31) ∧ Below w.heap.size w w' := by
  have hB := hidden (below_new w (.cells (insC op S T D A m) 24))
  go_enter Try.func17, Try.ntmps17
  go_wp2
  go_ret
  exact ⟨rfl, hB.out⟩
set_option maxRecDepth 20000 in
theorem refWrites_up (op S T D A m : Int) (a1 : decide (1 ≤ op) = true) (a2 : decide (op ≤ 18) = false) (k23 : (op == 23) = false) (k24 : (op == 24) = false) (k28 : (op == 28) = false) (c1 : decide (37 ≤ op) = true) (c2 : decide (op ≤ 39) = false) (d1 : decide (40 ≤ op) = true) (d2 : decide (op ≤ 54) = false) (k66 : (op == 66) = false) (k67 : (op == 67) = false) (k69 : (op == 69) = false) (w : World) :
    Calls Try.prog 17 #[.agg (insC op S T D A m)] w fun e w' => e = .returned (.int .i64 0) ∧ Below w.heap.size w w' := by
  have hB := hidden (below_new w (.cells (insC op S T D A m) 24))
  go_enter Try.func17, Try.ntmps17
  go_wp2
  go_ret
  exact ⟨rfl, hB.out⟩
theorem refWrites_any (op S T D A m : Int) (w : World) :
    Calls Try.prog 17 #[.agg (insC op S T D A m)] w fun e w' => e = .returned (.int .i64 (writeV op T D)) ∧ Below w.heap.size w w' := by
  by_cases c_a : 1 ≤ op ∧ op ≤ 18
  · have e : writeV op T D = D := by unfold writeV; (repeat (first | rw [if_pos (by omega)] | rw [if_neg (by omega)])); try rfl
    rw [e]
    exact refWrites_a op S T D A m (decide_eq_true (by omega)) (decide_eq_true (by omega)) w
  by_cases c_low : op < 1
  · have e : writeV op T D = 0 := by unfold writeV; (repeat (first | rw [if_pos (by omega)] | rw [if_neg (by omega)])); try rfl
    rw [e]
    exact refWrites_low op S T D A m (decide_eq_false (by omega)) (beq_eq_false_iff_ne.2 (by omega)) (beq_eq_false_iff_ne.2 (by omega)) (beq_eq_false_iff_ne.2 (by omega)) (decide_eq_false (by omega)) (decide_eq_false (by omega)) (beq_eq_false_iff_ne.2 (by omega)) (beq_eq_false_iff_ne.2 (by omega)) (beq_eq_false_iff_ne.2 (by omega)) w
  by_cases c_b23 : op = 23
  · have e : writeV op T D = D := by unfold writeV; (repeat (first | rw [if_pos (by omega)] | rw [if_neg (by omega)])); try rfl
    rw [e]
    exact refWrites_b23 op S T D A m (decide_eq_true (by omega)) (decide_eq_false (by omega)) (beq_iff_eq.2 (by omega)) w
  by_cases c_b24 : op = 24
  · have e : writeV op T D = D := by unfold writeV; (repeat (first | rw [if_pos (by omega)] | rw [if_neg (by omega)])); try rfl
    rw [e]
    exact refWrites_b24 op S T D A m (decide_eq_true (by omega)) (decide_eq_false (by omega)) (beq_eq_false_iff_ne.2 (by omega)) (beq_iff_eq.2 (by omega)) w
  by_cases c_b28 : op = 28
  · have e : writeV op T D = D := by unfold writeV; (repeat (first | rw [if_pos (by omega)] | rw [if_neg (by omega)])); try rfl
    rw [e]
    exact refWrites_b28 op S T D A m (decide_eq_true (by omega)) (decide_eq_false (by omega)) (beq_eq_false_iff_ne.2 (by omega)) (beq_eq_false_iff_ne.2 (by omega)) (beq_iff_eq.2 (by omega)) w
  by_cases c_c : 37 ≤ op ∧ op ≤ 39
  · have e : writeV op T D = D := by unfold writeV; (repeat (first | rw [if_pos (by omega)] | rw [if_neg (by omega)])); try rfl
    rw [e]
    exact refWrites_c op S T D A m (decide_eq_true (by omega)) (decide_eq_false (by omega)) (beq_eq_false_iff_ne.2 (by omega)) (beq_eq_false_iff_ne.2 (by omega)) (beq_eq_false_iff_ne.2 (by omega)) (decide_eq_true (by omega)) (decide_eq_true (by omega)) w
  by_cases c_mid : op < 37
  · have e : writeV op T D = 0 := by unfold writeV; (repeat (first | rw [if_pos (by omega)] | rw [if_neg (by omega)])); try rfl
    rw [e]
    exact refWrites_mid op S T D A m (decide_eq_true (by omega)) (decide_eq_false (by omega)) (beq_eq_false_iff_ne.2 (by omega)) (beq_eq_false_iff_ne.2 (by omega)) (beq_eq_false_iff_ne.2 (by omega)) (decide_eq_false (by omega)) (decide_eq_false (by omega)) (beq_eq_false_iff_ne.2 (by omega)) (beq_eq_false_iff_ne.2 (by omega)) (beq_eq_false_iff_ne.2 (by omega)) w
  by_cases c_d : op ≤ 54
  · have e : writeV op T D = T := by unfold writeV; (repeat (first | rw [if_pos (by omega)] | rw [if_neg (by omega)])); try rfl
    rw [e]
    exact refWrites_d op S T D A m (decide_eq_true (by omega)) (decide_eq_false (by omega)) (beq_eq_false_iff_ne.2 (by omega)) (beq_eq_false_iff_ne.2 (by omega)) (beq_eq_false_iff_ne.2 (by omega)) (decide_eq_true (by omega)) (decide_eq_false (by omega)) (decide_eq_true (by omega)) (decide_eq_true (by omega)) w
  by_cases c_e66 : op = 66
  · have e : writeV op T D = 31 := by unfold writeV; (repeat (first | rw [if_pos (by omega)] | rw [if_neg (by omega)])); try rfl
    rw [e]
    exact refWrites_e66 op S T D A m (decide_eq_true (by omega)) (decide_eq_false (by omega)) (beq_eq_false_iff_ne.2 (by omega)) (beq_eq_false_iff_ne.2 (by omega)) (beq_eq_false_iff_ne.2 (by omega)) (decide_eq_true (by omega)) (decide_eq_false (by omega)) (decide_eq_true (by omega)) (decide_eq_false (by omega)) (beq_iff_eq.2 (by omega)) w
  by_cases c_e67 : op = 67
  · have e : writeV op T D = 31 := by unfold writeV; (repeat (first | rw [if_pos (by omega)] | rw [if_neg (by omega)])); try rfl
    rw [e]
    exact refWrites_e67 op S T D A m (decide_eq_true (by omega)) (decide_eq_false (by omega)) (beq_eq_false_iff_ne.2 (by omega)) (beq_eq_false_iff_ne.2 (by omega)) (beq_eq_false_iff_ne.2 (by omega)) (decide_eq_true (by omega)) (decide_eq_false (by omega)) (decide_eq_true (by omega)) (decide_eq_false (by omega)) (beq_eq_false_iff_ne.2 (by omega)) (beq_iff_eq.2 (by omega)) w
  by_cases c_e69 : op = 69
  · have e : writeV op T D = 31 := by unfold writeV; (repeat (first | rw [if_pos (by omega)] | rw [if_neg (by omega)])); try rfl
    rw [e]
    exact refWrites_e69 op S T D A m (decide_eq_true (by omega)) (decide_eq_false (by omega)) (beq_eq_false_iff_ne.2 (by omega)) (beq_eq_false_iff_ne.2 (by omega)) (beq_eq_false_iff_ne.2 (by omega)) (decide_eq_true (by omega)) (decide_eq_false (by omega)) (decide_eq_true (by omega)) (decide_eq_false (by omega)) (beq_eq_false_iff_ne.2 (by omega)) (beq_eq_false_iff_ne.2 (by omega)) (beq_iff_eq.2 (by omega)) w
  have e : writeV op T D = 0 := by unfold writeV; (repeat (first | rw [if_pos (by omega)] | rw [if_neg (by omega)])); try rfl
  rw [e]
  exact refWrites_up op S T D A m (decide_eq_true (by omega)) (decide_eq_false (by omega)) (beq_eq_false_iff_ne.2 (by omega)) (beq_eq_false_iff_ne.2 (by omega)) (beq_eq_false_iff_ne.2 (by omega)) (decide_eq_true (by omega)) (decide_eq_false (by omega)) (decide_eq_true (by omega)) (decide_eq_false (by omega)) (beq_eq_false_iff_ne.2 (by omega)) (beq_eq_false_iff_ne.2 (by omega)) (beq_eq_false_iff_ne.2 (by omega)) w
end Go.Proofs.Ytlheilpaafjeiaa
