/- Traps of any instruction. -/
import Derived.Test.YtlheilpaafjeiaaPAluPlain2
import Derived.Test.YtlheilpaafjeiaaPLeave
import Derived.Deep.CutBlock
namespace Go.Proofs.Ytlheilpaafjeiaa
open Go.ChangeShapes Go.WideShapes Go.ChangeAt Go.RowKit
set_option linter.unusedVariables false
set_option maxRecDepth 20000 in
theorem traps_9 (S T D A m s t : Int) (h1 : 0 ≤ s) (h2 : s < 4294967296) (h3 : 0 ≤ t) (h4 : t < 4294967296) (h5 : 0 ≤ m) (h6 : m < 4294967296) (w : World) :
    Calls Try.prog 12 #[.agg (insC 9 S T D A m), .int .u32 s, .int .u32 t] w fun e w' => e = .returned (.bool (addOv s t)) ∧ Below w.heap.size w w' := by
  have hB := hidden (below_new w (.cells (insC 9 S T D A m) 24))
  go_enter Try.func12, Try.ntmps12
  go_upto_region 3 with fail
  repeat ((fail_if_success ((with_reducible refine leave_then ?_ ?_); exact rfl)); (first | go_values | go_skip | go_guarded | go_step | go_upon | go_back | (simp only [Int.not_lt, Int.not_le] at *; go_simp)))
  repeat (first | ((with_reducible refine leave_then ?_ ?_); exact rfl) | (with_reducible refine leave_at ?_) | ((with_reducible refine leave_block ?_ ?_); exact of_decide_eq_true rfl) | (with_reducible refine leave_block_end ?_) | (with_reducible refine leave_then_end ?_))
  go_wp2_with (first | (go_at_call 36; refine (addOver_any _ _ h1 h2 h3 h4 _).mono ?_; rintro e w' ⟨rfl, rfl⟩))
  go_ret
  exact ⟨ret_bool rfl, hB.out⟩
set_option maxRecDepth 20000 in
theorem traps_10 (S T D A m s t : Int) (h1 : 0 ≤ s) (h2 : s < 4294967296) (h3 : 0 ≤ t) (h4 : t < 4294967296) (h5 : 0 ≤ m) (h6 : m < 4294967296) (w : World) :
    Calls Try.prog 12 #[.agg (insC 10 S T D A m), .int .u32 s, .int .u32 t] w fun e w' => e = .returned (.bool (subOv s t)) ∧ Below w.heap.size w w' := by
  have hB := hidden (below_new w (.cells (insC 10 S T D A m) 24))
  go_enter Try.func12, Try.ntmps12
  go_upto_region 4 with fail
  repeat ((fail_if_success ((with_reducible refine leave_then ?_ ?_); exact rfl)); (first | go_values | go_skip | go_guarded | go_step | go_upon | go_back | (simp only [Int.not_lt, Int.not_le] at *; go_simp)))
  repeat (first | ((with_reducible refine leave_then ?_ ?_); exact rfl) | (with_reducible refine leave_at ?_) | ((with_reducible refine leave_block ?_ ?_); exact of_decide_eq_true rfl) | (with_reducible refine leave_block_end ?_) | (with_reducible refine leave_then_end ?_))
  go_wp2_with (first | (go_at_call 37; refine (subOver_any _ _ h1 h2 h3 h4 _).mono ?_; rintro e w' ⟨rfl, rfl⟩))
  go_ret
  exact ⟨ret_bool rfl, hB.out⟩
set_option maxRecDepth 20000 in
theorem traps_29 (S T D A m s t : Int) (h1 : 0 ≤ s) (h2 : s < 4294967296) (h3 : 0 ≤ t) (h4 : t < 4294967296) (h5 : 0 ≤ m) (h6 : m < 4294967296) (w : World) :
    Calls Try.prog 12 #[.agg (insC 29 S T D A m), .int .u32 s, .int .u32 t] w fun e w' => e = .returned (.bool (!lt32 s t)) ∧ Below w.heap.size w w' := by
  have hB := hidden (below_new w (.cells (insC 29 S T D A m) 24))
  go_enter Try.func12, Try.ntmps12
  go_upto_region 5 with fail
  repeat ((fail_if_success ((with_reducible refine leave_then ?_ ?_); exact rfl)); (first | go_values | go_skip | go_guarded | go_step | go_upon | go_back | (simp only [Int.not_lt, Int.not_le] at *; go_simp)))
  repeat (first | ((with_reducible refine leave_then ?_ ?_); exact rfl) | (with_reducible refine leave_at ?_) | ((with_reducible refine leave_block ?_ ?_); exact of_decide_eq_true rfl) | (with_reducible refine leave_block_end ?_) | (with_reducible refine leave_then_end ?_))
  go_wp2_with (first | (go_at_call 23; refine (below_any _ _ h1 h2 h3 h4 _).mono ?_; rintro e w' ⟨rfl, rfl⟩))
  go_ret
  exact ⟨ret_bool rfl, hB.out⟩
set_option maxRecDepth 20000 in
theorem traps_30 (S T D A m s t : Int) (h1 : 0 ≤ s) (h2 : s < 4294967296) (h3 : 0 ≤ t) (h4 : t < 4294967296) (h5 : 0 ≤ m) (h6 : m < 4294967296) (w : World) :
    Calls Try.prog 12 #[.agg (insC 30 S T D A m), .int .u32 s, .int .u32 t] w fun e w' => e = .returned (.bool (decide (t ≤ s))) ∧ Below w.heap.size w w' := by
  have hB := hidden (below_new w (.cells (insC 30 S T D A m) 24))
  go_enter Try.func12, Try.ntmps12
  go_upto_region 6 with fail
  repeat ((fail_if_success ((with_reducible refine leave_then ?_ ?_); exact rfl)); (first | go_values | go_skip | go_guarded | go_step | go_upon | go_back | (simp only [Int.not_lt, Int.not_le] at *; go_simp)))
  repeat (first | ((with_reducible refine leave_then ?_ ?_); exact rfl) | (with_reducible refine leave_at ?_) | ((with_reducible refine leave_block ?_ ?_); exact of_decide_eq_true rfl) | (with_reducible refine leave_block_end ?_) | (with_reducible refine leave_then_end ?_))
  go_wp2
  go_ret
  exact ⟨ret_bool rfl, hB.out⟩
set_option maxRecDepth 20000 in
theorem traps_31 (S T D A m s t : Int) (h1 : 0 ≤ s) (h2 : s < 4294967296) (h3 : 0 ≤ t) (h4 : t < 4294967296) (h5 : 0 ≤ m) (h6 : m < 4294967296) (w : World) :
    Calls Try.prog 12 #[.agg (insC 31 S T D A m), .int .u32 s, .int .u32 t] w fun e w' => e = .returned (.bool (lt32 s t)) ∧ Below w.heap.size w w' := by
  have hB := hidden (below_new w (.cells (insC 31 S T D A m) 24))
  go_enter Try.func12, Try.ntmps12
  go_upto_region 7 with fail
  repeat ((fail_if_success ((with_reducible refine leave_then ?_ ?_); exact rfl)); (first | go_values | go_skip | go_guarded | go_step | go_upon | go_back | (simp only [Int.not_lt, Int.not_le] at *; go_simp)))
  repeat (first | ((with_reducible refine leave_then ?_ ?_); exact rfl) | (with_reducible refine leave_at ?_) | ((with_reducible refine leave_block ?_ ?_); exact of_decide_eq_true rfl) | (with_reducible refine leave_block_end ?_) | (with_reducible refine leave_then_end ?_))
  go_wp2_with (first | (go_at_call 23; refine (below_any _ _ h1 h2 h3 h4 _).mono ?_; rintro e w' ⟨rfl, rfl⟩))
  go_ret
  exact ⟨ret_bool rfl, hB.out⟩
set_option maxRecDepth 20000 in
theorem traps_32 (S T D A m s t : Int) (h1 : 0 ≤ s) (h2 : s < 4294967296) (h3 : 0 ≤ t) (h4 : t < 4294967296) (h5 : 0 ≤ m) (h6 : m < 4294967296) (w : World) :
    Calls Try.prog 12 #[.agg (insC 32 S T D A m), .int .u32 s, .int .u32 t] w fun e w' => e = .returned (.bool (decide (s < t))) ∧ Below w.heap.size w w' := by
  have hB := hidden (below_new w (.cells (insC 32 S T D A m) 24))
  go_enter Try.func12, Try.ntmps12
  go_upto_region 8 with fail
  repeat ((fail_if_success ((with_reducible refine leave_then ?_ ?_); exact rfl)); (first | go_values | go_skip | go_guarded | go_step | go_upon | go_back | (simp only [Int.not_lt, Int.not_le] at *; go_simp)))
  repeat (first | ((with_reducible refine leave_then ?_ ?_); exact rfl) | (with_reducible refine leave_at ?_) | ((with_reducible refine leave_block ?_ ?_); exact of_decide_eq_true rfl) | (with_reducible refine leave_block_end ?_) | (with_reducible refine leave_then_end ?_))
  go_wp2
  go_ret
  exact ⟨ret_bool rfl, hB.out⟩
set_option maxRecDepth 20000 in
theorem traps_33 (S T D A m s t : Int) (h1 : 0 ≤ s) (h2 : s < 4294967296) (h3 : 0 ≤ t) (h4 : t < 4294967296) (h5 : 0 ≤ m) (h6 : m < 4294967296) (w : World) :
    Calls Try.prog 12 #[.agg (insC 33 S T D A m), .int .u32 s, .int .u32 t] w fun e w' => e = .returned (.bool (s == t)) ∧ Below w.heap.size w w' := by
  have hB := hidden (below_new w (.cells (insC 33 S T D A m) 24))
  go_enter Try.func12, Try.ntmps12
  go_upto_region 9 with fail
  repeat ((fail_if_success ((with_reducible refine leave_then ?_ ?_); exact rfl)); (first | go_values | go_skip | go_guarded | go_step | go_upon | go_back | (simp only [Int.not_lt, Int.not_le] at *; go_simp)))
  repeat (first | ((with_reducible refine leave_then ?_ ?_); exact rfl) | (with_reducible refine leave_at ?_) | ((with_reducible refine leave_block ?_ ?_); exact of_decide_eq_true rfl) | (with_reducible refine leave_block_end ?_) | (with_reducible refine leave_then_end ?_))
  go_wp2
  go_ret
  exact ⟨ret_bool rfl, hB.out⟩
set_option maxRecDepth 20000 in
theorem traps_34 (S T D A m s t : Int) (h1 : 0 ≤ s) (h2 : s < 4294967296) (h3 : 0 ≤ t) (h4 : t < 4294967296) (h5 : 0 ≤ m) (h6 : m < 4294967296) (w : World) :
    Calls Try.prog 12 #[.agg (insC 34 S T D A m), .int .u32 s, .int .u32 t] w fun e w' => e = .returned (.bool (s != t)) ∧ Below w.heap.size w w' := by
  have hB := hidden (below_new w (.cells (insC 34 S T D A m) 24))
  go_enter Try.func12, Try.ntmps12
  go_upto_region 10 with fail
  repeat ((fail_if_success ((with_reducible refine leave_then ?_ ?_); exact rfl)); (first | go_values | go_skip | go_guarded | go_step | go_upon | go_back | (simp only [Int.not_lt, Int.not_le] at *; go_simp)))
  repeat (first | ((with_reducible refine leave_then ?_ ?_); exact rfl) | (with_reducible refine leave_at ?_) | ((with_reducible refine leave_block ?_ ?_); exact of_decide_eq_true rfl) | (with_reducible refine leave_block_end ?_) | (with_reducible refine leave_then_end ?_))
  go_wp2
  go_ret
  exact ⟨ret_bool rfl, hB.out⟩
set_option maxRecDepth 20000 in
theorem traps_41 (S T D A m s t : Int) (h1 : 0 ≤ s) (h2 : s < 4294967296) (h3 : 0 ≤ t) (h4 : t < 4294967296) (h5 : 0 ≤ m) (h6 : m < 4294967296) (w : World) :
    Calls Try.prog 12 #[.agg (insC 41 S T D A m), .int .u32 s, .int .u32 t] w fun e w' => e = .returned (.bool (addOv s m)) ∧ Below w.heap.size w w' := by
  have hB := hidden (below_new w (.cells (insC 41 S T D A m) 24))
  go_enter Try.func12, Try.ntmps12
  go_upto_region 2 with fail
  repeat ((fail_if_success ((with_reducible refine leave_then ?_ ?_); exact rfl)); (first | go_values | go_skip | go_guarded | go_step | go_upon | go_back | (simp only [Int.not_lt, Int.not_le] at *; go_simp)))
  repeat (first | ((with_reducible refine leave_then ?_ ?_); exact rfl) | (with_reducible refine leave_at ?_) | ((with_reducible refine leave_block ?_ ?_); exact of_decide_eq_true rfl) | (with_reducible refine leave_block_end ?_) | (with_reducible refine leave_then_end ?_))
  go_wp2_with (first | (go_at_call 36; refine (addOver_any _ _ h1 h2 h5 h6 _).mono ?_; rintro e w' ⟨rfl, rfl⟩))
  go_ret
  exact ⟨ret_bool rfl, hB.out⟩
set_option maxRecDepth 20000 in
theorem traps_none (op S T D A m s t : Int) (h1 : 0 ≤ s) (h2 : s < 4294967296) (h3 : 0 ≤ t) (h4 : t < 4294967296) (h5 : 0 ≤ m) (h6 : m < 4294967296) (k9 : (op == 9) = false) (k10 : (op == 10) = false) (k29 : (op == 29) = false) (k30 : (op == 30) = false) (k31 : (op == 31) = false) (k32 : (op == 32) = false) (k33 : (op == 33) = false) (k34 : (op == 34) = false) (k41 : (op == 41) = false) (w : World) :
    Calls Try.prog 12 #[.agg (insC op S T D A m), .int .u32 s, .int .u32 t] w fun e w' => e = .returned (.bool (false)) ∧ Below w.heap.size w w' := by
  have hB := hidden (below_new w (.cells (insC op S T D A m) 24))
  go_enter Try.func12, Try.ntmps12
  go_upto_region 10 with fail
  repeat ((fail_if_success ((with_reducible refine leave_then ?_ ?_); exact rfl)); (first | go_values | go_skip | go_guarded | go_step | go_upon | go_back | (simp only [Int.not_lt, Int.not_le] at *; go_simp)))
  repeat (first | ((with_reducible refine leave_then ?_ ?_); exact rfl) | (with_reducible refine leave_at ?_) | ((with_reducible refine leave_block ?_ ?_); exact of_decide_eq_true rfl) | (with_reducible refine leave_block_end ?_) | (with_reducible refine leave_then_end ?_))
  go_wp2
  go_ret
  exact ⟨ret_bool rfl, hB.out⟩
theorem traps_any (op S T D A m s t : Int) (h1 : 0 ≤ s) (h2 : s < 4294967296) (h3 : 0 ≤ t) (h4 : t < 4294967296) (h5 : 0 ≤ m) (h6 : m < 4294967296) (w : World) :
    Calls Try.prog 12 #[.agg (insC op S T D A m), .int .u32 s, .int .u32 t] w fun e w' => e = .returned (.bool (trapB op s t m)) ∧ Below w.heap.size w w' := by
  by_cases k9 : op = 9
  · subst k9
    exact traps_9 S T D A m s t h1 h2 h3 h4 h5 h6 w
  by_cases k10 : op = 10
  · subst k10
    exact traps_10 S T D A m s t h1 h2 h3 h4 h5 h6 w
  by_cases k29 : op = 29
  · subst k29
    exact traps_29 S T D A m s t h1 h2 h3 h4 h5 h6 w
  by_cases k30 : op = 30
  · subst k30
    exact traps_30 S T D A m s t h1 h2 h3 h4 h5 h6 w
  by_cases k31 : op = 31
  · subst k31
    exact traps_31 S T D A m s t h1 h2 h3 h4 h5 h6 w
  by_cases k32 : op = 32
  · subst k32
    exact traps_32 S T D A m s t h1 h2 h3 h4 h5 h6 w
  by_cases k33 : op = 33
  · subst k33
    exact traps_33 S T D A m s t h1 h2 h3 h4 h5 h6 w
  by_cases k34 : op = 34
  · subst k34
    exact traps_34 S T D A m s t h1 h2 h3 h4 h5 h6 w
  by_cases k41 : op = 41
  · subst k41
    exact traps_41 S T D A m s t h1 h2 h3 h4 h5 h6 w
  have e : trapB op s t m = false := by simp only [trapB, k9, k10, k29, k30, k31, k32, k33, k34, k41, if_false]
  rw [e]
  exact traps_none op S T D A m s t h1 h2 h3 h4 h5 h6 (beq_eq_false_iff_ne.2 k9) (beq_eq_false_iff_ne.2 k10) (beq_eq_false_iff_ne.2 k29) (beq_eq_false_iff_ne.2 k30) (beq_eq_false_iff_ne.2 k31) (beq_eq_false_iff_ne.2 k32) (beq_eq_false_iff_ne.2 k33) (beq_eq_false_iff_ne.2 k34) (beq_eq_false_iff_ne.2 k41) w
end Go.Proofs.Ytlheilpaafjeiaa
