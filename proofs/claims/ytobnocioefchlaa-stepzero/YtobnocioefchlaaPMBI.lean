/- reckon of one instruction, walked. -/
import Derived.Test.YtobnocioefchlaaPMBC
import Derived.Deep.CutBlock
import Derived.Test.YtobnocioefchlaaPMBH
import Derived.Test.YtobnocioefchlaaPMBF
import Derived.Test.YtobnocioefchlaaPMBG
namespace Go.Proofs.Ytobnocioefchlaa
open Go.ChangeShapes Go.WideShapes Go.ChangeAt Go.RowKit
set_option linter.unusedVariables false
set_option maxRecDepth 20000 in
theorem reckon_3 (S T D A m s t : Int) (h1 : 0 ≤ s) (h2 : s < 4294967296) (h3 : 0 ≤ t) (h4 : t < 4294967296) (h5 : 0 ≤ m) (h6 : m < 4294967296) (w : World) :
    Calls Try.prog 54 #[.agg (insC 3 S T D A m), .int .u32 s, .int .u32 t] w fun e w' => e = .returned (.tuple #[.int .u32 (bits .and .u32 s t), .bool true]) ∧ Below w.heap.size w w' := by
  have hB := hidden (below_new w (.cells (insC 3 S T D A m) 62))
  go_enter Try.func54, Try.ntmps54
  go_upto_region 11 with fail
  repeat ((fail_if_success ((with_reducible refine leave_then ?_ ?_); exact rfl)); (first | go_values | go_skip | go_guarded | go_step | go_upon | go_back | (simp only [Int.not_lt, Int.not_le] at *; go_simp)))
  repeat (first | ((with_reducible refine leave_then ?_ ?_); exact rfl) | (with_reducible refine leave_at ?_) | ((with_reducible refine leave_block ?_ ?_); exact of_decide_eq_true rfl) | (with_reducible refine leave_block_end ?_) | (with_reducible refine leave_then_end ?_))
  go_wp2_with (first | (go_at_call 80; refine (mix_3 _ _ h1 h2 h3 h4 _).mono ?_; rintro e w' ⟨rfl, rfl⟩))
  go_ret2
  exact ⟨ret_intb rfl rfl, hB.out⟩
set_option maxRecDepth 20000 in
theorem reckon_6 (S T D A m s t : Int) (h1 : 0 ≤ s) (h2 : s < 4294967296) (h3 : 0 ≤ t) (h4 : t < 4294967296) (h5 : 0 ≤ m) (h6 : m < 4294967296) (w : World) :
    Calls Try.prog 54 #[.agg (insC 6 S T D A m), .int .u32 s, .int .u32 t] w fun e w' => e = .returned (.tuple #[.int .u32 (norV s t), .bool true]) ∧ Below w.heap.size w w' := by
  have hB := hidden (below_new w (.cells (insC 6 S T D A m) 62))
  go_enter Try.func54, Try.ntmps54
  go_upto_region 11 with fail
  repeat ((fail_if_success ((with_reducible refine leave_then ?_ ?_); exact rfl)); (first | go_values | go_skip | go_guarded | go_step | go_upon | go_back | (simp only [Int.not_lt, Int.not_le] at *; go_simp)))
  repeat (first | ((with_reducible refine leave_then ?_ ?_); exact rfl) | (with_reducible refine leave_at ?_) | ((with_reducible refine leave_block ?_ ?_); exact of_decide_eq_true rfl) | (with_reducible refine leave_block_end ?_) | (with_reducible refine leave_then_end ?_))
  go_wp2_with (first | (go_at_call 80; refine (mix_6 _ _ h1 h2 h3 h4 _).mono ?_; rintro e w' ⟨rfl, rfl⟩))
  go_ret2
  exact ⟨ret_intb rfl rfl, hB.out⟩
set_option maxRecDepth 20000 in
theorem reckon_9 (S T D A m s t : Int) (h1 : 0 ≤ s) (h2 : s < 4294967296) (h3 : 0 ≤ t) (h4 : t < 4294967296) (h5 : 0 ≤ m) (h6 : m < 4294967296) (w : World) :
    Calls Try.prog 54 #[.agg (insC 9 S T D A m), .int .u32 s, .int .u32 t] w fun e w' => e = .returned (.tuple #[.int .u32 (add32 s t), .bool true]) ∧ Below w.heap.size w w' := by
  have hB := hidden (below_new w (.cells (insC 9 S T D A m) 62))
  go_enter Try.func54, Try.ntmps54
  go_upto_region 4 with fail
  repeat ((fail_if_success ((with_reducible refine leave_then ?_ ?_); exact rfl)); (first | go_values | go_skip | go_guarded | go_step | go_upon | go_back | (simp only [Int.not_lt, Int.not_le] at *; go_simp)))
  repeat (first | ((with_reducible refine leave_then ?_ ?_); exact rfl) | (with_reducible refine leave_at ?_) | ((with_reducible refine leave_block ?_ ?_); exact of_decide_eq_true rfl) | (with_reducible refine leave_block_end ?_) | (with_reducible refine leave_then_end ?_))
  go_wp2
  go_ret2
  exact ⟨ret_intb rfl rfl, hB.out⟩
set_option maxRecDepth 20000 in
theorem reckon_12 (S T D A m s t : Int) (h1 : 0 ≤ s) (h2 : s < 4294967296) (h3 : 0 ≤ t) (h4 : t < 4294967296) (h5 : 0 ≤ m) (h6 : m < 4294967296) (w : World) :
    Calls Try.prog 54 #[.agg (insC 12 S T D A m), .int .u32 s, .int .u32 t] w fun e w' => e = .returned (.tuple #[.int .u32 (shr32 t s), .bool true]) ∧ Below w.heap.size w w' := by
  have hB := hidden (below_new w (.cells (insC 12 S T D A m) 62))
  go_enter Try.func54, Try.ntmps54
  go_upto_region 22 with fail
  repeat ((fail_if_success ((with_reducible refine leave_then ?_ ?_); exact rfl)); (first | go_values | go_skip | go_guarded | go_step | go_upon | go_back | (simp only [Int.not_lt, Int.not_le] at *; go_simp)))
  repeat (first | ((with_reducible refine leave_then ?_ ?_); exact rfl) | (with_reducible refine leave_at ?_) | ((with_reducible refine leave_block ?_ ?_); exact of_decide_eq_true rfl) | (with_reducible refine leave_block_end ?_) | (with_reducible refine leave_then_end ?_))
  go_wp2_with (first | (go_at_call 82; refine (shift_12 _ _ h1 h2 h3 h4 _).mono ?_; rintro e w' ⟨rfl, rfl⟩))
  go_ret2
  exact ⟨ret_intb rfl rfl, hB.out⟩
set_option maxRecDepth 20000 in
theorem reckon_17 (S T D A m s t : Int) (h1 : 0 ≤ s) (h2 : s < 4294967296) (h3 : 0 ≤ t) (h4 : t < 4294967296) (h5 : 0 ≤ m) (h6 : m < 4294967296) (w : World) :
    Calls Try.prog 54 #[.agg (insC 17 S T D A m), .int .u32 s, .int .u32 t] w fun e w' => e = .returned (.tuple #[.int .u32 (shr32 t A), .bool true]) ∧ Below w.heap.size w w' := by
  have hB := hidden (below_new w (.cells (insC 17 S T D A m) 62))
  have hA : 0 ≤ A % 4294967296 ∧ A % 4294967296 < 4294967296 := by omega
  go_enter Try.func54, Try.ntmps54
  go_upto_region 19 with fail
  repeat ((fail_if_success ((with_reducible refine leave_then ?_ ?_); exact rfl)); (first | go_values | go_skip | go_guarded | go_step | go_upon | go_back | (simp only [Int.not_lt, Int.not_le] at *; go_simp)))
  repeat (first | ((with_reducible refine leave_then ?_ ?_); exact rfl) | (with_reducible refine leave_at ?_) | ((with_reducible refine leave_block ?_ ?_); exact of_decide_eq_true rfl) | (with_reducible refine leave_block_end ?_) | (with_reducible refine leave_then_end ?_))
  go_wp2_with (first | (go_at_call 82; refine (shift_17 _ _ hA.1 hA.2 h3 h4 _).mono ?_; rintro e w' ⟨rfl, rfl⟩))
  go_ret2
  exact ⟨ret_intb (shr32_m t A) rfl, hB.out⟩
set_option maxRecDepth 20000 in
theorem reckon_38 (S T D A m s t : Int) (h1 : 0 ≤ s) (h2 : s < 4294967296) (h3 : 0 ≤ t) (h4 : t < 4294967296) (h5 : 0 ≤ m) (h6 : m < 4294967296) (w : World) :
    Calls Try.prog 54 #[.agg (insC 38 S T D A m), .int .u32 s, .int .u32 t] w fun e w' => e = .returned (.tuple #[.int .u32 (zeros32 s), .bool true]) ∧ Below w.heap.size w w' := by
  have hB := hidden (below_new w (.cells (insC 38 S T D A m) 62))
  go_enter Try.func54, Try.ntmps54
  go_upto_region 26 with fail
  repeat ((fail_if_success ((with_reducible refine leave_then ?_ ?_); exact rfl)); (first | go_values | go_skip | go_guarded | go_step | go_upon | go_back | (simp only [Int.not_lt, Int.not_le] at *; go_simp)))
  repeat (first | ((with_reducible refine leave_then ?_ ?_); exact rfl) | (with_reducible refine leave_at ?_) | ((with_reducible refine leave_block ?_ ?_); exact of_decide_eq_true rfl) | (with_reducible refine leave_block_end ?_) | (with_reducible refine leave_then_end ?_))
  go_wp2_with (first | (go_at_call 83; refine (zeros_any _ h1 h2 _).mono ?_; rintro e w' ⟨rfl, rfl⟩))
  go_ret2
  exact ⟨ret_intb rfl rfl, hB.out⟩
set_option maxRecDepth 20000 in
theorem reckon_41 (S T D A m s t : Int) (h1 : 0 ≤ s) (h2 : s < 4294967296) (h3 : 0 ≤ t) (h4 : t < 4294967296) (h5 : 0 ≤ m) (h6 : m < 4294967296) (w : World) :
    Calls Try.prog 54 #[.agg (insC 41 S T D A m), .int .u32 s, .int .u32 t] w fun e w' => e = .returned (.tuple #[.int .u32 (add32 s m), .bool true]) ∧ Below w.heap.size w w' := by
  have hB := hidden (below_new w (.cells (insC 41 S T D A m) 62))
  go_enter Try.func54, Try.ntmps54
  go_upto_region 2 with fail
  repeat ((fail_if_success ((with_reducible refine leave_then ?_ ?_); exact rfl)); (first | go_values | go_skip | go_guarded | go_step | go_upon | go_back | (simp only [Int.not_lt, Int.not_le] at *; go_simp)))
  repeat (first | ((with_reducible refine leave_then ?_ ?_); exact rfl) | (with_reducible refine leave_at ?_) | ((with_reducible refine leave_block ?_ ?_); exact of_decide_eq_true rfl) | (with_reducible refine leave_block_end ?_) | (with_reducible refine leave_then_end ?_))
  go_wp2
  go_ret2
  exact ⟨ret_intb rfl rfl, hB.out⟩
set_option maxRecDepth 20000 in
theorem reckon_44 (S T D A m s t : Int) (h1 : 0 ≤ s) (h2 : s < 4294967296) (h3 : 0 ≤ t) (h4 : t < 4294967296) (h5 : 0 ≤ m) (h6 : m < 4294967296) (w : World) :
    Calls Try.prog 54 #[.agg (insC 44 S T D A m), .int .u32 s, .int .u32 t] w fun e w' => e = .returned (.tuple #[.int .u32 (bits .and .u32 s m), .bool true]) ∧ Below w.heap.size w w' := by
  have hB := hidden (below_new w (.cells (insC 44 S T D A m) 62))
  go_enter Try.func54, Try.ntmps54
  go_upto_region 8 with fail
  repeat ((fail_if_success ((with_reducible refine leave_then ?_ ?_); exact rfl)); (first | go_values | go_skip | go_guarded | go_step | go_upon | go_back | (simp only [Int.not_lt, Int.not_le] at *; go_simp)))
  repeat (first | ((with_reducible refine leave_then ?_ ?_); exact rfl) | (with_reducible refine leave_at ?_) | ((with_reducible refine leave_block ?_ ?_); exact of_decide_eq_true rfl) | (with_reducible refine leave_block_end ?_) | (with_reducible refine leave_then_end ?_))
  go_wp2_with (first | (go_at_call 80; refine (mix_44 _ _ h1 h2 h5 h6 _).mono ?_; rintro e w' ⟨rfl, rfl⟩))
  go_ret2
  exact ⟨ret_intb rfl rfl, hB.out⟩
set_option maxRecDepth 20000 in
theorem reckon_47 (S T D A m s t : Int) (h1 : 0 ≤ s) (h2 : s < 4294967296) (h3 : 0 ≤ t) (h4 : t < 4294967296) (h5 : 0 ≤ m) (h6 : m < 4294967296) (w : World) :
    Calls Try.prog 54 #[.agg (insC 47 S T D A m), .int .u32 s, .int .u32 t] w fun e w' => e = .returned (.tuple #[.int .u32 (m * 65536 % 4294967296), .bool true]) ∧ Below w.heap.size w w' := by
  have hB := hidden (below_new w (.cells (insC 47 S T D A m) 62))
  go_enter Try.func54, Try.ntmps54
  go_upto_region 28 with fail
  repeat ((fail_if_success ((with_reducible refine leave_then ?_ ?_); exact rfl)); (first | go_values | go_skip | go_guarded | go_step | go_upon | go_back | (simp only [Int.not_lt, Int.not_le] at *; go_simp)))
  repeat (first | ((with_reducible refine leave_then ?_ ?_); exact rfl) | (with_reducible refine leave_at ?_) | ((with_reducible refine leave_block ?_ ?_); exact of_decide_eq_true rfl) | (with_reducible refine leave_block_end ?_) | (with_reducible refine leave_then_end ?_))
  go_wp2
  go_ret2
  exact ⟨ret_intb rfl rfl, hB.out⟩
end Go.Proofs.Ytobnocioefchlaa
namespace Go.Proofs.Ytobnocioefchlaa
open Go.ChangeShapes Go.WideShapes Go.ChangeAt Go.RowKit
set_option linter.unusedVariables false
set_option maxRecDepth 20000 in
theorem reckon_none (op S T D A m s t : Int) (h1 : 0 ≤ s) (h2 : s < 4294967296) (h3 : 0 ≤ t) (h4 : t < 4294967296) (h5 : 0 ≤ m) (h6 : m < 4294967296) (k1 : (op == 1) = false) (k2 : (op == 2) = false) (k3 : (op == 3) = false) (k4 : (op == 4) = false) (k5 : (op == 5) = false) (k6 : (op == 6) = false) (k7 : (op == 7) = false) (k8 : (op == 8) = false) (k9 : (op == 9) = false) (k10 : (op == 10) = false) (k11 : (op == 11) = false) (k12 : (op == 12) = false) (k13 : (op == 13) = false) (k16 : (op == 16) = false) (k17 : (op == 17) = false) (k18 : (op == 18) = false) (k37 : (op == 37) = false) (k38 : (op == 38) = false) (k39 : (op == 39) = false) (k40 : (op == 40) = false) (k41 : (op == 41) = false) (k42 : (op == 42) = false) (k43 : (op == 43) = false) (k44 : (op == 44) = false) (k45 : (op == 45) = false) (k46 : (op == 46) = false) (k47 : (op == 47) = false) (w : World) :
    Calls Try.prog 54 #[.agg (insC op S T D A m), .int .u32 s, .int .u32 t] w fun e w' => e = .returned (.tuple #[.int .u32 0, .bool false]) ∧ Below w.heap.size w w' := by
  have hB := hidden (below_new w (.cells (insC op S T D A m) 62))
  go_enter Try.func54, Try.ntmps54
  go_upto_region 28 with fail
  repeat ((fail_if_success ((with_reducible refine leave_then ?_ ?_); exact rfl)); (first | go_values | go_skip | go_guarded | go_step | go_upon | go_back | (simp only [Int.not_lt, Int.not_le] at *; go_simp)))
  repeat (first | ((with_reducible refine leave_then ?_ ?_); exact rfl) | (with_reducible refine leave_at ?_) | ((with_reducible refine leave_block ?_ ?_); exact of_decide_eq_true rfl) | (with_reducible refine leave_block_end ?_) | (with_reducible refine leave_then_end ?_))
  go_wp2
  go_ret2
  exact ⟨ret_intb rfl rfl, hB.out⟩
theorem reckon_any (op S T D A m s t : Int) (h1 : 0 ≤ s) (h2 : s < 4294967296) (h3 : 0 ≤ t) (h4 : t < 4294967296) (h5 : 0 ≤ m) (h6 : m < 4294967296) (w : World) :
    Calls Try.prog 54 #[.agg (insC op S T D A m), .int .u32 s, .int .u32 t] w fun e w' => e = .returned (.tuple #[.int .u32 (reck op s t A m).1, .bool (reck op s t A m).2]) ∧ Below w.heap.size w w' := by
  by_cases k1 : op = 1
  · subst k1
    exact reckon_1 S T D A m s t h1 h2 h3 h4 h5 h6 w
  by_cases k2 : op = 2
  · subst k2
    exact reckon_2 S T D A m s t h1 h2 h3 h4 h5 h6 w
  by_cases k3 : op = 3
  · subst k3
    exact reckon_3 S T D A m s t h1 h2 h3 h4 h5 h6 w
  by_cases k4 : op = 4
  · subst k4
    exact reckon_4 S T D A m s t h1 h2 h3 h4 h5 h6 w
  by_cases k5 : op = 5
  · subst k5
    exact reckon_5 S T D A m s t h1 h2 h3 h4 h5 h6 w
  by_cases k6 : op = 6
  · subst k6
    exact reckon_6 S T D A m s t h1 h2 h3 h4 h5 h6 w
  by_cases k7 : op = 7
  · subst k7
    exact reckon_7 S T D A m s t h1 h2 h3 h4 h5 h6 w
  by_cases k8 : op = 8
  · subst k8
    exact reckon_8 S T D A m s t h1 h2 h3 h4 h5 h6 w
  by_cases k9 : op = 9
  · subst k9
    exact reckon_9 S T D A m s t h1 h2 h3 h4 h5 h6 w
  by_cases k10 : op = 10
  · subst k10
    exact reckon_10 S T D A m s t h1 h2 h3 h4 h5 h6 w
  by_cases k11 : op = 11
  · subst k11
    exact reckon_11 S T D A m s t h1 h2 h3 h4 h5 h6 w
  by_cases k12 : op = 12
  · subst k12
    exact reckon_12 S T D A m s t h1 h2 h3 h4 h5 h6 w
  by_cases k13 : op = 13
  · subst k13
    exact reckon_13 S T D A m s t h1 h2 h3 h4 h5 h6 w
  by_cases k16 : op = 16
  · subst k16
    exact reckon_16 S T D A m s t h1 h2 h3 h4 h5 h6 w
  by_cases k17 : op = 17
  · subst k17
    exact reckon_17 S T D A m s t h1 h2 h3 h4 h5 h6 w
  by_cases k18 : op = 18
  · subst k18
    exact reckon_18 S T D A m s t h1 h2 h3 h4 h5 h6 w
  by_cases k37 : op = 37
  · subst k37
    exact reckon_37 S T D A m s t h1 h2 h3 h4 h5 h6 w
  by_cases k38 : op = 38
  · subst k38
    exact reckon_38 S T D A m s t h1 h2 h3 h4 h5 h6 w
  by_cases k39 : op = 39
  · subst k39
    exact reckon_39 S T D A m s t h1 h2 h3 h4 h5 h6 w
  by_cases k40 : op = 40
  · subst k40
    exact reckon_40 S T D A m s t h1 h2 h3 h4 h5 h6 w
  by_cases k41 : op = 41
  · subst k41
    exact reckon_41 S T D A m s t h1 h2 h3 h4 h5 h6 w
  by_cases k42 : op = 42
  · subst k42
    exact reckon_42 S T D A m s t h1 h2 h3 h4 h5 h6 w
  by_cases k43 : op = 43
  · subst k43
    exact reckon_43 S T D A m s t h1 h2 h3 h4 h5 h6 w
  by_cases k44 : op = 44
  · subst k44
    exact reckon_44 S T D A m s t h1 h2 h3 h4 h5 h6 w
  by_cases k45 : op = 45
  · subst k45
    exact reckon_45 S T D A m s t h1 h2 h3 h4 h5 h6 w
  by_cases k46 : op = 46
  · subst k46
    exact reckon_46 S T D A m s t h1 h2 h3 h4 h5 h6 w
  by_cases k47 : op = 47
  · subst k47
    exact reckon_47 S T D A m s t h1 h2 h3 h4 h5 h6 w
  have e : reck op s t A m = (0, false) := by simp only [reck, k1, k2, k3, k4, k5, k6, k7, k8, k9, k10, k11, k12, k13, k16, k17, k18, k37, k38, k39, k40, k41, k42, k43, k44, k45, k46, k47, if_false]
  rw [e]
  exact reckon_none op S T D A m s t h1 h2 h3 h4 h5 h6 (beq_eq_false_iff_ne.2 k1) (beq_eq_false_iff_ne.2 k2) (beq_eq_false_iff_ne.2 k3) (beq_eq_false_iff_ne.2 k4) (beq_eq_false_iff_ne.2 k5) (beq_eq_false_iff_ne.2 k6) (beq_eq_false_iff_ne.2 k7) (beq_eq_false_iff_ne.2 k8) (beq_eq_false_iff_ne.2 k9) (beq_eq_false_iff_ne.2 k10) (beq_eq_false_iff_ne.2 k11) (beq_eq_false_iff_ne.2 k12) (beq_eq_false_iff_ne.2 k13) (beq_eq_false_iff_ne.2 k16) (beq_eq_false_iff_ne.2 k17) (beq_eq_false_iff_ne.2 k18) (beq_eq_false_iff_ne.2 k37) (beq_eq_false_iff_ne.2 k38) (beq_eq_false_iff_ne.2 k39) (beq_eq_false_iff_ne.2 k40) (beq_eq_false_iff_ne.2 k41) (beq_eq_false_iff_ne.2 k42) (beq_eq_false_iff_ne.2 k43) (beq_eq_false_iff_ne.2 k44) (beq_eq_false_iff_ne.2 k45) (beq_eq_false_iff_ne.2 k46) (beq_eq_false_iff_ne.2 k47) w
end Go.Proofs.Ytobnocioefchlaa
namespace Go.Proofs.Ytobnocioefchlaa
open Go.ChangeShapes Go.WideShapes Go.ChangeAt Go.RowKit
set_option linter.unusedVariables false
theorem zeroS_run {ρ : Operand → Value} {o : Oper} (hop : o.op = .alloc 26) (w : World) : (execOp ρ o).run Try.prog w = .ok (.value (.pointer (some ⟨w.heap.size, 0, none⟩))) (w.alloc (.cells SV.zero.c 26)) := by
  obtain ⟨dst, op, ty, pos, aft, gd⟩ := o
  simp only at hop
  subst hop
  kernel_rfl
/-- What the slots of the first region hold, whatever the order. -/
def phiD (n : Nat) (k : TV) : Nat → Value → World → Prop
  | 0, x, _ => x = .pointer (some ⟨n, 6, none⟩)
  | 1, x, _ => x = .agg k.v.c
  | 2, x, _ => x = .agg k.v.on.c
  | 3, x, _ => x = .pointer (some ⟨n, 0, none⟩)
  | 4, x, _ => x = .agg (insT (k.i.op : Int) k.i.tk)
  | 5, x, _ => x = .int .i64 (writeV k.i.op k.i.tk.t k.i.tk.d)
  | 6, x, w => ∃ g, x = .pointer (some ⟨g, 0, none⟩) ∧ n + 2 ≤ g ∧ (Blk w g SV.zero.c 26 ∨ Blk w g k.v.on.c 26)
  | _ + 7, _, _ => True
theorem phiD_mono (n : Nat) (k : TV) : ∀ i x w w', phiD n k i x w → RZ (n + 2) (.cells SV.zero.c 26 (0, 0)) (.cells k.v.on.c 26 (0, 0)) w w' → phiD n k i x w'
  | 0, _, _, _, h, _ => h
  | 1, _, _, _, h, _ => h
  | 2, _, _, _, h, _ => h
  | 3, _, _, _, h, _ => h
  | 4, _, _, _, h, _ => h
  | 5, _, _, _, h, _ => h
  | 6, x, w, w', ⟨g, e, hg, hb⟩, hR => ⟨g, e, hg, hR.one hb⟩
  | _ + 7, _, _, _, _, _ => trivial
def phiE (n : Nat) (k : TV) (i : Nat) (xs : List Value) (w : World) : Prop :=
  match i with
  | 7 => ∃ g, xs.getD 6 undef = .pointer (some ⟨g, 0, none⟩) ∧ Blk w g k.v.on.c 26
  | i => phiD n k i (xs.getD i undef) w
theorem lstD : ∀ xs : List Value, xs.length = 8 → ∃ x0 x1 x2 x3 x4 x5 x6 x7, xs = [x0, x1, x2, x3, x4, x5, x6, x7]
  | [x0, x1, x2, x3, x4, x5, x6, x7], _ => ⟨_, _, _, _, _, _, _, _, rfl⟩
/-- The world while an instruction is done: its task, the answer's block, the state to come. -/
structure DO (w : World) (n g : Nat) (k : TV) (v : SV) (wr : World) : Prop where
  bel : Below n w wr
  tk : Blk wr n k.c 64
  res : Blk wr (n + 1) SV.zero.c 26
  st : Blk wr g v.c 26
  ge : n + 2 ≤ g
  len : v.R.length = 32
theorem DO.later {w : World} {n g : Nat} {k : TV} {v : SV} {wr w' : World} (h : DO w n g k v wr) (hb : Below wr.heap.size wr w') : DO w n g k v w' := ⟨h.bel.trans (hb.mono (Nat.le_of_lt h.tk.lt)), h.tk.later hb, h.res.later hb, h.st.later hb, h.ge, h.len⟩
theorem DO.put {w : World} {n g : Nat} {k : TV} {v v' : SV} {wr w' : World} (h : DO w n g k v wr) (ho : Only g wr w') (hg : Blk w' g v'.c 26) (hl : v'.R.length = 32) : DO w n g k v' w' := ⟨Below.only h.bel ho (by have := h.ge; omega), h.tk.only ho (by have := h.ge; omega), h.res.only ho (by have := h.ge; omega), hg, h.ge, hl⟩
theorem DO.putR {w : World} {n g : Nat} {k : TV} {v : SV} {wr w' : World} {j : Nat} {z : Int} (h : DO w n g k v wr) (ho : Only g wr w') (hg : Blk w' g (SV.c { v with R := v.R.set j z }) 26) : DO w n g k { v with R := v.R.set j z } w' := h.put ho hg (by rw [List.length_set]; exact h.len)
theorem DO.tc {w : World} {n g : Nat} {k : TV} {v : SV} {wr : World} (h : DO w n g k v wr) (hk : TOk k) : TC wr n k := TC.of h.tk hk.len
theorem DO.fin {w : World} {n g : Nat} {k : TV} {v : SV} {wr w' : World} (h : DO w n g k v wr) (ho : Only (n + 1) wr w') : Below n w w' := Below.only h.bel ho (Nat.le_succ n)
/-- The same behind a store. -/
structure DS (w : World) (n g : Nat) (k : TV) (v : SV) (s s' : MS) (wr : World) : Prop where
  step : Step w s wr s'
  tk : Blk wr n k.c 64
  res : Blk wr (n + 1) SV.zero.c 26
  st : Blk wr g v.c 26
  ge : n + 2 ≤ g
  len : v.R.length = 32
  nn : w.heap.size = n
  fr : ¬ foot s' (n + 1)
  fg : ¬ foot s' g
theorem step_only {w wr w' : World} {s s' : MS} {g : Nat} (h : Step w s wr s') (ho : Only g wr w') (hg : w.heap.size ≤ g) (hf : ¬ foot s' g) : Step w s w' s' :=
  ⟨h.mem.same fun b hb => ho.block b (fun e => hf (e ▸ hb)), ⟨ho.os.trans h.keep.os, ho.tape.trans h.keep.tape, ho.output.trans h.keep.output, by rw [ho.size]; exact h.keep.size, fun b hb hn => (ho.block b (by omega)).trans (h.keep.block b hb hn)⟩, h.grow⟩
theorem DO.store {w : World} {n g : Nat} {k : TV} {v : SV} {wr w' : World} {s s' : MS} (h : DO w n g k v wr) (hm : MemW w s) (hn : w.heap.size = n) (st : Step wr s w' s') : DS w n g k v s s' w' := by
  have hno : ∀ b, n ≤ b → ¬ foot s b := fun b hb hf => by have := hm.lt hf; omega
  have hno2 : ∀ b, n ≤ b → b < wr.heap.size → ¬ foot s' b := fun b hb hb2 hf => by
    rcases st.grow b hf with h1 | h1
    · exact hno b hb h1
    · omega
  have hg := h.ge
  exact ⟨(Step.later hm (by rw [hn]; exact h.bel)).trans st, (st.keep.block n h.tk.lt (hno n (Nat.le_refl n))).trans h.tk, (st.keep.block (n + 1) h.res.lt (hno _ (by omega))).trans h.res, (st.keep.block g h.st.lt (hno g (by omega))).trans h.st, h.ge, h.len, hn, hno2 _ (by omega) h.res.lt, hno2 _ (by omega) h.st.lt⟩
theorem DS.put {w : World} {n g : Nat} {k : TV} {v v' : SV} {s s' : MS} {wr w' : World} (h : DS w n g k v s s' wr) (ho : Only g wr w') (hg : Blk w' g v'.c 26) (hl : v'.R.length = 32) : DS w n g k v' s s' w' := ⟨step_only h.step ho (by rw [h.nn]; have := h.ge; omega) h.fg, h.tk.only ho (by have := h.ge; omega), h.res.only ho (by have := h.ge; omega), hg, h.ge, hl, h.nn, h.fr, h.fg⟩
theorem DS.putR {w : World} {n g : Nat} {k : TV} {v : SV} {s s' : MS} {wr w' : World} {j : Nat} {z : Int} (h : DS w n g k v s s' wr) (ho : Only g wr w') (hg : Blk w' g (SV.c { v with R := v.R.set j z }) 26) : DS w n g k { v with R := v.R.set j z } s s' w' := h.put ho hg (by rw [List.length_set]; exact h.len)
theorem DS.tc {w : World} {n g : Nat} {k : TV} {v : SV} {s s' : MS} {wr : World} (h : DS w n g k v s s' wr) (hk : TOk k) : TC wr n k := TC.of h.tk hk.len
theorem DS.fin {w : World} {n g : Nat} {k : TV} {v : SV} {s s' : MS} {wr w' : World} (h : DS w n g k v s s' wr) (ho : Only (n + 1) wr w') : Step w s w' s' := step_only h.step ho (by rw [h.nn]; omega) h.fr
theorem setO_len {l : List Int} (h : l.length = 32) (k : Nat) (o : Option Int) : (setO l k o).length = 32 := by
  unfold setO
  cases o <;> simp [h]
end Go.Proofs.Ytobnocioefchlaa
