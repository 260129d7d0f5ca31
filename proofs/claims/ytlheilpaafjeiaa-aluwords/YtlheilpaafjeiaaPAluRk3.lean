/- reckon of one instruction, walked. -/
import Derived.Test.YtlheilpaafjeiaaPLeave
import Derived.Deep.CutBlock
namespace Go.Proofs.Ytlheilpaafjeiaa
open Go.ChangeShapes Go.WideShapes Go.ChangeAt Go.RowKit
set_option linter.unusedVariables false
set_option maxRecDepth 20000 in
theorem reckon_3 (S T D A m s t : Int) (h1 : 0 ≤ s) (h2 : s < 4294967296) (h3 : 0 ≤ t) (h4 : t < 4294967296) (h5 : 0 ≤ m) (h6 : m < 4294967296) (w : World) :
    Calls Try.prog 8 #[.agg (insC 3 S T D A m), .int .u32 s, .int .u32 t] w fun e w' => e = .returned (.tuple #[.int .u32 (bits .and .u32 s t), .bool true]) ∧ Below w.heap.size w w' := by
  have hB := hidden (below_new w (.cells (insC 3 S T D A m) 24))
  go_enter Try.func8, Try.ntmps8
  go_upto_region 11 with fail
  repeat ((fail_if_success ((with_reducible refine leave_then ?_ ?_); exact rfl)); (first | go_values | go_skip | go_guarded | go_step | go_upon | go_back | (simp only [Int.not_lt, Int.not_le] at *; go_simp)))
  repeat (first | ((with_reducible refine leave_then ?_ ?_); exact rfl) | (with_reducible refine leave_at ?_) | ((with_reducible refine leave_block ?_ ?_); exact of_decide_eq_true rfl) | (with_reducible refine leave_block_end ?_) | (with_reducible refine leave_then_end ?_))
  go_wp2_with (first | (go_at_call 21; refine (mix_3 _ _ h1 h2 h3 h4 _).mono ?_; rintro e w' ⟨rfl, rfl⟩))
  go_ret2
  exact ⟨ret_intb rfl rfl, hB.out⟩
set_option maxRecDepth 20000 in
theorem reckon_6 (S T D A m s t : Int) (h1 : 0 ≤ s) (h2 : s < 4294967296) (h3 : 0 ≤ t) (h4 : t < 4294967296) (h5 : 0 ≤ m) (h6 : m < 4294967296) (w : World) :
    Calls Try.prog 8 #[.agg (insC 6 S T D A m), .int .u32 s, .int .u32 t] w fun e w' => e = .returned (.tuple #[.int .u32 (norV s t), .bool true]) ∧ Below w.heap.size w w' := by
  have hB := hidden (below_new w (.cells (insC 6 S T D A m) 24))
  go_enter Try.func8, Try.ntmps8
  go_upto_region 11 with fail
  repeat ((fail_if_success ((with_reducible refine leave_then ?_ ?_); exact rfl)); (first | go_values | go_skip | go_guarded | go_step | go_upon | go_back | (simp only [Int.not_lt, Int.not_le] at *; go_simp)))
  repeat (first | ((with_reducible refine leave_then ?_ ?_); exact rfl) | (with_reducible refine leave_at ?_) | ((with_reducible refine leave_block ?_ ?_); exact of_decide_eq_true rfl) | (with_reducible refine leave_block_end ?_) | (with_reducible refine leave_then_end ?_))
  go_wp2_with (first | (go_at_call 21; refine (mix_6 _ _ h1 h2 h3 h4 _).mono ?_; rintro e w' ⟨rfl, rfl⟩))
  go_ret2
  exact ⟨ret_intb rfl rfl, hB.out⟩
set_option maxRecDepth 20000 in
theorem reckon_9 (S T D A m s t : Int) (h1 : 0 ≤ s) (h2 : s < 4294967296) (h3 : 0 ≤ t) (h4 : t < 4294967296) (h5 : 0 ≤ m) (h6 : m < 4294967296) (w : World) :
    Calls Try.prog 8 #[.agg (insC 9 S T D A m), .int .u32 s, .int .u32 t] w fun e w' => e = .returned (.tuple #[.int .u32 (add32 s t), .bool true]) ∧ Below w.heap.size w w' := by
  have hB := hidden (below_new w (.cells (insC 9 S T D A m) 24))
  go_enter Try.func8, Try.ntmps8
  go_upto_region 4 with fail
  repeat ((fail_if_success ((with_reducible refine leave_then ?_ ?_); exact rfl)); (first | go_values | go_skip | go_guarded | go_step | go_upon | go_back | (simp only [Int.not_lt, Int.not_le] at *; go_simp)))
  repeat (first | ((with_reducible refine leave_then ?_ ?_); exact rfl) | (with_reducible refine leave_at ?_) | ((with_reducible refine leave_block ?_ ?_); exact of_decide_eq_true rfl) | (with_reducible refine leave_block_end ?_) | (with_reducible refine leave_then_end ?_))
  go_wp2
  go_ret2
  exact ⟨ret_intb rfl rfl, hB.out⟩
set_option maxRecDepth 20000 in
theorem reckon_12 (S T D A m s t : Int) (h1 : 0 ≤ s) (h2 : s < 4294967296) (h3 : 0 ≤ t) (h4 : t < 4294967296) (h5 : 0 ≤ m) (h6 : m < 4294967296) (w : World) :
    Calls Try.prog 8 #[.agg (insC 12 S T D A m), .int .u32 s, .int .u32 t] w fun e w' => e = .returned (.tuple #[.int .u32 (shr32 t s), .bool true]) ∧ Below w.heap.size w w' := by
  have hB := hidden (below_new w (.cells (insC 12 S T D A m) 24))
  go_enter Try.func8, Try.ntmps8
  go_upto_region 22 with fail
  repeat ((fail_if_success ((with_reducible refine leave_then ?_ ?_); exact rfl)); (first | go_values | go_skip | go_guarded | go_step | go_upon | go_back | (simp only [Int.not_lt, Int.not_le] at *; go_simp)))
  repeat (first | ((with_reducible refine leave_then ?_ ?_); exact rfl) | (with_reducible refine leave_at ?_) | ((with_reducible refine leave_block ?_ ?_); exact of_decide_eq_true rfl) | (with_reducible refine leave_block_end ?_) | (with_reducible refine leave_then_end ?_))
  go_wp2_with (first | (go_at_call 24; refine (shift_12 _ _ h1 h2 h3 h4 _).mono ?_; rintro e w' ⟨rfl, rfl⟩))
  go_ret2
  exact ⟨ret_intb rfl rfl, hB.out⟩
set_option maxRecDepth 20000 in
theorem reckon_17 (S T D A m s t : Int) (h1 : 0 ≤ s) (h2 : s < 4294967296) (h3 : 0 ≤ t) (h4 : t < 4294967296) (h5 : 0 ≤ m) (h6 : m < 4294967296) (w : World) :
    Calls Try.prog 8 #[.agg (insC 17 S T D A m), .int .u32 s, .int .u32 t] w fun e w' => e = .returned (.tuple #[.int .u32 (shr32 t A), .bool true]) ∧ Below w.heap.size w w' := by
  have hB := hidden (below_new w (.cells (insC 17 S T D A m) 24))
  have hA : 0 ≤ A % 4294967296 ∧ A % 4294967296 < 4294967296 := by omega
  go_enter Try.func8, Try.ntmps8
  go_upto_region 19 with fail
  repeat ((fail_if_success ((with_reducible refine leave_then ?_ ?_); exact rfl)); (first | go_values | go_skip | go_guarded | go_step | go_upon | go_back | (simp only [Int.not_lt, Int.not_le] at *; go_simp)))
  repeat (first | ((with_reducible refine leave_then ?_ ?_); exact rfl) | (with_reducible refine leave_at ?_) | ((with_reducible refine leave_block ?_ ?_); exact of_decide_eq_true rfl) | (with_reducible refine leave_block_end ?_) | (with_reducible refine leave_then_end ?_))
  go_wp2_with (first | (go_at_call 24; refine (shift_17 _ _ hA.1 hA.2 h3 h4 _).mono ?_; rintro e w' ⟨rfl, rfl⟩))
  go_ret2
  exact ⟨ret_intb (shr32_m t A) rfl, hB.out⟩
set_option maxRecDepth 20000 in
theorem reckon_38 (S T D A m s t : Int) (h1 : 0 ≤ s) (h2 : s < 4294967296) (h3 : 0 ≤ t) (h4 : t < 4294967296) (h5 : 0 ≤ m) (h6 : m < 4294967296) (w : World) :
    Calls Try.prog 8 #[.agg (insC 38 S T D A m), .int .u32 s, .int .u32 t] w fun e w' => e = .returned (.tuple #[.int .u32 (zeros32 s), .bool true]) ∧ Below w.heap.size w w' := by
  have hB := hidden (below_new w (.cells (insC 38 S T D A m) 24))
  go_enter Try.func8, Try.ntmps8
  go_upto_region 26 with fail
  repeat ((fail_if_success ((with_reducible refine leave_then ?_ ?_); exact rfl)); (first | go_values | go_skip | go_guarded | go_step | go_upon | go_back | (simp only [Int.not_lt, Int.not_le] at *; go_simp)))
  repeat (first | ((with_reducible refine leave_then ?_ ?_); exact rfl) | (with_reducible refine leave_at ?_) | ((with_reducible refine leave_block ?_ ?_); exact of_decide_eq_true rfl) | (with_reducible refine leave_block_end ?_) | (with_reducible refine leave_then_end ?_))
  go_wp2_with (first | (go_at_call 26; refine (zeros_any _ h1 h2 _).mono ?_; rintro e w' ⟨rfl, rfl⟩))
  go_ret2
  exact ⟨ret_intb rfl rfl, hB.out⟩
set_option maxRecDepth 20000 in
theorem reckon_41 (S T D A m s t : Int) (h1 : 0 ≤ s) (h2 : s < 4294967296) (h3 : 0 ≤ t) (h4 : t < 4294967296) (h5 : 0 ≤ m) (h6 : m < 4294967296) (w : World) :
    Calls Try.prog 8 #[.agg (insC 41 S T D A m), .int .u32 s, .int .u32 t] w fun e w' => e = .returned (.tuple #[.int .u32 (add32 s m), .bool true]) ∧ Below w.heap.size w w' := by
  have hB := hidden (below_new w (.cells (insC 41 S T D A m) 24))
  go_enter Try.func8, Try.ntmps8
  go_upto_region 2 with fail
  repeat ((fail_if_success ((with_reducible refine leave_then ?_ ?_); exact rfl)); (first | go_values | go_skip | go_guarded | go_step | go_upon | go_back | (simp only [Int.not_lt, Int.not_le] at *; go_simp)))
  repeat (first | ((with_reducible refine leave_then ?_ ?_); exact rfl) | (with_reducible refine leave_at ?_) | ((with_reducible refine leave_block ?_ ?_); exact of_decide_eq_true rfl) | (with_reducible refine leave_block_end ?_) | (with_reducible refine leave_then_end ?_))
  go_wp2
  go_ret2
  exact ⟨ret_intb rfl rfl, hB.out⟩
set_option maxRecDepth 20000 in
theorem reckon_44 (S T D A m s t : Int) (h1 : 0 ≤ s) (h2 : s < 4294967296) (h3 : 0 ≤ t) (h4 : t < 4294967296) (h5 : 0 ≤ m) (h6 : m < 4294967296) (w : World) :
    Calls Try.prog 8 #[.agg (insC 44 S T D A m), .int .u32 s, .int .u32 t] w fun e w' => e = .returned (.tuple #[.int .u32 (bits .and .u32 s m), .bool true]) ∧ Below w.heap.size w w' := by
  have hB := hidden (below_new w (.cells (insC 44 S T D A m) 24))
  go_enter Try.func8, Try.ntmps8
  go_upto_region 8 with fail
  repeat ((fail_if_success ((with_reducible refine leave_then ?_ ?_); exact rfl)); (first | go_values | go_skip | go_guarded | go_step | go_upon | go_back | (simp only [Int.not_lt, Int.not_le] at *; go_simp)))
  repeat (first | ((with_reducible refine leave_then ?_ ?_); exact rfl) | (with_reducible refine leave_at ?_) | ((with_reducible refine leave_block ?_ ?_); exact of_decide_eq_true rfl) | (with_reducible refine leave_block_end ?_) | (with_reducible refine leave_then_end ?_))
  go_wp2_with (first | (go_at_call 21; refine (mix_44 _ _ h1 h2 h5 h6 _).mono ?_; rintro e w' ⟨rfl, rfl⟩))
  go_ret2
  exact ⟨ret_intb rfl rfl, hB.out⟩
set_option maxRecDepth 20000 in
theorem reckon_47 (S T D A m s t : Int) (h1 : 0 ≤ s) (h2 : s < 4294967296) (h3 : 0 ≤ t) (h4 : t < 4294967296) (h5 : 0 ≤ m) (h6 : m < 4294967296) (w : World) :
    Calls Try.prog 8 #[.agg (insC 47 S T D A m), .int .u32 s, .int .u32 t] w fun e w' => e = .returned (.tuple #[.int .u32 (m * 65536 % 4294967296), .bool true]) ∧ Below w.heap.size w w' := by
  have hB := hidden (below_new w (.cells (insC 47 S T D A m) 24))
  go_enter Try.func8, Try.ntmps8
  go_upto_region 28 with fail
  repeat ((fail_if_success ((with_reducible refine leave_then ?_ ?_); exact rfl)); (first | go_values | go_skip | go_guarded | go_step | go_upon | go_back | (simp only [Int.not_lt, Int.not_le] at *; go_simp)))
  repeat (first | ((with_reducible refine leave_then ?_ ?_); exact rfl) | (with_reducible refine leave_at ?_) | ((with_reducible refine leave_block ?_ ?_); exact of_decide_eq_true rfl) | (with_reducible refine leave_block_end ?_) | (with_reducible refine leave_then_end ?_))
  go_wp2
  go_ret2
  exact ⟨ret_intb rfl rfl, hB.out⟩
end Go.Proofs.Ytlheilpaafjeiaa
