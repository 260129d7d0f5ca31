/- reckon of one instruction, walked. -/
import Derived.Test.YtlheilpaafjeiaaPLeave
import Derived.Deep.CutBlock
namespace Go.Proofs.Ytlheilpaafjeiaa
open Go.ChangeShapes Go.WideShapes Go.ChangeAt Go.RowKit
set_option linter.unusedVariables false
set_option maxRecDepth 20000 in
theorem reckon_2 (S T D A m s t : Int) (h1 : 0 ≤ s) (h2 : s < 4294967296) (h3 : 0 ≤ t) (h4 : t < 4294967296) (h5 : 0 ≤ m) (h6 : m < 4294967296) (w : World) :
    Calls Try.prog 8 #[.agg (insC 2 S T D A m), .int .u32 s, .int .u32 t] w fun e w' => e = .returned (.tuple #[.int .u32 (sub32 s t), .bool true]) ∧ Below w.heap.size w w' := by
  have hB := hidden (below_new w (.cells (insC 2 S T D A m) 24))
  go_enter Try.func8, Try.ntmps8
  go_upto_region 6 with fail
  repeat ((fail_if_success ((with_reducible refine leave_then ?_ ?_); exact rfl)); (first | go_values | go_skip | go_guarded | go_step | go_upon | go_back | (simp only [Int.not_lt, Int.not_le] at *; go_simp)))
  repeat (first | ((with_reducible refine leave_then ?_ ?_); exact rfl) | (with_reducible refine leave_at ?_) | ((with_reducible refine leave_block ?_ ?_); exact of_decide_eq_true rfl) | (with_reducible refine leave_block_end ?_) | (with_reducible refine leave_then_end ?_))
  go_wp2
  go_ret2
  exact ⟨ret_intb rfl rfl, hB.out⟩
set_option maxRecDepth 20000 in
theorem reckon_5 (S T D A m s t : Int) (h1 : 0 ≤ s) (h2 : s < 4294967296) (h3 : 0 ≤ t) (h4 : t < 4294967296) (h5 : 0 ≤ m) (h6 : m < 4294967296) (w : World) :
    Calls Try.prog 8 #[.agg (insC 5 S T D A m), .int .u32 s, .int .u32 t] w fun e w' => e = .returned (.tuple #[.int .u32 (bits .xor .u32 s t), .bool true]) ∧ Below w.heap.size w w' := by
  have hB := hidden (below_new w (.cells (insC 5 S T D A m) 24))
  go_enter Try.func8, Try.ntmps8
  go_upto_region 11 with fail
  repeat ((fail_if_success ((with_reducible refine leave_then ?_ ?_); exact rfl)); (first | go_values | go_skip | go_guarded | go_step | go_upon | go_back | (simp only [Int.not_lt, Int.not_le] at *; go_simp)))
  repeat (first | ((with_reducible refine leave_then ?_ ?_); exact rfl) | (with_reducible refine leave_at ?_) | ((with_reducible refine leave_block ?_ ?_); exact of_decide_eq_true rfl) | (with_reducible refine leave_block_end ?_) | (with_reducible refine leave_then_end ?_))
  go_wp2_with (first | (go_at_call 21; refine (mix_5 _ _ h1 h2 h3 h4 _).mono ?_; rintro e w' ⟨rfl, rfl⟩))
  go_ret2
  exact ⟨ret_intb rfl rfl, hB.out⟩
set_option maxRecDepth 20000 in
theorem reckon_8 (S T D A m s t : Int) (h1 : 0 ≤ s) (h2 : s < 4294967296) (h3 : 0 ≤ t) (h4 : t < 4294967296) (h5 : 0 ≤ m) (h6 : m < 4294967296) (w : World) :
    Calls Try.prog 8 #[.agg (insC 8 S T D A m), .int .u32 s, .int .u32 t] w fun e w' => e = .returned (.tuple #[.int .u32 (oneI (decide (s < t))), .bool true]) ∧ Below w.heap.size w w' := by
  have hB := hidden (below_new w (.cells (insC 8 S T D A m) 24))
  go_enter Try.func8, Try.ntmps8
  go_upto_region 18 with fail
  repeat ((fail_if_success ((with_reducible refine leave_then ?_ ?_); exact rfl)); (first | go_values | go_skip | go_guarded | go_step | go_upon | go_back | (simp only [Int.not_lt, Int.not_le] at *; go_simp)))
  repeat (first | ((with_reducible refine leave_then ?_ ?_); exact rfl) | (with_reducible refine leave_at ?_) | ((with_reducible refine leave_block ?_ ?_); exact of_decide_eq_true rfl) | (with_reducible refine leave_block_end ?_) | (with_reducible refine leave_then_end ?_))
  go_wp2_with (first | (go_at_call 22; refine (oneIf_any _ _).mono ?_; rintro e w' ⟨rfl, rfl⟩))
  go_ret2
  exact ⟨ret_intb rfl rfl, hB.out⟩
set_option maxRecDepth 20000 in
theorem reckon_11 (S T D A m s t : Int) (h1 : 0 ≤ s) (h2 : s < 4294967296) (h3 : 0 ≤ t) (h4 : t < 4294967296) (h5 : 0 ≤ m) (h6 : m < 4294967296) (w : World) :
    Calls Try.prog 8 #[.agg (insC 11 S T D A m), .int .u32 s, .int .u32 t] w fun e w' => e = .returned (.tuple #[.int .u32 (shl32 t s), .bool true]) ∧ Below w.heap.size w w' := by
  have hB := hidden (below_new w (.cells (insC 11 S T D A m) 24))
  go_enter Try.func8, Try.ntmps8
  go_upto_region 22 with fail
  repeat ((fail_if_success ((with_reducible refine leave_then ?_ ?_); exact rfl)); (first | go_values | go_skip | go_guarded | go_step | go_upon | go_back | (simp only [Int.not_lt, Int.not_le] at *; go_simp)))
  repeat (first | ((with_reducible refine leave_then ?_ ?_); exact rfl) | (with_reducible refine leave_at ?_) | ((with_reducible refine leave_block ?_ ?_); exact of_decide_eq_true rfl) | (with_reducible refine leave_block_end ?_) | (with_reducible refine leave_then_end ?_))
  go_wp2_with (first | (go_at_call 24; refine (shift_11 _ _ h1 h2 h3 h4 _).mono ?_; rintro e w' ⟨rfl, rfl⟩))
  go_ret2
  exact ⟨ret_intb rfl rfl, hB.out⟩
set_option maxRecDepth 20000 in
theorem reckon_16 (S T D A m s t : Int) (h1 : 0 ≤ s) (h2 : s < 4294967296) (h3 : 0 ≤ t) (h4 : t < 4294967296) (h5 : 0 ≤ m) (h6 : m < 4294967296) (w : World) :
    Calls Try.prog 8 #[.agg (insC 16 S T D A m), .int .u32 s, .int .u32 t] w fun e w' => e = .returned (.tuple #[.int .u32 (shl32 t A), .bool true]) ∧ Below w.heap.size w w' := by
  have hB := hidden (below_new w (.cells (insC 16 S T D A m) 24))
  have hA : 0 ≤ A % 4294967296 ∧ A % 4294967296 < 4294967296 := by omega
  go_enter Try.func8, Try.ntmps8
  go_upto_region 19 with fail
  repeat ((fail_if_success ((with_reducible refine leave_then ?_ ?_); exact rfl)); (first | go_values | go_skip | go_guarded | go_step | go_upon | go_back | (simp only [Int.not_lt, Int.not_le] at *; go_simp)))
  repeat (first | ((with_reducible refine leave_then ?_ ?_); exact rfl) | (with_reducible refine leave_at ?_) | ((with_reducible refine leave_block ?_ ?_); exact of_decide_eq_true rfl) | (with_reducible refine leave_block_end ?_) | (with_reducible refine leave_then_end ?_))
  go_wp2_with (first | (go_at_call 24; refine (shift_16 _ _ hA.1 hA.2 h3 h4 _).mono ?_; rintro e w' ⟨rfl, rfl⟩))
  go_ret2
  exact ⟨ret_intb (shl32_m t A) rfl, hB.out⟩
set_option maxRecDepth 20000 in
theorem reckon_37 (S T D A m s t : Int) (h1 : 0 ≤ s) (h2 : s < 4294967296) (h3 : 0 ≤ t) (h4 : t < 4294967296) (h5 : 0 ≤ m) (h6 : m < 4294967296) (w : World) :
    Calls Try.prog 8 #[.agg (insC 37 S T D A m), .int .u32 s, .int .u32 t] w fun e w' => e = .returned (.tuple #[.int .u32 (mulLo s t), .bool true]) ∧ Below w.heap.size w w' := by
  have hB := hidden (below_new w (.cells (insC 37 S T D A m) 24))
  go_enter Try.func8, Try.ntmps8
  go_upto_region 25 with fail
  repeat ((fail_if_success ((with_reducible refine leave_then ?_ ?_); exact rfl)); (first | go_values | go_skip | go_guarded | go_step | go_upon | go_back | (simp only [Int.not_lt, Int.not_le] at *; go_simp)))
  repeat (first | ((with_reducible refine leave_then ?_ ?_); exact rfl) | (with_reducible refine leave_at ?_) | ((with_reducible refine leave_block ?_ ?_); exact of_decide_eq_true rfl) | (with_reducible refine leave_block_end ?_) | (with_reducible refine leave_then_end ?_))
  go_wp2_with (first | (go_at_call 25; refine (mulF_any _ _ h1 h2 h3 h4 _).mono ?_; rintro e w' ⟨rfl, rfl⟩))
  go_ret2
  exact ⟨ret_intb rfl rfl, hB.out⟩
set_option maxRecDepth 20000 in
theorem reckon_40 (S T D A m s t : Int) (h1 : 0 ≤ s) (h2 : s < 4294967296) (h3 : 0 ≤ t) (h4 : t < 4294967296) (h5 : 0 ≤ m) (h6 : m < 4294967296) (w : World) :
    Calls Try.prog 8 #[.agg (insC 40 S T D A m), .int .u32 s, .int .u32 t] w fun e w' => e = .returned (.tuple #[.int .u32 (add32 s m), .bool true]) ∧ Below w.heap.size w w' := by
  have hB := hidden (below_new w (.cells (insC 40 S T D A m) 24))
  go_enter Try.func8, Try.ntmps8
  go_upto_region 2 with fail
  repeat ((fail_if_success ((with_reducible refine leave_then ?_ ?_); exact rfl)); (first | go_values | go_skip | go_guarded | go_step | go_upon | go_back | (simp only [Int.not_lt, Int.not_le] at *; go_simp)))
  repeat (first | ((with_reducible refine leave_then ?_ ?_); exact rfl) | (with_reducible refine leave_at ?_) | ((with_reducible refine leave_block ?_ ?_); exact of_decide_eq_true rfl) | (with_reducible refine leave_block_end ?_) | (with_reducible refine leave_then_end ?_))
  go_wp2
  go_ret2
  exact ⟨ret_intb rfl rfl, hB.out⟩
set_option maxRecDepth 20000 in
theorem reckon_43 (S T D A m s t : Int) (h1 : 0 ≤ s) (h2 : s < 4294967296) (h3 : 0 ≤ t) (h4 : t < 4294967296) (h5 : 0 ≤ m) (h6 : m < 4294967296) (w : World) :
    Calls Try.prog 8 #[.agg (insC 43 S T D A m), .int .u32 s, .int .u32 t] w fun e w' => e = .returned (.tuple #[.int .u32 (oneI (decide (s < m))), .bool true]) ∧ Below w.heap.size w w' := by
  have hB := hidden (below_new w (.cells (insC 43 S T D A m) 24))
  go_enter Try.func8, Try.ntmps8
  go_upto_region 17 with fail
  repeat ((fail_if_success ((with_reducible refine leave_then ?_ ?_); exact rfl)); (first | go_values | go_skip | go_guarded | go_step | go_upon | go_back | (simp only [Int.not_lt, Int.not_le] at *; go_simp)))
  repeat (first | ((with_reducible refine leave_then ?_ ?_); exact rfl) | (with_reducible refine leave_at ?_) | ((with_reducible refine leave_block ?_ ?_); exact of_decide_eq_true rfl) | (with_reducible refine leave_block_end ?_) | (with_reducible refine leave_then_end ?_))
  go_wp2_with (first | (go_at_call 22; refine (oneIf_any _ _).mono ?_; rintro e w' ⟨rfl, rfl⟩))
  go_ret2
  exact ⟨ret_intb rfl rfl, hB.out⟩
set_option maxRecDepth 20000 in
theorem reckon_46 (S T D A m s t : Int) (h1 : 0 ≤ s) (h2 : s < 4294967296) (h3 : 0 ≤ t) (h4 : t < 4294967296) (h5 : 0 ≤ m) (h6 : m < 4294967296) (w : World) :
    Calls Try.prog 8 #[.agg (insC 46 S T D A m), .int .u32 s, .int .u32 t] w fun e w' => e = .returned (.tuple #[.int .u32 (bits .xor .u32 s m), .bool true]) ∧ Below w.heap.size w w' := by
  have hB := hidden (below_new w (.cells (insC 46 S T D A m) 24))
  go_enter Try.func8, Try.ntmps8
  go_upto_region 8 with fail
  repeat ((fail_if_success ((with_reducible refine leave_then ?_ ?_); exact rfl)); (first | go_values | go_skip | go_guarded | go_step | go_upon | go_back | (simp only [Int.not_lt, Int.not_le] at *; go_simp)))
  repeat (first | ((with_reducible refine leave_then ?_ ?_); exact rfl) | (with_reducible refine leave_at ?_) | ((with_reducible refine leave_block ?_ ?_); exact of_decide_eq_true rfl) | (with_reducible refine leave_block_end ?_) | (with_reducible refine leave_then_end ?_))
  go_wp2_with (first | (go_at_call 21; refine (mix_46 _ _ h1 h2 h5 h6 _).mono ?_; rintro e w' ⟨rfl, rfl⟩))
  go_ret2
  exact ⟨ret_intb rfl rfl, hB.out⟩
end Go.Proofs.Ytlheilpaafjeiaa
