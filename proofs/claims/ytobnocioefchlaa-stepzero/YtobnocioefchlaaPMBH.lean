/- Long of any instruction. -/
import Derived.Test.YtobnocioefchlaaPMBA
import Derived.Test.YtobnocioefchlaaPMBC
import Derived.Deep.CutBlock
namespace Go.Proofs.Ytobnocioefchlaa
open Go.ChangeShapes Go.WideShapes Go.ChangeAt Go.RowKit
set_option linter.unusedVariables false
theorem below_drewA (B : Nat) (w : World) (n : Nat) : Below B w (w.drewN n) := ⟨rfl, rfl, rfl, Nat.le_refl _, fun _ _ => rfl⟩
set_option maxRecDepth 20000 in
theorem long_19 (S T D A m s t hi lo : Int) (h1 : 0 ≤ s) (h2 : s < 4294967296) (h3 : 0 ≤ t) (h4 : t < 4294967296) (h5 : 0 ≤ hi) (h6 : hi < 4294967296) (h7 : 0 ≤ lo) (h8 : lo < 4294967296) (w : World) :
    Calls Try.prog 53 #[.agg (insC 19 S T D A m), .int .u32 s, .int .u32 t, .int .u32 hi, .int .u32 lo] w fun e w' => e = .returned (.tuple #[.int .u32 (mulHi (sg s) (sg t)), .int .u32 (mulLo (sg s) (sg t))]) ∧ Below w.heap.size w w' := by
  have hB := hidden (below_new w (.cells (insC 19 S T D A m) 62))
  go_enter Try.func53, Try.ntmps53
  go_wp2_with (first | (go_at_call 78; refine (mulT_any _ _ h1 h2 h3 h4 _).mono ?_; rintro e w' ⟨rfl, rfl⟩))
  go_ret2
  exact ⟨ret_int2 rfl rfl, hB.out⟩
set_option maxRecDepth 20000 in
theorem long_20 (S T D A m s t hi lo : Int) (h1 : 0 ≤ s) (h2 : s < 4294967296) (h3 : 0 ≤ t) (h4 : t < 4294967296) (h5 : 0 ≤ hi) (h6 : hi < 4294967296) (h7 : 0 ≤ lo) (h8 : lo < 4294967296) (w : World) :
    Calls Try.prog 53 #[.agg (insC 20 S T D A m), .int .u32 s, .int .u32 t, .int .u32 hi, .int .u32 lo] w fun e w' => e = .returned (.tuple #[.int .u32 (mulHi s t), .int .u32 (mulLo s t)]) ∧ Below w.heap.size w w' := by
  have hB := hidden (below_new w (.cells (insC 20 S T D A m) 62))
  go_enter Try.func53, Try.ntmps53
  go_wp2_with (first | (go_at_call 78; refine (mulF_any _ _ h1 h2 h3 h4 _).mono ?_; rintro e w' ⟨rfl, rfl⟩))
  go_ret2
  exact ⟨ret_int2 rfl rfl, hB.out⟩
set_option maxRecDepth 20000 in
theorem long_21 (S T D A m s t hi lo : Int) (h1 : 0 ≤ s) (h2 : s < 4294967296) (h3 : 0 ≤ t) (h4 : t < 4294967296) (h5 : 0 ≤ hi) (h6 : hi < 4294967296) (h7 : 0 ≤ lo) (h8 : lo < 4294967296) (ht : 0 < t) (w : World) :
    Calls Try.prog 53 #[.agg (insC 21 S T D A m), .int .u32 s, .int .u32 t, .int .u32 hi, .int .u32 lo] w fun e w' => e = .returned (.tuple #[.int .u32 (remT s t), .int .u32 (quoT s t)]) ∧ Below w.heap.size w w' := by
  have hB := hidden (below_new w (.cells (insC 21 S T D A m) 62))
  go_enter Try.func53, Try.ntmps53
  go_wp2_with (first | (go_at_call 79; refine (divT_any _ _ h1 h2 ht h4 _).mono ?_; rintro e w' ⟨rfl, nd, rfl⟩))
  go_ret2
  exact ⟨ret_int2 rfl rfl, hB.out.trans (below_drewA _ _ _)⟩
set_option maxRecDepth 20000 in
theorem long_22 (S T D A m s t hi lo : Int) (h1 : 0 ≤ s) (h2 : s < 4294967296) (h3 : 0 ≤ t) (h4 : t < 4294967296) (h5 : 0 ≤ hi) (h6 : hi < 4294967296) (h7 : 0 ≤ lo) (h8 : lo < 4294967296) (ht : 0 < t) (w : World) :
    Calls Try.prog 53 #[.agg (insC 22 S T D A m), .int .u32 s, .int .u32 t, .int .u32 hi, .int .u32 lo] w fun e w' => e = .returned (.tuple #[.int .u32 (s % t), .int .u32 (s / t)]) ∧ Below w.heap.size w w' := by
  have hB := hidden (below_new w (.cells (insC 22 S T D A m) 62))
  go_enter Try.func53, Try.ntmps53
  go_wp2_with (first | (go_at_call 79; refine (divF_any _ _ h1 h2 ht h4 _).mono ?_; rintro e w' ⟨rfl, nd, rfl⟩))
  go_ret2
  exact ⟨ret_int2 rfl rfl, hB.out.trans (below_drewA _ _ _)⟩
set_option maxRecDepth 20000 in
theorem long_21z (S T D A m s t hi lo : Int) (h1 : 0 ≤ s) (h2 : s < 4294967296) (h3 : 0 ≤ t) (h4 : t < 4294967296) (h5 : 0 ≤ hi) (h6 : hi < 4294967296) (h7 : 0 ≤ lo) (h8 : lo < 4294967296) (w : World) :
    Calls Try.prog 53 #[.agg (insC 21 S T D A m), .int .u32 s, .int .u32 0, .int .u32 hi, .int .u32 lo] w fun e w' => e = .returned (.tuple #[.int .u32 (0), .int .u32 (0)]) ∧ Below w.heap.size w w' := by
  have hB := hidden (below_new w (.cells (insC 21 S T D A m) 62))
  go_enter Try.func53, Try.ntmps53
  go_wp2_with (first | (go_at_call 79; refine (div0_any _ _ _).mono ?_; rintro e w' ⟨rfl, rfl⟩))
  go_ret2
  exact ⟨ret_int2 rfl rfl, hB.out⟩
set_option maxRecDepth 20000 in
theorem long_22z (S T D A m s t hi lo : Int) (h1 : 0 ≤ s) (h2 : s < 4294967296) (h3 : 0 ≤ t) (h4 : t < 4294967296) (h5 : 0 ≤ hi) (h6 : hi < 4294967296) (h7 : 0 ≤ lo) (h8 : lo < 4294967296) (w : World) :
    Calls Try.prog 53 #[.agg (insC 22 S T D A m), .int .u32 s, .int .u32 0, .int .u32 hi, .int .u32 lo] w fun e w' => e = .returned (.tuple #[.int .u32 (0), .int .u32 (0)]) ∧ Below w.heap.size w w' := by
  have hB := hidden (below_new w (.cells (insC 22 S T D A m) 62))
  go_enter Try.func53, Try.ntmps53
  go_wp2_with (first | (go_at_call 79; refine (div0_any _ _ _).mono ?_; rintro e w' ⟨rfl, rfl⟩))
  go_ret2
  exact ⟨ret_int2 rfl rfl, hB.out⟩
set_option maxRecDepth 20000 in
theorem long_25 (S T D A m s t hi lo : Int) (h1 : 0 ≤ s) (h2 : s < 4294967296) (h3 : 0 ≤ t) (h4 : t < 4294967296) (h5 : 0 ≤ hi) (h6 : hi < 4294967296) (h7 : 0 ≤ lo) (h8 : lo < 4294967296) (w : World) :
    Calls Try.prog 53 #[.agg (insC 25 S T D A m), .int .u32 s, .int .u32 t, .int .u32 hi, .int .u32 lo] w fun e w' => e = .returned (.tuple #[.int .u32 (s), .int .u32 (lo)]) ∧ Below w.heap.size w w' := by
  have hB := hidden (below_new w (.cells (insC 25 S T D A m) 62))
  go_enter Try.func53, Try.ntmps53
  go_wp2
  go_ret2
  exact ⟨ret_int2 rfl rfl, hB.out⟩
set_option maxRecDepth 20000 in
theorem long_26 (S T D A m s t hi lo : Int) (h1 : 0 ≤ s) (h2 : s < 4294967296) (h3 : 0 ≤ t) (h4 : t < 4294967296) (h5 : 0 ≤ hi) (h6 : hi < 4294967296) (h7 : 0 ≤ lo) (h8 : lo < 4294967296) (w : World) :
    Calls Try.prog 53 #[.agg (insC 26 S T D A m), .int .u32 s, .int .u32 t, .int .u32 hi, .int .u32 lo] w fun e w' => e = .returned (.tuple #[.int .u32 (hi), .int .u32 (s)]) ∧ Below w.heap.size w w' := by
  have hB := hidden (below_new w (.cells (insC 26 S T D A m) 62))
  go_enter Try.func53, Try.ntmps53
  go_wp2
  go_ret2
  exact ⟨ret_int2 rfl rfl, hB.out⟩
set_option maxRecDepth 20000 in
theorem long_none (op S T D A m s t hi lo : Int) (h1 : 0 ≤ s) (h2 : s < 4294967296) (h3 : 0 ≤ t) (h4 : t < 4294967296) (h5 : 0 ≤ hi) (h6 : hi < 4294967296) (h7 : 0 ≤ lo) (h8 : lo < 4294967296) (k19 : (op == 19) = false) (k20 : (op == 20) = false) (k21 : (op == 21) = false) (k22 : (op == 22) = false) (k25 : (op == 25) = false) (k26 : (op == 26) = false) (w : World) :
    Calls Try.prog 53 #[.agg (insC op S T D A m), .int .u32 s, .int .u32 t, .int .u32 hi, .int .u32 lo] w fun e w' => e = .returned (.tuple #[.int .u32 (hi), .int .u32 (lo)]) ∧ Below w.heap.size w w' := by
  have hB := hidden (below_new w (.cells (insC op S T D A m) 62))
  go_enter Try.func53, Try.ntmps53
  go_wp2
  go_ret2
  exact ⟨ret_int2 rfl rfl, hB.out⟩
theorem long_any (op S T D A m s t hi lo : Int) (h1 : 0 ≤ s) (h2 : s < 4294967296) (h3 : 0 ≤ t) (h4 : t < 4294967296) (h5 : 0 ≤ hi) (h6 : hi < 4294967296) (h7 : 0 ≤ lo) (h8 : lo < 4294967296) (w : World) :
    Calls Try.prog 53 #[.agg (insC op S T D A m), .int .u32 s, .int .u32 t, .int .u32 hi, .int .u32 lo] w fun e w' => e = .returned (.tuple #[.int .u32 (longV op s t hi lo).1, .int .u32 (longV op s t hi lo).2]) ∧ Below w.heap.size w w' := by
  by_cases k19 : op = 19
  · subst k19
    exact long_19 S T D A m s t hi lo h1 h2 h3 h4 h5 h6 h7 h8 w
  by_cases k20 : op = 20
  · subst k20
    exact long_20 S T D A m s t hi lo h1 h2 h3 h4 h5 h6 h7 h8 w
  by_cases k21 : op = 21
  · subst k21
    by_cases ht : t = 0
    · subst ht
      exact long_21z S T D A m s 0 hi lo h1 h2 h3 h4 h5 h6 h7 h8 w
    · have e : longV 21 s t hi lo = (remT s t, quoT s t) := by simp [longV, ht]
      rw [e]
      exact long_21 S T D A m s t hi lo h1 h2 h3 h4 h5 h6 h7 h8 (by omega) w
  by_cases k22 : op = 22
  · subst k22
    by_cases ht : t = 0
    · subst ht
      exact long_22z S T D A m s 0 hi lo h1 h2 h3 h4 h5 h6 h7 h8 w
    · have e : longV 22 s t hi lo = (s % t, s / t) := by simp [longV, ht]
      rw [e]
      exact long_22 S T D A m s t hi lo h1 h2 h3 h4 h5 h6 h7 h8 (by omega) w
  by_cases k25 : op = 25
  · subst k25
    exact long_25 S T D A m s t hi lo h1 h2 h3 h4 h5 h6 h7 h8 w
  by_cases k26 : op = 26
  · subst k26
    exact long_26 S T D A m s t hi lo h1 h2 h3 h4 h5 h6 h7 h8 w
  have e : longV op s t hi lo = (hi, lo) := by simp only [longV, k19, k20, k21, k22, k25, k26, if_false]
  rw [e]
  exact long_none op S T D A m s t hi lo h1 h2 h3 h4 h5 h6 h7 h8 (beq_eq_false_iff_ne.2 k19) (beq_eq_false_iff_ne.2 k20) (beq_eq_false_iff_ne.2 k21) (beq_eq_false_iff_ne.2 k22) (beq_eq_false_iff_ne.2 k25) (beq_eq_false_iff_ne.2 k26) w
end Go.Proofs.Ytobnocioefchlaa
namespace Go.Proofs.Ytobnocioefchlaa
open Go.ChangeShapes Go.WideShapes Go.ChangeAt Go.RowKit
set_option linter.unusedVariables false
set_option maxRecDepth 20000 in
theorem reckon_1 (S T D A m s t : Int) (h1 : 0 ≤ s) (h2 : s < 4294967296) (h3 : 0 ≤ t) (h4 : t < 4294967296) (h5 : 0 ≤ m) (h6 : m < 4294967296) (w : World) :
    Calls Try.prog 54 #[.agg (insC 1 S T D A m), .int .u32 s, .int .u32 t] w fun e w' => e = .returned (.tuple #[.int .u32 (add32 s t), .bool true]) ∧ Below w.heap.size w w' := by
  have hB := hidden (below_new w (.cells (insC 1 S T D A m) 62))
  go_enter Try.func54, Try.ntmps54
  go_upto_region 4 with fail
  repeat ((fail_if_success ((with_reducible refine leave_then ?_ ?_); exact rfl)); (first | go_values | go_skip | go_guarded | go_step | go_upon | go_back | (simp only [Int.not_lt, Int.not_le] at *; go_simp)))
  repeat (first | ((with_reducible refine leave_then ?_ ?_); exact rfl) | (with_reducible refine leave_at ?_) | ((with_reducible refine leave_block ?_ ?_); exact of_decide_eq_true rfl) | (with_reducible refine leave_block_end ?_) | (with_reducible refine leave_then_end ?_))
  go_wp2
  go_ret2
  exact ⟨ret_intb rfl rfl, hB.out⟩
set_option maxRecDepth 20000 in
theorem reckon_4 (S T D A m s t : Int) (h1 : 0 ≤ s) (h2 : s < 4294967296) (h3 : 0 ≤ t) (h4 : t < 4294967296) (h5 : 0 ≤ m) (h6 : m < 4294967296) (w : World) :
    Calls Try.prog 54 #[.agg (insC 4 S T D A m), .int .u32 s, .int .u32 t] w fun e w' => e = .returned (.tuple #[.int .u32 (bits .or .u32 s t), .bool true]) ∧ Below w.heap.size w w' := by
  have hB := hidden (below_new w (.cells (insC 4 S T D A m) 62))
  go_enter Try.func54, Try.ntmps54
  go_upto_region 11 with fail
  repeat ((fail_if_success ((with_reducible refine leave_then ?_ ?_); exact rfl)); (first | go_values | go_skip | go_guarded | go_step | go_upon | go_back | (simp only [Int.not_lt, Int.not_le] at *; go_simp)))
  repeat (first | ((with_reducible refine leave_then ?_ ?_); exact rfl) | (with_reducible refine leave_at ?_) | ((with_reducible refine leave_block ?_ ?_); exact of_decide_eq_true rfl) | (with_reducible refine leave_block_end ?_) | (with_reducible refine leave_then_end ?_))
  go_wp2_with (first | (go_at_call 80; refine (mix_4 _ _ h1 h2 h3 h4 _).mono ?_; rintro e w' ⟨rfl, rfl⟩))
  go_ret2
  exact ⟨ret_intb rfl rfl, hB.out⟩
set_option maxRecDepth 20000 in
theorem reckon_7 (S T D A m s t : Int) (h1 : 0 ≤ s) (h2 : s < 4294967296) (h3 : 0 ≤ t) (h4 : t < 4294967296) (h5 : 0 ≤ m) (h6 : m < 4294967296) (w : World) :
    Calls Try.prog 54 #[.agg (insC 7 S T D A m), .int .u32 s, .int .u32 t] w fun e w' => e = .returned (.tuple #[.int .u32 (oneI (lt32 s t)), .bool true]) ∧ Below w.heap.size w w' := by
  have hB := hidden (below_new w (.cells (insC 7 S T D A m) 62))
  go_enter Try.func54, Try.ntmps54
  go_upto_region 16 with fail
  repeat ((fail_if_success ((with_reducible refine leave_then ?_ ?_); exact rfl)); (first | go_values | go_skip | go_guarded | go_step | go_upon | go_back | (simp only [Int.not_lt, Int.not_le] at *; go_simp)))
  repeat (first | ((with_reducible refine leave_then ?_ ?_); exact rfl) | (with_reducible refine leave_at ?_) | ((with_reducible refine leave_block ?_ ?_); exact of_decide_eq_true rfl) | (with_reducible refine leave_block_end ?_) | (with_reducible refine leave_then_end ?_))
  go_wp2_with (first | (go_at_call 73; refine (below_any _ _ h1 h2 h3 h4 _).mono ?_; rintro e w' ⟨rfl, rfl⟩) | (go_at_call 81; refine (oneIf_any _ _).mono ?_; rintro e w' ⟨rfl, rfl⟩))
  go_ret2
  exact ⟨ret_intb rfl rfl, hB.out⟩
set_option maxRecDepth 20000 in
theorem reckon_10 (S T D A m s t : Int) (h1 : 0 ≤ s) (h2 : s < 4294967296) (h3 : 0 ≤ t) (h4 : t < 4294967296) (h5 : 0 ≤ m) (h6 : m < 4294967296) (w : World) :
    Calls Try.prog 54 #[.agg (insC 10 S T D A m), .int .u32 s, .int .u32 t] w fun e w' => e = .returned (.tuple #[.int .u32 (sub32 s t), .bool true]) ∧ Below w.heap.size w w' := by
  have hB := hidden (below_new w (.cells (insC 10 S T D A m) 62))
  go_enter Try.func54, Try.ntmps54
  go_upto_region 6 with fail
  repeat ((fail_if_success ((with_reducible refine leave_then ?_ ?_); exact rfl)); (first | go_values | go_skip | go_guarded | go_step | go_upon | go_back | (simp only [Int.not_lt, Int.not_le] at *; go_simp)))
  repeat (first | ((with_reducible refine leave_then ?_ ?_); exact rfl) | (with_reducible refine leave_at ?_) | ((with_reducible refine leave_block ?_ ?_); exact of_decide_eq_true rfl) | (with_reducible refine leave_block_end ?_) | (with_reducible refine leave_then_end ?_))
  go_wp2
  go_ret2
  exact ⟨ret_intb rfl rfl, hB.out⟩
set_option maxRecDepth 20000 in
theorem reckon_13 (S T D A m s t : Int) (h1 : 0 ≤ s) (h2 : s < 4294967296) (h3 : 0 ≤ t) (h4 : t < 4294967296) (h5 : 0 ≤ m) (h6 : m < 4294967296) (w : World) :
    Calls Try.prog 54 #[.agg (insC 13 S T D A m), .int .u32 s, .int .u32 t] w fun e w' => e = .returned (.tuple #[.int .u32 (sar32 t s), .bool true]) ∧ Below w.heap.size w w' := by
  have hB := hidden (below_new w (.cells (insC 13 S T D A m) 62))
  go_enter Try.func54, Try.ntmps54
  go_upto_region 22 with fail
  repeat ((fail_if_success ((with_reducible refine leave_then ?_ ?_); exact rfl)); (first | go_values | go_skip | go_guarded | go_step | go_upon | go_back | (simp only [Int.not_lt, Int.not_le] at *; go_simp)))
  repeat (first | ((with_reducible refine leave_then ?_ ?_); exact rfl) | (with_reducible refine leave_at ?_) | ((with_reducible refine leave_block ?_ ?_); exact of_decide_eq_true rfl) | (with_reducible refine leave_block_end ?_) | (with_reducible refine leave_then_end ?_))
  go_wp2_with (first | (go_at_call 82; refine (shift_13 _ _ h1 h2 h3 h4 _).mono ?_; rintro e w' ⟨rfl, rfl⟩))
  go_ret2
  exact ⟨ret_intb rfl rfl, hB.out⟩
set_option maxRecDepth 20000 in
theorem reckon_18 (S T D A m s t : Int) (h1 : 0 ≤ s) (h2 : s < 4294967296) (h3 : 0 ≤ t) (h4 : t < 4294967296) (h5 : 0 ≤ m) (h6 : m < 4294967296) (w : World) :
    Calls Try.prog 54 #[.agg (insC 18 S T D A m), .int .u32 s, .int .u32 t] w fun e w' => e = .returned (.tuple #[.int .u32 (sar32 t A), .bool true]) ∧ Below w.heap.size w w' := by
  have hB := hidden (below_new w (.cells (insC 18 S T D A m) 62))
  have hA : 0 ≤ A % 4294967296 ∧ A % 4294967296 < 4294967296 := by omega
  go_enter Try.func54, Try.ntmps54
  go_upto_region 19 with fail
  repeat ((fail_if_success ((with_reducible refine leave_then ?_ ?_); exact rfl)); (first | go_values | go_skip | go_guarded | go_step | go_upon | go_back | (simp only [Int.not_lt, Int.not_le] at *; go_simp)))
  repeat (first | ((with_reducible refine leave_then ?_ ?_); exact rfl) | (with_reducible refine leave_at ?_) | ((with_reducible refine leave_block ?_ ?_); exact of_decide_eq_true rfl) | (with_reducible refine leave_block_end ?_) | (with_reducible refine leave_then_end ?_))
  go_wp2_with (first | (go_at_call 82; refine (shift_18 _ _ hA.1 hA.2 h3 h4 _).mono ?_; rintro e w' ⟨rfl, rfl⟩))
  go_ret2
  exact ⟨ret_intb (sar32_m t A) rfl, hB.out⟩
set_option maxRecDepth 20000 in
theorem reckon_39 (S T D A m s t : Int) (h1 : 0 ≤ s) (h2 : s < 4294967296) (h3 : 0 ≤ t) (h4 : t < 4294967296) (h5 : 0 ≤ m) (h6 : m < 4294967296) (w : World) :
    Calls Try.prog 54 #[.agg (insC 39 S T D A m), .int .u32 s, .int .u32 t] w fun e w' => e = .returned (.tuple #[.int .u32 (zeros32 (4294967295 - s)), .bool true]) ∧ Below w.heap.size w w' := by
  have hB := hidden (below_new w (.cells (insC 39 S T D A m) 62))
  go_enter Try.func54, Try.ntmps54
  go_upto_region 27 with fail
  repeat ((fail_if_success ((with_reducible refine leave_then ?_ ?_); exact rfl)); (first | go_values | go_skip | go_guarded | go_step | go_upon | go_back | (simp only [Int.not_lt, Int.not_le] at *; go_simp)))
  repeat (first | ((with_reducible refine leave_then ?_ ?_); exact rfl) | (with_reducible refine leave_at ?_) | ((with_reducible refine leave_block ?_ ?_); exact of_decide_eq_true rfl) | (with_reducible refine leave_block_end ?_) | (with_reducible refine leave_then_end ?_))
  go_wp2_with (first | (go_at_call 84; refine (ones_any _ h1 h2 _).mono ?_; rintro e w' ⟨rfl, rfl⟩))
  go_ret2
  exact ⟨ret_intb rfl rfl, hB.out⟩
set_option maxRecDepth 20000 in
theorem reckon_42 (S T D A m s t : Int) (h1 : 0 ≤ s) (h2 : s < 4294967296) (h3 : 0 ≤ t) (h4 : t < 4294967296) (h5 : 0 ≤ m) (h6 : m < 4294967296) (w : World) :
    Calls Try.prog 54 #[.agg (insC 42 S T D A m), .int .u32 s, .int .u32 t] w fun e w' => e = .returned (.tuple #[.int .u32 (oneI (lt32 s m)), .bool true]) ∧ Below w.heap.size w w' := by
  have hB := hidden (below_new w (.cells (insC 42 S T D A m) 62))
  go_enter Try.func54, Try.ntmps54
  go_upto_region 15 with fail
  repeat ((fail_if_success ((with_reducible refine leave_then ?_ ?_); exact rfl)); (first | go_values | go_skip | go_guarded | go_step | go_upon | go_back | (simp only [Int.not_lt, Int.not_le] at *; go_simp)))
  repeat (first | ((with_reducible refine leave_then ?_ ?_); exact rfl) | (with_reducible refine leave_at ?_) | ((with_reducible refine leave_block ?_ ?_); exact of_decide_eq_true rfl) | (with_reducible refine leave_block_end ?_) | (with_reducible refine leave_then_end ?_))
  go_wp2_with (first | (go_at_call 73; refine (below_any _ _ h1 h2 h5 h6 _).mono ?_; rintro e w' ⟨rfl, rfl⟩) | (go_at_call 81; refine (oneIf_any _ _).mono ?_; rintro e w' ⟨rfl, rfl⟩))
  go_ret2
  exact ⟨ret_intb rfl rfl, hB.out⟩
set_option maxRecDepth 20000 in
theorem reckon_45 (S T D A m s t : Int) (h1 : 0 ≤ s) (h2 : s < 4294967296) (h3 : 0 ≤ t) (h4 : t < 4294967296) (h5 : 0 ≤ m) (h6 : m < 4294967296) (w : World) :
    Calls Try.prog 54 #[.agg (insC 45 S T D A m), .int .u32 s, .int .u32 t] w fun e w' => e = .returned (.tuple #[.int .u32 (bits .or .u32 s m), .bool true]) ∧ Below w.heap.size w w' := by
  have hB := hidden (below_new w (.cells (insC 45 S T D A m) 62))
  go_enter Try.func54, Try.ntmps54
  go_upto_region 8 with fail
  repeat ((fail_if_success ((with_reducible refine leave_then ?_ ?_); exact rfl)); (first | go_values | go_skip | go_guarded | go_step | go_upon | go_back | (simp only [Int.not_lt, Int.not_le] at *; go_simp)))
  repeat (first | ((with_reducible refine leave_then ?_ ?_); exact rfl) | (with_reducible refine leave_at ?_) | ((with_reducible refine leave_block ?_ ?_); exact of_decide_eq_true rfl) | (with_reducible refine leave_block_end ?_) | (with_reducible refine leave_then_end ?_))
  go_wp2_with (first | (go_at_call 80; refine (mix_45 _ _ h1 h2 h5 h6 _).mono ?_; rintro e w' ⟨rfl, rfl⟩))
  go_ret2
  exact ⟨ret_intb rfl rfl, hB.out⟩
end Go.Proofs.Ytobnocioefchlaa
namespace Go.Proofs.Ytobnocioefchlaa
open Go.ChangeShapes Go.WideShapes Go.ChangeAt Go.RowKit
set_option linter.unusedVariables false
set_option maxRecDepth 20000 in
theorem reckon_2 (S T D A m s t : Int) (h1 : 0 ≤ s) (h2 : s < 4294967296) (h3 : 0 ≤ t) (h4 : t < 4294967296) (h5 : 0 ≤ m) (h6 : m < 4294967296) (w : World) :
    Calls Try.prog 54 #[.agg (insC 2 S T D A m), .int .u32 s, .int .u32 t] w fun e w' => e = .returned (.tuple #[.int .u32 (sub32 s t), .bool true]) ∧ Below w.heap.size w w' := by
  have hB := hidden (below_new w (.cells (insC 2 S T D A m) 62))
  go_enter Try.func54, Try.ntmps54
  go_upto_region 6 with fail
  repeat ((fail_if_success ((with_reducible refine leave_then ?_ ?_); exact rfl)); (first | go_values | go_skip | go_guarded | go_step | go_upon | go_back | (simp only [Int.not_lt, Int.not_le] at *; go_simp)))
  repeat (first | ((with_reducible refine leave_then ?_ ?_); exact rfl) | (with_reducible refine leave_at ?_) | ((with_reducible refine leave_block ?_ ?_); exact of_decide_eq_true rfl) | (with_reducible refine leave_block_end ?_) | (with_reducible refine leave_then_end ?_))
  go_wp2
  go_ret2
  exact ⟨ret_intb rfl rfl, hB.out⟩
set_option maxRecDepth 20000 in
theorem reckon_5 (S T D A m s t : Int) (h1 : 0 ≤ s) (h2 : s < 4294967296) (h3 : 0 ≤ t) (h4 : t < 4294967296) (h5 : 0 ≤ m) (h6 : m < 4294967296) (w : World) :
    Calls Try.prog 54 #[.agg (insC 5 S T D A m), .int .u32 s, .int .u32 t] w fun e w' => e = .returned (.tuple #[.int .u32 (bits .xor .u32 s t), .bool true]) ∧ Below w.heap.size w w' := by
  have hB := hidden (below_new w (.cells (insC 5 S T D A m) 62))
  go_enter Try.func54, Try.ntmps54
  go_upto_region 11 with fail
  repeat ((fail_if_success ((with_reducible refine leave_then ?_ ?_); exact rfl)); (first | go_values | go_skip | go_guarded | go_step | go_upon | go_back | (simp only [Int.not_lt, Int.not_le] at *; go_simp)))
  repeat (first | ((with_reducible refine leave_then ?_ ?_); exact rfl) | (with_reducible refine leave_at ?_) | ((with_reducible refine leave_block ?_ ?_); exact of_decide_eq_true rfl) | (with_reducible refine leave_block_end ?_) | (with_reducible refine leave_then_end ?_))
  go_wp2_with (first | (go_at_call 80; refine (mix_5 _ _ h1 h2 h3 h4 _).mono ?_; rintro e w' ⟨rfl, rfl⟩))
  go_ret2
  exact ⟨ret_intb rfl rfl, hB.out⟩
set_option maxRecDepth 20000 in
theorem reckon_8 (S T D A m s t : Int) (h1 : 0 ≤ s) (h2 : s < 4294967296) (h3 : 0 ≤ t) (h4 : t < 4294967296) (h5 : 0 ≤ m) (h6 : m < 4294967296) (w : World) :
    Calls Try.prog 54 #[.agg (insC 8 S T D A m), .int .u32 s, .int .u32 t] w fun e w' => e = .returned (.tuple #[.int .u32 (oneI (decide (s < t))), .bool true]) ∧ Below w.heap.size w w' := by
  have hB := hidden (below_new w (.cells (insC 8 S T D A m) 62))
  go_enter Try.func54, Try.ntmps54
  go_upto_region 18 with fail
  repeat ((fail_if_success ((with_reducible refine leave_then ?_ ?_); exact rfl)); (first | go_values | go_skip | go_guarded | go_step | go_upon | go_back | (simp only [Int.not_lt, Int.not_le] at *; go_simp)))
  repeat (first | ((with_reducible refine leave_then ?_ ?_); exact rfl) | (with_reducible refine leave_at ?_) | ((with_reducible refine leave_block ?_ ?_); exact of_decide_eq_true rfl) | (with_reducible refine leave_block_end ?_) | (with_reducible refine leave_then_end ?_))
  go_wp2_with (first | (go_at_call 81; refine (oneIf_any _ _).mono ?_; rintro e w' ⟨rfl, rfl⟩))
  go_ret2
  exact ⟨ret_intb rfl rfl, hB.out⟩
set_option maxRecDepth 20000 in
theorem reckon_11 (S T D A m s t : Int) (h1 : 0 ≤ s) (h2 : s < 4294967296) (h3 : 0 ≤ t) (h4 : t < 4294967296) (h5 : 0 ≤ m) (h6 : m < 4294967296) (w : World) :
    Calls Try.prog 54 #[.agg (insC 11 S T D A m), .int .u32 s, .int .u32 t] w fun e w' => e = .returned (.tuple #[.int .u32 (shl32 t s), .bool true]) ∧ Below w.heap.size w w' := by
  have hB := hidden (below_new w (.cells (insC 11 S T D A m) 62))
  go_enter Try.func54, Try.ntmps54
  go_upto_region 22 with fail
  repeat ((fail_if_success ((with_reducible refine leave_then ?_ ?_); exact rfl)); (first | go_values | go_skip | go_guarded | go_step | go_upon | go_back | (simp only [Int.not_lt, Int.not_le] at *; go_simp)))
  repeat (first | ((with_reducible refine leave_then ?_ ?_); exact rfl) | (with_reducible refine leave_at ?_) | ((with_reducible refine leave_block ?_ ?_); exact of_decide_eq_true rfl) | (with_reducible refine leave_block_end ?_) | (with_reducible refine leave_then_end ?_))
  go_wp2_with (first | (go_at_call 82; refine (shift_11 _ _ h1 h2 h3 h4 _).mono ?_; rintro e w' ⟨rfl, rfl⟩))
  go_ret2
  exact ⟨ret_intb rfl rfl, hB.out⟩
set_option maxRecDepth 20000 in
theorem reckon_16 (S T D A m s t : Int) (h1 : 0 ≤ s) (h2 : s < 4294967296) (h3 : 0 ≤ t) (h4 : t < 4294967296) (h5 : 0 ≤ m) (h6 : m < 4294967296) (w : World) :
    Calls Try.prog 54 #[.agg (insC 16 S T D A m), .int .u32 s, .int .u32 t] w fun e w' => e = .returned (.tuple #[.int .u32 (shl32 t A), .bool true]) ∧ Below w.heap.size w w' := by
  have hB := hidden (below_new w (.cells (insC 16 S T D A m) 62))
  have hA : 0 ≤ A % 4294967296 ∧ A % 4294967296 < 4294967296 := by omega
  go_enter Try.func54, Try.ntmps54
  go_upto_region 19 with fail
  repeat ((fail_if_success ((with_reducible refine leave_then ?_ ?_); exact rfl)); (first | go_values | go_skip | go_guarded | go_step | go_upon | go_back | (simp only [Int.not_lt, Int.not_le] at *; go_simp)))
  repeat (first | ((with_reducible refine leave_then ?_ ?_); exact rfl) | (with_reducible refine leave_at ?_) | ((with_reducible refine leave_block ?_ ?_); exact of_decide_eq_true rfl) | (with_reducible refine leave_block_end ?_) | (with_reducible refine leave_then_end ?_))
  go_wp2_with (first | (go_at_call 82; refine (shift_16 _ _ hA.1 hA.2 h3 h4 _).mono ?_; rintro e w' ⟨rfl, rfl⟩))
  go_ret2
  exact ⟨ret_intb (shl32_m t A) rfl, hB.out⟩
set_option maxRecDepth 20000 in
theorem reckon_37 (S T D A m s t : Int) (h1 : 0 ≤ s) (h2 : s < 4294967296) (h3 : 0 ≤ t) (h4 : t < 4294967296) (h5 : 0 ≤ m) (h6 : m < 4294967296) (w : World) :
    Calls Try.prog 54 #[.agg (insC 37 S T D A m), .int .u32 s, .int .u32 t] w fun e w' => e = .returned (.tuple #[.int .u32 (mulLo s t), .bool true]) ∧ Below w.heap.size w w' := by
  have hB := hidden (below_new w (.cells (insC 37 S T D A m) 62))
  go_enter Try.func54, Try.ntmps54
  go_upto_region 25 with fail
  repeat ((fail_if_success ((with_reducible refine leave_then ?_ ?_); exact rfl)); (first | go_values | go_skip | go_guarded | go_step | go_upon | go_back | (simp only [Int.not_lt, Int.not_le] at *; go_simp)))
  repeat (first | ((with_reducible refine leave_then ?_ ?_); exact rfl) | (with_reducible refine leave_at ?_) | ((with_reducible refine leave_block ?_ ?_); exact of_decide_eq_true rfl) | (with_reducible refine leave_block_end ?_) | (with_reducible refine leave_then_end ?_))
  go_wp2_with (first | (go_at_call 78; refine (mulF_any _ _ h1 h2 h3 h4 _).mono ?_; rintro e w' ⟨rfl, rfl⟩))
  go_ret2
  exact ⟨ret_intb rfl rfl, hB.out⟩
set_option maxRecDepth 20000 in
theorem reckon_40 (S T D A m s t : Int) (h1 : 0 ≤ s) (h2 : s < 4294967296) (h3 : 0 ≤ t) (h4 : t < 4294967296) (h5 : 0 ≤ m) (h6 : m < 4294967296) (w : World) :
    Calls Try.prog 54 #[.agg (insC 40 S T D A m), .int .u32 s, .int .u32 t] w fun e w' => e = .returned (.tuple #[.int .u32 (add32 s m), .bool true]) ∧ Below w.heap.size w w' := by
  have hB := hidden (below_new w (.cells (insC 40 S T D A m) 62))
  go_enter Try.func54, Try.ntmps54
  go_upto_region 2 with fail
  repeat ((fail_if_success ((with_reducible refine leave_then ?_ ?_); exact rfl)); (first | go_values | go_skip | go_guarded | go_step | go_upon | go_back | (simp only [Int.not_lt, Int.not_le] at *; go_simp)))
  repeat (first | ((with_reducible refine leave_then ?_ ?_); exact rfl) | (with_reducible refine leave_at ?_) | ((with_reducible refine leave_block ?_ ?_); exact of_decide_eq_true rfl) | (with_reducible refine leave_block_end ?_) | (with_reducible refine leave_then_end ?_))
  go_wp2
  go_ret2
  exact ⟨ret_intb rfl rfl, hB.out⟩
set_option maxRecDepth 20000 in
theorem reckon_43 (S T D A m s t : Int) (h1 : 0 ≤ s) (h2 : s < 4294967296) (h3 : 0 ≤ t) (h4 : t < 4294967296) (h5 : 0 ≤ m) (h6 : m < 4294967296) (w : World) :
    Calls Try.prog 54 #[.agg (insC 43 S T D A m), .int .u32 s, .int .u32 t] w fun e w' => e = .returned (.tuple #[.int .u32 (oneI (decide (s < m))), .bool true]) ∧ Below w.heap.size w w' := by
  have hB := hidden (below_new w (.cells (insC 43 S T D A m) 62))
  go_enter Try.func54, Try.ntmps54
  go_upto_region 17 with fail
  repeat ((fail_if_success ((with_reducible refine leave_then ?_ ?_); exact rfl)); (first | go_values | go_skip | go_guarded | go_step | go_upon | go_back | (simp only [Int.not_lt, Int.not_le] at *; go_simp)))
  repeat (first | ((with_reducible refine leave_then ?_ ?_); exact rfl) | (with_reducible refine leave_at ?_) | ((with_reducible refine leave_block ?_ ?_); exact of_decide_eq_true rfl) | (with_reducible refine leave_block_end ?_) | (with_reducible refine leave_then_end ?_))
  go_wp2_with (first | (go_at_call 81; refine (oneIf_any _ _).mono ?_; rintro e w' ⟨rfl, rfl⟩))
  go_ret2
  exact ⟨ret_intb rfl rfl, hB.out⟩
set_option maxRecDepth 20000 in
theorem reckon_46 (S T D A m s t : Int) (h1 : 0 ≤ s) (h2 : s < 4294967296) (h3 : 0 ≤ t) (h4 : t < 4294967296) (h5 : 0 ≤ m) (h6 : m < 4294967296) (w : World) :
    Calls Try.prog 54 #[.agg (insC 46 S T D A m), .int .u32 s, .int .u32 t] w fun e w' => e = .returned (.tuple #[.int .u32 (bits .xor .u32 s m), .bool true]) ∧ Below w.heap.size w w' := by
  have hB := hidden (below_new w (.cells (insC 46 S T D A m) 62))
  go_enter Try.func54, Try.ntmps54
  go_upto_region 8 with fail
  repeat ((fail_if_success ((with_reducible refine leave_then ?_ ?_); exact rfl)); (first | go_values | go_skip | go_guarded | go_step | go_upon | go_back | (simp only [Int.not_lt, Int.not_le] at *; go_simp)))
  repeat (first | ((with_reducible refine leave_then ?_ ?_); exact rfl) | (with_reducible refine leave_at ?_) | ((with_reducible refine leave_block ?_ ?_); exact of_decide_eq_true rfl) | (with_reducible refine leave_block_end ?_) | (with_reducible refine leave_then_end ?_))
  go_wp2_with (first | (go_at_call 80; refine (mix_46 _ _ h1 h2 h5 h6 _).mono ?_; rintro e w' ⟨rfl, rfl⟩))
  go_ret2
  exact ⟨ret_intb rfl rfl, hB.out⟩
end Go.Proofs.Ytobnocioefchlaa
