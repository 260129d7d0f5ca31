/- Long of any instruction. -/
import Derived.Test.YtlheilpaafjeiaaPAluPlain2
namespace Go.Proofs.Ytlheilpaafjeiaa
open Go.ChangeShapes Go.WideShapes Go.ChangeAt Go.RowKit
set_option linter.unusedVariables false
theorem below_drewN (B : Nat) (w : World) (n : Nat) : Below B w (w.drewN n) := ⟨rfl, rfl, rfl, Nat.le_refl _, fun _ _ => rfl⟩
set_option maxRecDepth 20000 in
theorem long_19 (S T D A m s t hi lo : Int) (h1 : 0 ≤ s) (h2 : s < 4294967296) (h3 : 0 ≤ t) (h4 : t < 4294967296) (h5 : 0 ≤ hi) (h6 : hi < 4294967296) (h7 : 0 ≤ lo) (h8 : lo < 4294967296) (w : World) :
    Calls Try.prog 10 #[.agg (insC 19 S T D A m), .int .u32 s, .int .u32 t, .int .u32 hi, .int .u32 lo] w fun e w' => e = .returned (.tuple #[.int .u32 (mulHi (sg s) (sg t)), .int .u32 (mulLo (sg s) (sg t))]) ∧ Below w.heap.size w w' := by
  have hB := hidden (below_new w (.cells (insC 19 S T D A m) 24))
  go_enter Try.func10, Try.ntmps10
  go_wp2_with (first | (go_at_call 25; refine (mulT_any _ _ h1 h2 h3 h4 _).mono ?_; rintro e w' ⟨rfl, rfl⟩))
  go_ret2
  exact ⟨ret_int2 rfl rfl, hB.out⟩
set_option maxRecDepth 20000 in
theorem long_20 (S T D A m s t hi lo : Int) (h1 : 0 ≤ s) (h2 : s < 4294967296) (h3 : 0 ≤ t) (h4 : t < 4294967296) (h5 : 0 ≤ hi) (h6 : hi < 4294967296) (h7 : 0 ≤ lo) (h8 : lo < 4294967296) (w : World) :
    Calls Try.prog 10 #[.agg (insC 20 S T D A m), .int .u32 s, .int .u32 t, .int .u32 hi, .int .u32 lo] w fun e w' => e = .returned (.tuple #[.int .u32 (mulHi s t), .int .u32 (mulLo s t)]) ∧ Below w.heap.size w w' := by
  have hB := hidden (below_new w (.cells (insC 20 S T D A m) 24))
  go_enter Try.func10, Try.ntmps10
  go_wp2_with (first | (go_at_call 25; refine (mulF_any _ _ h1 h2 h3 h4 _).mono ?_; rintro e w' ⟨rfl, rfl⟩))
  go_ret2
  exact ⟨ret_int2 rfl rfl, hB.out⟩
set_option maxRecDepth 20000 in
theorem long_21 (S T D A m s t hi lo : Int) (h1 : 0 ≤ s) (h2 : s < 4294967296) (h3 : 0 ≤ t) (h4 : t < 4294967296) (h5 : 0 ≤ hi) (h6 : hi < 4294967296) (h7 : 0 ≤ lo) (h8 : lo < 4294967296) (ht : 0 < t) (w : World) :
    Calls Try.prog 10 #[.agg (insC 21 S T D A m), .int .u32 s, .int .u32 t, .int .u32 hi, .int .u32 lo] w fun e w' => e = .returned (.tuple #[.int .u32 (remT s t), .int .u32 (quoT s t)]) ∧ Below w.heap.size w w' := by
  have hB := hidden (below_new w (.cells (insC 21 S T D A m) 24))
  go_enter Try.func10, Try.ntmps10
  go_wp2_with (first | (go_at_call 34; refine (divT_any _ _ h1 h2 ht h4 _).mono ?_; rintro e w' ⟨rfl, nd, rfl⟩))
  go_ret2
  exact ⟨ret_int2 rfl rfl, hB.out.trans (below_drewN _ _ _)⟩
set_option maxRecDepth 20000 in
theorem long_22 (S T D A m s t hi lo : Int) (h1 : 0 ≤ s) (h2 : s < 4294967296) (h3 : 0 ≤ t) (h4 : t < 4294967296) (h5 : 0 ≤ hi) (h6 : hi < 4294967296) (h7 : 0 ≤ lo) (h8 : lo < 4294967296) (ht : 0 < t) (w : World) :
    Calls Try.prog 10 #[.agg (insC 22 S T D A m), .int .u32 s, .int .u32 t, .int .u32 hi, .int .u32 lo] w fun e w' => e = .returned (.tuple #[.int .u32 (s % t), .int .u32 (s / t)]) ∧ Below w.heap.size w w' := by
  have hB := hidden (below_new w (.cells (insC 22 S T D A m) 24))
  go_enter Try.func10, Try.ntmps10
  go_wp2_with (first | (go_at_call 34; refine (divF_any _ _ h1 h2 ht h4 _).mono ?_; rintro e w' ⟨rfl, nd, rfl⟩))
  go_ret2
  exact ⟨ret_int2 rfl rfl, hB.out.trans (below_drewN _ _ _)⟩
set_option maxRecDepth 20000 in
theorem long_21z (S T D A m s t hi lo : Int) (h1 : 0 ≤ s) (h2 : s < 4294967296) (h3 : 0 ≤ t) (h4 : t < 4294967296) (h5 : 0 ≤ hi) (h6 : hi < 4294967296) (h7 : 0 ≤ lo) (h8 : lo < 4294967296) (w : World) :
    Calls Try.prog 10 #[.agg (insC 21 S T D A m), .int .u32 s, .int .u32 0, .int .u32 hi, .int .u32 lo] w fun e w' => e = .returned (.tuple #[.int .u32 (0), .int .u32 (0)]) ∧ Below w.heap.size w w' := by
  have hB := hidden (below_new w (.cells (insC 21 S T D A m) 24))
  go_enter Try.func10, Try.ntmps10
  go_wp2_with (first | (go_at_call 34; refine (div0_any _ _ _).mono ?_; rintro e w' ⟨rfl, rfl⟩))
  go_ret2
  exact ⟨ret_int2 rfl rfl, hB.out⟩
set_option maxRecDepth 20000 in
theorem long_22z (S T D A m s t hi lo : Int) (h1 : 0 ≤ s) (h2 : s < 4294967296) (h3 : 0 ≤ t) (h4 : t < 4294967296) (h5 : 0 ≤ hi) (h6 : hi < 4294967296) (h7 : 0 ≤ lo) (h8 : lo < 4294967296) (w : World) :
    Calls Try.prog 10 #[.agg (insC 22 S T D A m), .int .u32 s, .int .u32 0, .int .u32 hi, .int .u32 lo] w fun e w' => e = .returned (.tuple #[.int .u32 (0), .int .u32 (0)]) ∧ Below w.heap.size w w' := by
  have hB := hidden (below_new w (.cells (insC 22 S T D A m) 24))
  go_enter Try.func10, Try.ntmps10
  go_wp2_with (first | (go_at_call 34; refine (div0_any _ _ _).mono ?_; rintro e w' ⟨rfl, rfl⟩))
  go_ret2
  exact ⟨ret_int2 rfl rfl, hB.out⟩
set_option maxRecDepth 20000 in
theorem long_25 (S T D A m s t hi lo : Int) (h1 : 0 ≤ s) (h2 : s < 4294967296) (h3 : 0 ≤ t) (h4 : t < 4294967296) (h5 : 0 ≤ hi) (h6 : hi < 4294967296) (h7 : 0 ≤ lo) (h8 : lo < 4294967296) (w : World) :
    Calls Try.prog 10 #[.agg (insC 25 S T D A m), .int .u32 s, .int .u32 t, .int .u32 hi, .int .u32 lo] w fun e w' => e = .returned (.tuple #[.int .u32 (s), .int .u32 (lo)]) ∧ Below w.heap.size w w' := by
  have hB := hidden (below_new w (.cells (insC 25 S T D A m) 24))
  go_enter Try.func10, Try.ntmps10
  go_wp2
  go_ret2
  exact ⟨ret_int2 rfl rfl, hB.out⟩
set_option maxRecDepth 20000 in
theorem long_26 (S T D A m s t hi lo : Int) (h1 : 0 ≤ s) (h2 : s < 4294967296) (h3 : 0 ≤ t) (h4 : t < 4294967296) (h5 : 0 ≤ hi) (h6 : hi < 4294967296) (h7 : 0 ≤ lo) (h8 : lo < 4294967296) (w : World) :
    Calls Try.prog 10 #[.agg (insC 26 S T D A m), .int .u32 s, .int .u32 t, .int .u32 hi, .int .u32 lo] w fun e w' => e = .returned (.tuple #[.int .u32 (hi), .int .u32 (s)]) ∧ Below w.heap.size w w' := by
  have hB := hidden (below_new w (.cells (insC 26 S T D A m) 24))
  go_enter Try.func10, Try.ntmps10
  go_wp2
  go_ret2
  exact ⟨ret_int2 rfl rfl, hB.out⟩
set_option maxRecDepth 20000 in
theorem long_none (op S T D A m s t hi lo : Int) (h1 : 0 ≤ s) (h2 : s < 4294967296) (h3 : 0 ≤ t) (h4 : t < 4294967296) (h5 : 0 ≤ hi) (h6 : hi < 4294967296) (h7 : 0 ≤ lo) (h8 : lo < 4294967296) (k19 : (op == 19) = false) (k20 : (op == 20) = false) (k21 : (op == 21) = false) (k22 : (op == 22) = false) (k25 : (op == 25) = false) (k26 : (op == 26) = false) (w : World) :
    Calls Try.prog 10 #[.agg (insC op S T D A m), .int .u32 s, .int .u32 t, .int .u32 hi, .int .u32 lo] w fun e w' => e = .returned (.tuple #[.int .u32 (hi), .int .u32 (lo)]) ∧ Below w.heap.size w w' := by
  have hB := hidden (below_new w (.cells (insC op S T D A m) 24))
  go_enter Try.func10, Try.ntmps10
  go_wp2
  go_ret2
  exact ⟨ret_int2 rfl rfl, hB.out⟩
theorem long_any (op S T D A m s t hi lo : Int) (h1 : 0 ≤ s) (h2 : s < 4294967296) (h3 : 0 ≤ t) (h4 : t < 4294967296) (h5 : 0 ≤ hi) (h6 : hi < 4294967296) (h7 : 0 ≤ lo) (h8 : lo < 4294967296) (w : World) :
    Calls Try.prog 10 #[.agg (insC op S T D A m), .int .u32 s, .int .u32 t, .int .u32 hi, .int .u32 lo] w fun e w' => e = .returned (.tuple #[.int .u32 (longV op s t hi lo).1, .int .u32 (longV op s t hi lo).2]) ∧ Below w.heap.size w w' := by
  by_cases k19 : op = 19
  · subst k19
    exact long_19 S T D A m s t hi lo h1 h2 h3 h4 h5 h6 h7 h8 w
  by_cases k20 : op = 20
  · subst k20
    exact long_20 S T D A m s t hi lo h1 h2 h3 h4 h5 h6 h7 h8 w
  by_cases k21 : op = 21
  · subst k21
    by_cases ht : t = 0
    · subst ht
      exact long_21z S T D A m s 0 hi lo h1 h2 h3 h4 h5 h6 h7 h8 w
    · have e : longV 21 s t hi lo = (remT s t, quoT s t) := by simp [longV, ht]
      rw [e]
      exact long_21 S T D A m s t hi lo h1 h2 h3 h4 h5 h6 h7 h8 (by omega) w
  by_cases k22 : op = 22
  · subst k22
    by_cases ht : t = 0
    · subst ht
      exact long_22z S T D A m s 0 hi lo h1 h2 h3 h4 h5 h6 h7 h8 w
    · have e : longV 22 s t hi lo = (s % t, s / t) := by simp [longV, ht]
      rw [e]
      exact long_22 S T D A m s t hi lo h1 h2 h3 h4 h5 h6 h7 h8 (by omega) w
  by_cases k25 : op = 25
  · subst k25
    exact long_25 S T D A m s t hi lo h1 h2 h3 h4 h5 h6 h7 h8 w
  by_cases k26 : op = 26
  · subst k26
    exact long_26 S T D A m s t hi lo h1 h2 h3 h4 h5 h6 h7 h8 w
  have e : longV op s t hi lo = (hi, lo) := by simp only [longV, k19, k20, k21, k22, k25, k26, if_false]
  rw [e]
  exact long_none op S T D A m s t hi lo h1 h2 h3 h4 h5 h6 h7 h8 (beq_eq_false_iff_ne.2 k19) (beq_eq_false_iff_ne.2 k20) (beq_eq_false_iff_ne.2 k21) (beq_eq_false_iff_ne.2 k22) (beq_eq_false_iff_ne.2 k25) (beq_eq_false_iff_ne.2 k26) w
end Go.Proofs.Ytlheilpaafjeiaa
