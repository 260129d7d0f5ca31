/- Takes of any instruction. -/
import Derived.Test.YtlheilpaafjeiaaPAluPlain2
namespace Go.Proofs.Ytlheilpaafjeiaa
open Go.ChangeShapes Go.WideShapes Go.ChangeAt Go.RowKit
set_option linter.unusedVariables false
set_option maxRecDepth 20000 in
theorem takes_27 (S T D A m s t : Int) (h1 : 0 ≤ s) (h2 : s < 4294967296) (h3 : 0 ≤ t) (h4 : t < 4294967296) (h5 : 0 ≤ m) (h6 : m < 4294967296) (w : World) :
    Calls Try.prog 14 #[.agg (insC 27 S T D A m), .int .u32 s, .int .u32 t] w fun e w' => e = .returned (.bool (true)) ∧ Below w.heap.size w w' := by
  have hB := hidden (below_new w (.cells (insC 27 S T D A m) 24))
  go_enter Try.func14, Try.ntmps14
  go_wp2
  go_ret
  exact ⟨ret_bool rfl, hB.out⟩
set_option maxRecDepth 20000 in
theorem takes_28 (S T D A m s t : Int) (h1 : 0 ≤ s) (h2 : s < 4294967296) (h3 : 0 ≤ t) (h4 : t < 4294967296) (h5 : 0 ≤ m) (h6 : m < 4294967296) (w : World) :
    Calls Try.prog 14 #[.agg (insC 28 S T D A m), .int .u32 s, .int .u32 t] w fun e w' => e = .returned (.bool (true)) ∧ Below w.heap.size w w' := by
  have hB := hidden (below_new w (.cells (insC 28 S T D A m) 24))
  go_enter Try.func14, Try.ntmps14
  go_wp2
  go_ret
  exact ⟨ret_bool rfl, hB.out⟩
set_option maxRecDepth 20000 in
theorem takes_60 (S T D A m s t : Int) (h1 : 0 ≤ s) (h2 : s < 4294967296) (h3 : 0 ≤ t) (h4 : t < 4294967296) (h5 : 0 ≤ m) (h6 : m < 4294967296) (w : World) :
    Calls Try.prog 14 #[.agg (insC 60 S T D A m), .int .u32 s, .int .u32 t] w fun e w' => e = .returned (.bool (s == t)) ∧ Below w.heap.size w w' := by
  have hB := hidden (below_new w (.cells (insC 60 S T D A m) 24))
  go_enter Try.func14, Try.ntmps14
  go_wp2
  go_ret
  exact ⟨ret_bool rfl, hB.out⟩
set_option maxRecDepth 20000 in
theorem takes_61 (S T D A m s t : Int) (h1 : 0 ≤ s) (h2 : s < 4294967296) (h3 : 0 ≤ t) (h4 : t < 4294967296) (h5 : 0 ≤ m) (h6 : m < 4294967296) (w : World) :
    Calls Try.prog 14 #[.agg (insC 61 S T D A m), .int .u32 s, .int .u32 t] w fun e w' => e = .returned (.bool (s != t)) ∧ Below w.heap.size w w' := by
  have hB := hidden (below_new w (.cells (insC 61 S T D A m) 24))
  go_enter Try.func14, Try.ntmps14
  go_wp2
  go_ret
  exact ⟨ret_bool rfl, hB.out⟩
set_option maxRecDepth 20000 in
theorem takes_62 (S T D A m s t : Int) (h1 : 0 ≤ s) (h2 : s < 4294967296) (h3 : 0 ≤ t) (h4 : t < 4294967296) (h5 : 0 ≤ m) (h6 : m < 4294967296) (w : World) :
    Calls Try.prog 14 #[.agg (insC 62 S T D A m), .int .u32 s, .int .u32 t] w fun e w' => e = .returned (.bool (!lt32 0 s)) ∧ Below w.heap.size w w' := by
  have hB := hidden (below_new w (.cells (insC 62 S T D A m) 24))
  have hz : (0 : Int) < 4294967296 := by omega
  go_enter Try.func14, Try.ntmps14
  go_wp2_with (first | (go_at_call 23; refine (below_any _ _ (Int.le_refl 0) hz h1 h2 _).mono ?_; rintro e w' ⟨rfl, rfl⟩))
  go_ret
  exact ⟨ret_bool rfl, hB.out⟩
set_option maxRecDepth 20000 in
theorem takes_63 (S T D A m s t : Int) (h1 : 0 ≤ s) (h2 : s < 4294967296) (h3 : 0 ≤ t) (h4 : t < 4294967296) (h5 : 0 ≤ m) (h6 : m < 4294967296) (w : World) :
    Calls Try.prog 14 #[.agg (insC 63 S T D A m), .int .u32 s, .int .u32 t] w fun e w' => e = .returned (.bool (lt32 0 s)) ∧ Below w.heap.size w w' := by
  have hB := hidden (below_new w (.cells (insC 63 S T D A m) 24))
  have hz : (0 : Int) < 4294967296 := by omega
  go_enter Try.func14, Try.ntmps14
  go_wp2_with (first | (go_at_call 23; refine (below_any _ _ (Int.le_refl 0) hz h1 h2 _).mono ?_; rintro e w' ⟨rfl, rfl⟩))
  go_ret
  exact ⟨ret_bool rfl, hB.out⟩
set_option maxRecDepth 20000 in
theorem takes_64 (S T D A m s t : Int) (h1 : 0 ≤ s) (h2 : s < 4294967296) (h3 : 0 ≤ t) (h4 : t < 4294967296) (h5 : 0 ≤ m) (h6 : m < 4294967296) (w : World) :
    Calls Try.prog 14 #[.agg (insC 64 S T D A m), .int .u32 s, .int .u32 t] w fun e w' => e = .returned (.bool (lt32 s 0)) ∧ Below w.heap.size w w' := by
  have hB := hidden (below_new w (.cells (insC 64 S T D A m) 24))
  have hz : (0 : Int) < 4294967296 := by omega
  go_enter Try.func14, Try.ntmps14
  go_wp2_with (first | (go_at_call 23; refine (below_any _ _ h1 h2 (Int.le_refl 0) hz _).mono ?_; rintro e w' ⟨rfl, rfl⟩))
  go_ret
  exact ⟨ret_bool rfl, hB.out⟩
set_option maxRecDepth 20000 in
theorem takes_65 (S T D A m s t : Int) (h1 : 0 ≤ s) (h2 : s < 4294967296) (h3 : 0 ≤ t) (h4 : t < 4294967296) (h5 : 0 ≤ m) (h6 : m < 4294967296) (w : World) :
    Calls Try.prog 14 #[.agg (insC 65 S T D A m), .int .u32 s, .int .u32 t] w fun e w' => e = .returned (.bool (!lt32 s 0)) ∧ Below w.heap.size w w' := by
  have hB := hidden (below_new w (.cells (insC 65 S T D A m) 24))
  have hz : (0 : Int) < 4294967296 := by omega
  go_enter Try.func14, Try.ntmps14
  go_wp2_with (first | (go_at_call 23; refine (below_any _ _ h1 h2 (Int.le_refl 0) hz _).mono ?_; rintro e w' ⟨rfl, rfl⟩))
  go_ret
  exact ⟨ret_bool rfl, hB.out⟩
set_option maxRecDepth 20000 in
theorem takes_66 (S T D A m s t : Int) (h1 : 0 ≤ s) (h2 : s < 4294967296) (h3 : 0 ≤ t) (h4 : t < 4294967296) (h5 : 0 ≤ m) (h6 : m < 4294967296) (w : World) :
    Calls Try.prog 14 #[.agg (insC 66 S T D A m), .int .u32 s, .int .u32 t] w fun e w' => e = .returned (.bool (lt32 s 0)) ∧ Below w.heap.size w w' := by
  have hB := hidden (below_new w (.cells (insC 66 S T D A m) 24))
  have hz : (0 : Int) < 4294967296 := by omega
  go_enter Try.func14, Try.ntmps14
  go_wp2_with (first | (go_at_call 23; refine (below_any _ _ h1 h2 (Int.le_refl 0) hz _).mono ?_; rintro e w' ⟨rfl, rfl⟩))
  go_ret
  exact ⟨ret_bool rfl, hB.out⟩
set_option maxRecDepth 20000 in
theorem takes_67 (S T D A m s t : Int) (h1 : 0 ≤ s) (h2 : s < 4294967296) (h3 : 0 ≤ t) (h4 : t < 4294967296) (h5 : 0 ≤ m) (h6 : m < 4294967296) (w : World) :
    Calls Try.prog 14 #[.agg (insC 67 S T D A m), .int .u32 s, .int .u32 t] w fun e w' => e = .returned (.bool (!lt32 s 0)) ∧ Below w.heap.size w w' := by
  have hB := hidden (below_new w (.cells (insC 67 S T D A m) 24))
  have hz : (0 : Int) < 4294967296 := by omega
  go_enter Try.func14, Try.ntmps14
  go_wp2_with (first | (go_at_call 23; refine (below_any _ _ h1 h2 (Int.le_refl 0) hz _).mono ?_; rintro e w' ⟨rfl, rfl⟩))
  go_ret
  exact ⟨ret_bool rfl, hB.out⟩
set_option maxRecDepth 20000 in
theorem takes_68 (S T D A m s t : Int) (h1 : 0 ≤ s) (h2 : s < 4294967296) (h3 : 0 ≤ t) (h4 : t < 4294967296) (h5 : 0 ≤ m) (h6 : m < 4294967296) (w : World) :
    Calls Try.prog 14 #[.agg (insC 68 S T D A m), .int .u32 s, .int .u32 t] w fun e w' => e = .returned (.bool (true)) ∧ Below w.heap.size w w' := by
  have hB := hidden (below_new w (.cells (insC 68 S T D A m) 24))
  go_enter Try.func14, Try.ntmps14
  go_wp2
  go_ret
  exact ⟨ret_bool rfl, hB.out⟩
set_option maxRecDepth 20000 in
theorem takes_69 (S T D A m s t : Int) (h1 : 0 ≤ s) (h2 : s < 4294967296) (h3 : 0 ≤ t) (h4 : t < 4294967296) (h5 : 0 ≤ m) (h6 : m < 4294967296) (w : World) :
    Calls Try.prog 14 #[.agg (insC 69 S T D A m), .int .u32 s, .int .u32 t] w fun e w' => e = .returned (.bool (true)) ∧ Below w.heap.size w w' := by
  have hB := hidden (below_new w (.cells (insC 69 S T D A m) 24))
  go_enter Try.func14, Try.ntmps14
  go_wp2
  go_ret
  exact ⟨ret_bool rfl, hB.out⟩
set_option maxRecDepth 20000 in
theorem takes_none (op S T D A m s t : Int) (h1 : 0 ≤ s) (h2 : s < 4294967296) (h3 : 0 ≤ t) (h4 : t < 4294967296) (h5 : 0 ≤ m) (h6 : m < 4294967296) (k27 : (op == 27) = false) (k28 : (op == 28) = false) (k60 : (op == 60) = false) (k61 : (op == 61) = false) (k62 : (op == 62) = false) (k63 : (op == 63) = false) (k64 : (op == 64) = false) (k65 : (op == 65) = false) (k66 : (op == 66) = false) (k67 : (op == 67) = false) (k68 : (op == 68) = false) (k69 : (op == 69) = false) (w : World) :
    Calls Try.prog 14 #[.agg (insC op S T D A m), .int .u32 s, .int .u32 t] w fun e w' => e = .returned (.bool (false)) ∧ Below w.heap.size w w' := by
  have hB := hidden (below_new w (.cells (insC op S T D A m) 24))
  go_enter Try.func14, Try.ntmps14
  go_wp2
  go_ret
  exact ⟨ret_bool rfl, hB.out⟩
theorem takes_any (op S T D A m s t : Int) (h1 : 0 ≤ s) (h2 : s < 4294967296) (h3 : 0 ≤ t) (h4 : t < 4294967296) (h5 : 0 ≤ m) (h6 : m < 4294967296) (w : World) :
    Calls Try.prog 14 #[.agg (insC op S T D A m), .int .u32 s, .int .u32 t] w fun e w' => e = .returned (.bool (takeB op s t m)) ∧ Below w.heap.size w w' := by
  by_cases k27 : op = 27
  · subst k27
    exact takes_27 S T D A m s t h1 h2 h3 h4 h5 h6 w
  by_cases k28 : op = 28
  · subst k28
    exact takes_28 S T D A m s t h1 h2 h3 h4 h5 h6 w
  by_cases k60 : op = 60
  · subst k60
    exact takes_60 S T D A m s t h1 h2 h3 h4 h5 h6 w
  by_cases k61 : op = 61
  · subst k61
    exact takes_61 S T D A m s t h1 h2 h3 h4 h5 h6 w
  by_cases k62 : op = 62
  · subst k62
    exact takes_62 S T D A m s t h1 h2 h3 h4 h5 h6 w
  by_cases k63 : op = 63
  · subst k63
    exact takes_63 S T D A m s t h1 h2 h3 h4 h5 h6 w
  by_cases k64 : op = 64
  · subst k64
    exact takes_64 S T D A m s t h1 h2 h3 h4 h5 h6 w
  by_cases k65 : op = 65
  · subst k65
    exact takes_65 S T D A m s t h1 h2 h3 h4 h5 h6 w
  by_cases k66 : op = 66
  · subst k66
    exact takes_66 S T D A m s t h1 h2 h3 h4 h5 h6 w
  by_cases k67 : op = 67
  · subst k67
    exact takes_67 S T D A m s t h1 h2 h3 h4 h5 h6 w
  by_cases k68 : op = 68
  · subst k68
    exact takes_68 S T D A m s t h1 h2 h3 h4 h5 h6 w
  by_cases k69 : op = 69
  · subst k69
    exact takes_69 S T D A m s t h1 h2 h3 h4 h5 h6 w
  have e : takeB op s t m = false := by simp only [takeB, k27, k28, k60, k61, k62, k63, k64, k65, k66, k67, k68, k69, if_false]
  rw [e]
  exact takes_none op S T D A m s t h1 h2 h3 h4 h5 h6 (beq_eq_false_iff_ne.2 k27) (beq_eq_false_iff_ne.2 k28) (beq_eq_false_iff_ne.2 k60) (beq_eq_false_iff_ne.2 k61) (beq_eq_false_iff_ne.2 k62) (beq_eq_false_iff_ne.2 k63) (beq_eq_false_iff_ne.2 k64) (beq_eq_false_iff_ne.2 k65) (beq_eq_false_iff_ne.2 k66) (beq_eq_false_iff_ne.2 k67) (beq_eq_false_iff_ne.2 k68) (beq_eq_false_iff_ne.2 k69) w
end Go.Proofs.Ytlheilpaafjeiaa
