/- refReckon of one instruction, walked. -/
import Derived.Test.YtlheilpaafjeiaaPAluRegs
namespace Go.Proofs.Ytlheilpaafjeiaa
open Go.ChangeShapes Go.WideShapes Go.ChangeAt Go.RowKit
set_option linter.unusedVariables false
set_option maxRecDepth 20000 in
theorem refReckon_3 (S T D A m s t : Int) (h1 : 0 ≤ s) (h2 : s < 4294967296) (h3 : 0 ≤ t) (h4 : t < 4294967296) (h5 : 0 ≤ m) (h6 : m < 4294967296) (w : World) :
    Calls Try.prog 9 #[.agg (insC 3 S T D A m), .int .u32 s, .int .u32 t] w fun e w' => e = .returned (.tuple #[.int .u32 (bits .and .u32 s t), .bool true]) ∧ Below w.heap.size w w' := by
  have hB := hidden (below_new w (.cells (insC 3 S T D A m) 24))
  go_enter Try.func9, Try.ntmps9
  go_wp2_with (first | (go_at_call 33; refine (regs_3 S T D A m s t h1 h2 h3 h4 h5 h6 _).mono ?_; rintro e w' ⟨rfl, hB2⟩))
  go_ret2
  exact ⟨ret_intb rfl rfl, bthen hB.out hB2⟩
set_option maxRecDepth 20000 in
theorem refReckon_6 (S T D A m s t : Int) (h1 : 0 ≤ s) (h2 : s < 4294967296) (h3 : 0 ≤ t) (h4 : t < 4294967296) (h5 : 0 ≤ m) (h6 : m < 4294967296) (w : World) :
    Calls Try.prog 9 #[.agg (insC 6 S T D A m), .int .u32 s, .int .u32 t] w fun e w' => e = .returned (.tuple #[.int .u32 (norV s t), .bool true]) ∧ Below w.heap.size w w' := by
  have hB := hidden (below_new w (.cells (insC 6 S T D A m) 24))
  go_enter Try.func9, Try.ntmps9
  go_wp2_with (first | (go_at_call 33; refine (regs_6 S T D A m s t h1 h2 h3 h4 h5 h6 _).mono ?_; rintro e w' ⟨rfl, hB2⟩))
  go_ret2
  exact ⟨ret_intb rfl rfl, bthen hB.out hB2⟩
set_option maxRecDepth 20000 in
theorem refReckon_9 (S T D A m s t : Int) (h1 : 0 ≤ s) (h2 : s < 4294967296) (h3 : 0 ≤ t) (h4 : t < 4294967296) (h5 : 0 ≤ m) (h6 : m < 4294967296) (w : World) :
    Calls Try.prog 9 #[.agg (insC 9 S T D A m), .int .u32 s, .int .u32 t] w fun e w' => e = .returned (.tuple #[.int .u32 (add32 s t), .bool true]) ∧ Below w.heap.size w w' := by
  have hB := hidden (below_new w (.cells (insC 9 S T D A m) 24))
  go_enter Try.func9, Try.ntmps9
  go_wp2_with (first | (go_at_call 33; refine (regs_9 S T D A m s t h1 h2 h3 h4 h5 h6 _).mono ?_; rintro e w' ⟨rfl, hB2⟩))
  go_ret2
  exact ⟨ret_intb rfl rfl, bthen hB.out hB2⟩
set_option maxRecDepth 20000 in
theorem refReckon_12 (S T D A m s t : Int) (h1 : 0 ≤ s) (h2 : s < 4294967296) (h3 : 0 ≤ t) (h4 : t < 4294967296) (h5 : 0 ≤ m) (h6 : m < 4294967296) (w : World) :
    Calls Try.prog 9 #[.agg (insC 12 S T D A m), .int .u32 s, .int .u32 t] w fun e w' => e = .returned (.tuple #[.int .u32 (shr32 t s), .bool true]) ∧ Below w.heap.size w w' := by
  have hB := hidden (below_new w (.cells (insC 12 S T D A m) 24))
  go_enter Try.func9, Try.ntmps9
  go_wp2_with (first | (go_at_call 33; refine (regs_12 S T D A m s t h1 h2 h3 h4 h5 h6 _).mono ?_; rintro e w' ⟨rfl, hB2⟩))
  go_ret2
  exact ⟨ret_intb rfl rfl, bthen hB.out hB2⟩
set_option maxRecDepth 20000 in
theorem refReckon_17 (S T D A m s t : Int) (h1 : 0 ≤ s) (h2 : s < 4294967296) (h3 : 0 ≤ t) (h4 : t < 4294967296) (h5 : 0 ≤ m) (h6 : m < 4294967296) (w : World) :
    Calls Try.prog 9 #[.agg (insC 17 S T D A m), .int .u32 s, .int .u32 t] w fun e w' => e = .returned (.tuple #[.int .u32 (shr32 t A), .bool true]) ∧ Below w.heap.size w w' := by
  have hB := hidden (below_new w (.cells (insC 17 S T D A m) 24))
  have hm := and31i A
  have h0 : 0 ≤ A % 32 := by omega
  have hA : 0 ≤ A % 32 ∧ A % 32 < 4294967296 := by omega
  go_enter Try.func9, Try.ntmps9
  go_wp2
  go_ret2
  exact ⟨ret_intb rfl rfl, hB.out⟩
set_option maxRecDepth 20000 in
theorem refReckon_38 (S T D A m s t : Int) (h1 : 0 ≤ s) (h2 : s < 4294967296) (h3 : 0 ≤ t) (h4 : t < 4294967296) (h5 : 0 ≤ m) (h6 : m < 4294967296) (w : World) :
    Calls Try.prog 9 #[.agg (insC 38 S T D A m), .int .u32 s, .int .u32 t] w fun e w' => e = .returned (.tuple #[.int .u32 (zeros32 s), .bool true]) ∧ Below w.heap.size w w' := by
  have hB := hidden (below_new w (.cells (insC 38 S T D A m) 24))
  go_enter Try.func9, Try.ntmps9
  go_wp2_with (first | (go_at_call 29; refine (refZeros_any _ h1 h2 _).mono ?_; rintro e w' ⟨rfl, rfl⟩))
  go_ret2
  exact ⟨ret_intb rfl rfl, hB.out⟩
set_option maxRecDepth 20000 in
theorem refReckon_41 (S T D A m s t : Int) (h1 : 0 ≤ s) (h2 : s < 4294967296) (h3 : 0 ≤ t) (h4 : t < 4294967296) (h5 : 0 ≤ m) (h6 : m < 4294967296) (w : World) :
    Calls Try.prog 9 #[.agg (insC 41 S T D A m), .int .u32 s, .int .u32 t] w fun e w' => e = .returned (.tuple #[.int .u32 (add32 s m), .bool true]) ∧ Below w.heap.size w w' := by
  have hB := hidden (below_new w (.cells (insC 41 S T D A m) 24))
  go_enter Try.func9, Try.ntmps9
  go_wp2
  go_ret2
  exact ⟨ret_intb rfl rfl, hB.out⟩
set_option maxRecDepth 20000 in
theorem refReckon_44 (S T D A m s t : Int) (h1 : 0 ≤ s) (h2 : s < 4294967296) (h3 : 0 ≤ t) (h4 : t < 4294967296) (h5 : 0 ≤ m) (h6 : m < 4294967296) (w : World) :
    Calls Try.prog 9 #[.agg (insC 44 S T D A m), .int .u32 s, .int .u32 t] w fun e w' => e = .returned (.tuple #[.int .u32 (bits .and .u32 s m), .bool true]) ∧ Below w.heap.size w w' := by
  have hB := hidden (below_new w (.cells (insC 44 S T D A m) 24))
  go_enter Try.func9, Try.ntmps9
  go_wp2
  go_ret2
  exact ⟨ret_intb rfl rfl, hB.out⟩
set_option maxRecDepth 20000 in
theorem refReckon_47 (S T D A m s t : Int) (h1 : 0 ≤ s) (h2 : s < 4294967296) (h3 : 0 ≤ t) (h4 : t < 4294967296) (h5 : 0 ≤ m) (h6 : m < 4294967296) (w : World) :
    Calls Try.prog 9 #[.agg (insC 47 S T D A m), .int .u32 s, .int .u32 t] w fun e w' => e = .returned (.tuple #[.int .u32 (m * 65536 % 4294967296), .bool true]) ∧ Below w.heap.size w w' := by
  have hB := hidden (below_new w (.cells (insC 47 S T D A m) 24))
  go_enter Try.func9, Try.ntmps9
  go_wp2
  go_ret2
  exact ⟨ret_intb rfl rfl, hB.out⟩
end Go.Proofs.Ytlheilpaafjeiaa
