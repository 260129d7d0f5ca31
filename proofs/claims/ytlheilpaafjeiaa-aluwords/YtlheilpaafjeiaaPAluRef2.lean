/- refReckon of one instruction, walked. -/
import Derived.Test.YtlheilpaafjeiaaPAluRegs
namespace Go.Proofs.Ytlheilpaafjeiaa
open Go.ChangeShapes Go.WideShapes Go.ChangeAt Go.RowKit
set_option linter.unusedVariables false
set_option maxRecDepth 20000 in
theorem refReckon_2 (S T D A m s t : Int) (h1 : 0 ≤ s) (h2 : s < 4294967296) (h3 : 0 ≤ t) (h4 : t < 4294967296) (h5 : 0 ≤ m) (h6 : m < 4294967296) (w : World) :
    Calls Try.prog 9 #[.agg (insC 2 S T D A m), .int .u32 s, .int .u32 t] w fun e w' => e = .returned (.tuple #[.int .u32 (sub32 s t), .bool true]) ∧ Below w.heap.size w w' := by
  have hB := hidden (below_new w (.cells (insC 2 S T D A m) 24))
  go_enter Try.func9, Try.ntmps9
  go_wp2_with (first | (go_at_call 33; refine (regs_2 S T D A m s t h1 h2 h3 h4 h5 h6 _).mono ?_; rintro e w' ⟨rfl, hB2⟩))
  go_ret2
  exact ⟨ret_intb rfl rfl, bthen hB.out hB2⟩
set_option maxRecDepth 20000 in
theorem refReckon_5 (S T D A m s t : Int) (h1 : 0 ≤ s) (h2 : s < 4294967296) (h3 : 0 ≤ t) (h4 : t < 4294967296) (h5 : 0 ≤ m) (h6 : m < 4294967296) (w : World) :
    Calls Try.prog 9 #[.agg (insC 5 S T D A m), .int .u32 s, .int .u32 t] w fun e w' => e = .returned (.tuple #[.int .u32 (bits .xor .u32 s t), .bool true]) ∧ Below w.heap.size w w' := by
  have hB := hidden (below_new w (.cells (insC 5 S T D A m) 24))
  go_enter Try.func9, Try.ntmps9
  go_wp2_with (first | (go_at_call 33; refine (regs_5 S T D A m s t h1 h2 h3 h4 h5 h6 _).mono ?_; rintro e w' ⟨rfl, hB2⟩))
  go_ret2
  exact ⟨ret_intb rfl rfl, bthen hB.out hB2⟩
set_option maxRecDepth 20000 in
theorem refReckon_8 (S T D A m s t : Int) (h1 : 0 ≤ s) (h2 : s < 4294967296) (h3 : 0 ≤ t) (h4 : t < 4294967296) (h5 : 0 ≤ m) (h6 : m < 4294967296) (w : World) :
    Calls Try.prog 9 #[.agg (insC 8 S T D A m), .int .u32 s, .int .u32 t] w fun e w' => e = .returned (.tuple #[.int .u32 (oneI (decide (s < t))), .bool true]) ∧ Below w.heap.size w w' := by
  have hB := hidden (below_new w (.cells (insC 8 S T D A m) 24))
  go_enter Try.func9, Try.ntmps9
  go_wp2_with (first | (go_at_call 33; refine (regs_8 S T D A m s t h1 h2 h3 h4 h5 h6 _).mono ?_; rintro e w' ⟨rfl, hB2⟩))
  go_ret2
  exact ⟨ret_intb rfl rfl, bthen hB.out hB2⟩
set_option maxRecDepth 20000 in
theorem refReckon_11 (S T D A m s t : Int) (h1 : 0 ≤ s) (h2 : s < 4294967296) (h3 : 0 ≤ t) (h4 : t < 4294967296) (h5 : 0 ≤ m) (h6 : m < 4294967296) (w : World) :
    Calls Try.prog 9 #[.agg (insC 11 S T D A m), .int .u32 s, .int .u32 t] w fun e w' => e = .returned (.tuple #[.int .u32 (shl32 t s), .bool true]) ∧ Below w.heap.size w w' := by
  have hB := hidden (below_new w (.cells (insC 11 S T D A m) 24))
  go_enter Try.func9, Try.ntmps9
  go_wp2_with (first | (go_at_call 33; refine (regs_11 S T D A m s t h1 h2 h3 h4 h5 h6 _).mono ?_; rintro e w' ⟨rfl, hB2⟩))
  go_ret2
  exact ⟨ret_intb rfl rfl, bthen hB.out hB2⟩
set_option maxRecDepth 20000 in
theorem refReckon_16 (S T D A m s t : Int) (h1 : 0 ≤ s) (h2 : s < 4294967296) (h3 : 0 ≤ t) (h4 : t < 4294967296) (h5 : 0 ≤ m) (h6 : m < 4294967296) (w : World) :
    Calls Try.prog 9 #[.agg (insC 16 S T D A m), .int .u32 s, .int .u32 t] w fun e w' => e = .returned (.tuple #[.int .u32 (shl32 t A), .bool true]) ∧ Below w.heap.size w w' := by
  have hB := hidden (below_new w (.cells (insC 16 S T D A m) 24))
  have hm := and31i A
  have h0 : 0 ≤ A % 32 := by omega
  have hA : 0 ≤ A % 32 ∧ A % 32 < 4294967296 := by omega
  go_enter Try.func9, Try.ntmps9
  go_wp2
  go_ret2
  exact ⟨ret_intb rfl rfl, hB.out⟩
set_option maxRecDepth 20000 in
theorem refReckon_37 (S T D A m s t : Int) (h1 : 0 ≤ s) (h2 : s < 4294967296) (h3 : 0 ≤ t) (h4 : t < 4294967296) (h5 : 0 ≤ m) (h6 : m < 4294967296) (w : World) :
    Calls Try.prog 9 #[.agg (insC 37 S T D A m), .int .u32 s, .int .u32 t] w fun e w' => e = .returned (.tuple #[.int .u32 (mulLo s t), .bool true]) ∧ Below w.heap.size w w' := by
  have hB := hidden (below_new w (.cells (insC 37 S T D A m) 24))
  go_enter Try.func9, Try.ntmps9
  go_wp2_with (first | (go_at_call 28; refine (refMulT_any _ _ h1 h2 h3 h4 _).mono ?_; rintro e w' ⟨rfl, rfl⟩))
  go_ret2
  exact ⟨ret_intb (muls3 s t).symm rfl, hB.out⟩
set_option maxRecDepth 20000 in
theorem refReckon_40 (S T D A m s t : Int) (h1 : 0 ≤ s) (h2 : s < 4294967296) (h3 : 0 ≤ t) (h4 : t < 4294967296) (h5 : 0 ≤ m) (h6 : m < 4294967296) (w : World) :
    Calls Try.prog 9 #[.agg (insC 40 S T D A m), .int .u32 s, .int .u32 t] w fun e w' => e = .returned (.tuple #[.int .u32 (add32 s m), .bool true]) ∧ Below w.heap.size w w' := by
  have hB := hidden (below_new w (.cells (insC 40 S T D A m) 24))
  go_enter Try.func9, Try.ntmps9
  go_wp2
  go_ret2
  exact ⟨ret_intb rfl rfl, hB.out⟩
set_option maxRecDepth 20000 in
theorem refReckon_43 (S T D A m s t : Int) (h1 : 0 ≤ s) (h2 : s < 4294967296) (h3 : 0 ≤ t) (h4 : t < 4294967296) (h5 : 0 ≤ m) (h6 : m < 4294967296) (w : World) :
    Calls Try.prog 9 #[.agg (insC 43 S T D A m), .int .u32 s, .int .u32 t] w fun e w' => e = .returned (.tuple #[.int .u32 (oneI (decide (s < m))), .bool true]) ∧ Below w.heap.size w w' := by
  have hB := hidden (below_new w (.cells (insC 43 S T D A m) 24))
  go_enter Try.func9, Try.ntmps9
  go_wp2_with (first | (go_at_call 31; refine (refBit_any _ _).mono ?_; rintro e w' ⟨rfl, rfl⟩))
  go_ret2
  exact ⟨ret_intb rfl rfl, hB.out⟩
set_option maxRecDepth 20000 in
theorem refReckon_46 (S T D A m s t : Int) (h1 : 0 ≤ s) (h2 : s < 4294967296) (h3 : 0 ≤ t) (h4 : t < 4294967296) (h5 : 0 ≤ m) (h6 : m < 4294967296) (w : World) :
    Calls Try.prog 9 #[.agg (insC 46 S T D A m), .int .u32 s, .int .u32 t] w fun e w' => e = .returned (.tuple #[.int .u32 (bits .xor .u32 s m), .bool true]) ∧ Below w.heap.size w w' := by
  have hB := hidden (below_new w (.cells (insC 46 S T D A m) 24))
  go_enter Try.func9, Try.ntmps9
  go_wp2
  go_ret2
  exact ⟨ret_intb rfl rfl, hB.out⟩
end Go.Proofs.Ytlheilpaafjeiaa
