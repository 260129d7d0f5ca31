/- The own registers of one instruction, walked. -/
import Derived.Test.YtlheilpaafjeiaaPAluMix
namespace Go.Proofs.Ytlheilpaafjeiaa
open Go.ChangeShapes Go.WideShapes Go.ChangeAt Go.RowKit
set_option linter.unusedVariables false
set_option maxRecDepth 20000 in
theorem regs_1 (S T D A m s t : Int) (h1 : 0 ≤ s) (h2 : s < 4294967296) (h3 : 0 ≤ t) (h4 : t < 4294967296) (h5 : 0 ≤ m) (h6 : m < 4294967296) (w : World) :
    Calls Try.prog 33 #[.agg (insC 1 S T D A m), .int .u32 s, .int .u32 t] w fun e w' => e = .returned (.tuple #[.int .u32 (add32 s t), .bool true]) ∧ Below w.heap.size w w' := by
  have hB := hidden (below_new w (.cells (insC 1 S T D A m) 24))
  go_enter Try.func33, Try.ntmps33
  go_wp2
  go_ret2
  exact ⟨ret_intb rfl rfl, hB.out⟩
set_option maxRecDepth 20000 in
theorem regs_2 (S T D A m s t : Int) (h1 : 0 ≤ s) (h2 : s < 4294967296) (h3 : 0 ≤ t) (h4 : t < 4294967296) (h5 : 0 ≤ m) (h6 : m < 4294967296) (w : World) :
    Calls Try.prog 33 #[.agg (insC 2 S T D A m), .int .u32 s, .int .u32 t] w fun e w' => e = .returned (.tuple #[.int .u32 (sub32 s t), .bool true]) ∧ Below w.heap.size w w' := by
  have hB := hidden (below_new w (.cells (insC 2 S T D A m) 24))
  go_enter Try.func33, Try.ntmps33
  go_wp2
  go_ret2
  exact ⟨ret_intb rfl rfl, hB.out⟩
set_option maxRecDepth 20000 in
theorem regs_3 (S T D A m s t : Int) (h1 : 0 ≤ s) (h2 : s < 4294967296) (h3 : 0 ≤ t) (h4 : t < 4294967296) (h5 : 0 ≤ m) (h6 : m < 4294967296) (w : World) :
    Calls Try.prog 33 #[.agg (insC 3 S T D A m), .int .u32 s, .int .u32 t] w fun e w' => e = .returned (.tuple #[.int .u32 (bits .and .u32 s t), .bool true]) ∧ Below w.heap.size w w' := by
  have hB := hidden (below_new w (.cells (insC 3 S T D A m) 24))
  go_enter Try.func33, Try.ntmps33
  go_wp2
  go_ret2
  exact ⟨ret_intb rfl rfl, hB.out⟩
set_option maxRecDepth 20000 in
theorem regs_4 (S T D A m s t : Int) (h1 : 0 ≤ s) (h2 : s < 4294967296) (h3 : 0 ≤ t) (h4 : t < 4294967296) (h5 : 0 ≤ m) (h6 : m < 4294967296) (w : World) :
    Calls Try.prog 33 #[.agg (insC 4 S T D A m), .int .u32 s, .int .u32 t] w fun e w' => e = .returned (.tuple #[.int .u32 (bits .or .u32 s t), .bool true]) ∧ Below w.heap.size w w' := by
  have hB := hidden (below_new w (.cells (insC 4 S T D A m) 24))
  go_enter Try.func33, Try.ntmps33
  go_wp2
  go_ret2
  exact ⟨ret_intb rfl rfl, hB.out⟩
set_option maxRecDepth 20000 in
theorem regs_5 (S T D A m s t : Int) (h1 : 0 ≤ s) (h2 : s < 4294967296) (h3 : 0 ≤ t) (h4 : t < 4294967296) (h5 : 0 ≤ m) (h6 : m < 4294967296) (w : World) :
    Calls Try.prog 33 #[.agg (insC 5 S T D A m), .int .u32 s, .int .u32 t] w fun e w' => e = .returned (.tuple #[.int .u32 (bits .xor .u32 s t), .bool true]) ∧ Below w.heap.size w w' := by
  have hB := hidden (below_new w (.cells (insC 5 S T D A m) 24))
  go_enter Try.func33, Try.ntmps33
  go_wp2
  go_ret2
  exact ⟨ret_intb rfl rfl, hB.out⟩
set_option maxRecDepth 20000 in
theorem regs_6 (S T D A m s t : Int) (h1 : 0 ≤ s) (h2 : s < 4294967296) (h3 : 0 ≤ t) (h4 : t < 4294967296) (h5 : 0 ≤ m) (h6 : m < 4294967296) (w : World) :
    Calls Try.prog 33 #[.agg (insC 6 S T D A m), .int .u32 s, .int .u32 t] w fun e w' => e = .returned (.tuple #[.int .u32 (norV s t), .bool true]) ∧ Below w.heap.size w w' := by
  have hB := hidden (below_new w (.cells (insC 6 S T D A m) 24))
  have hs : IntKind.u32.signed = false := rfl
  have hx := u32_or_range s t h1 h2 h3 h4
  have hn := not32 (bits .or .u32 s t) hx.1 hx.2
  go_enter Try.func33, Try.ntmps33
  go_wp2
  go_ret2
  exact ⟨ret_intb rfl rfl, hB.out⟩
set_option maxRecDepth 20000 in
theorem regs_7 (S T D A m s t : Int) (h1 : 0 ≤ s) (h2 : s < 4294967296) (h3 : 0 ≤ t) (h4 : t < 4294967296) (h5 : 0 ≤ m) (h6 : m < 4294967296) (w : World) :
    Calls Try.prog 33 #[.agg (insC 7 S T D A m), .int .u32 s, .int .u32 t] w fun e w' => e = .returned (.tuple #[.int .u32 (oneI (lt32 s t)), .bool true]) ∧ Below w.heap.size w w' := by
  have hB := hidden (below_new w (.cells (insC 7 S T D A m) 24))
  go_enter Try.func33, Try.ntmps33
  go_wp2_with (first | (go_at_call 32; refine (refBelow_any _ _ h1 h2 h3 h4 _).mono ?_; rintro e w' ⟨rfl, rfl⟩) | (go_at_call 31; refine (refBit_any _ _).mono ?_; rintro e w' ⟨rfl, rfl⟩))
  go_ret2
  exact ⟨ret_intb rfl rfl, hB.out⟩
set_option maxRecDepth 20000 in
theorem regs_8 (S T D A m s t : Int) (h1 : 0 ≤ s) (h2 : s < 4294967296) (h3 : 0 ≤ t) (h4 : t < 4294967296) (h5 : 0 ≤ m) (h6 : m < 4294967296) (w : World) :
    Calls Try.prog 33 #[.agg (insC 8 S T D A m), .int .u32 s, .int .u32 t] w fun e w' => e = .returned (.tuple #[.int .u32 (oneI (decide (s < t))), .bool true]) ∧ Below w.heap.size w w' := by
  have hB := hidden (below_new w (.cells (insC 8 S T D A m) 24))
  go_enter Try.func33, Try.ntmps33
  go_wp2_with (first | (go_at_call 31; refine (refBit_any _ _).mono ?_; rintro e w' ⟨rfl, rfl⟩))
  go_ret2
  exact ⟨ret_intb rfl rfl, hB.out⟩
set_option maxRecDepth 20000 in
theorem regs_9 (S T D A m s t : Int) (h1 : 0 ≤ s) (h2 : s < 4294967296) (h3 : 0 ≤ t) (h4 : t < 4294967296) (h5 : 0 ≤ m) (h6 : m < 4294967296) (w : World) :
    Calls Try.prog 33 #[.agg (insC 9 S T D A m), .int .u32 s, .int .u32 t] w fun e w' => e = .returned (.tuple #[.int .u32 (add32 s t), .bool true]) ∧ Below w.heap.size w w' := by
  have hB := hidden (below_new w (.cells (insC 9 S T D A m) 24))
  go_enter Try.func33, Try.ntmps33
  go_wp2
  go_ret2
  exact ⟨ret_intb rfl rfl, hB.out⟩
set_option maxRecDepth 20000 in
theorem regs_10 (S T D A m s t : Int) (h1 : 0 ≤ s) (h2 : s < 4294967296) (h3 : 0 ≤ t) (h4 : t < 4294967296) (h5 : 0 ≤ m) (h6 : m < 4294967296) (w : World) :
    Calls Try.prog 33 #[.agg (insC 10 S T D A m), .int .u32 s, .int .u32 t] w fun e w' => e = .returned (.tuple #[.int .u32 (sub32 s t), .bool true]) ∧ Below w.heap.size w w' := by
  have hB := hidden (below_new w (.cells (insC 10 S T D A m) 24))
  go_enter Try.func33, Try.ntmps33
  go_wp2
  go_ret2
  exact ⟨ret_intb rfl rfl, hB.out⟩
set_option maxRecDepth 20000 in
theorem regs_11 (S T D A m s t : Int) (h1 : 0 ≤ s) (h2 : s < 4294967296) (h3 : 0 ≤ t) (h4 : t < 4294967296) (h5 : 0 ≤ m) (h6 : m < 4294967296) (w : World) :
    Calls Try.prog 33 #[.agg (insC 11 S T D A m), .int .u32 s, .int .u32 t] w fun e w' => e = .returned (.tuple #[.int .u32 (shl32 t s), .bool true]) ∧ Below w.heap.size w w' := by
  have hB := hidden (below_new w (.cells (insC 11 S T D A m) 24))
  have hm := and31 s h1 h2
  have h0 : 0 ≤ s % 32 := by omega
  go_enter Try.func33, Try.ntmps33
  go_wp2
  go_ret2
  exact ⟨ret_intb rfl rfl, hB.out⟩
set_option maxRecDepth 20000 in
theorem regs_12 (S T D A m s t : Int) (h1 : 0 ≤ s) (h2 : s < 4294967296) (h3 : 0 ≤ t) (h4 : t < 4294967296) (h5 : 0 ≤ m) (h6 : m < 4294967296) (w : World) :
    Calls Try.prog 33 #[.agg (insC 12 S T D A m), .int .u32 s, .int .u32 t] w fun e w' => e = .returned (.tuple #[.int .u32 (shr32 t s), .bool true]) ∧ Below w.heap.size w w' := by
  have hB := hidden (below_new w (.cells (insC 12 S T D A m) 24))
  have hm := and31 s h1 h2
  have h0 : 0 ≤ s % 32 := by omega
  go_enter Try.func33, Try.ntmps33
  go_wp2
  go_ret2
  exact ⟨ret_intb rfl rfl, hB.out⟩
set_option maxRecDepth 20000 in
theorem regs_13 (S T D A m s t : Int) (h1 : 0 ≤ s) (h2 : s < 4294967296) (h3 : 0 ≤ t) (h4 : t < 4294967296) (h5 : 0 ≤ m) (h6 : m < 4294967296) (w : World) :
    Calls Try.prog 33 #[.agg (insC 13 S T D A m), .int .u32 s, .int .u32 t] w fun e w' => e = .returned (.tuple #[.int .u32 (sar32 t s), .bool true]) ∧ Below w.heap.size w w' := by
  have hB := hidden (below_new w (.cells (insC 13 S T D A m) 24))
  go_enter Try.func33, Try.ntmps33
  go_wp2_with (first | (go_at_call 20; refine (refSar_any _ _ h3 h4 h1 h2 _).mono ?_; rintro e w' ⟨rfl, rfl⟩))
  go_ret2
  exact ⟨ret_intb rfl rfl, hB.out⟩
end Go.Proofs.Ytlheilpaafjeiaa
