/- refReckon of one instruction, walked. -/
import Derived.Test.YtlheilpaafjeiaaPAluRegs
namespace Go.Proofs.Ytlheilpaafjeiaa
open Go.ChangeShapes Go.WideShapes Go.ChangeAt Go.RowKit
set_option linter.unusedVariables false
set_option maxRecDepth 20000 in
theorem refReckon_1 (S T D A m s t : Int) (h1 : 0 ≤ s) (h2 : s < 4294967296) (h3 : 0 ≤ t) (h4 : t < 4294967296) (h5 : 0 ≤ m) (h6 : m < 4294967296) (w : World) :
    Calls Try.prog 9 #[.agg (insC 1 S T D A m), .int .u32 s, .int .u32 t] w fun e w' => e = .returned (.tuple #[.int .u32 (add32 s t), .bool true]) ∧ Below w.heap.size w w' := by
  have hB := hidden (below_new w (.cells (insC 1 S T D A m) 24))
  go_enter Try.func9, Try.ntmps9
  go_wp2_with (first | (go_at_call 33; refine (regs_1 S T D A m s t h1 h2 h3 h4 h5 h6 _).mono ?_; rintro e w' ⟨rfl, hB2⟩))
  go_ret2
  exact ⟨ret_intb rfl rfl, bthen hB.out hB2⟩
set_option maxRecDepth 20000 in
theorem refReckon_4 (S T D A m s t : Int) (h1 : 0 ≤ s) (h2 : s < 4294967296) (h3 : 0 ≤ t) (h4 : t < 4294967296) (h5 : 0 ≤ m) (h6 : m < 4294967296) (w : World) :
    Calls Try.prog 9 #[.agg (insC 4 S T D A m), .int .u32 s, .int .u32 t] w fun e w' => e = .returned (.tuple #[.int .u32 (bits .or .u32 s t), .bool true]) ∧ Below w.heap.size w w' := by
  have hB := hidden (below_new w (.cells (insC 4 S T D A m) 24))
  go_enter Try.func9, Try.ntmps9
  go_wp2_with (first | (go_at_call 33; refine (regs_4 S T D A m s t h1 h2 h3 h4 h5 h6 _).mono ?_; rintro e w' ⟨rfl, hB2⟩))
  go_ret2
  exact ⟨ret_intb rfl rfl, bthen hB.out hB2⟩
set_option maxRecDepth 20000 in
theorem refReckon_7 (S T D A m s t : Int) (h1 : 0 ≤ s) (h2 : s < 4294967296) (h3 : 0 ≤ t) (h4 : t < 4294967296) (h5 : 0 ≤ m) (h6 : m < 4294967296) (w : World) :
    Calls Try.prog 9 #[.agg (insC 7 S T D A m), .int .u32 s, .int .u32 t] w fun e w' => e = .returned (.tuple #[.int .u32 (oneI (lt32 s t)), .bool true]) ∧ Below w.heap.size w w' := by
  have hB := hidden (below_new w (.cells (insC 7 S T D A m) 24))
  go_enter Try.func9, Try.ntmps9
  go_wp2_with (first | (go_at_call 33; refine (regs_7 S T D A m s t h1 h2 h3 h4 h5 h6 _).mono ?_; rintro e w' ⟨rfl, hB2⟩))
  go_ret2
  exact ⟨ret_intb rfl rfl, bthen hB.out hB2⟩
set_option maxRecDepth 20000 in
theorem refReckon_10 (S T D A m s t : Int) (h1 : 0 ≤ s) (h2 : s < 4294967296) (h3 : 0 ≤ t) (h4 : t < 4294967296) (h5 : 0 ≤ m) (h6 : m < 4294967296) (w : World) :
    Calls Try.prog 9 #[.agg (insC 10 S T D A m), .int .u32 s, .int .u32 t] w fun e w' => e = .returned (.tuple #[.int .u32 (sub32 s t), .bool true]) ∧ Below w.heap.size w w' := by
  have hB := hidden (below_new w (.cells (insC 10 S T D A m) 24))
  go_enter Try.func9, Try.ntmps9
  go_wp2_with (first | (go_at_call 33; refine (regs_10 S T D A m s t h1 h2 h3 h4 h5 h6 _).mono ?_; rintro e w' ⟨rfl, hB2⟩))
  go_ret2
  exact ⟨ret_intb rfl rfl, bthen hB.out hB2⟩
set_option maxRecDepth 20000 in
theorem refReckon_13 (S T D A m s t : Int) (h1 : 0 ≤ s) (h2 : s < 4294967296) (h3 : 0 ≤ t) (h4 : t < 4294967296) (h5 : 0 ≤ m) (h6 : m < 4294967296) (w : World) :
    Calls Try.prog 9 #[.agg (insC 13 S T D A m), .int .u32 s, .int .u32 t] w fun e w' => e = .returned (.tuple #[.int .u32 (sar32 t s), .bool true]) ∧ Below w.heap.size w w' := by
  have hB := hidden (below_new w (.cells (insC 13 S T D A m) 24))
  go_enter Try.func9, Try.ntmps9
  go_wp2_with (first | (go_at_call 33; refine (regs_13 S T D A m s t h1 h2 h3 h4 h5 h6 _).mono ?_; rintro e w' ⟨rfl, hB2⟩))
  go_ret2
  exact ⟨ret_intb rfl rfl, bthen hB.out hB2⟩
set_option maxRecDepth 20000 in
theorem refReckon_18 (S T D A m s t : Int) (h1 : 0 ≤ s) (h2 : s < 4294967296) (h3 : 0 ≤ t) (h4 : t < 4294967296) (h5 : 0 ≤ m) (h6 : m < 4294967296) (w : World) :
    Calls Try.prog 9 #[.agg (insC 18 S T D A m), .int .u32 s, .int .u32 t] w fun e w' => e = .returned (.tuple #[.int .u32 (sar32 t A), .bool true]) ∧ Below w.heap.size w w' := by
  have hB := hidden (below_new w (.cells (insC 18 S T D A m) 24))
  have hm := and31i A
  have h0 : 0 ≤ A % 32 := by omega
  have hA : 0 ≤ A % 32 ∧ A % 32 < 4294967296 := by omega
  go_enter Try.func9, Try.ntmps9
  go_wp2_with (first | (go_at_call 20; refine (refSar_any _ _ h3 h4 hA.1 hA.2 _).mono ?_; rintro e w' ⟨rfl, rfl⟩))
  go_ret2
  exact ⟨ret_intb (sar32_s t A) rfl, hB.out⟩
set_option maxRecDepth 20000 in
theorem refReckon_39 (S T D A m s t : Int) (h1 : 0 ≤ s) (h2 : s < 4294967296) (h3 : 0 ≤ t) (h4 : t < 4294967296) (h5 : 0 ≤ m) (h6 : m < 4294967296) (w : World) :
    Calls Try.prog 9 #[.agg (insC 39 S T D A m), .int .u32 s, .int .u32 t] w fun e w' => e = .returned (.tuple #[.int .u32 (zeros32 (4294967295 - s)), .bool true]) ∧ Below w.heap.size w w' := by
  have hB := hidden (below_new w (.cells (insC 39 S T D A m) 24))
  go_enter Try.func9, Try.ntmps9
  go_wp2_with (first | (go_at_call 30; refine (refOnes_any _ h1 h2 _).mono ?_; rintro e w' ⟨rfl, rfl⟩))
  go_ret2
  exact ⟨ret_intb rfl rfl, hB.out⟩
set_option maxRecDepth 20000 in
theorem refReckon_42 (S T D A m s t : Int) (h1 : 0 ≤ s) (h2 : s < 4294967296) (h3 : 0 ≤ t) (h4 : t < 4294967296) (h5 : 0 ≤ m) (h6 : m < 4294967296) (w : World) :
    Calls Try.prog 9 #[.agg (insC 42 S T D A m), .int .u32 s, .int .u32 t] w fun e w' => e = .returned (.tuple #[.int .u32 (oneI (lt32 s m)), .bool true]) ∧ Below w.heap.size w w' := by
  have hB := hidden (below_new w (.cells (insC 42 S T D A m) 24))
  go_enter Try.func9, Try.ntmps9
  go_wp2_with (first | (go_at_call 32; refine (refBelow_any _ _ h1 h2 h5 h6 _).mono ?_; rintro e w' ⟨rfl, rfl⟩) | (go_at_call 31; refine (refBit_any _ _).mono ?_; rintro e w' ⟨rfl, rfl⟩))
  go_ret2
  exact ⟨ret_intb rfl rfl, hB.out⟩
set_option maxRecDepth 20000 in
theorem refReckon_45 (S T D A m s t : Int) (h1 : 0 ≤ s) (h2 : s < 4294967296) (h3 : 0 ≤ t) (h4 : t < 4294967296) (h5 : 0 ≤ m) (h6 : m < 4294967296) (w : World) :
    Calls Try.prog 9 #[.agg (insC 45 S T D A m), .int .u32 s, .int .u32 t] w fun e w' => e = .returned (.tuple #[.int .u32 (bits .or .u32 s m), .bool true]) ∧ Below w.heap.size w w' := by
  have hB := hidden (below_new w (.cells (insC 45 S T D A m) 24))
  go_enter Try.func9, Try.ntmps9
  go_wp2
  go_ret2
  exact ⟨ret_intb rfl rfl, hB.out⟩
end Go.Proofs.Ytlheilpaafjeiaa
