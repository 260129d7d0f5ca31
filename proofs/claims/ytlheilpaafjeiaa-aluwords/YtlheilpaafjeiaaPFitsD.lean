/- Whether a word is of a row: it is told. -/
import Derived.Test.YtlheilpaafjeiaaPRowW
namespace Go.Proofs.Ytlheilpaafjeiaa
open Go.ChangeShapes Go.WideShapes Go.ChangeAt Go.RowKit
set_option linter.unusedVariables false
set_option maxRecDepth 20000 in
set_option maxHeartbeats 1000000 in
theorem fits_71 (op o n : Int) (nm : ByteArray) (v : Int) (h1 : 0 ≤ v) (h2 : v < 4294967296) (w : World) : Calls Try.prog 41 #[.agg (rwC op 71 o n nm), .int .u32 v] w fun e w' => (∃ b, e = .returned (.bool b)) ∧ Below w.heap.size w w' := by
  have hB := hidden (below_new w (.cells (rwC op 71 o n nm) 48))
  go_enter Try.func41, Try.ntmps41
  go_wp2_with (go_at_call 49; refine (fldW v _ _ h1 h2 _).mono ?_; rintro e w4 ⟨⟨x, rfl, hx0, hx1⟩, rfl⟩; have hx2 := u32i64 x hx0 hx1)
  all_goals (go_ret; exact ⟨⟨_, rfl⟩, hB.out⟩)
set_option maxRecDepth 20000 in
set_option maxHeartbeats 1000000 in
theorem fits_84 (op o n : Int) (nm : ByteArray) (v : Int) (h1 : 0 ≤ v) (h2 : v < 4294967296) (w : World) : Calls Try.prog 41 #[.agg (rwC op 84 o n nm), .int .u32 v] w fun e w' => (∃ b, e = .returned (.bool b)) ∧ Below w.heap.size w w' := by
  have hB := hidden (below_new w (.cells (rwC op 84 o n nm) 48))
  go_enter Try.func41, Try.ntmps41
  go_wp2_with (go_at_call 49; refine (fldW v _ _ h1 h2 _).mono ?_; rintro e w4 ⟨⟨x, rfl, hx0, hx1⟩, rfl⟩; have hx2 := u32i64 x hx0 hx1)
  all_goals (go_ret; exact ⟨⟨_, rfl⟩, hB.out⟩)
set_option maxRecDepth 20000 in
set_option maxHeartbeats 1000000 in
theorem fits_67 (op o n : Int) (nm : ByteArray) (v : Int) (h1 : 0 ≤ v) (h2 : v < 4294967296) (w : World) : Calls Try.prog 41 #[.agg (rwC op 67 o n nm), .int .u32 v] w fun e w' => (∃ b, e = .returned (.bool b)) ∧ Below w.heap.size w w' := by
  have hB := hidden (below_new w (.cells (rwC op 67 o n nm) 48))
  go_enter Try.func41, Try.ntmps41
  go_wp2_with (go_at_call 49; refine (fldW v _ _ h1 h2 _).mono ?_; rintro e w4 ⟨⟨x, rfl, hx0, hx1⟩, rfl⟩; have hx2 := u32i64 x hx0 hx1)
  all_goals (go_ret; exact ⟨⟨_, rfl⟩, hB.out⟩)
set_option maxRecDepth 20000 in
set_option maxHeartbeats 1000000 in
theorem fits_89 (op o n : Int) (nm : ByteArray) (v : Int) (h1 : 0 ≤ v) (h2 : v < 4294967296) (w : World) : Calls Try.prog 41 #[.agg (rwC op 89 o n nm), .int .u32 v] w fun e w' => (∃ b, e = .returned (.bool b)) ∧ Below w.heap.size w w' := by
  have hB := hidden (below_new w (.cells (rwC op 89 o n nm) 48))
  go_enter Try.func41, Try.ntmps41
  go_wp2_with (go_at_call 49; refine (fldW v _ _ h1 h2 _).mono ?_; rintro e w4 ⟨⟨x, rfl, hx0, hx1⟩, rfl⟩; have hx2 := u32i64 x hx0 hx1)
  all_goals (go_ret; exact ⟨⟨_, rfl⟩, hB.out⟩)
set_option maxRecDepth 20000 in
set_option maxHeartbeats 1000000 in
theorem fits_86 (op o n : Int) (nm : ByteArray) (v : Int) (h1 : 0 ≤ v) (h2 : v < 4294967296) (w : World) : Calls Try.prog 41 #[.agg (rwC op 86 o n nm), .int .u32 v] w fun e w' => (∃ b, e = .returned (.bool b)) ∧ Below w.heap.size w w' := by
  have hB := hidden (below_new w (.cells (rwC op 86 o n nm) 48))
  go_enter Try.func41, Try.ntmps41
  go_wp2_with (go_at_call 49; refine (fldW v _ _ h1 h2 _).mono ?_; rintro e w4 ⟨⟨x, rfl, hx0, hx1⟩, rfl⟩; have hx2 := u32i64 x hx0 hx1)
  all_goals (go_ret; exact ⟨⟨_, rfl⟩, hB.out⟩)
set_option maxRecDepth 20000 in
set_option maxHeartbeats 1000000 in
theorem fits_90 (op o n : Int) (nm : ByteArray) (v : Int) (h1 : 0 ≤ v) (h2 : v < 4294967296) (w : World) : Calls Try.prog 41 #[.agg (rwC op 90 o n nm), .int .u32 v] w fun e w' => (∃ b, e = .returned (.bool b)) ∧ Below w.heap.size w w' := by
  have hB := hidden (below_new w (.cells (rwC op 90 o n nm) 48))
  go_enter Try.func41, Try.ntmps41
  go_wp2_with (go_at_call 49; refine (fldW v _ _ h1 h2 _).mono ?_; rintro e w4 ⟨⟨x, rfl, hx0, hx1⟩, rfl⟩; have hx2 := u32i64 x hx0 hx1)
  all_goals (go_ret; exact ⟨⟨_, rfl⟩, hB.out⟩)
set_option maxRecDepth 20000 in
set_option maxHeartbeats 1000000 in
theorem fits_82 (op o n : Int) (nm : ByteArray) (v : Int) (h1 : 0 ≤ v) (h2 : v < 4294967296) (w : World) : Calls Try.prog 41 #[.agg (rwC op 82 o n nm), .int .u32 v] w fun e w' => (∃ b, e = .returned (.bool b)) ∧ Below w.heap.size w w' := by
  have hB := hidden (below_new w (.cells (rwC op 82 o n nm) 48))
  go_enter Try.func41, Try.ntmps41
  go_wp2_with (go_at_call 49; refine (fldW v _ _ h1 h2 _).mono ?_; rintro e w4 ⟨⟨x, rfl, hx0, hx1⟩, rfl⟩; have hx2 := u32i64 x hx0 hx1)
  all_goals (go_ret; exact ⟨⟨_, rfl⟩, hB.out⟩)
end Go.Proofs.Ytlheilpaafjeiaa
