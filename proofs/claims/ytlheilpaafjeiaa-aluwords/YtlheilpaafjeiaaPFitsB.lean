/- Whether a word is of a row: it is told. -/
import Derived.Test.YtlheilpaafjeiaaPRowW
namespace Go.Proofs.Ytlheilpaafjeiaa
open Go.ChangeShapes Go.WideShapes Go.ChangeAt Go.RowKit
set_option linter.unusedVariables false
set_option maxRecDepth 20000 in
set_option maxHeartbeats 1000000 in
theorem fits_88 (op o n : Int) (nm : ByteArray) (v : Int) (h1 : 0 ≤ v) (h2 : v < 4294967296) (w : World) : Calls Try.prog 41 #[.agg (rwC op 88 o n nm), .int .u32 v] w fun e w' => (∃ b, e = .returned (.bool b)) ∧ Below w.heap.size w w' := by
  have hB := hidden (below_new w (.cells (rwC op 88 o n nm) 48))
  go_enter Try.func41, Try.ntmps41
  go_wp2_with (go_at_call 49; refine (fldW v _ _ h1 h2 _).mono ?_; rintro e w4 ⟨⟨x, rfl, hx0, hx1⟩, rfl⟩; have hx2 := u32i64 x hx0 hx1)
  all_goals (go_ret; exact ⟨⟨_, rfl⟩, hB.out⟩)
set_option maxRecDepth 20000 in
set_option maxHeartbeats 1000000 in
theorem fits_72 (op o n : Int) (nm : ByteArray) (v : Int) (h1 : 0 ≤ v) (h2 : v < 4294967296) (w : World) : Calls Try.prog 41 #[.agg (rwC op 72 o n nm), .int .u32 v] w fun e w' => (∃ b, e = .returned (.bool b)) ∧ Below w.heap.size w w' := by
  have hB := hidden (below_new w (.cells (rwC op 72 o n nm) 48))
  go_enter Try.func41, Try.ntmps41
  go_wp2_with (go_at_call 49; refine (fldW v _ _ h1 h2 _).mono ?_; rintro e w4 ⟨⟨x, rfl, hx0, hx1⟩, rfl⟩; have hx2 := u32i64 x hx0 hx1)
  all_goals (go_ret; exact ⟨⟨_, rfl⟩, hB.out⟩)
set_option maxRecDepth 20000 in
set_option maxHeartbeats 1000000 in
theorem fits_77 (op o n : Int) (nm : ByteArray) (v : Int) (h1 : 0 ≤ v) (h2 : v < 4294967296) (w : World) : Calls Try.prog 41 #[.agg (rwC op 77 o n nm), .int .u32 v] w fun e w' => (∃ b, e = .returned (.bool b)) ∧ Below w.heap.size w w' := by
  have hB := hidden (below_new w (.cells (rwC op 77 o n nm) 48))
  go_enter Try.func41, Try.ntmps41
  go_wp2_with (go_at_call 49; refine (fldW v _ _ h1 h2 _).mono ?_; rintro e w4 ⟨⟨x, rfl, hx0, hx1⟩, rfl⟩; have hx2 := u32i64 x hx0 hx1)
  all_goals (go_ret; exact ⟨⟨_, rfl⟩, hB.out⟩)
set_option maxRecDepth 20000 in
set_option maxHeartbeats 1000000 in
theorem fits_76 (op o n : Int) (nm : ByteArray) (v : Int) (h1 : 0 ≤ v) (h2 : v < 4294967296) (w : World) : Calls Try.prog 41 #[.agg (rwC op 76 o n nm), .int .u32 v] w fun e w' => (∃ b, e = .returned (.bool b)) ∧ Below w.heap.size w w' := by
  have hB := hidden (below_new w (.cells (rwC op 76 o n nm) 48))
  go_enter Try.func41, Try.ntmps41
  go_wp2_with (go_at_call 49; refine (fldW v _ _ h1 h2 _).mono ?_; rintro e w4 ⟨⟨x, rfl, hx0, hx1⟩, rfl⟩; have hx2 := u32i64 x hx0 hx1)
  all_goals (go_ret; exact ⟨⟨_, rfl⟩, hB.out⟩)
end Go.Proofs.Ytlheilpaafjeiaa
