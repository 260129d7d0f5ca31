/- Whether a word is of a row: it is told. -/
import Derived.Test.YtlheilpaafjeiaaPRowW
namespace Go.Proofs.Ytlheilpaafjeiaa
open Go.ChangeShapes Go.WideShapes Go.ChangeAt Go.RowKit
set_option linter.unusedVariables false
set_option maxRecDepth 20000 in
set_option maxHeartbeats 1000000 in
theorem fits_68 (op o n : Int) (nm : ByteArray) (v : Int) (h1 : 0 ≤ v) (h2 : v < 4294967296) (w : World) : Calls Try.prog 41 #[.agg (rwC op 68 o n nm), .int .u32 v] w fun e w' => (∃ b, e = .returned (.bool b)) ∧ Below w.heap.size w w' := by
  have hB := hidden (below_new w (.cells (rwC op 68 o n nm) 48))
  go_enter Try.func41, Try.ntmps41
  go_wp2_with (go_at_call 49; refine (fldW v _ _ h1 h2 _).mono ?_; rintro e w4 ⟨⟨x, rfl, hx0, hx1⟩, rfl⟩; have hx2 := u32i64 x hx0 hx1)
  all_goals (go_ret; exact ⟨⟨_, rfl⟩, hB.out⟩)
set_option maxRecDepth 20000 in
set_option maxHeartbeats 1000000 in
theorem fits_70 (op o n : Int) (nm : ByteArray) (v : Int) (h1 : 0 ≤ v) (h2 : v < 4294967296) (w : World) : Calls Try.prog 41 #[.agg (rwC op 70 o n nm), .int .u32 v] w fun e w' => (∃ b, e = .returned (.bool b)) ∧ Below w.heap.size w w' := by
  have hB := hidden (below_new w (.cells (rwC op 70 o n nm) 48))
  go_enter Try.func41, Try.ntmps41
  go_wp2_with (go_at_call 49; refine (fldW v _ _ h1 h2 _).mono ?_; rintro e w4 ⟨⟨x, rfl, hx0, hx1⟩, rfl⟩; have hx2 := u32i64 x hx0 hx1)
  all_goals (go_ret; exact ⟨⟨_, rfl⟩, hB.out⟩)
set_option maxRecDepth 20000 in
set_option maxHeartbeats 1000000 in
theorem fits_none (op c o n : Int) (nm : ByteArray) (v : Int) (h1 : 0 ≤ v) (h2 : v < 4294967296) (k68 : (c == 68) = false) (k88 : (c == 88) = false) (k72 : (c == 72) = false) (k77 : (c == 77) = false) (k70 : (c == 70) = false) (k76 : (c == 76) = false) (k71 : (c == 71) = false) (k84 : (c == 84) = false) (k67 : (c == 67) = false) (k89 : (c == 89) = false) (k86 : (c == 86) = false) (k90 : (c == 90) = false) (k82 : (c == 82) = false) (w : World) : Calls Try.prog 41 #[.agg (rwC op c o n nm), .int .u32 v] w fun e w' => (∃ b, e = .returned (.bool b)) ∧ Below w.heap.size w w' := by
  have hB := hidden (below_new w (.cells (rwC op c o n nm) 48))
  go_enter Try.func41, Try.ntmps41
  go_wp2_with (go_at_call 49; refine (fldW v _ _ h1 h2 _).mono ?_; rintro e w4 ⟨⟨x, rfl, hx0, hx1⟩, rfl⟩; have hx2 := u32i64 x hx0 hx1)
  all_goals (go_ret; exact ⟨⟨_, rfl⟩, hB.out⟩)
end Go.Proofs.Ytlheilpaafjeiaa
