/- What a row makes of a word: some instruction. -/
import Derived.Test.YtlheilpaafjeiaaPCutA
namespace Go.Proofs.Ytlheilpaafjeiaa
open Go.ChangeShapes Go.WideShapes Go.ChangeAt Go.RowKit
set_option linter.unusedVariables false
set_option maxRecDepth 20000 in
set_option maxHeartbeats 1000000 in
theorem cut_85 (op o n : Int) (nm : ByteArray) (v : Int) (h1 : 0 ≤ v) (h2 : v < 4294967296) (w : World) : Calls Try.prog 42 #[.agg (rwC op 85 o n nm), .int .u32 v] w fun e w' => (∃ p S T D A m, e = .returned (.agg (insC p S T D A m)) ∧ 0 ≤ m ∧ m < 4294967296) ∧ Below w.heap.size w w' := by
  have ha := hidden (u32_and_range v 65535 h1 h2 (by omega) (by omega))
  go_enter Try.func42, Try.ntmps42
  go_wp2_with (first | (go_at_call 49; refine (fldW v _ _ h1 h2 _).mono ?_; rintro e w4 ⟨⟨x, rfl, hx0, hx1⟩, rfl⟩; have hx2 := u32i64 x hx0 hx1) | (go_at_call 50; refine (sextW v _ h1 h2 _).mono ?_; rintro e w4 ⟨⟨x, rfl, hx0, hx1⟩, rfl⟩))
  refine bodyPost_ret (results_cell_row rfl _ _ (w.heap.size + 1) 24 (insC _ _ _ _ _ _) (0, 0) _ rfl (cut_end w _ _ _ _ _ _ _).1 Try.underlying24 rfl size24) rfl ⟨⟨_, _, _, _, _, _, rfl, ?_, ?_⟩, (cut_end w _ _ _ _ _ _ _).2⟩
  · first | omega | exact ha.out.1
  · first | omega | exact ha.out.2
set_option maxRecDepth 20000 in
set_option maxHeartbeats 1000000 in
theorem cut_86 (op o n : Int) (nm : ByteArray) (v : Int) (h1 : 0 ≤ v) (h2 : v < 4294967296) (w : World) : Calls Try.prog 42 #[.agg (rwC op 86 o n nm), .int .u32 v] w fun e w' => (∃ p S T D A m, e = .returned (.agg (insC p S T D A m)) ∧ 0 ≤ m ∧ m < 4294967296) ∧ Below w.heap.size w w' := by
  have ha := hidden (u32_and_range v 65535 h1 h2 (by omega) (by omega))
  go_enter Try.func42, Try.ntmps42
  go_wp2_with (first | (go_at_call 49; refine (fldW v _ _ h1 h2 _).mono ?_; rintro e w4 ⟨⟨x, rfl, hx0, hx1⟩, rfl⟩; have hx2 := u32i64 x hx0 hx1) | (go_at_call 50; refine (sextW v _ h1 h2 _).mono ?_; rintro e w4 ⟨⟨x, rfl, hx0, hx1⟩, rfl⟩))
  refine bodyPost_ret (results_cell_row rfl _ _ (w.heap.size + 1) 24 (insC _ _ _ _ _ _) (0, 0) _ rfl (cut_end w _ _ _ _ _ _ _).1 Try.underlying24 rfl size24) rfl ⟨⟨_, _, _, _, _, _, rfl, ?_, ?_⟩, (cut_end w _ _ _ _ _ _ _).2⟩
  · first | omega | exact ha.out.1
  · first | omega | exact ha.out.2
set_option maxRecDepth 20000 in
set_option maxHeartbeats 1000000 in
theorem cut_66 (op o n : Int) (nm : ByteArray) (v : Int) (h1 : 0 ≤ v) (h2 : v < 4294967296) (w : World) : Calls Try.prog 42 #[.agg (rwC op 66 o n nm), .int .u32 v] w fun e w' => (∃ p S T D A m, e = .returned (.agg (insC p S T D A m)) ∧ 0 ≤ m ∧ m < 4294967296) ∧ Below w.heap.size w w' := by
  have ha := hidden (u32_and_range v 65535 h1 h2 (by omega) (by omega))
  go_enter Try.func42, Try.ntmps42
  go_wp2_with (first | (go_at_call 49; refine (fldW v _ _ h1 h2 _).mono ?_; rintro e w4 ⟨⟨x, rfl, hx0, hx1⟩, rfl⟩; have hx2 := u32i64 x hx0 hx1) | (go_at_call 50; refine (sextW v _ h1 h2 _).mono ?_; rintro e w4 ⟨⟨x, rfl, hx0, hx1⟩, rfl⟩))
  refine bodyPost_ret (results_cell_row rfl _ _ (w.heap.size + 1) 24 (insC _ _ _ _ _ _) (0, 0) _ rfl (cut_end w _ _ _ _ _ _ _).1 Try.underlying24 rfl size24) rfl ⟨⟨_, _, _, _, _, _, rfl, ?_, ?_⟩, (cut_end w _ _ _ _ _ _ _).2⟩
  · first | omega | exact ha.out.1
  · first | omega | exact ha.out.2
set_option maxRecDepth 20000 in
set_option maxHeartbeats 1000000 in
theorem cut_90 (op o n : Int) (nm : ByteArray) (v : Int) (h1 : 0 ≤ v) (h2 : v < 4294967296) (w : World) : Calls Try.prog 42 #[.agg (rwC op 90 o n nm), .int .u32 v] w fun e w' => (∃ p S T D A m, e = .returned (.agg (insC p S T D A m)) ∧ 0 ≤ m ∧ m < 4294967296) ∧ Below w.heap.size w w' := by
  have ha := hidden (u32_and_range v 65535 h1 h2 (by omega) (by omega))
  go_enter Try.func42, Try.ntmps42
  go_wp2_with (first | (go_at_call 49; refine (fldW v _ _ h1 h2 _).mono ?_; rintro e w4 ⟨⟨x, rfl, hx0, hx1⟩, rfl⟩; have hx2 := u32i64 x hx0 hx1) | (go_at_call 50; refine (sextW v _ h1 h2 _).mono ?_; rintro e w4 ⟨⟨x, rfl, hx0, hx1⟩, rfl⟩))
  refine bodyPost_ret (results_cell_row rfl _ _ (w.heap.size + 1) 24 (insC _ _ _ _ _ _) (0, 0) _ rfl (cut_end w _ _ _ _ _ _ _).1 Try.underlying24 rfl size24) rfl ⟨⟨_, _, _, _, _, _, rfl, ?_, ?_⟩, (cut_end w _ _ _ _ _ _ _).2⟩
  · first | omega | exact ha.out.1
  · first | omega | exact ha.out.2
set_option maxRecDepth 20000 in
set_option maxHeartbeats 1000000 in
theorem cut_82 (op o n : Int) (nm : ByteArray) (v : Int) (h1 : 0 ≤ v) (h2 : v < 4294967296) (w : World) : Calls Try.prog 42 #[.agg (rwC op 82 o n nm), .int .u32 v] w fun e w' => (∃ p S T D A m, e = .returned (.agg (insC p S T D A m)) ∧ 0 ≤ m ∧ m < 4294967296) ∧ Below w.heap.size w w' := by
  have ha := hidden (u32_and_range v 65535 h1 h2 (by omega) (by omega))
  go_enter Try.func42, Try.ntmps42
  go_wp2_with (first | (go_at_call 49; refine (fldW v _ _ h1 h2 _).mono ?_; rintro e w4 ⟨⟨x, rfl, hx0, hx1⟩, rfl⟩; have hx2 := u32i64 x hx0 hx1) | (go_at_call 50; refine (sextW v _ h1 h2 _).mono ?_; rintro e w4 ⟨⟨x, rfl, hx0, hx1⟩, rfl⟩))
  refine bodyPost_ret (results_cell_row rfl _ _ (w.heap.size + 1) 24 (insC _ _ _ _ _ _) (0, 0) _ rfl (cut_end w _ _ _ _ _ _ _).1 Try.underlying24 rfl size24) rfl ⟨⟨_, _, _, _, _, _, rfl, ?_, ?_⟩, (cut_end w _ _ _ _ _ _ _).2⟩
  · first | omega | exact ha.out.1
  · first | omega | exact ha.out.2
set_option maxRecDepth 20000 in
set_option maxHeartbeats 1000000 in
theorem cut_74 (op o n : Int) (nm : ByteArray) (v : Int) (h1 : 0 ≤ v) (h2 : v < 4294967296) (w : World) : Calls Try.prog 42 #[.agg (rwC op 74 o n nm), .int .u32 v] w fun e w' => (∃ p S T D A m, e = .returned (.agg (insC p S T D A m)) ∧ 0 ≤ m ∧ m < 4294967296) ∧ Below w.heap.size w w' := by
  have ha := hidden (u32_and_range v 65535 h1 h2 (by omega) (by omega))
  go_enter Try.func42, Try.ntmps42
  go_wp2_with (first | (go_at_call 49; refine (fldW v _ _ h1 h2 _).mono ?_; rintro e w4 ⟨⟨x, rfl, hx0, hx1⟩, rfl⟩; have hx2 := u32i64 x hx0 hx1) | (go_at_call 50; refine (sextW v _ h1 h2 _).mono ?_; rintro e w4 ⟨⟨x, rfl, hx0, hx1⟩, rfl⟩))
  refine bodyPost_ret (results_cell_row rfl _ _ (w.heap.size + 1) 24 (insC _ _ _ _ _ _) (0, 0) _ rfl (cut_end w _ _ _ _ _ _ _).1 Try.underlying24 rfl size24) rfl ⟨⟨_, _, _, _, _, _, rfl, ?_, ?_⟩, (cut_end w _ _ _ _ _ _ _).2⟩
  · first | omega | exact ha.out.1
  · first | omega | exact ha.out.2
end Go.Proofs.Ytlheilpaafjeiaa
