/- What a row makes of a word: some instruction. -/
import Derived.Test.YtlheilpaafjeiaaPRowW
namespace Go.Proofs.Ytlheilpaafjeiaa
open Go.ChangeShapes Go.WideShapes Go.ChangeAt Go.RowKit
set_option linter.unusedVariables false
theorem size24 : (Try.prog.info? 24).map (·.size) = some 6 := by kernel_rfl
theorem cut_end (w : World) (B : Array Value) (op S T D A m : Int) : Blk (((w.alloc (.cells B 48)).alloc (.cells (insC op S T D A m) 24)).alloc (.cells (insC op S T D A m) 24)) (w.heap.size + 1) (insC op S T D A m) 24 ∧ Below w.heap.size w (((w.alloc (.cells B 48)).alloc (.cells (insC op S T D A m) 24)).alloc (.cells (insC op S T D A m) 24)) := by
  have h := Blk.new (w.alloc (.cells B 48)) (insC op S T D A m) 24
  have e : (w.alloc (.cells B 48)).heap.size = w.heap.size + 1 := by simp
  rw [e] at h
  exact ⟨h.later (below_new _ _), bthen (bthen (below_new w _) (below_new _ _)) (below_new _ _)⟩
set_option maxRecDepth 20000 in
set_option maxHeartbeats 1000000 in
theorem cut_68 (op o n : Int) (nm : ByteArray) (v : Int) (h1 : 0 ≤ v) (h2 : v < 4294967296) (w : World) : Calls Try.prog 42 #[.agg (rwC op 68 o n nm), .int .u32 v] w fun e w' => (∃ p S T D A m, e = .returned (.agg (insC p S T D A m)) ∧ 0 ≤ m ∧ m < 4294967296) ∧ Below w.heap.size w w' := by
  have ha := hidden (u32_and_range v 65535 h1 h2 (by omega) (by omega))
  go_enter Try.func42, Try.ntmps42
  go_wp2_with (first | (go_at_call 49; refine (fldW v _ _ h1 h2 _).mono ?_; rintro e w4 ⟨⟨x, rfl, hx0, hx1⟩, rfl⟩; have hx2 := u32i64 x hx0 hx1) | (go_at_call 50; refine (sextW v _ h1 h2 _).mono ?_; rintro e w4 ⟨⟨x, rfl, hx0, hx1⟩, rfl⟩))
  refine bodyPost_ret (results_cell_row rfl _ _ (w.heap.size + 1) 24 (insC _ _ _ _ _ _) (0, 0) _ rfl (cut_end w _ _ _ _ _ _ _).1 Try.underlying24 rfl size24) rfl ⟨⟨_, _, _, _, _, _, rfl, ?_, ?_⟩, (cut_end w _ _ _ _ _ _ _).2⟩
  · first | omega | exact ha.out.1
  · first | omega | exact ha.out.2
set_option maxRecDepth 20000 in
set_option maxHeartbeats 1000000 in
theorem cut_72 (op o n : Int) (nm : ByteArray) (v : Int) (h1 : 0 ≤ v) (h2 : v < 4294967296) (w : World) : Calls Try.prog 42 #[.agg (rwC op 72 o n nm), .int .u32 v] w fun e w' => (∃ p S T D A m, e = .returned (.agg (insC p S T D A m)) ∧ 0 ≤ m ∧ m < 4294967296) ∧ Below w.heap.size w w' := by
  have ha := hidden (u32_and_range v 65535 h1 h2 (by omega) (by omega))
  go_enter Try.func42, Try.ntmps42
  go_wp2_with (first | (go_at_call 49; refine (fldW v _ _ h1 h2 _).mono ?_; rintro e w4 ⟨⟨x, rfl, hx0, hx1⟩, rfl⟩; have hx2 := u32i64 x hx0 hx1) | (go_at_call 50; refine (sextW v _ h1 h2 _).mono ?_; rintro e w4 ⟨⟨x, rfl, hx0, hx1⟩, rfl⟩))
  refine bodyPost_ret (results_cell_row rfl _ _ (w.heap.size + 1) 24 (insC _ _ _ _ _ _) (0, 0) _ rfl (cut_end w _ _ _ _ _ _ _).1 Try.underlying24 rfl size24) rfl ⟨⟨_, _, _, _, _, _, rfl, ?_, ?_⟩, (cut_end w _ _ _ _ _ _ _).2⟩
  · first | omega | exact ha.out.1
  · first | omega | exact ha.out.2
set_option maxRecDepth 20000 in
set_option maxHeartbeats 1000000 in
theorem cut_none (op c o n : Int) (nm : ByteArray) (v : Int) (h1 : 0 ≤ v) (h2 : v < 4294967296) (k68 : (c == 68) = false) (k88 : (c == 88) = false) (k89 : (c == 89) = false) (k72 : (c == 72) = false) (k77 : (c == 77) = false) (k70 : (c == 70) = false) (k76 : (c == 76) = false) (k71 : (c == 71) = false) (k84 : (c == 84) = false) (k67 : (c == 67) = false) (k73 : (c == 73) = false) (k80 : (c == 80) = false) (k85 : (c == 85) = false) (k86 : (c == 86) = false) (k66 : (c == 66) = false) (k90 : (c == 90) = false) (k82 : (c == 82) = false) (k74 : (c == 74) = false) (w : World) : Calls Try.prog 42 #[.agg (rwC op c o n nm), .int .u32 v] w fun e w' => (∃ p S T D A m, e = .returned (.agg (insC p S T D A m)) ∧ 0 ≤ m ∧ m < 4294967296) ∧ Below w.heap.size w w' := by
  have ha := hidden (u32_and_range v 65535 h1 h2 (by omega) (by omega))
  go_enter Try.func42, Try.ntmps42
  go_wp2_with (first | (go_at_call 49; refine (fldW v _ _ h1 h2 _).mono ?_; rintro e w4 ⟨⟨x, rfl, hx0, hx1⟩, rfl⟩; have hx2 := u32i64 x hx0 hx1) | (go_at_call 50; refine (sextW v _ h1 h2 _).mono ?_; rintro e w4 ⟨⟨x, rfl, hx0, hx1⟩, rfl⟩))
  refine bodyPost_ret (results_cell_row rfl _ _ (w.heap.size + 1) 24 (insC _ _ _ _ _ _) (0, 0) _ rfl (cut_end w _ _ _ _ _ _ _).1 Try.underlying24 rfl size24) rfl ⟨⟨_, _, _, _, _, _, rfl, ?_, ?_⟩, (cut_end w _ _ _ _ _ _ _).2⟩
  · first | omega | exact ha.out.1
  · first | omega | exact ha.out.2
end Go.Proofs.Ytlheilpaafjeiaa
