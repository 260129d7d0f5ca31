/- What a row makes of a word, exactly. -/
import Derived.Test.YtobnocioefchlaaPMAS
import Derived.Test.YtobnocioefchlaaPMAT
namespace Go.Proofs.Ytobnocioefchlaa
open Go.ChangeShapes Go.WideShapes Go.ChangeAt Go.RowKit
set_option linter.unusedVariables false
def insT (op : Int) (t : Tk) : Array Value := insC op (t.s : Int) (t.t : Int) (t.d : Int) (t.a : Int) (t.imm : Int)
theorem ret_ins {op S T D A m : Int} {t : Tk} (h1 : S = (t.s : Int)) (h2 : T = (t.t : Int)) (h3 : D = (t.d : Int)) (h4 : A = (t.a : Int)) (h5 : m = (t.imm : Int)) : Ending.returned (.agg (insC op S T D A m)) = .returned (.agg (insT op t)) := by
  rw [h1, h2, h3, h4, h5]
  rfl
theorem and_half (v : Nat) (hv : v < 4294967296) : bits .and .u32 (v : Int) 65535 = ((v % 65536 : Nat) : Int) := by
  have h := u32_and_nat v 65535 hv (by omega)
  rw [show (65535 : Nat) = 2 ^ 16 - 1 from rfl, Nat.and_two_pow_sub_one_eq_mod] at h
  exact h
set_option maxRecDepth 20000 in
set_option maxHeartbeats 1000000 in
theorem cutx_68 (op : Int) (o n : Nat) (nm : ByteArray) (v : Nat) (hv : v < 4294967296) (w : World) : Calls Try.prog 86 #[.agg (rwC op 68 (o : Int) (n : Int) nm), .int .u32 (v : Int)] w fun e w' => e = .returned (.agg (insT op (tkR 68 v))) ∧ Below w.heap.size w w' := by
  obtain ⟨g1, g2, g3, g4, g5⟩ := w64s v hv
  have ha := and_half v hv
  have hs := hidden (sxw_lt v)
  go_enter Try.func86, Try.ntmps86
  go_wp2_with (first | (go_at_call 99; (first | (with_reducible refine (fldS v hv _).mono ?_) | (with_reducible refine (fldT v hv _).mono ?_) | (with_reducible refine (fldD v hv _).mono ?_) | (with_reducible refine (fldA v hv _).mono ?_) | (with_reducible refine (fldF v hv _).mono ?_) | (with_reducible refine (fldI v hv _).mono ?_) | (with_reducible refine (fldC v hv _).mono ?_) | (with_reducible refine (fldJ v hv _).mono ?_)); rintro e w4 ⟨rfl, rfl⟩) | (go_at_call 100; refine (sextX v hv _).mono ?_; rintro e w4 ⟨rfl, rfl⟩))
  refine bodyPost_ret (results_cell_row rfl _ _ (w.heap.size + 1) 62 (insC _ _ _ _ _ _) (0, 0) _ rfl (cut_end w _ _ _ _ _ _ _).1 Try.underlying62 rfl size24) rfl ⟨ret_ins ?_ ?_ ?_ ?_ ?_, (cut_end w _ _ _ _ _ _ _).2⟩
  all_goals (first | rfl | (have e : (tkR 68 v).imm = 0 := rfl; rw [e]; have hs2 := hs.out; omega))
set_option maxRecDepth 20000 in
set_option maxHeartbeats 1000000 in
theorem cutx_73 (op : Int) (o n : Nat) (nm : ByteArray) (v : Nat) (hv : v < 4294967296) (w : World) : Calls Try.prog 86 #[.agg (rwC op 73 (o : Int) (n : Int) nm), .int .u32 (v : Int)] w fun e w' => e = .returned (.agg (insT op (tkR 73 v))) ∧ Below w.heap.size w w' := by
  obtain ⟨g1, g2, g3, g4, g5⟩ := w64s v hv
  have ha := and_half v hv
  have hs := hidden (sxw_lt v)
  go_enter Try.func86, Try.ntmps86
  go_wp2_with (first | (go_at_call 99; (first | (with_reducible refine (fldS v hv _).mono ?_) | (with_reducible refine (fldT v hv _).mono ?_) | (with_reducible refine (fldD v hv _).mono ?_) | (with_reducible refine (fldA v hv _).mono ?_) | (with_reducible refine (fldF v hv _).mono ?_) | (with_reducible refine (fldI v hv _).mono ?_) | (with_reducible refine (fldC v hv _).mono ?_) | (with_reducible refine (fldJ v hv _).mono ?_)); rintro e w4 ⟨rfl, rfl⟩) | (go_at_call 100; refine (sextX v hv _).mono ?_; rintro e w4 ⟨rfl, rfl⟩))
  refine bodyPost_ret (results_cell_row rfl _ _ (w.heap.size + 1) 62 (insC _ _ _ _ _ _) (0, 0) _ rfl (cut_end w _ _ _ _ _ _ _).1 Try.underlying62 rfl size24) rfl ⟨ret_ins ?_ ?_ ?_ ?_ ?_, (cut_end w _ _ _ _ _ _ _).2⟩
  all_goals (first | rfl | (have e : (tkR 73 v).imm = sxw v := rfl; rw [e]; have hs2 := hs.out; omega))
set_option maxRecDepth 20000 in
set_option maxHeartbeats 1000000 in
theorem cutx_85 (op : Int) (o n : Nat) (nm : ByteArray) (v : Nat) (hv : v < 4294967296) (w : World) : Calls Try.prog 86 #[.agg (rwC op 85 (o : Int) (n : Int) nm), .int .u32 (v : Int)] w fun e w' => e = .returned (.agg (insT op (tkR 85 v))) ∧ Below w.heap.size w w' := by
  obtain ⟨g1, g2, g3, g4, g5⟩ := w64s v hv
  have ha := and_half v hv
  have hs := hidden (sxw_lt v)
  go_enter Try.func86, Try.ntmps86
  go_wp2_with (first | (go_at_call 99; (first | (with_reducible refine (fldS v hv _).mono ?_) | (with_reducible refine (fldT v hv _).mono ?_) | (with_reducible refine (fldD v hv _).mono ?_) | (with_reducible refine (fldA v hv _).mono ?_) | (with_reducible refine (fldF v hv _).mono ?_) | (with_reducible refine (fldI v hv _).mono ?_) | (with_reducible refine (fldC v hv _).mono ?_) | (with_reducible refine (fldJ v hv _).mono ?_)); rintro e w4 ⟨rfl, rfl⟩) | (go_at_call 100; refine (sextX v hv _).mono ?_; rintro e w4 ⟨rfl, rfl⟩))
  refine bodyPost_ret (results_cell_row rfl _ _ (w.heap.size + 1) 62 (insC _ _ _ _ _ _) (0, 0) _ rfl (cut_end w _ _ _ _ _ _ _).1 Try.underlying62 rfl size24) rfl ⟨ret_ins ?_ ?_ ?_ ?_ ?_, (cut_end w _ _ _ _ _ _ _).2⟩
  all_goals (first | rfl | (have e : (tkR 85 v).imm = v % 65536 := rfl; rw [e]; have hs2 := hs.out; omega))
set_option maxRecDepth 20000 in
set_option maxHeartbeats 1000000 in
theorem cutx_66 (op : Int) (o n : Nat) (nm : ByteArray) (v : Nat) (hv : v < 4294967296) (w : World) : Calls Try.prog 86 #[.agg (rwC op 66 (o : Int) (n : Int) nm), .int .u32 (v : Int)] w fun e w' => e = .returned (.agg (insT op (tkR 66 v))) ∧ Below w.heap.size w w' := by
  obtain ⟨g1, g2, g3, g4, g5⟩ := w64s v hv
  have ha := and_half v hv
  have hs := hidden (sxw_lt v)
  go_enter Try.func86, Try.ntmps86
  go_wp2_with (first | (go_at_call 99; (first | (with_reducible refine (fldS v hv _).mono ?_) | (with_reducible refine (fldT v hv _).mono ?_) | (with_reducible refine (fldD v hv _).mono ?_) | (with_reducible refine (fldA v hv _).mono ?_) | (with_reducible refine (fldF v hv _).mono ?_) | (with_reducible refine (fldI v hv _).mono ?_) | (with_reducible refine (fldC v hv _).mono ?_) | (with_reducible refine (fldJ v hv _).mono ?_)); rintro e w4 ⟨rfl, rfl⟩) | (go_at_call 100; refine (sextX v hv _).mono ?_; rintro e w4 ⟨rfl, rfl⟩))
  refine bodyPost_ret (results_cell_row rfl _ _ (w.heap.size + 1) 62 (insC _ _ _ _ _ _) (0, 0) _ rfl (cut_end w _ _ _ _ _ _ _).1 Try.underlying62 rfl size24) rfl ⟨ret_ins ?_ ?_ ?_ ?_ ?_, (cut_end w _ _ _ _ _ _ _).2⟩
  all_goals (first | rfl | (have e : (tkR 66 v).imm = sxw v * 4 % 4294967296 := rfl; rw [e]; have hs2 := hs.out; omega))
set_option maxRecDepth 20000 in
set_option maxHeartbeats 1000000 in
theorem cutx_74 (op : Int) (o n : Nat) (nm : ByteArray) (v : Nat) (hv : v < 4294967296) (w : World) : Calls Try.prog 86 #[.agg (rwC op 74 (o : Int) (n : Int) nm), .int .u32 (v : Int)] w fun e w' => e = .returned (.agg (insT op (tkR 74 v))) ∧ Below w.heap.size w w' := by
  obtain ⟨g1, g2, g3, g4, g5⟩ := w64s v hv
  have ha := and_half v hv
  have hs := hidden (sxw_lt v)
  go_enter Try.func86, Try.ntmps86
  go_wp2_with (first | (go_at_call 99; (first | (with_reducible refine (fldS v hv _).mono ?_) | (with_reducible refine (fldT v hv _).mono ?_) | (with_reducible refine (fldD v hv _).mono ?_) | (with_reducible refine (fldA v hv _).mono ?_) | (with_reducible refine (fldF v hv _).mono ?_) | (with_reducible refine (fldI v hv _).mono ?_) | (with_reducible refine (fldC v hv _).mono ?_) | (with_reducible refine (fldJ v hv _).mono ?_)); rintro e w4 ⟨rfl, rfl⟩) | (go_at_call 100; refine (sextX v hv _).mono ?_; rintro e w4 ⟨rfl, rfl⟩))
  refine bodyPost_ret (results_cell_row rfl _ _ (w.heap.size + 1) 62 (insC _ _ _ _ _ _) (0, 0) _ rfl (cut_end w _ _ _ _ _ _ _).1 Try.underlying62 rfl size24) rfl ⟨ret_ins ?_ ?_ ?_ ?_ ?_, (cut_end w _ _ _ _ _ _ _).2⟩
  all_goals (first | rfl | (have e : (tkR 74 v).imm = v % 67108864 * 4 := rfl; rw [e]; have hs2 := hs.out; omega))
end Go.Proofs.Ytobnocioefchlaa
namespace Go.Proofs.Ytobnocioefchlaa
open Go.ChangeShapes Go.WideShapes Go.ChangeAt Go.RowKit
set_option linter.unusedVariables false
set_option maxRecDepth 20000 in
set_option maxHeartbeats 1000000 in
theorem cutx_88 (op : Int) (o n : Nat) (nm : ByteArray) (v : Nat) (hv : v < 4294967296) (w : World) : Calls Try.prog 86 #[.agg (rwC op 88 (o : Int) (n : Int) nm), .int .u32 (v : Int)] w fun e w' => e = .returned (.agg (insT op (tkR 88 v))) ∧ Below w.heap.size w w' := by
  obtain ⟨g1, g2, g3, g4, g5⟩ := w64s v hv
  have ha := and_half v hv
  have hs := hidden (sxw_lt v)
  go_enter Try.func86, Try.ntmps86
  go_wp2_with (first | (go_at_call 99; (first | (with_reducible refine (fldS v hv _).mono ?_) | (with_reducible refine (fldT v hv _).mono ?_) | (with_reducible refine (fldD v hv _).mono ?_) | (with_reducible refine (fldA v hv _).mono ?_) | (with_reducible refine (fldF v hv _).mono ?_) | (with_reducible refine (fldI v hv _).mono ?_) | (with_reducible refine (fldC v hv _).mono ?_) | (with_reducible refine (fldJ v hv _).mono ?_)); rintro e w4 ⟨rfl, rfl⟩) | (go_at_call 100; refine (sextX v hv _).mono ?_; rintro e w4 ⟨rfl, rfl⟩))
  refine bodyPost_ret (results_cell_row rfl _ _ (w.heap.size + 1) 62 (insC _ _ _ _ _ _) (0, 0) _ rfl (cut_end w _ _ _ _ _ _ _).1 Try.underlying62 rfl size24) rfl ⟨ret_ins ?_ ?_ ?_ ?_ ?_, (cut_end w _ _ _ _ _ _ _).2⟩
  all_goals (first | rfl | (have e : (tkR 88 v).imm = 0 := rfl; rw [e]; have hs2 := hs.out; omega))
set_option maxRecDepth 20000 in
set_option maxHeartbeats 1000000 in
theorem cutx_89 (op : Int) (o n : Nat) (nm : ByteArray) (v : Nat) (hv : v < 4294967296) (w : World) : Calls Try.prog 86 #[.agg (rwC op 89 (o : Int) (n : Int) nm), .int .u32 (v : Int)] w fun e w' => e = .returned (.agg (insT op (tkR 89 v))) ∧ Below w.heap.size w w' := by
  obtain ⟨g1, g2, g3, g4, g5⟩ := w64s v hv
  have ha := and_half v hv
  have hs := hidden (sxw_lt v)
  go_enter Try.func86, Try.ntmps86
  go_wp2_with (first | (go_at_call 99; (first | (with_reducible refine (fldS v hv _).mono ?_) | (with_reducible refine (fldT v hv _).mono ?_) | (with_reducible refine (fldD v hv _).mono ?_) | (with_reducible refine (fldA v hv _).mono ?_) | (with_reducible refine (fldF v hv _).mono ?_) | (with_reducible refine (fldI v hv _).mono ?_) | (with_reducible refine (fldC v hv _).mono ?_) | (with_reducible refine (fldJ v hv _).mono ?_)); rintro e w4 ⟨rfl, rfl⟩) | (go_at_call 100; refine (sextX v hv _).mono ?_; rintro e w4 ⟨rfl, rfl⟩))
  refine bodyPost_ret (results_cell_row rfl _ _ (w.heap.size + 1) 62 (insC _ _ _ _ _ _) (0, 0) _ rfl (cut_end w _ _ _ _ _ _ _).1 Try.underlying62 rfl size24) rfl ⟨ret_ins ?_ ?_ ?_ ?_ ?_, (cut_end w _ _ _ _ _ _ _).2⟩
  all_goals (first | rfl | (have e : (tkR 89 v).imm = 0 := rfl; rw [e]; have hs2 := hs.out; omega))
set_option maxRecDepth 20000 in
set_option maxHeartbeats 1000000 in
theorem cutx_72 (op : Int) (o n : Nat) (nm : ByteArray) (v : Nat) (hv : v < 4294967296) (w : World) : Calls Try.prog 86 #[.agg (rwC op 72 (o : Int) (n : Int) nm), .int .u32 (v : Int)] w fun e w' => e = .returned (.agg (insT op (tkR 72 v))) ∧ Below w.heap.size w w' := by
  obtain ⟨g1, g2, g3, g4, g5⟩ := w64s v hv
  have ha := and_half v hv
  have hs := hidden (sxw_lt v)
  go_enter Try.func86, Try.ntmps86
  go_wp2_with (first | (go_at_call 99; (first | (with_reducible refine (fldS v hv _).mono ?_) | (with_reducible refine (fldT v hv _).mono ?_) | (with_reducible refine (fldD v hv _).mono ?_) | (with_reducible refine (fldA v hv _).mono ?_) | (with_reducible refine (fldF v hv _).mono ?_) | (with_reducible refine (fldI v hv _).mono ?_) | (with_reducible refine (fldC v hv _).mono ?_) | (with_reducible refine (fldJ v hv _).mono ?_)); rintro e w4 ⟨rfl, rfl⟩) | (go_at_call 100; refine (sextX v hv _).mono ?_; rintro e w4 ⟨rfl, rfl⟩))
  refine bodyPost_ret (results_cell_row rfl _ _ (w.heap.size + 1) 62 (insC _ _ _ _ _ _) (0, 0) _ rfl (cut_end w _ _ _ _ _ _ _).1 Try.underlying62 rfl size24) rfl ⟨ret_ins ?_ ?_ ?_ ?_ ?_, (cut_end w _ _ _ _ _ _ _).2⟩
  all_goals (first | rfl | (have e : (tkR 72 v).imm = 0 := rfl; rw [e]; have hs2 := hs.out; omega))
set_option maxRecDepth 20000 in
set_option maxHeartbeats 1000000 in
theorem cutx_77 (op : Int) (o n : Nat) (nm : ByteArray) (v : Nat) (hv : v < 4294967296) (w : World) : Calls Try.prog 86 #[.agg (rwC op 77 (o : Int) (n : Int) nm), .int .u32 (v : Int)] w fun e w' => e = .returned (.agg (insT op (tkR 77 v))) ∧ Below w.heap.size w w' := by
  obtain ⟨g1, g2, g3, g4, g5⟩ := w64s v hv
  have ha := and_half v hv
  have hs := hidden (sxw_lt v)
  go_enter Try.func86, Try.ntmps86
  go_wp2_with (first | (go_at_call 99; (first | (with_reducible refine (fldS v hv _).mono ?_) | (with_reducible refine (fldT v hv _).mono ?_) | (with_reducible refine (fldD v hv _).mono ?_) | (with_reducible refine (fldA v hv _).mono ?_) | (with_reducible refine (fldF v hv _).mono ?_) | (with_reducible refine (fldI v hv _).mono ?_) | (with_reducible refine (fldC v hv _).mono ?_) | (with_reducible refine (fldJ v hv _).mono ?_)); rintro e w4 ⟨rfl, rfl⟩) | (go_at_call 100; refine (sextX v hv _).mono ?_; rintro e w4 ⟨rfl, rfl⟩))
  refine bodyPost_ret (results_cell_row rfl _ _ (w.heap.size + 1) 62 (insC _ _ _ _ _ _) (0, 0) _ rfl (cut_end w _ _ _ _ _ _ _).1 Try.underlying62 rfl size24) rfl ⟨ret_ins ?_ ?_ ?_ ?_ ?_, (cut_end w _ _ _ _ _ _ _).2⟩
  all_goals (first | rfl | (have e : (tkR 77 v).imm = 0 := rfl; rw [e]; have hs2 := hs.out; omega))
set_option maxRecDepth 20000 in
set_option maxHeartbeats 1000000 in
theorem cutx_70 (op : Int) (o n : Nat) (nm : ByteArray) (v : Nat) (hv : v < 4294967296) (w : World) : Calls Try.prog 86 #[.agg (rwC op 70 (o : Int) (n : Int) nm), .int .u32 (v : Int)] w fun e w' => e = .returned (.agg (insT op (tkR 70 v))) ∧ Below w.heap.size w w' := by
  obtain ⟨g1, g2, g3, g4, g5⟩ := w64s v hv
  have ha := and_half v hv
  have hs := hidden (sxw_lt v)
  go_enter Try.func86, Try.ntmps86
  go_wp2_with (first | (go_at_call 99; (first | (with_reducible refine (fldS v hv _).mono ?_) | (with_reducible refine (fldT v hv _).mono ?_) | (with_reducible refine (fldD v hv _).mono ?_) | (with_reducible refine (fldA v hv _).mono ?_) | (with_reducible refine (fldF v hv _).mono ?_) | (with_reducible refine (fldI v hv _).mono ?_) | (with_reducible refine (fldC v hv _).mono ?_) | (with_reducible refine (fldJ v hv _).mono ?_)); rintro e w4 ⟨rfl, rfl⟩) | (go_at_call 100; refine (sextX v hv _).mono ?_; rintro e w4 ⟨rfl, rfl⟩))
  refine bodyPost_ret (results_cell_row rfl _ _ (w.heap.size + 1) 62 (insC _ _ _ _ _ _) (0, 0) _ rfl (cut_end w _ _ _ _ _ _ _).1 Try.underlying62 rfl size24) rfl ⟨ret_ins ?_ ?_ ?_ ?_ ?_, (cut_end w _ _ _ _ _ _ _).2⟩
  all_goals (first | rfl | (have e : (tkR 70 v).imm = 0 := rfl; rw [e]; have hs2 := hs.out; omega))
end Go.Proofs.Ytobnocioefchlaa
namespace Go.Proofs.Ytobnocioefchlaa
open Go.ChangeShapes Go.WideShapes Go.ChangeAt Go.RowKit
set_option linter.unusedVariables false
set_option maxRecDepth 20000 in
set_option maxHeartbeats 1000000 in
theorem cutx_76 (op : Int) (o n : Nat) (nm : ByteArray) (v : Nat) (hv : v < 4294967296) (w : World) : Calls Try.prog 86 #[.agg (rwC op 76 (o : Int) (n : Int) nm), .int .u32 (v : Int)] w fun e w' => e = .returned (.agg (insT op (tkR 76 v))) ∧ Below w.heap.size w w' := by
  obtain ⟨g1, g2, g3, g4, g5⟩ := w64s v hv
  have ha := and_half v hv
  have hs := hidden (sxw_lt v)
  go_enter Try.func86, Try.ntmps86
  go_wp2_with (first | (go_at_call 99; (first | (with_reducible refine (fldS v hv _).mono ?_) | (with_reducible refine (fldT v hv _).mono ?_) | (with_reducible refine (fldD v hv _).mono ?_) | (with_reducible refine (fldA v hv _).mono ?_) | (with_reducible refine (fldF v hv _).mono ?_) | (with_reducible refine (fldI v hv _).mono ?_) | (with_reducible refine (fldC v hv _).mono ?_) | (with_reducible refine (fldJ v hv _).mono ?_)); rintro e w4 ⟨rfl, rfl⟩) | (go_at_call 100; refine (sextX v hv _).mono ?_; rintro e w4 ⟨rfl, rfl⟩))
  refine bodyPost_ret (results_cell_row rfl _ _ (w.heap.size + 1) 62 (insC _ _ _ _ _ _) (0, 0) _ rfl (cut_end w _ _ _ _ _ _ _).1 Try.underlying62 rfl size24) rfl ⟨ret_ins ?_ ?_ ?_ ?_ ?_, (cut_end w _ _ _ _ _ _ _).2⟩
  all_goals (first | rfl | (have e : (tkR 76 v).imm = 0 := rfl; rw [e]; have hs2 := hs.out; omega))
set_option maxRecDepth 20000 in
set_option maxHeartbeats 1000000 in
theorem cutx_71 (op : Int) (o n : Nat) (nm : ByteArray) (v : Nat) (hv : v < 4294967296) (w : World) : Calls Try.prog 86 #[.agg (rwC op 71 (o : Int) (n : Int) nm), .int .u32 (v : Int)] w fun e w' => e = .returned (.agg (insT op (tkR 71 v))) ∧ Below w.heap.size w w' := by
  obtain ⟨g1, g2, g3, g4, g5⟩ := w64s v hv
  have ha := and_half v hv
  have hs := hidden (sxw_lt v)
  go_enter Try.func86, Try.ntmps86
  go_wp2_with (first | (go_at_call 99; (first | (with_reducible refine (fldS v hv _).mono ?_) | (with_reducible refine (fldT v hv _).mono ?_) | (with_reducible refine (fldD v hv _).mono ?_) | (with_reducible refine (fldA v hv _).mono ?_) | (with_reducible refine (fldF v hv _).mono ?_) | (with_reducible refine (fldI v hv _).mono ?_) | (with_reducible refine (fldC v hv _).mono ?_) | (with_reducible refine (fldJ v hv _).mono ?_)); rintro e w4 ⟨rfl, rfl⟩) | (go_at_call 100; refine (sextX v hv _).mono ?_; rintro e w4 ⟨rfl, rfl⟩))
  refine bodyPost_ret (results_cell_row rfl _ _ (w.heap.size + 1) 62 (insC _ _ _ _ _ _) (0, 0) _ rfl (cut_end w _ _ _ _ _ _ _).1 Try.underlying62 rfl size24) rfl ⟨ret_ins ?_ ?_ ?_ ?_ ?_, (cut_end w _ _ _ _ _ _ _).2⟩
  all_goals (first | rfl | (have e : (tkR 71 v).imm = 0 := rfl; rw [e]; have hs2 := hs.out; omega))
set_option maxRecDepth 20000 in
set_option maxHeartbeats 1000000 in
theorem cutx_84 (op : Int) (o n : Nat) (nm : ByteArray) (v : Nat) (hv : v < 4294967296) (w : World) : Calls Try.prog 86 #[.agg (rwC op 84 (o : Int) (n : Int) nm), .int .u32 (v : Int)] w fun e w' => e = .returned (.agg (insT op (tkR 84 v))) ∧ Below w.heap.size w w' := by
  obtain ⟨g1, g2, g3, g4, g5⟩ := w64s v hv
  have ha := and_half v hv
  have hs := hidden (sxw_lt v)
  go_enter Try.func86, Try.ntmps86
  go_wp2_with (first | (go_at_call 99; (first | (with_reducible refine (fldS v hv _).mono ?_) | (with_reducible refine (fldT v hv _).mono ?_) | (with_reducible refine (fldD v hv _).mono ?_) | (with_reducible refine (fldA v hv _).mono ?_) | (with_reducible refine (fldF v hv _).mono ?_) | (with_reducible refine (fldI v hv _).mono ?_) | (with_reducible refine (fldC v hv _).mono ?_) | (with_reducible refine (fldJ v hv _).mono ?_)); rintro e w4 ⟨rfl, rfl⟩) | (go_at_call 100; refine (sextX v hv _).mono ?_; rintro e w4 ⟨rfl, rfl⟩))
  refine bodyPost_ret (results_cell_row rfl _ _ (w.heap.size + 1) 62 (insC _ _ _ _ _ _) (0, 0) _ rfl (cut_end w _ _ _ _ _ _ _).1 Try.underlying62 rfl size24) rfl ⟨ret_ins ?_ ?_ ?_ ?_ ?_, (cut_end w _ _ _ _ _ _ _).2⟩
  all_goals (first | rfl | (have e : (tkR 84 v).imm = v / 64 % 1024 := rfl; rw [e]; have hs2 := hs.out; omega))
set_option maxRecDepth 20000 in
set_option maxHeartbeats 1000000 in
theorem cutx_67 (op : Int) (o n : Nat) (nm : ByteArray) (v : Nat) (hv : v < 4294967296) (w : World) : Calls Try.prog 86 #[.agg (rwC op 67 (o : Int) (n : Int) nm), .int .u32 (v : Int)] w fun e w' => e = .returned (.agg (insT op (tkR 67 v))) ∧ Below w.heap.size w w' := by
  obtain ⟨g1, g2, g3, g4, g5⟩ := w64s v hv
  have ha := and_half v hv
  have hs := hidden (sxw_lt v)
  go_enter Try.func86, Try.ntmps86
  go_wp2_with (first | (go_at_call 99; (first | (with_reducible refine (fldS v hv _).mono ?_) | (with_reducible refine (fldT v hv _).mono ?_) | (with_reducible refine (fldD v hv _).mono ?_) | (with_reducible refine (fldA v hv _).mono ?_) | (with_reducible refine (fldF v hv _).mono ?_) | (with_reducible refine (fldI v hv _).mono ?_) | (with_reducible refine (fldC v hv _).mono ?_) | (with_reducible refine (fldJ v hv _).mono ?_)); rintro e w4 ⟨rfl, rfl⟩) | (go_at_call 100; refine (sextX v hv _).mono ?_; rintro e w4 ⟨rfl, rfl⟩))
  refine bodyPost_ret (results_cell_row rfl _ _ (w.heap.size + 1) 62 (insC _ _ _ _ _ _) (0, 0) _ rfl (cut_end w _ _ _ _ _ _ _).1 Try.underlying62 rfl size24) rfl ⟨ret_ins ?_ ?_ ?_ ?_ ?_, (cut_end w _ _ _ _ _ _ _).2⟩
  all_goals (first | rfl | (have e : (tkR 67 v).imm = v / 64 % 1048576 := rfl; rw [e]; have hs2 := hs.out; omega))
end Go.Proofs.Ytobnocioefchlaa
