/- Fields of a word, exactly. -/
import Derived.Test.YtobnocioefchlaaPMAR
namespace Go.Proofs.Ytobnocioefchlaa
open Go.ChangeShapes Go.WideShapes Go.ChangeAt Go.RowKit
set_option linter.unusedVariables false
theorem fldX (w a n d m : Nat) (hw : w < 4294967296) (hd : 2 ^ a = d) (hm : 2 ^ n = m) (ha : a ≤ 31) (hn : n + a ≤ 32) (u : World) : Calls Try.prog 99 #[.int .u32 (w : Int), .int .i64 (a : Int), .int .i64 (n : Int)] u fun e w' => e = .returned (.int .u32 ((w / d % m : Nat) : Int)) ∧ w' = u := by
  have h := refField_any (w : Int) (a : Int) (n : Int) (by omega) (by omega) u
  rw [field_nat w a n ha hn, hd, hm] at h
  exact h
theorem fldS (w : Nat) (hw : w < 4294967296) (u : World) : Calls Try.prog 99 #[.int .u32 (w : Int), .int .i64 21, .int .i64 5] u fun e w' => e = .returned (.int .u32 (fS w : Int)) ∧ w' = u := by
  have h := fldX w 21 5 2097152 32 hw (by decide) (by decide) (by decide) (by decide) u
  exact h
theorem fldT (w : Nat) (hw : w < 4294967296) (u : World) : Calls Try.prog 99 #[.int .u32 (w : Int), .int .i64 16, .int .i64 5] u fun e w' => e = .returned (.int .u32 (fT w : Int)) ∧ w' = u := by
  have h := fldX w 16 5 65536 32 hw (by decide) (by decide) (by decide) (by decide) u
  exact h
theorem fldD (w : Nat) (hw : w < 4294967296) (u : World) : Calls Try.prog 99 #[.int .u32 (w : Int), .int .i64 11, .int .i64 5] u fun e w' => e = .returned (.int .u32 (fD w : Int)) ∧ w' = u := by
  have h := fldX w 11 5 2048 32 hw (by decide) (by decide) (by decide) (by decide) u
  exact h
theorem fldA (w : Nat) (hw : w < 4294967296) (u : World) : Calls Try.prog 99 #[.int .u32 (w : Int), .int .i64 6, .int .i64 5] u fun e w' => e = .returned (.int .u32 (fA w : Int)) ∧ w' = u := by
  have h := fldX w 6 5 64 32 hw (by decide) (by decide) (by decide) (by decide) u
  exact h
theorem fldF (w : Nat) (hw : w < 4294967296) (u : World) : Calls Try.prog 99 #[.int .u32 (w : Int), .int .i64 0, .int .i64 6] u fun e w' => e = .returned (.int .u32 (fF w : Int)) ∧ w' = u := by
  have h := fldX w 0 6 1 64 hw (by decide) (by decide) (by decide) (by decide) u
  rw [Nat.div_one] at h
  exact h
theorem fldI (w : Nat) (hw : w < 4294967296) (u : World) : Calls Try.prog 99 #[.int .u32 (w : Int), .int .i64 6, .int .i64 10] u fun e w' => e = .returned (.int .u32 ((w / 64 % 1024 : Nat) : Int)) ∧ w' = u := fldX w 6 10 64 1024 hw (by decide) (by decide) (by decide) (by decide) u
theorem fldC (w : Nat) (hw : w < 4294967296) (u : World) : Calls Try.prog 99 #[.int .u32 (w : Int), .int .i64 6, .int .i64 20] u fun e w' => e = .returned (.int .u32 ((w / 64 % 1048576 : Nat) : Int)) ∧ w' = u := fldX w 6 20 64 1048576 hw (by decide) (by decide) (by decide) (by decide) u
theorem fldJ (w : Nat) (hw : w < 4294967296) (u : World) : Calls Try.prog 99 #[.int .u32 (w : Int), .int .i64 0, .int .i64 26] u fun e w' => e = .returned (.int .u32 ((w % 67108864 : Nat) : Int)) ∧ w' = u := by
  have h := fldX w 0 26 1 67108864 hw (by decide) (by decide) (by decide) (by decide) u
  rw [Nat.div_one] at h
  exact h
theorem sextX (w : Nat) (hw : w < 4294967296) (u : World) : Calls Try.prog 100 #[.int .u32 (w : Int), .int .i64 16] u fun e w' => e = .returned (.int .u32 (sxw w : Int)) ∧ w' = u := by
  have h := refSext_any (w : Int) 16 (by omega) (by omega) u
  have e : sext32 (w : Int) 16 = (sxw w : Int) := by
    rw [← sext_half w]
    unfold sext32
    rw [show clip 16 1 32 = 16 by decide]
    show sg ((w : Int) * 2 ^ 16 % 4294967296) / 2 ^ 16 % 4294967296 = sg (((w % 65536 : Nat) : Int) * 2 ^ 16 % 4294967296) / 2 ^ 16 % 4294967296
    rw [show (w : Int) * 2 ^ 16 % 4294967296 = ((w % 65536 : Nat) : Int) * 2 ^ 16 % 4294967296 by omega]
  rw [e] at h
  exact h
theorem w64 (x : Nat) (h : x < 4294967296) : wrap64 (x : Int) = (x : Int) := by unfold wrap64; omega
theorem w64s (w : Nat) (hw : w < 4294967296) : wrap64 (fS w : Int) = (fS w : Int) ∧ wrap64 (fT w : Int) = (fT w : Int) ∧ wrap64 (fD w : Int) = (fD w : Int) ∧ wrap64 (fA w : Int) = (fA w : Int) ∧ wrap64 (fF w : Int) = (fF w : Int) := by
  obtain ⟨b1, b2, b3, b4, b5⟩ := fields_lt w
  exact ⟨w64 _ (by omega), w64 _ (by omega), w64 _ (by omega), w64 _ (by omega), w64 _ (by omega)⟩
theorem ret_b {a b : Bool} (h : a = b) : Ending.returned (.bool a) = .returned (.bool b) := by rw [h]
end Go.Proofs.Ytobnocioefchlaa
namespace Go.Proofs.Ytobnocioefchlaa
open Go.ChangeShapes Go.WideShapes Go.ChangeAt Go.RowKit
set_option linter.unusedVariables false
theorem fitX_68 (o f w : Nat) : fitX 68 o f w = true ↔ (fO w = o ∧ fF w = f ∧ fA w = 0) := by
  unfold fitX
  by_cases e : fO w = o <;> simp [e]
set_option maxRecDepth 20000 in
set_option maxHeartbeats 1000000 in
theorem fitx_68 (op : Int) (o n : Nat) (nm : ByteArray) (v : Nat) (hv : v < 4294967296) (w : World) : Calls Try.prog 85 #[.agg (rwC op 68 (o : Int) (n : Int) nm), .int .u32 (v : Int)] w fun e w' => e = .returned (.bool (fitX 68 o n v)) ∧ Below w.heap.size w w' := by
  have hB := hidden (below_new w (.cells (rwC op 68 (o : Int) (n : Int) nm) 119))
  obtain ⟨g1, g2, g3, g4, g5⟩ := w64s v hv
  have hO := hidden (show fO v = v / 67108864 from rfl)
  go_enter Try.func85, Try.ntmps85
  go_wp2_with (go_at_call 99; (first | (with_reducible refine (fldS v hv _).mono ?_) | (with_reducible refine (fldT v hv _).mono ?_) | (with_reducible refine (fldD v hv _).mono ?_) | (with_reducible refine (fldA v hv _).mono ?_) | (with_reducible refine (fldF v hv _).mono ?_) | (with_reducible refine (fldI v hv _).mono ?_) | (with_reducible refine (fldC v hv _).mono ?_) | (with_reducible refine (fldJ v hv _).mono ?_)); rintro e w4 ⟨rfl, rfl⟩)
  all_goals
    go_ret
    refine ⟨ret_b ?_, hB.out⟩
    have hO2 := hO.out
    rw [Bool.eq_iff_iff, fitX_68]
    simp only [bne_iff_ne, ne_eq, bne_eq_false_iff_eq, beq_iff_eq, Bool.false_eq_true, false_iff] at *
    omega
theorem fitX_88 (o f w : Nat) : fitX 88 o f w = true ↔ (fO w = o ∧ fF w = f ∧ fA w = 0) := by
  unfold fitX
  by_cases e : fO w = o <;> simp [e]
set_option maxRecDepth 20000 in
set_option maxHeartbeats 1000000 in
theorem fitx_88 (op : Int) (o n : Nat) (nm : ByteArray) (v : Nat) (hv : v < 4294967296) (w : World) : Calls Try.prog 85 #[.agg (rwC op 88 (o : Int) (n : Int) nm), .int .u32 (v : Int)] w fun e w' => e = .returned (.bool (fitX 88 o n v)) ∧ Below w.heap.size w w' := by
  have hB := hidden (below_new w (.cells (rwC op 88 (o : Int) (n : Int) nm) 119))
  obtain ⟨g1, g2, g3, g4, g5⟩ := w64s v hv
  have hO := hidden (show fO v = v / 67108864 from rfl)
  go_enter Try.func85, Try.ntmps85
  go_wp2_with (go_at_call 99; (first | (with_reducible refine (fldS v hv _).mono ?_) | (with_reducible refine (fldT v hv _).mono ?_) | (with_reducible refine (fldD v hv _).mono ?_) | (with_reducible refine (fldA v hv _).mono ?_) | (with_reducible refine (fldF v hv _).mono ?_) | (with_reducible refine (fldI v hv _).mono ?_) | (with_reducible refine (fldC v hv _).mono ?_) | (with_reducible refine (fldJ v hv _).mono ?_)); rintro e w4 ⟨rfl, rfl⟩)
  all_goals
    go_ret
    refine ⟨ret_b ?_, hB.out⟩
    have hO2 := hO.out
    rw [Bool.eq_iff_iff, fitX_88]
    simp only [bne_iff_ne, ne_eq, bne_eq_false_iff_eq, beq_iff_eq, Bool.false_eq_true, false_iff] at *
    omega
theorem fitX_89 (o f w : Nat) : fitX 89 o f w = true ↔ (fO w = o ∧ fF w = f ∧ fA w = 0 ∧ fT w = fD w) := by
  unfold fitX
  by_cases e : fO w = o <;> simp [e]
set_option maxRecDepth 20000 in
set_option maxHeartbeats 1000000 in
theorem fitx_89 (op : Int) (o n : Nat) (nm : ByteArray) (v : Nat) (hv : v < 4294967296) (w : World) : Calls Try.prog 85 #[.agg (rwC op 89 (o : Int) (n : Int) nm), .int .u32 (v : Int)] w fun e w' => e = .returned (.bool (fitX 89 o n v)) ∧ Below w.heap.size w w' := by
  have hB := hidden (below_new w (.cells (rwC op 89 (o : Int) (n : Int) nm) 119))
  obtain ⟨g1, g2, g3, g4, g5⟩ := w64s v hv
  have hO := hidden (show fO v = v / 67108864 from rfl)
  go_enter Try.func85, Try.ntmps85
  go_wp2_with (go_at_call 99; (first | (with_reducible refine (fldS v hv _).mono ?_) | (with_reducible refine (fldT v hv _).mono ?_) | (with_reducible refine (fldD v hv _).mono ?_) | (with_reducible refine (fldA v hv _).mono ?_) | (with_reducible refine (fldF v hv _).mono ?_) | (with_reducible refine (fldI v hv _).mono ?_) | (with_reducible refine (fldC v hv _).mono ?_) | (with_reducible refine (fldJ v hv _).mono ?_)); rintro e w4 ⟨rfl, rfl⟩)
  all_goals
    go_ret
    refine ⟨ret_b ?_, hB.out⟩
    have hO2 := hO.out
    rw [Bool.eq_iff_iff, fitX_89]
    simp only [bne_iff_ne, ne_eq, bne_eq_false_iff_eq, beq_iff_eq, Bool.false_eq_true, false_iff] at *
    omega
theorem fitX_72 (o f w : Nat) : fitX 72 o f w = true ↔ (fO w = o ∧ fF w = f ∧ fS w = 0) := by
  unfold fitX
  by_cases e : fO w = o <;> simp [e]
set_option maxRecDepth 20000 in
set_option maxHeartbeats 1000000 in
theorem fitx_72 (op : Int) (o n : Nat) (nm : ByteArray) (v : Nat) (hv : v < 4294967296) (w : World) : Calls Try.prog 85 #[.agg (rwC op 72 (o : Int) (n : Int) nm), .int .u32 (v : Int)] w fun e w' => e = .returned (.bool (fitX 72 o n v)) ∧ Below w.heap.size w w' := by
  have hB := hidden (below_new w (.cells (rwC op 72 (o : Int) (n : Int) nm) 119))
  obtain ⟨g1, g2, g3, g4, g5⟩ := w64s v hv
  have hO := hidden (show fO v = v / 67108864 from rfl)
  go_enter Try.func85, Try.ntmps85
  go_wp2_with (go_at_call 99; (first | (with_reducible refine (fldS v hv _).mono ?_) | (with_reducible refine (fldT v hv _).mono ?_) | (with_reducible refine (fldD v hv _).mono ?_) | (with_reducible refine (fldA v hv _).mono ?_) | (with_reducible refine (fldF v hv _).mono ?_) | (with_reducible refine (fldI v hv _).mono ?_) | (with_reducible refine (fldC v hv _).mono ?_) | (with_reducible refine (fldJ v hv _).mono ?_)); rintro e w4 ⟨rfl, rfl⟩)
  all_goals
    go_ret
    refine ⟨ret_b ?_, hB.out⟩
    have hO2 := hO.out
    rw [Bool.eq_iff_iff, fitX_72]
    simp only [bne_iff_ne, ne_eq, bne_eq_false_iff_eq, beq_iff_eq, Bool.false_eq_true, false_iff] at *
    omega
theorem fitX_77 (o f w : Nat) : fitX 77 o f w = true ↔ (fO w = o ∧ fF w = f ∧ fD w = 0 ∧ fA w = 0) := by
  unfold fitX
  by_cases e : fO w = o <;> simp [e]
set_option maxRecDepth 20000 in
set_option maxHeartbeats 1000000 in
theorem fitx_77 (op : Int) (o n : Nat) (nm : ByteArray) (v : Nat) (hv : v < 4294967296) (w : World) : Calls Try.prog 85 #[.agg (rwC op 77 (o : Int) (n : Int) nm), .int .u32 (v : Int)] w fun e w' => e = .returned (.bool (fitX 77 o n v)) ∧ Below w.heap.size w w' := by
  have hB := hidden (below_new w (.cells (rwC op 77 (o : Int) (n : Int) nm) 119))
  obtain ⟨g1, g2, g3, g4, g5⟩ := w64s v hv
  have hO := hidden (show fO v = v / 67108864 from rfl)
  go_enter Try.func85, Try.ntmps85
  go_wp2_with (go_at_call 99; (first | (with_reducible refine (fldS v hv _).mono ?_) | (with_reducible refine (fldT v hv _).mono ?_) | (with_reducible refine (fldD v hv _).mono ?_) | (with_reducible refine (fldA v hv _).mono ?_) | (with_reducible refine (fldF v hv _).mono ?_) | (with_reducible refine (fldI v hv _).mono ?_) | (with_reducible refine (fldC v hv _).mono ?_) | (with_reducible refine (fldJ v hv _).mono ?_)); rintro e w4 ⟨rfl, rfl⟩)
  all_goals
    go_ret
    refine ⟨ret_b ?_, hB.out⟩
    have hO2 := hO.out
    rw [Bool.eq_iff_iff, fitX_77]
    simp only [bne_iff_ne, ne_eq, bne_eq_false_iff_eq, beq_iff_eq, Bool.false_eq_true, false_iff] at *
    omega
theorem fitX_70 (o f w : Nat) : fitX 70 o f w = true ↔ (fO w = o ∧ fF w = f ∧ fS w = 0 ∧ fT w = 0 ∧ fA w = 0) := by
  unfold fitX
  by_cases e : fO w = o <;> simp [e]
set_option maxRecDepth 20000 in
set_option maxHeartbeats 1000000 in
theorem fitx_70 (op : Int) (o n : Nat) (nm : ByteArray) (v : Nat) (hv : v < 4294967296) (w : World) : Calls Try.prog 85 #[.agg (rwC op 70 (o : Int) (n : Int) nm), .int .u32 (v : Int)] w fun e w' => e = .returned (.bool (fitX 70 o n v)) ∧ Below w.heap.size w w' := by
  have hB := hidden (below_new w (.cells (rwC op 70 (o : Int) (n : Int) nm) 119))
  obtain ⟨g1, g2, g3, g4, g5⟩ := w64s v hv
  have hO := hidden (show fO v = v / 67108864 from rfl)
  go_enter Try.func85, Try.ntmps85
  go_wp2_with (go_at_call 99; (first | (with_reducible refine (fldS v hv _).mono ?_) | (with_reducible refine (fldT v hv _).mono ?_) | (with_reducible refine (fldD v hv _).mono ?_) | (with_reducible refine (fldA v hv _).mono ?_) | (with_reducible refine (fldF v hv _).mono ?_) | (with_reducible refine (fldI v hv _).mono ?_) | (with_reducible refine (fldC v hv _).mono ?_) | (with_reducible refine (fldJ v hv _).mono ?_)); rintro e w4 ⟨rfl, rfl⟩)
  all_goals
    go_ret
    refine ⟨ret_b ?_, hB.out⟩
    have hO2 := hO.out
    rw [Bool.eq_iff_iff, fitX_70]
    simp only [bne_iff_ne, ne_eq, bne_eq_false_iff_eq, beq_iff_eq, Bool.false_eq_true, false_iff] at *
    omega
end Go.Proofs.Ytobnocioefchlaa
namespace Go.Proofs.Ytobnocioefchlaa
open Go.ChangeShapes Go.WideShapes Go.ChangeAt Go.RowKit
set_option linter.unusedVariables false
theorem fitX_76 (o f w : Nat) : fitX 76 o f w = true ↔ (fO w = o ∧ fF w = f ∧ fT w = 0 ∧ fD w = 0 ∧ fA w = 0) := by
  unfold fitX
  by_cases e : fO w = o <;> simp [e]
set_option maxRecDepth 20000 in
set_option maxHeartbeats 1000000 in
theorem fitx_76 (op : Int) (o n : Nat) (nm : ByteArray) (v : Nat) (hv : v < 4294967296) (w : World) : Calls Try.prog 85 #[.agg (rwC op 76 (o : Int) (n : Int) nm), .int .u32 (v : Int)] w fun e w' => e = .returned (.bool (fitX 76 o n v)) ∧ Below w.heap.size w w' := by
  have hB := hidden (below_new w (.cells (rwC op 76 (o : Int) (n : Int) nm) 119))
  obtain ⟨g1, g2, g3, g4, g5⟩ := w64s v hv
  have hO := hidden (show fO v = v / 67108864 from rfl)
  go_enter Try.func85, Try.ntmps85
  go_wp2_with (go_at_call 99; (first | (with_reducible refine (fldS v hv _).mono ?_) | (with_reducible refine (fldT v hv _).mono ?_) | (with_reducible refine (fldD v hv _).mono ?_) | (with_reducible refine (fldA v hv _).mono ?_) | (with_reducible refine (fldF v hv _).mono ?_) | (with_reducible refine (fldI v hv _).mono ?_) | (with_reducible refine (fldC v hv _).mono ?_) | (with_reducible refine (fldJ v hv _).mono ?_)); rintro e w4 ⟨rfl, rfl⟩)
  all_goals
    go_ret
    refine ⟨ret_b ?_, hB.out⟩
    have hO2 := hO.out
    rw [Bool.eq_iff_iff, fitX_76]
    simp only [bne_iff_ne, ne_eq, bne_eq_false_iff_eq, beq_iff_eq, Bool.false_eq_true, false_iff] at *
    omega
theorem fitX_71 (o f w : Nat) : fitX 71 o f w = true ↔ (fO w = o ∧ fF w = f ∧ fT w = 0 ∧ fA w = 0) := by
  unfold fitX
  by_cases e : fO w = o <;> simp [e]
set_option maxRecDepth 20000 in
set_option maxHeartbeats 1000000 in
theorem fitx_71 (op : Int) (o n : Nat) (nm : ByteArray) (v : Nat) (hv : v < 4294967296) (w : World) : Calls Try.prog 85 #[.agg (rwC op 71 (o : Int) (n : Int) nm), .int .u32 (v : Int)] w fun e w' => e = .returned (.bool (fitX 71 o n v)) ∧ Below w.heap.size w w' := by
  have hB := hidden (below_new w (.cells (rwC op 71 (o : Int) (n : Int) nm) 119))
  obtain ⟨g1, g2, g3, g4, g5⟩ := w64s v hv
  have hO := hidden (show fO v = v / 67108864 from rfl)
  go_enter Try.func85, Try.ntmps85
  go_wp2_with (go_at_call 99; (first | (with_reducible refine (fldS v hv _).mono ?_) | (with_reducible refine (fldT v hv _).mono ?_) | (with_reducible refine (fldD v hv _).mono ?_) | (with_reducible refine (fldA v hv _).mono ?_) | (with_reducible refine (fldF v hv _).mono ?_) | (with_reducible refine (fldI v hv _).mono ?_) | (with_reducible refine (fldC v hv _).mono ?_) | (with_reducible refine (fldJ v hv _).mono ?_)); rintro e w4 ⟨rfl, rfl⟩)
  all_goals
    go_ret
    refine ⟨ret_b ?_, hB.out⟩
    have hO2 := hO.out
    rw [Bool.eq_iff_iff, fitX_71]
    simp only [bne_iff_ne, ne_eq, bne_eq_false_iff_eq, beq_iff_eq, Bool.false_eq_true, false_iff] at *
    omega
theorem fitX_84 (o f w : Nat) : fitX 84 o f w = true ↔ (fO w = o ∧ fF w = f) := by
  unfold fitX
  by_cases e : fO w = o <;> simp [e]
set_option maxRecDepth 20000 in
set_option maxHeartbeats 1000000 in
theorem fitx_84 (op : Int) (o n : Nat) (nm : ByteArray) (v : Nat) (hv : v < 4294967296) (w : World) : Calls Try.prog 85 #[.agg (rwC op 84 (o : Int) (n : Int) nm), .int .u32 (v : Int)] w fun e w' => e = .returned (.bool (fitX 84 o n v)) ∧ Below w.heap.size w w' := by
  have hB := hidden (below_new w (.cells (rwC op 84 (o : Int) (n : Int) nm) 119))
  obtain ⟨g1, g2, g3, g4, g5⟩ := w64s v hv
  have hO := hidden (show fO v = v / 67108864 from rfl)
  go_enter Try.func85, Try.ntmps85
  go_wp2_with (go_at_call 99; (first | (with_reducible refine (fldS v hv _).mono ?_) | (with_reducible refine (fldT v hv _).mono ?_) | (with_reducible refine (fldD v hv _).mono ?_) | (with_reducible refine (fldA v hv _).mono ?_) | (with_reducible refine (fldF v hv _).mono ?_) | (with_reducible refine (fldI v hv _).mono ?_) | (with_reducible refine (fldC v hv _).mono ?_) | (with_reducible refine (fldJ v hv _).mono ?_)); rintro e w4 ⟨rfl, rfl⟩)
  all_goals
    go_ret
    refine ⟨ret_b ?_, hB.out⟩
    have hO2 := hO.out
    rw [Bool.eq_iff_iff, fitX_84]
    simp only [bne_iff_ne, ne_eq, bne_eq_false_iff_eq, beq_iff_eq, Bool.false_eq_true, false_iff] at *
    omega
theorem fitX_67 (o f w : Nat) : fitX 67 o f w = true ↔ (fO w = o ∧ fF w = f) := by
  unfold fitX
  by_cases e : fO w = o <;> simp [e]
set_option maxRecDepth 20000 in
set_option maxHeartbeats 1000000 in
theorem fitx_67 (op : Int) (o n : Nat) (nm : ByteArray) (v : Nat) (hv : v < 4294967296) (w : World) : Calls Try.prog 85 #[.agg (rwC op 67 (o : Int) (n : Int) nm), .int .u32 (v : Int)] w fun e w' => e = .returned (.bool (fitX 67 o n v)) ∧ Below w.heap.size w w' := by
  have hB := hidden (below_new w (.cells (rwC op 67 (o : Int) (n : Int) nm) 119))
  obtain ⟨g1, g2, g3, g4, g5⟩ := w64s v hv
  have hO := hidden (show fO v = v / 67108864 from rfl)
  go_enter Try.func85, Try.ntmps85
  go_wp2_with (go_at_call 99; (first | (with_reducible refine (fldS v hv _).mono ?_) | (with_reducible refine (fldT v hv _).mono ?_) | (with_reducible refine (fldD v hv _).mono ?_) | (with_reducible refine (fldA v hv _).mono ?_) | (with_reducible refine (fldF v hv _).mono ?_) | (with_reducible refine (fldI v hv _).mono ?_) | (with_reducible refine (fldC v hv _).mono ?_) | (with_reducible refine (fldJ v hv _).mono ?_)); rintro e w4 ⟨rfl, rfl⟩)
  all_goals
    go_ret
    refine ⟨ret_b ?_, hB.out⟩
    have hO2 := hO.out
    rw [Bool.eq_iff_iff, fitX_67]
    simp only [bne_iff_ne, ne_eq, bne_eq_false_iff_eq, beq_iff_eq, Bool.false_eq_true, false_iff] at *
    omega
theorem fitX_73 (o f w : Nat) : fitX 73 o f w = true ↔ (fO w = o) := by
  unfold fitX
  by_cases e : fO w = o <;> simp [e]
set_option maxRecDepth 20000 in
set_option maxHeartbeats 1000000 in
theorem fitx_73 (op : Int) (o n : Nat) (nm : ByteArray) (v : Nat) (hv : v < 4294967296) (w : World) : Calls Try.prog 85 #[.agg (rwC op 73 (o : Int) (n : Int) nm), .int .u32 (v : Int)] w fun e w' => e = .returned (.bool (fitX 73 o n v)) ∧ Below w.heap.size w w' := by
  have hB := hidden (below_new w (.cells (rwC op 73 (o : Int) (n : Int) nm) 119))
  obtain ⟨g1, g2, g3, g4, g5⟩ := w64s v hv
  have hO := hidden (show fO v = v / 67108864 from rfl)
  go_enter Try.func85, Try.ntmps85
  go_wp2_with (go_at_call 99; (first | (with_reducible refine (fldS v hv _).mono ?_) | (with_reducible refine (fldT v hv _).mono ?_) | (with_reducible refine (fldD v hv _).mono ?_) | (with_reducible refine (fldA v hv _).mono ?_) | (with_reducible refine (fldF v hv _).mono ?_) | (with_reducible refine (fldI v hv _).mono ?_) | (with_reducible refine (fldC v hv _).mono ?_) | (with_reducible refine (fldJ v hv _).mono ?_)); rintro e w4 ⟨rfl, rfl⟩)
  all_goals
    go_ret
    refine ⟨ret_b ?_, hB.out⟩
    have hO2 := hO.out
    rw [Bool.eq_iff_iff, fitX_73]
    simp only [bne_iff_ne, ne_eq, bne_eq_false_iff_eq, Bool.false_eq_true, false_iff, true_iff] at *
    omega
theorem fitX_80 (o f w : Nat) : fitX 80 o f w = true ↔ (fO w = o) := by
  unfold fitX
  by_cases e : fO w = o <;> simp [e]
set_option maxRecDepth 20000 in
set_option maxHeartbeats 1000000 in
theorem fitx_80 (op : Int) (o n : Nat) (nm : ByteArray) (v : Nat) (hv : v < 4294967296) (w : World) : Calls Try.prog 85 #[.agg (rwC op 80 (o : Int) (n : Int) nm), .int .u32 (v : Int)] w fun e w' => e = .returned (.bool (fitX 80 o n v)) ∧ Below w.heap.size w w' := by
  have hB := hidden (below_new w (.cells (rwC op 80 (o : Int) (n : Int) nm) 119))
  obtain ⟨g1, g2, g3, g4, g5⟩ := w64s v hv
  have hO := hidden (show fO v = v / 67108864 from rfl)
  go_enter Try.func85, Try.ntmps85
  go_wp2_with (go_at_call 99; (first | (with_reducible refine (fldS v hv _).mono ?_) | (with_reducible refine (fldT v hv _).mono ?_) | (with_reducible refine (fldD v hv _).mono ?_) | (with_reducible refine (fldA v hv _).mono ?_) | (with_reducible refine (fldF v hv _).mono ?_) | (with_reducible refine (fldI v hv _).mono ?_) | (with_reducible refine (fldC v hv _).mono ?_) | (with_reducible refine (fldJ v hv _).mono ?_)); rintro e w4 ⟨rfl, rfl⟩)
  all_goals
    go_ret
    refine ⟨ret_b ?_, hB.out⟩
    have hO2 := hO.out
    rw [Bool.eq_iff_iff, fitX_80]
    simp only [bne_iff_ne, ne_eq, bne_eq_false_iff_eq, Bool.false_eq_true, false_iff, true_iff] at *
    omega
end Go.Proofs.Ytobnocioefchlaa
