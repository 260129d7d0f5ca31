/- Whether a word is of a row, exactly. -/
import Derived.Test.YtobnocioefchlaaPMAS
import Derived.Test.YtobnocioefchlaaPMAR
namespace Go.Proofs.Ytobnocioefchlaa
open Go.ChangeShapes Go.WideShapes Go.ChangeAt Go.RowKit
set_option linter.unusedVariables false
theorem fitX_85 (o f w : Nat) : fitX 85 o f w = true ↔ (fO w = o) := by
  unfold fitX
  by_cases e : fO w = o <;> simp [e]
set_option maxRecDepth 20000 in
set_option maxHeartbeats 1000000 in
theorem fitx_85 (op : Int) (o n : Nat) (nm : ByteArray) (v : Nat) (hv : v < 4294967296) (w : World) : Calls Try.prog 85 #[.agg (rwC op 85 (o : Int) (n : Int) nm), .int .u32 (v : Int)] w fun e w' => e = .returned (.bool (fitX 85 o n v)) ∧ Below w.heap.size w w' := by
  have hB := hidden (below_new w (.cells (rwC op 85 (o : Int) (n : Int) nm) 119))
  obtain ⟨g1, g2, g3, g4, g5⟩ := w64s v hv
  have hO := hidden (show fO v = v / 67108864 from rfl)
  go_enter Try.func85, Try.ntmps85
  go_wp2_with (go_at_call 99; (first | (with_reducible refine (fldS v hv _).mono ?_) | (with_reducible refine (fldT v hv _).mono ?_) | (with_reducible refine (fldD v hv _).mono ?_) | (with_reducible refine (fldA v hv _).mono ?_) | (with_reducible refine (fldF v hv _).mono ?_) | (with_reducible refine (fldI v hv _).mono ?_) | (with_reducible refine (fldC v hv _).mono ?_) | (with_reducible refine (fldJ v hv _).mono ?_)); rintro e w4 ⟨rfl, rfl⟩)
  all_goals
    go_ret
    refine ⟨ret_b ?_, hB.out⟩
    have hO2 := hO.out
    rw [Bool.eq_iff_iff, fitX_85]
    simp only [bne_iff_ne, ne_eq, bne_eq_false_iff_eq, Bool.false_eq_true, false_iff, true_iff] at *
    omega
theorem fitX_86 (o f w : Nat) : fitX 86 o f w = true ↔ (fO w = o ∧ fS w = 0) := by
  unfold fitX
  by_cases e : fO w = o <;> simp [e]
set_option maxRecDepth 20000 in
set_option maxHeartbeats 1000000 in
theorem fitx_86 (op : Int) (o n : Nat) (nm : ByteArray) (v : Nat) (hv : v < 4294967296) (w : World) : Calls Try.prog 85 #[.agg (rwC op 86 (o : Int) (n : Int) nm), .int .u32 (v : Int)] w fun e w' => e = .returned (.bool (fitX 86 o n v)) ∧ Below w.heap.size w w' := by
  have hB := hidden (below_new w (.cells (rwC op 86 (o : Int) (n : Int) nm) 119))
  obtain ⟨g1, g2, g3, g4, g5⟩ := w64s v hv
  have hO := hidden (show fO v = v / 67108864 from rfl)
  go_enter Try.func85, Try.ntmps85
  go_wp2_with (go_at_call 99; (first | (with_reducible refine (fldS v hv _).mono ?_) | (with_reducible refine (fldT v hv _).mono ?_) | (with_reducible refine (fldD v hv _).mono ?_) | (with_reducible refine (fldA v hv _).mono ?_) | (with_reducible refine (fldF v hv _).mono ?_) | (with_reducible refine (fldI v hv _).mono ?_) | (with_reducible refine (fldC v hv _).mono ?_) | (with_reducible refine (fldJ v hv _).mono ?_)); rintro e w4 ⟨rfl, rfl⟩)
  all_goals
    go_ret
    refine ⟨ret_b ?_, hB.out⟩
    have hO2 := hO.out
    rw [Bool.eq_iff_iff, fitX_86]
    simp only [bne_iff_ne, ne_eq, bne_eq_false_iff_eq, beq_iff_eq, Bool.false_eq_true, false_iff] at *
    omega
theorem fitX_66 (o f w : Nat) : fitX 66 o f w = true ↔ (fO w = o) := by
  unfold fitX
  by_cases e : fO w = o <;> simp [e]
set_option maxRecDepth 20000 in
set_option maxHeartbeats 1000000 in
theorem fitx_66 (op : Int) (o n : Nat) (nm : ByteArray) (v : Nat) (hv : v < 4294967296) (w : World) : Calls Try.prog 85 #[.agg (rwC op 66 (o : Int) (n : Int) nm), .int .u32 (v : Int)] w fun e w' => e = .returned (.bool (fitX 66 o n v)) ∧ Below w.heap.size w w' := by
  have hB := hidden (below_new w (.cells (rwC op 66 (o : Int) (n : Int) nm) 119))
  obtain ⟨g1, g2, g3, g4, g5⟩ := w64s v hv
  have hO := hidden (show fO v = v / 67108864 from rfl)
  go_enter Try.func85, Try.ntmps85
  go_wp2_with (go_at_call 99; (first | (with_reducible refine (fldS v hv _).mono ?_) | (with_reducible refine (fldT v hv _).mono ?_) | (with_reducible refine (fldD v hv _).mono ?_) | (with_reducible refine (fldA v hv _).mono ?_) | (with_reducible refine (fldF v hv _).mono ?_) | (with_reducible refine (fldI v hv _).mono ?_) | (with_reducible refine (fldC v hv _).mono ?_) | (with_reducible refine (fldJ v hv _).mono ?_)); rintro e w4 ⟨rfl, rfl⟩)
  all_goals
    go_ret
    refine ⟨ret_b ?_, hB.out⟩
    have hO2 := hO.out
    rw [Bool.eq_iff_iff, fitX_66]
    simp only [bne_iff_ne, ne_eq, bne_eq_false_iff_eq, Bool.false_eq_true, false_iff, true_iff] at *
    omega
theorem fitX_90 (o f w : Nat) : fitX 90 o f w = true ↔ (fO w = o ∧ fT w = 0) := by
  unfold fitX
  by_cases e : fO w = o <;> simp [e]
set_option maxRecDepth 20000 in
set_option maxHeartbeats 1000000 in
theorem fitx_90 (op : Int) (o n : Nat) (nm : ByteArray) (v : Nat) (hv : v < 4294967296) (w : World) : Calls Try.prog 85 #[.agg (rwC op 90 (o : Int) (n : Int) nm), .int .u32 (v : Int)] w fun e w' => e = .returned (.bool (fitX 90 o n v)) ∧ Below w.heap.size w w' := by
  have hB := hidden (below_new w (.cells (rwC op 90 (o : Int) (n : Int) nm) 119))
  obtain ⟨g1, g2, g3, g4, g5⟩ := w64s v hv
  have hO := hidden (show fO v = v / 67108864 from rfl)
  go_enter Try.func85, Try.ntmps85
  go_wp2_with (go_at_call 99; (first | (with_reducible refine (fldS v hv _).mono ?_) | (with_reducible refine (fldT v hv _).mono ?_) | (with_reducible refine (fldD v hv _).mono ?_) | (with_reducible refine (fldA v hv _).mono ?_) | (with_reducible refine (fldF v hv _).mono ?_) | (with_reducible refine (fldI v hv _).mono ?_) | (with_reducible refine (fldC v hv _).mono ?_) | (with_reducible refine (fldJ v hv _).mono ?_)); rintro e w4 ⟨rfl, rfl⟩)
  all_goals
    go_ret
    refine ⟨ret_b ?_, hB.out⟩
    have hO2 := hO.out
    rw [Bool.eq_iff_iff, fitX_90]
    simp only [bne_iff_ne, ne_eq, bne_eq_false_iff_eq, beq_iff_eq, Bool.false_eq_true, false_iff] at *
    omega
theorem fitX_82 (o f w : Nat) : fitX 82 o f w = true ↔ (fO w = o ∧ fT w = f) := by
  unfold fitX
  by_cases e : fO w = o <;> simp [e]
set_option maxRecDepth 20000 in
set_option maxHeartbeats 1000000 in
theorem fitx_82 (op : Int) (o n : Nat) (nm : ByteArray) (v : Nat) (hv : v < 4294967296) (w : World) : Calls Try.prog 85 #[.agg (rwC op 82 (o : Int) (n : Int) nm), .int .u32 (v : Int)] w fun e w' => e = .returned (.bool (fitX 82 o n v)) ∧ Below w.heap.size w w' := by
  have hB := hidden (below_new w (.cells (rwC op 82 (o : Int) (n : Int) nm) 119))
  obtain ⟨g1, g2, g3, g4, g5⟩ := w64s v hv
  have hO := hidden (show fO v = v / 67108864 from rfl)
  go_enter Try.func85, Try.ntmps85
  go_wp2_with (go_at_call 99; (first | (with_reducible refine (fldS v hv _).mono ?_) | (with_reducible refine (fldT v hv _).mono ?_) | (with_reducible refine (fldD v hv _).mono ?_) | (with_reducible refine (fldA v hv _).mono ?_) | (with_reducible refine (fldF v hv _).mono ?_) | (with_reducible refine (fldI v hv _).mono ?_) | (with_reducible refine (fldC v hv _).mono ?_) | (with_reducible refine (fldJ v hv _).mono ?_)); rintro e w4 ⟨rfl, rfl⟩)
  all_goals
    go_ret
    refine ⟨ret_b ?_, hB.out⟩
    have hO2 := hO.out
    rw [Bool.eq_iff_iff, fitX_82]
    simp only [bne_iff_ne, ne_eq, bne_eq_false_iff_eq, beq_iff_eq, Bool.false_eq_true, false_iff] at *
    omega
theorem fitX_74 (o f w : Nat) : fitX 74 o f w = true ↔ (fO w = o) := by
  unfold fitX
  by_cases e : fO w = o <;> simp [e]
set_option maxRecDepth 20000 in
set_option maxHeartbeats 1000000 in
theorem fitx_74 (op : Int) (o n : Nat) (nm : ByteArray) (v : Nat) (hv : v < 4294967296) (w : World) : Calls Try.prog 85 #[.agg (rwC op 74 (o : Int) (n : Int) nm), .int .u32 (v : Int)] w fun e w' => e = .returned (.bool (fitX 74 o n v)) ∧ Below w.heap.size w w' := by
  have hB := hidden (below_new w (.cells (rwC op 74 (o : Int) (n : Int) nm) 119))
  obtain ⟨g1, g2, g3, g4, g5⟩ := w64s v hv
  have hO := hidden (show fO v = v / 67108864 from rfl)
  go_enter Try.func85, Try.ntmps85
  go_wp2_with (go_at_call 99; (first | (with_reducible refine (fldS v hv _).mono ?_) | (with_reducible refine (fldT v hv _).mono ?_) | (with_reducible refine (fldD v hv _).mono ?_) | (with_reducible refine (fldA v hv _).mono ?_) | (with_reducible refine (fldF v hv _).mono ?_) | (with_reducible refine (fldI v hv _).mono ?_) | (with_reducible refine (fldC v hv _).mono ?_) | (with_reducible refine (fldJ v hv _).mono ?_)); rintro e w4 ⟨rfl, rfl⟩)
  all_goals
    go_ret
    refine ⟨ret_b ?_, hB.out⟩
    have hO2 := hO.out
    rw [Bool.eq_iff_iff, fitX_74]
    simp only [bne_iff_ne, ne_eq, bne_eq_false_iff_eq, Bool.false_eq_true, false_iff, true_iff] at *
    omega
end Go.Proofs.Ytobnocioefchlaa
namespace Go.Proofs.Ytobnocioefchlaa
open Go.ChangeShapes Go.WideShapes Go.ChangeAt Go.RowKit
set_option linter.unusedVariables false
def formsL : List Nat := [68, 88, 89, 72, 77, 70, 76, 71, 84, 67, 73, 80, 85, 86, 66, 90, 82, 74]
theorem fitx_any {c : Nat} (hc : c ∈ formsL) (op : Int) (o n : Nat) (nm : ByteArray) (v : Nat) (hv : v < 4294967296) (w : World) : Calls Try.prog 85 #[.agg (rwC op (c : Int) (o : Int) (n : Int) nm), .int .u32 (v : Int)] w fun e w' => e = .returned (.bool (fitX c o n v)) ∧ Below w.heap.size w w' := by
  simp only [formsL, List.mem_cons, List.not_mem_nil, or_false] at hc
  rcases hc with rfl | rfl | rfl | rfl | rfl | rfl | rfl | rfl | rfl | rfl | rfl | rfl | rfl | rfl | rfl | rfl | rfl | rfl
  · exact fitx_68 op o n nm v hv w
  · exact fitx_88 op o n nm v hv w
  · exact fitx_89 op o n nm v hv w
  · exact fitx_72 op o n nm v hv w
  · exact fitx_77 op o n nm v hv w
  · exact fitx_70 op o n nm v hv w
  · exact fitx_76 op o n nm v hv w
  · exact fitx_71 op o n nm v hv w
  · exact fitx_84 op o n nm v hv w
  · exact fitx_67 op o n nm v hv w
  · exact fitx_73 op o n nm v hv w
  · exact fitx_80 op o n nm v hv w
  · exact fitx_85 op o n nm v hv w
  · exact fitx_86 op o n nm v hv w
  · exact fitx_66 op o n nm v hv w
  · exact fitx_90 op o n nm v hv w
  · exact fitx_82 op o n nm v hv w
  · exact fitx_74 op o n nm v hv w
end Go.Proofs.Ytobnocioefchlaa
namespace Go.Proofs.Ytobnocioefchlaa
open Go.ChangeShapes Go.WideShapes Go.ChangeAt Go.RowKit
set_option linter.unusedVariables false
theorem size24 : (Try.prog.info? 62).map (·.size) = some 6 := by kernel_rfl
theorem cut_end (w : World) (B : Array Value) (op S T D A m : Int) : Blk (((w.alloc (.cells B 119)).alloc (.cells (insC op S T D A m) 62)).alloc (.cells (insC op S T D A m) 62)) (w.heap.size + 1) (insC op S T D A m) 62 ∧ Below w.heap.size w (((w.alloc (.cells B 119)).alloc (.cells (insC op S T D A m) 62)).alloc (.cells (insC op S T D A m) 62)) := by
  have h := Blk.new (w.alloc (.cells B 119)) (insC op S T D A m) 62
  have e : (w.alloc (.cells B 119)).heap.size = w.heap.size + 1 := by simp
  rw [e] at h
  exact ⟨h.later (below_new _ _), bthen (bthen (below_new w _) (below_new _ _)) (below_new _ _)⟩
theorem ins_one (op S T D A m : Int) : (insC op S T D A m).all (·.oneCell') = true := by kernel_rfl
theorem wpList_storeI {ops : Array Oper} {rest : List Oper} {o : Oper} {a : Act} {w : World} {Q : Exit → Act → World → Prop} (hgd : o.guard = none) {x y : Operand} (ho : o.op = .store 62 x y)
    (g : Nat) (op S T D A m p1 p2 p3 p4 p5 p6 : Int) (hx : a.eval x = .pointer (some ⟨g, 0, none⟩)) (hy : a.eval y = .agg (insC op S T D A m)) (hg : Blk w g (insC p1 p2 p3 p4 p5 p6) 62)
    (h : ∀ w1, Blk w1 g (insC op S T D A m) 62 → (∀ B u, Below B u w → B ≤ g → Below B u w1) → wpList Try.prog ops Q rest (a.put o.dst undef) w1) : wpList Try.prog ops Q (o :: rest) a w :=
  wpList_store_row hgd 62 x y ho g (insC op S T D A m) hx hy 62 _ hg size24 rfl (ins_one _ _ _ _ _ _) (h _ (setRow_heap w g _ _ 62 (0, 0) hg) (fun B u hb hB => below_setRow hb hB _))
theorem dec_one {n : Nat} {w w0 w1 : World} (hz : w0.heap.size = n + 1) (b0 : Below n w w0) (q0 : Blk w0 n (insC 0 0 0 0 0 0) 62) (b1 : Below w0.heap.size w0 w1) : Below n w w1 ∧ Blk w1 n (insC 0 0 0 0 0 0) 62 ∧ n + 1 ≤ w1.heap.size :=
  ⟨b0.trans (b1.mono (by omega)), q0.later b1, by have := b1.size; omega⟩
theorem dec_two {n : Nat} {w w1 w2 : World} (b : Below n w w1) (q : Blk w1 n (insC 0 0 0 0 0 0) 62) (hs : n + 1 ≤ w1.heap.size) (b2 : Below w1.heap.size w1 w2) : Below n w w2 ∧ Blk w2 n (insC 0 0 0 0 0 0) 62 :=
  ⟨b.trans (b2.mono (by omega)), q.later b2⟩
theorem dec_three {n g : Nat} {w w2 w3 : World} (b : Below n w w2) (q : Blk w2 n (insC 0 0 0 0 0 0) 62) (hs : n + 1 ≤ g) (b3 : ∀ B u, Below B u w2 → B ≤ g → Below B u w3) : Below n w w3 ∧ Blk w3 n (insC 0 0 0 0 0 0) 62 :=
  ⟨b3 n w b (by omega), ((b3 g w2 (Below.refl _ _) (Nat.le_refl _)).block n (by omega)).trans q⟩
end Go.Proofs.Ytobnocioefchlaa
