/- What PageKeeps keeps beside a page: an array of bytes; all bytes of a page, in memory of their own. -/
import Derived.Test.YtikjobjcpldhkaaParts
import Derived.Test.YtikjobjcpldhkaaAwake
import Derived.Test.YtikjobjcpldhkaaCopiesWalk
namespace Go.Proofs.Ytikjobjcpldhkaa
open Go.ChangeShapes Go.WideShapes Go.ChangeAt Go.RowKit
set_option linter.unusedVariables false
/-- An array of 256 bytes. -/
structure Ar (w : World) (b : Nat) (l : List UInt8) : Prop where
  len : l.length = 256
  blk : w.heap[b]? = some (.cells (cellsU l).toArray 31 (0, 0))
theorem Ar.lt {w : World} {b : Nat} {l : List UInt8} (h : Ar w b l) : b < w.heap.size := (Array.getElem?_eq_some_iff.1 h.blk).1
theorem Ar.byte {w : World} {b : Nat} {l : List UInt8} (h : Ar w b l) {j : Nat} (hj : j < 256) : w.cell? ⟨b, j, none⟩ = some (.int .u8 ((l.getD j 0).toNat : Int)) := by
  rw [cell_of_row _ _ _ _ _ _ h.blk, List.getElem?_toArray, cellsU_get l j (by rw [h.len]; exact hj)]
theorem Ar.thaw {w : World} {b : Nat} {l : List UInt8} (h : Ar w b l) (j : Nat) : w.frozen? ⟨b, j, none⟩ = false := frozen_of_row _ _ _ _ _ h.blk
theorem Ar.set {w : World} {b : Nat} {l : List UInt8} (h : Ar w b l) (j : Nat) (v : UInt8) : Ar (w.setCell ⟨b, j, none⟩ (.int .u8 (v.toNat : Int))) b (l.set j v) := by
  refine ⟨by simpa using h.len, ?_⟩
  rw [heap_setCell_same _ _ _ _ _ _ h.blk, cellsU_set, List.setIfInBounds_toArray]
theorem Ar.same {w w' : World} {b : Nat} {l : List UInt8} (h : Ar w b l) (hb : w'.heap[b]? = w.heap[b]?) : Ar w' b l := ⟨h.len, hb.trans h.blk⟩
theorem Ar.later {w w' : World} {b : Nat} {l : List UInt8} (h : Ar w b l) (hb : Below w.heap.size w w') : Ar w' b l := h.same (hb.block b h.lt)
theorem Ar.only {w w' : World} {b c : Nat} {l : List UInt8} (h : Ar w b l) (hb : Only c w w') (hne : b ≠ c) : Ar w' b l := h.same (hb.block b hne)
theorem setB_in (l : List UInt8) (i : Int) (v : UInt8) (hi : inB i) : setB l i v = l.set i.toNat v := by unfold setB; rw [if_pos hi]
theorem getB_in (l : List UInt8) (i : Int) (hi : inB i) : getB l i = l.getD i.toNat 0 := by unfold getB; rw [if_pos hi]
theorem getB_out (l : List UInt8) (i : Int) (hi : ¬ inB i) : getB l i = 0 := by unfold getB; rw [if_neg hi]
theorem byte_first (w : World) (b : Nat) (l : List UInt8) (p n : Int) (h : Pg 51 w b l p n) : Calls Try.prog 13 #[.pointer (some ⟨b, 0, none⟩), .int .i64 0] w fun e w' => e = .returned (.int .u8 ((l.getD 0 0).toNat : Int)) ∧ w' = w := by
  have h := byte_any w b l p n 0 h
  rw [getB_in l 0 (by decide)] at h
  exact h
theorem byte_ahead (w : World) (b : Nat) (l : List UInt8) (p n : Int) (h : Pg 51 w b l p n) : Calls Try.prog 13 #[.pointer (some ⟨b, 0, none⟩), .int .i64 (-1)] w fun e w' => e = .returned (.int .u8 0) ∧ w' = w := by
  have h := byte_any w b l p n (-1) h
  rw [getB_out l (-1) (by decide)] at h
  exact h
theorem byte_behind (w : World) (b : Nat) (l : List UInt8) (p n : Int) (h : Pg 51 w b l p n) : Calls Try.prog 13 #[.pointer (some ⟨b, 0, none⟩), .int .i64 256] w fun e w' => e = .returned (.int .u8 0) ∧ w' = w := by
  have h := byte_any w b l p n 256 h
  rw [getB_out l 256 (by decide)] at h
  exact h
theorem alloc31 (w : World) : (Instr.alloc 31 true (.tuple #[])).run Try.prog w = .ok (.pointer (some ⟨w.heap.size, 0, none⟩)) (w.alloc (.cells (cellsU zeros).toArray 31)) := by kernel_rfl
theorem wpList_exec {P : Program} {w w' : World} {ops : Array Oper} {rest : List Oper} {o : Oper} {a : Act} {Q : Exit → Act → World → Prop} (hgd : o.guard = none) {v : Value}
    (hr : (execOp a.eval o).run P w = .ok (.value v) w') (h : wpList P ops Q rest (a.put o.dst v) w') : wpList P ops Q (o :: rest) a w :=
  wpList_plain hgd fun _ hK => by
    unfold Oper.wp
    rw [hr]
    exact hK _ _ h
theorem exec_alloc31 {ρ : Operand → Value} {o : Oper} (hop : o.op = .alloc 31) (w : World) : (execOp ρ o).run Try.prog w = .ok (.value (.pointer (some ⟨w.heap.size, 0, none⟩))) (w.alloc (.cells (cellsU zeros).toArray 31)) := by
  unfold execOp
  simp only [hop, Sem.run_bind, Sem.run_pure, Result.andThen_ok, alloc31]
theorem ar_new (w : World) : Ar (w.alloc (.cells (cellsU zeros).toArray 31)) w.heap.size zeros := ⟨zeros_len, heap_alloc_new w _⟩
theorem partB_all (l : List UInt8) (h : l.length = 256) : partB l 0 256 = l := by
  unfold partB
  rw [Int.toNat_zero, List.drop_zero, List.take_of_length_le (by rw [h]; decide)]
theorem run_all {w : World} {b : Nat} {l : List UInt8} {p c : Int} (h : Pg 51 w b l p c) :
    ∃ v w2, (Builtin.copy_ #[38, 38] 3 #[.slice (some ⟨w.heap.size, 0, none⟩) 256 256, .slice (some ⟨b, 0, none⟩) 256 256]).run Try.prog (w.alloc (.cells (madeCells #[.int .u8 0] 256) 5)) = .ok v w2 ∧ w2.heap[w.heap.size]? = some (.cells (cellsU l).toArray 5 (0, 0)) ∧ Below w.heap.size w w2 := by
  have hpl := partB_len l 0 256 h.len (by omega) (by omega) (by omega)
  have hcl := part_cells (h.later ((Below.refl _ _).alloc (Nat.le_refl _) (.cells (madeCells #[.int .u8 0] 256) 5))) 0 256 (by omega) (by omega) (by omega)
  rw [partB_all l h.len] at hpl hcl
  have hms := size_madeCells #[.int .u8 0] 256
  have hg := heap_alloc_new w (.cells (madeCells #[.int .u8 0] 256) 5)
  have hr := run_copy_row (P := Try.prog) (w.alloc (.cells (madeCells #[.int .u8 0] 256) 5)) 38 38 3 5 w.heap.size 0 256 256 ⟨b, 0, none⟩ 256 256 _ 5 (cellsU l) Try.underlying38 size5 hg (by rw [cellsU_len, hpl]; rfl) hcl (by rw [cellsU_len, hpl, hms]; decide) (cellsU_one _)
  refine ⟨_, _, hr, ?_, below_setRow ((Below.refl _ _).alloc (Nat.le_refl _) _) (Nat.le_refl _) _⟩
  rw [setRow_heap _ _ _ _ 5 _ hg]
  rw [List.take_zero, List.nil_append, List.drop_eq_nil_of_le (by rw [Array.length_toList, hms, cellsU_len, hpl]; decide), List.append_nil]
set_option maxRecDepth 20000 in
set_option maxHeartbeats 1000000 in
theorem bytes_all (w : World) (b : Nat) (l : List UInt8) (p c : Int) (h : Pg 51 w b l p c) :
    Calls Try.prog 17 #[.pointer (some ⟨b, 0, none⟩), .int .i64 0, .int .i64 256] w fun e w' => e = .returned (.slice (some ⟨w.heap.size, 0, none⟩) 256 256) ∧ w'.heap[w.heap.size]? = some (.cells (cellsU l).toArray 5 (0, 0)) ∧ Below w.heap.size w w' := by
  have hz : (0 : Int) ≤ 0 := by omega
  have hz2 : (0 : Int) < 256 := by omega
  have hmk := made_any 256 (by omega) (by omega)
  have hsl := sliced_any b 0 256 (by omega) (by omega) (by omega) (by omega)
  obtain ⟨vc, w2, hcp, hblk, hbel⟩ := run_all h
  have HR := hidden hblk
  have HB := hidden hbel
  have H22 := fun w => hidden (there_yes 0 w hz hz2)
  simp only [Int.toNat_zero, Nat.sub_zero, Int.reduceToNat] at hmk hsl
  clear h hblk hbel hz hz2
  go_enter Try.func17, Try.ntmps17
  go_wp2_with (go_at_call 22; refine (Hid.out (H22 _)).mono ?_; rintro e w1 ⟨rfl, hww⟩; rw [hww]; clear hww w1)
  go_ret
  exact ⟨rfl, Hid.out HR, Hid.out HB⟩
end Go.Proofs.Ytikjobjcpldhkaa
