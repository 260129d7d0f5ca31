/- Some bytes of a page. -/
import Derived.Test.YtpknppicamefgaaRowy
import Derived.Outline
namespace Go.Proofs.Ytpknppicamefgaa
open Go.ChangeShapes Go.WideShapes Go.ChangeAt Go.RowKit
set_option linter.unusedVariables false
theorem made_any (M : Int) (h0 : 0 ≤ M) (h1 : M ≤ 256) (w : World) : (Instr.makeSlice 51 (.int .i64 M) (.int .i64 M)).run Try.prog w = .ok (.slice (some ⟨w.heap.size, 0, none⟩) M.toNat M.toNat) (w.alloc (.cells (madeCells #[.int .u8 0] M.toNat) 5)) := by
  obtain ⟨i0, hi, hz0, hz1, hz2⟩ := info_parts info5
  have h := run_make (P := Try.prog) w 51 5 i0 (.int .u8 0) Try.underlying51 hi hz0 .i64 .i64 M M h0 (Int.le_refl _) (by rw [hz2]; omega) (by omega)
  rw [hz1, Nat.mul_one] at h
  exact h
theorem arrayLen31 : Try.prog.arrayLen 98 = 256 := by kernel_rfl
theorem elemSize31 (w : World) : (sizeOf (Try.prog.elem 98)).run Try.prog w = .ok 1 w := by kernel_rfl
theorem sliced_any (b : Nat) (i m : Int) (h0 : 0 ≤ i) (h1 : i < 256) (h2 : i ≤ m) (h3 : m ≤ 256) (w : World) : (Instr.sliceAt 98 (.pointer (some ⟨b, 0, none⟩)) (some (.int .i64 i)) (some (.int .i64 m)) none).run Try.prog w = .ok (.slice (some ⟨b, i.toNat, none⟩) (m.toNat - i.toNat) (256 - i.toNat)) w := by
  have h := run_sliceAt_array_lh (P := Try.prog) w 98 ⟨b, 0, none⟩ (by kernel_rfl) .i64 .i64 i m h0 h2 (by rw [arrayLen31]; exact h3)
  rw [h, elemSize31, arrayLen31]
  simp only [Result.andThen_ok, slicedAt, Nat.mul_one]
  rw [if_neg (by omega), Addr.add_lit, Nat.zero_add]
theorem partB_len (l : List UInt8) (i M : Int) (hl : l.length = 256) (h0 : 0 ≤ i) (h1 : 0 ≤ M) (h2 : i + M ≤ 256) : (partB l i M).length = M.toNat := by
  unfold partB
  rw [List.length_take, List.length_drop, hl]
  omega
theorem partB_get (l : List UInt8) (i M : Int) (j : Nat) (hj : j < M.toNat) : (partB l i M).getD j 0 = l.getD (i.toNat + j) 0 := by
  unfold partB
  rw [List.getD_eq_getElem?_getD, List.getElem?_take_of_lt hj, List.getElem?_drop, List.getD_eq_getElem?_getD]
theorem part_cells {T : TypeId} {w : World} {b : Nat} {l : List UInt8} {p c : Int} (h : Pg T w b l p c) (i M : Int) (h0 : 0 ≤ i) (h1 : 0 ≤ M) (h2 : i + M ≤ 256) : ∀ j v, (cellsU (partB l i M))[j]? = some v → w.cell? ((⟨b, i.toNat, none⟩ : Addr).add j) = some v := by
  have hl := partB_len l i M h.len h0 h1 h2
  refine Lies.cells (fun j hj => ?_)
  rw [hl] at hj
  rw [partB_get l i M j hj]
  exact h.byte (by omega)
theorem copied {w : World} {g : Nat} {l : List UInt8} {i M : Int} {z : Array Value} (hl : (partB l i M).length = M.toNat) (hz : z.size = M.toNat) (hM : M ≤ 256) (h : w.heap[g]? = some (.cells (splice z.toList 0 (cellsU (partB l i M))).toArray 5 (0, 0))) : Row w (some ⟨g, 0, none⟩) (partB l i M) M.toNat := by
  refine ⟨Nat.le_of_eq hl, by simp only [maxLen]; omega, by simp, .inr ⟨g, 0, rfl, fun j hj => ?_⟩⟩
  rw [Nat.zero_add, cell_of_row _ _ _ _ _ _ h, List.getElem?_toArray, splice, List.take_zero, List.nil_append, List.getElem?_append_left (by rw [cellsU_len]; exact hj), cellsU_get _ _ hj]
theorem size5 : (Try.prog.info? 5).map (·.size) = some 1 := by kernel_rfl
theorem run_part {w : World} {b : Nat} {l : List UInt8} {p c : Int} (h : Pg 109 w b l p c) (i M : Int) (S : Nat) (h0 : 0 ≤ i) (h1 : 0 ≤ M) (h2 : i + M ≤ 256) (hS : S = M.toNat) :
    ∃ v w2, (Builtin.copy_ #[51, 51] 3 #[.slice (some ⟨w.heap.size, 0, none⟩) M.toNat M.toNat, .slice (some ⟨b, i.toNat, none⟩) S (256 - i.toNat)]).run Try.prog (w.alloc (.cells (madeCells #[.int .u8 0] M.toNat) 5)) = .ok v w2 ∧ Row w2 (some ⟨w.heap.size, 0, none⟩) (partB l i M) M.toNat ∧ Below w.heap.size w w2 := by
  have hpl := partB_len l i M h.len h0 h1 h2
  have hcl := part_cells (h.later ((Below.refl _ _).alloc (Nat.le_refl _) (.cells (madeCells #[.int .u8 0] M.toNat) 5))) i M h0 h1 h2
  have hms := size_madeCells #[.int .u8 0] M.toNat
  have hg := heap_alloc_new w (.cells (madeCells #[.int .u8 0] M.toNat) 5)
  have hr := run_copy_row (P := Try.prog) (w.alloc (.cells (madeCells #[.int .u8 0] M.toNat) 5)) 51 51 3 5 w.heap.size 0 M.toNat M.toNat ⟨b, i.toNat, none⟩ S (256 - i.toNat) _ 5 (cellsU (partB l i M)) Try.underlying51 size5 hg (by rw [cellsU_len, hpl, hS]; show _ = min _ _; omega) hcl (by rw [cellsU_len, hpl, hms]; omega) (cellsU_one _)
  refine ⟨_, _, hr, ?_, below_setRow ((Below.refl _ _).alloc (Nat.le_refl _) _) (Nat.le_refl _) _⟩
  refine copied hpl hms (by omega) ?_
  rw [setRow_heap _ _ _ _ 5 _ hg]
  rfl
end Go.Proofs.Ytpknppicamefgaa
