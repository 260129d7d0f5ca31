/- A page's copy. -/
import Derived.Test.YtpknppicamefgaaBytes
import Derived.RegionTactic
import Derived.RegionCalls
import Derived.Outline
namespace Go.Proofs.Ytpknppicamefgaa
open Go.ChangeShapes Go.WideShapes Go.ChangeAt Go.RowKit
set_option linter.unusedVariables false
theorem size31 : (Try.prog.info? 98).map (·.size) = some 256 := by kernel_rfl
/-- A page's bytes, read as a value. -/
theorem run_load31 {T : TypeId} {w : World} {b : Nat} {l : List UInt8} {p n : Int} (h : Pg T w b l p n) : (loadVar 98 ⟨b, 0, none⟩).run Try.prog w = .ok (.agg (cellsU l).toArray) w := by
  have hl : (loadCells ⟨b, 0, none⟩ (cellsU l).length).run Try.prog w = .ok (cellsU l).toArray w :=
    run_loadCells_list (P := Try.prog) w ⟨b, 0, none⟩ (cellsU l) (fun j v hv => by
      have hj : j < 256 := by
        have := (List.getElem?_eq_some_iff.1 hv).1
        rw [cellsU_len, h.len] at this
        exact this
      have hadd : (⟨b, 0, none⟩ : Addr).add j = ⟨b, j, none⟩ := by unfold Addr.add; split <;> simp_all
      rw [cellsU_get l j (by rw [h.len]; exact hj)] at hv
      rw [hadd, h.byte hj]
      exact hv)
  rw [cellsU_len, h.len] at hl
  cases hq : Try.prog.info? 98 with
  | none => have := size31; simp [hq] at this
  | some i =>
    have hs : i.size = 256 := by have := size31; simpa [hq] using this
    have hagg : (isAgg 98).run Try.prog w = .ok true w := by
      unfold isAgg
      rw [Sem.run_bind, run_underlying Try.underlying98 w]
      rfl
    simp [loadVar, Sem.run_bind, hagg, sizeOf, typeInfo, hq, hs, hl]
theorem fold_set (k : Nat) : ∀ (xs : List Value) (pre mid post : List Value), pre.length = k → mid.length = xs.length →
    ((xs.zipIdx k).foldl (fun cs (c, j) => Array.setIfInBounds cs (0 + j) c) (pre ++ mid ++ post).toArray) = (pre ++ xs ++ post).toArray := by
  intro xs
  induction xs generalizing k with
  | nil => intro pre mid post h1 h2; simp at h2; subst h2; simp
  | cons x xs ih =>
    intro pre mid post h1 h2
    cases mid with
    | nil => simp at h2
    | cons m mid =>
      simp only [List.zipIdx_cons, List.foldl_cons]
      have e : (pre ++ (m :: mid) ++ post).toArray.setIfInBounds (0 + k) x = ((pre ++ [x]) ++ mid ++ post).toArray := by
        subst h1
        rw [Nat.zero_add, List.setIfInBounds_toArray, List.append_assoc, List.set_append_right _ _ (Nat.le_refl _)]
        simp
      rw [e, ih (k + 1) (pre ++ [x]) mid post (by simp [h1]) (by simpa using h2)]
      simp
theorem pcells_size (l : List UInt8) (h : l.length = 256) (p n : Int) : (pcells l p n).size = 258 := by
  rw [pcells, List.size_toArray, List.length_append, cellsU_len, h]
  rfl
theorem fill51 (l : List UInt8) (h : l.length = 256) (p : Int) : Instr.fill (#[(0, 256), (256, 1), (257, 1)][·]?) (pcells zeros 0 0) [(0, .agg (cellsU l).toArray), (1, .int .i64 p)] = some (pcells l p 0) := by
  have hc : (Value.agg (cellsU l).toArray).cells = (cellsU l).toArray := rfl
  have hs : (cellsU l).toArray.size = 256 := by rw [List.size_toArray, cellsU_len, h]
  have hz := pcells_size zeros zeros_len 0 0
  have hp : (#[(0, 256), (256, 1), (257, 1)] : Array (Nat × Nat))[0]? = some (0, 256) := rfl
  have hp1 : (#[(0, 256), (256, 1), (257, 1)] : Array (Nat × Nat))[1]? = some (256, 1) := rfl
  have hf : (cellsU l).toArray.zipIdx.foldl (fun cs (c, j) => cs.setIfInBounds (0 + j) c) (pcells zeros 0 0) = pcells l 0 0 := by
    have e := fold_set 0 (cellsU l) [] (cellsU zeros) [Value.int .i64 0, Value.int .i64 0] rfl (by rw [cellsU_len, cellsU_len, h, zeros_len])
    rw [List.nil_append, List.nil_append] at e
    rw [Array.zipIdx_toArray, List.foldl_toArray]
    exact e
  rw [Instr.fill, hp]
  simp only [hc, hs, hz, hf]
  rw [if_neg (by decide), Instr.fill, hp1]
  have hz2 := pcells_size l h 0 0
  have hs2 : (Value.int .i64 p).cells.size = 1 := rfl
  simp only [hs2, hz2]
  rw [if_neg (by decide), Instr.fill]
  congr 1
  show (pcells l 0 0).setIfInBounds (256 + 0) (.int .i64 p) = pcells l p 0
  rw [pcells, pcells, List.setIfInBounds_toArray, List.set_append_right _ _ (by rw [cellsU_len, h]; omega), cellsU_len, h]
  rfl
theorem build51_run (parts : Array (Nat × Value)) (cells : Array Value) (w : World) (h : Instr.fill (#[(0, 256), (256, 1), (257, 1)][·]?) (pcells zeros 0 0) parts.toList = some cells) : (Instr.build 109 parts).run Try.prog w = .ok (.agg cells) w := by
  have hz : (zeroValue 109).run Try.prog w = .ok (.agg (pcells zeros 0 0)) w := by kernel_rfl
  unfold Instr.build
  simp only [Sem.run_bind, hz, Result.andThen_ok, run_underlying Try.underlying109]
  refine (congrArg (fun r => Result.andThen r _) (?hm : _ = Result.ok (#[(0, 256), (256, 1), (257, 1)] : Array (Nat × Nat)) w)).trans ?_
  case hm => kernel_rfl
  have hc : (Value.agg (pcells zeros 0 0)).cells = pcells zeros 0 0 := rfl
  simp only [Result.andThen_ok]
  rw [hc, h]
  rfl
theorem build51_copy (l : List UInt8) (h : l.length = 256) (p : Int) (w : World) : (Instr.build 109 #[(0, .agg (cellsU l).toArray), (1, .int .i64 p)]).run Try.prog w = .ok (.agg (pcells l p 0)) w :=
  build51_run _ _ w (fill51 l h p)
end Go.Proofs.Ytpknppicamefgaa
