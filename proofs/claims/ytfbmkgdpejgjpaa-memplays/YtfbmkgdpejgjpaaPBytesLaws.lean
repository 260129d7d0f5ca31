/- What MemBytes makes ahead of its memory. -/
import Derived.Test.YtfbmkgdpejgjpaaPOnePart
import Derived.Test.YtfbmkgdpejgjpaaPMF
import Derived.Deep.AppendSrc
namespace Go.Proofs.Ytfbmkgdpejgjpaa
open Go.ChangeShapes Go.WideShapes Go.ChangeAt Go.RowKit
set_option linter.unusedVariables false
theorem append0 (w : World) (bo : Option Addr) (l : List UInt8) (cap : Nat) (ty : TypeId) (hl : Row w bo l cap) (hlen : l.length ≤ 400) :
    ∃ ao' cap' w2, (Builtin.append_ #[45, 45] ty #[.slice (some ⟨w.heap.size, 0, none⟩) 1 1, .slice bo l.length cap]).run Try.prog (w.alloc (.cells #[.int .u8 0] 5)) = .ok (.slice ao' (0 :: l).length cap') w2 ∧ Row w2 ao' (0 :: l) cap' ∧ Below w.heap.size w w2 := by
  obtain ⟨i0, hi, hz0, hz1, hz2⟩ := info_parts info5
  have hb1 : Below w.heap.size w (w.alloc (.cells #[.int .u8 0] 5)) := (Below.refl _ w).alloc (Nat.le_refl _) _
  have hown : (w.alloc (.cells #[.int .u8 0] 5)).ownsRow w.heap.size 5 1 (.slice (some ⟨w.heap.size, 0, none⟩) 1 1) 1 (cellsU [0]) :=
    ⟨rfl, .inr ⟨w.heap.size, 1, _, rfl, Nat.le_refl _, heap_alloc_new w _, Nat.le_refl _, by unfold maxLen; omega, rfl, rfl⟩⟩
  cases bo with
  | none =>
    have h0 := hl.nil rfl
    have h1 := hl.len
    obtain rfl : l = [] := List.eq_nil_of_length_eq_zero (by omega)
    subst h0
    have := run_append_room_src (P := Try.prog) (w.alloc (.cells #[.int .u8 0] 5)) 45 45 ty 5 i0 Try.underlying45 hi w.heap.size 0 1 1 (.slice none 0 0) 0 [] (Src.ofNil _ Try.underlying45 0) (by omega) (by simp) (by simp)
    refine ⟨_, _, _, this, ?_, ?_⟩
    · exact (lies_of_own (l := [0]) rfl hown)
    · exact hb1
  | some ad =>
    have hc : ∀ j u, (cellsU l)[j]? = some u → (w.alloc (.cells #[.int .u8 0] 5)).cell? (ad.add j) = some u := by
      rcases (hl.later hb1).lies with h | ⟨b, off, e, h⟩
      · intro j u hu
        rw [h] at hu
        simp [cellsU] at hu
      · simp only [Option.some.injEq] at e
        subst e
        exact Lies.cells h
    obtain ⟨v', w', hr, ho, hgr, _, _⟩ := run_append_own_at (P := Try.prog) (w.alloc (.cells #[.int .u8 0] 5)) w.heap.size 45 ty 5 i0 (.int .u8 0) 1 1 Try.underlying45 hi hz0 hz1 hz2 rfl (by decide) _ _ _ hown ad l.length cap (cellsU l) (by rw [cellsU_len, Nat.mul_one]) hc (cellsU_one l) (by unfold maxLen; omega) (by omega) (by simp)
    rw [← cellsU_append] at ho
    obtain ⟨ao, cap', rfl, hrow⟩ := row_of_own (l := 0 :: l) (by simp; omega) ho
    refine ⟨ao, cap', w', by rw [hr]; simp [Nat.add_comm], hrow, hb1.grown hgr hb1.size fun g hg => ?_⟩
    simp [Value.ownBlock] at hg
    omega
theorem build57 (x : Int) (ao : Option Addr) (n c : Nat) (w : World) : (Instr.build 57 #[(0, .int .u32 x), (1, .slice ao n c), (2, .int .i64 6)]).run Try.prog w = .ok (.agg #[.int .u32 x, .slice ao n c, .int .i64 6, .bool false]) w := by kernel_rfl
/-- The one part, as it lies there. -/
theorem piece_one (w : World) (fr : Nat) (hfr : fr < 256) (ao : Option Addr) (l : List UInt8) (cap : Nat) (hr : Row w ao l cap) : Pieces (w.alloc (.cells #[.int .u32 (fr : Int), .slice ao l.length cap, .int .i64 6, .bool false] 57)) (some ⟨w.heap.size, 0, none⟩) [⟨fr, l, 6, false, ao, cap⟩] := by
  have hb := heap_alloc_new w (.cells #[.int .u32 (fr : Int), .slice ao l.length cap, .int .i64 6, .bool false] 57)
  refine .inr ⟨w.heap.size, 0, rfl, (Array.getElem?_eq_some_iff.1 hb).1, fun j hj => ?_⟩
  obtain rfl : j = 0 := by simpa using hj
  refine ⟨?_, ?_, ?_, ?_, hr.later ((Below.refl _ w).alloc (Nat.le_refl _) _), by show fr < _; omega⟩
  · rw [cell_of_row _ _ _ _ _ _ hb]; rfl
  · rw [cell_of_row _ _ _ _ _ _ hb]; rfl
  · rw [cell_of_row _ _ _ _ _ _ hb]; rfl
  · rw [cell_of_row _ _ _ _ _ _ hb]; rfl
theorem exec_add1 {ρ : Operand → Value} {o : Oper} {x : Operand} {fr : Nat} (hop : o.op = .binOp .add 27 x (.const (.int .u32 1)) 27) (hx : ρ x = .int .u32 (fr : Int) ∧ ρ (.const (.int .u32 1)) = .int .u32 1) (hfr : fr < 256) (w : World) : (execOp ρ o).run Try.prog w = .ok (.value (.int .u32 ((fr : Int) + 1))) w := by
  have e : ((fr : Int) + 1) % 4294967296 = (fr : Int) + 1 := by omega
  unfold execOp
  rw [hop]
  simp [hx.1, hx.2, go_sem, IntKind.wrap_u32, e]
theorem exec_str {ρ : Operand → Value} {o : Oper} {x : Operand} {a : Option Addr} {c : Nat} (L : List UInt8) (hop : o.op = .convert 45 9 x) (hx : ρ x = .slice a L.length c) (w : World) (h : Lies w a L) : (execOp ρ o).run Try.prog w = .ok (.value (.string ⟨L.toArray⟩)) w := by
  unfold execOp
  rw [hop]
  have := run_str w a L c h
  simp [hx, this, go_sem]
theorem exec_neqS {ρ : Operand → Value} {o : Oper} {x y : Operand} (A : ByteArray) (hop : o.op = .binOp .neq 9 x y 9) (hx : ρ x = .string A) (hy : ρ y = .string A) (w : World) : (execOp ρ o).run Try.prog w = .ok (.value (.bool false)) w := by
  unfold execOp
  rw [hop]
  simp [hx, hy, go_sem]
theorem wpList_append_run {P : Program} {w : World} {ops : Array Oper} {rest : List Oper} {o : Oper} {a : Act} {Q : Exit → Act → World → Prop} (hgd : o.guard = none) (s x : Operand) (t tx : TypeId)
    (ho : o.op = .call { callee := .builtin .append, args := #[s, x], argTypes := #[t, tx] }) {vs vx v' : Value} {w' : World} (hs : a.eval s = vs) (hx : a.eval x = vx)
    (hr : (Builtin.append_ #[t, tx] o.type #[vs, vx]).run P w = .ok v' w') (h : wpList P ops Q rest (a.put o.dst v') w') : wpList P ops Q (o :: rest) a w :=
  wpList_plain hgd fun _ hK => by
    unfold Oper.wp execOp
    simp only [ho, resolve, invoke, builtin, Sem.run_bind, Sem.run_pure, Result.andThen_ok, List.map_toArray, List.map_cons, List.map_nil, hs, hx, hr]
    exact hK _ _ h
end Go.Proofs.Ytfbmkgdpejgjpaa
