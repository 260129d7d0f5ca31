/- Bytes in memory: that they lie where a slice begins, what stays of that, what append makes of them, and as texts. -/
import Derived.Test.YtpknppicamefgaaPEBits
import Derived.WalkKit
import Derived.ProofKit
import Derived.OpenShut
import Derived.Handy
import Derived.Laws.BitsAllLaws
import Derived.Laws.ShiftsVarLaws
import Derived.Laws.IdiomStrings
namespace Go.Proofs.Ytpknppicamefgaa
open Go.ChangeShapes Go.WideShapes Go.ChangeAt Go.RowKit
set_option linter.unusedVariables false
/-- One byte put behind a row of the call's own: the byte lies in a block of its own first. -/
theorem wpList_push {ops : Array Oper} {rest : List Oper} {o : Oper} {a : Act} {Q : Exit → Act → World → Prop} {w : World} {x : Value} (hgd : o.guard = none) (s y : Operand)
    (ho : o.op = .call { callee := .builtin .append, args := #[s, y], argTypes := #[51, 51] }) (base : Nat) (v : Value) (l : List UInt8) (z : UInt8) (hs : a.eval s = v) (hy : a.eval y = .slice (some ⟨w.heap.size, 0, none⟩) 1 1)
    (hown : w.ownsRow base 5 1 v l.length (cellsU l)) (hx : x = .int .u8 (z.toNat : Int)) (hl : l.length < 1000) (hbase : base ≤ w.heap.size)
    (h : ∀ v' w', w'.ownsRow base 5 1 v' (l ++ [z]).length (cellsU (l ++ [z])) → Below base w w' → wpList Try.prog ops Q rest (a.put o.dst v') w') : wpList Try.prog ops Q (o :: rest) a (w.alloc (.cells #[x] 5)) := by
  obtain ⟨i0, hi, hz0, hz1, hz2⟩ := info_parts info5
  subst hx
  refine wpList_append_own _ hgd s y 51 ho base 5 i0 (.int .u8 0) 1 1 Try.underlying51 hi hz0 hz1 hz2 rfl (by decide) v l.length (cellsU l) hs (hown.alloc _) ⟨w.heap.size, 0, none⟩ 1 1 (cellsU [z]) hy rfl ?_ (cellsU_one _) (by simp [maxLen]; omega) (by omega) (by simp; omega) ?_
  · refine Lies.cells (fun j hj => ?_)
    have : j = 0 := by simp at hj; omega
    subst this
    rw [cell_of_row _ _ _ _ _ _ (heap_alloc_new w _)]
    rfl
  · intro v' w' hown' hgrow _
    rw [← cellsU_append] at hown'
    refine h v' w' (by simpa using hown') ?_
    refine ((Below.refl base w).alloc hbase _).grown hgrow (by simp; omega) ?_
    intro k hk
    exact (hown.lt k hk).1
/-- Bytes put behind bytes whose room is cut off: nothing that was there is written. -/
theorem run_behind (w : World) (ao bo : Option Addr) (c : Nat) (l m : List UInt8) (hl : Row w ao l l.length) (hm : Lies w bo m) (hsum : l.length + m.length ≤ 140737488355328) :
    ∃ ao' cap' w', (Builtin.append_ #[51, 51] 51 #[.slice ao l.length l.length, .slice bo m.length c]).run Try.prog w = .ok (.slice ao' (l.length + m.length) cap') w' ∧ Row w' ao' (l ++ m) cap' ∧ Below w.heap.size w w' := by
  obtain ⟨i0, hi, hz0, hz1, hz2⟩ := info_parts info5
  by_cases hm0 : m = []
  · subst hm0
    refine ⟨ao, l.length, w, ?_, by simpa using hl, Below.refl _ _⟩
    cases ao with
    | none =>
      have h0 := hl.nil rfl
      cases bo <;> simp [Builtin.append_, run_underlying Try.underlying51, sizeOf, typeInfo, hi, Builtin.lenOf, Builtin.firstCells, loadCells, loadCellsFrom, h0]
    | some a =>
      cases bo <;> simp [Builtin.append_, run_underlying Try.underlying51, sizeOf, typeInfo, hi, Builtin.lenOf, Builtin.firstCells, loadCells, loadCellsFrom, storeCells]
  · obtain ⟨b2, off2, rfl, hc2⟩ : ∃ b off, bo = some ⟨b, off, none⟩ ∧ ∀ j, j < m.length → w.cell? ⟨b, off + j, none⟩ = some (.int .u8 ((m.getD j 0).toNat : Int)) := by
      rcases hm with h | h
      · exact absurd h hm0
      · exact h
    have hpos : 0 < m.length := by cases m <;> simp_all
    have hrow : ∀ (C : Nat), l.length + m.length ≤ C → C ≤ maxLen → ∀ zs : Array Value, Row (w.drew.alloc (.cells ((cellsU l ++ cellsU m).toArray ++ zs) 5)) (some ⟨w.heap.size, 0, none⟩) (l ++ m) C := by
      intro C h1 h2 zs
      refine ⟨by simpa using h1, h2, by simp, .inr ⟨w.heap.size, 0, rfl, fun j hj => ?_⟩⟩
      refine (World.cell?_alloc_mark w.drew _ 5 (0, 0) (0 + j)).trans ?_
      rw [Nat.zero_add, ← cellsU_append, Array.getElem?_append_left (by rw [List.size_toArray, cellsU_len]; exact hj), List.getElem?_toArray]
      exact cellsU_get _ _ hj
    have hbel : ∀ o, Below w.heap.size w (w.drew.alloc o) := fun o => (Below.refl _ _).drew.alloc (by simp) o
    cases ao with
    | none =>
      have h0 := hl.nil rfl
      have hl0 : l = [] := List.eq_nil_of_length_eq_zero h0
      subst hl0
      have hr := run_append_nil (P := Try.prog) w 51 51 5 i0 (.int .u8 0) Try.underlying51 hi hz0 ⟨b2, off2, none⟩ m.length c (cellsU m) (by rw [cellsU_len, hz1, Nat.mul_one]) (Lies.cells hc2) hpos (by omega) (by rw [hz2]; omega)
      refine ⟨_, _, _, by simpa using hr, ?_, hbel _⟩
      have := hrow (grownCap w m.length 0 5) (by simpa using grownCap_ge w m.length 0 5) (grownCap_le_maxLen w _ _ _ (by simp only [maxLen]; omega))
      simpa [cellsU] using this _
    | some a =>
      have holds : ∀ j u, (cellsU l)[j]? = some u → w.cell? (a.add j) = some u := by
        rcases hl.lies with rfl | ⟨b, off, ha, hc⟩
        · intro j u hu; simp [cellsU] at hu
        · cases ha; exact Lies.cells hc
      have hr := run_append_grow (P := Try.prog) w 51 51 5 i0 (.int .u8 0) Try.underlying51 hi hz0 a l.length l.length (cellsU l) (by rw [cellsU_len, hz1, Nat.mul_one]) holds ⟨b2, off2, none⟩ m.length c (cellsU m) (by rw [cellsU_len, hz1, Nat.mul_one]) (Lies.cells hc2) (by omega) (by omega) (growslice_fits (by omega) (by rw [hz2]; omega))
      refine ⟨_, _, _, hr, ?_, hbel _⟩
      have := hrow (grownCap w (l.length + m.length) l.length 5) (grownCap_ge w _ _ 5) (grownCap_le_maxLen w _ _ _ (by simp only [maxLen]; omega)) (Builtin.zeroCells (Value.int IntKind.u8 0).cells (grownCap w (l.length + m.length) l.length 5 - (l.length + m.length)))
      have e : (cellsU l ++ cellsU m).toArray = (cellsU l).toArray ++ (cellsU m).toArray := by simp
      rw [e] at this
      exact this
theorem wpList_append_run {P : Program} {w : World} {ops : Array Oper} {rest : List Oper} {o : Oper} {a : Act} {Q : Exit → Act → World → Prop} (hgd : o.guard = none) (s x : Operand) (t tx : TypeId)
    (ho : o.op = .call { callee := .builtin .append, args := #[s, x], argTypes := #[t, tx] }) {vs vx v' : Value} {w' : World} (hs : a.eval s = vs) (hx : a.eval x = vx)
    (hr : (Builtin.append_ #[t, tx] o.type #[vs, vx]).run P w = .ok v' w') (h : wpList P ops Q rest (a.put o.dst v') w') : wpList P ops Q (o :: rest) a w :=
  wpList_plain hgd fun _ hK => by
    unfold Oper.wp execOp
    simp only [ho, resolve, invoke, builtin, Sem.run_bind, Sem.run_pure, Result.andThen_ok, List.map_toArray, List.map_cons, List.map_nil, hs, hx, hr]
    exact hK _ _ h
theorem run_bytes (w : World) (t : List UInt8) : ∃ g c w2, (convert 9 51 (.string ⟨t.toArray⟩)).run Try.prog w = .ok (.slice (some ⟨g, 0, none⟩) t.length c) w2 ∧ Lies w2 (some ⟨g, 0, none⟩) t ∧ Below w.heap.size w w2 := by
  have h := run_bytes_of_string (P := Try.prog) w 9 51 5 ⟨t.toArray⟩ Try.underlying9 Try.underlying51 Try.underlying5
  refine ⟨_, _, _, h, .inr ⟨w.heap.size, 0, rfl, fun j hj => ?_⟩, (Below.refl _ _).drew.alloc (by simp) _⟩
  refine (World.cell?_alloc_mark w.drew _ 5 _ (0 + j)).trans ?_
  rw [Nat.zero_add]
  unfold bytesRow
  rw [Array.getElem?_append_left (by simpa using hj)]
  simp [List.getD_eq_getElem?_getD, List.getElem?_eq_getElem hj]
end Go.Proofs.Ytpknppicamefgaa
