/- What PagePlays reads: calls, one behind the other; texts of bytes. -/
import Derived.Test.YtikjobjcpldhkaaRefParts
import Derived.Test.YtikjobjcpldhkaaKeeps
import Derived.Test.YtikjobjcpldhkaaCopyWalk
namespace Go.Proofs.Ytikjobjcpldhkaa
open Go.ChangeShapes Go.WideShapes Go.ChangeAt Go.RowKit
set_option linter.unusedVariables false
/-- A call: its kind, its place, its number, its byte. -/
structure Op4 where
  kd : Int
  at_ : Int
  n : Int
  v : UInt8
/-- A call in memory of its own. -/
structure Ob (w : World) (b : Nat) (o : Op4) : Prop where
  blk : w.heap[b]? = some (.cells #[.int .i64 o.kd, .int .i64 o.at_, .int .i64 o.n, .int .u8 (o.v.toNat : Int)] 28 (0, 0))
theorem Ob.lt {w : World} {b : Nat} {o : Op4} (h : Ob w b o) : b < w.heap.size := (Array.getElem?_eq_some_iff.1 h.blk).1
theorem Ob.later {w w' : World} {b : Nat} {o : Op4} (h : Ob w b o) (hb : Below w.heap.size w w') : Ob w' b o := ⟨(hb.block b h.lt).trans h.blk⟩
theorem Ob.only {w w' : World} {b c : Nat} {o : Op4} (h : Ob w b o) (hb : Only c w w') (hne : b ≠ c) : Ob w' b o := ⟨(hb.block b hne).trans h.blk⟩
theorem Ob.at1 {w : World} {b : Nat} {o : Op4} (h : Ob w b o) : w.cell? ⟨b, 1, none⟩ = some (.int .i64 o.at_) := by rw [cell_of_row _ _ _ _ _ _ h.blk]; rfl
theorem Ob.at2 {w : World} {b : Nat} {o : Op4} (h : Ob w b o) : w.cell? ⟨b, 2, none⟩ = some (.int .i64 o.n) := by rw [cell_of_row _ _ _ _ _ _ h.blk]; rfl
theorem Ob.at3 {w : World} {b : Nat} {o : Op4} (h : Ob w b o) : w.cell? ⟨b, 3, none⟩ = some (.int .u8 (o.v.toNat : Int)) := by rw [cell_of_row _ _ _ _ _ _ h.blk]; rfl
theorem cntB_bd (c i : Int) : c ≤ cntB c i ∧ cntB c i ≤ c + 1 := by unfold cntB; split <;> omega
/-- The calls lie where a slice of them begins. -/
def Ops (w : World) (ao : Option Addr) (os : Nat → Op4) (n : Nat) : Prop :=
  n = 0 ∨ ∃ b off, ao = some ⟨b, off, none⟩ ∧ b < w.heap.size ∧ ∀ j, j < n → w.cell? ⟨b, off + j * 4, none⟩ = some (.int .i64 (os j).kd) ∧ w.cell? ⟨b, off + j * 4 + 1, none⟩ = some (.int .i64 (os j).at_) ∧ w.cell? ⟨b, off + j * 4 + 2, none⟩ = some (.int .i64 (os j).n) ∧ w.cell? ⟨b, off + j * 4 + 3, none⟩ = some (.int .u8 ((os j).v.toNat : Int))
section
variable {ρ : Operand → Value} {o : Oper}
theorem exec_str {x : Operand} {a : Option Addr} {c : Nat} (L : List UInt8) (hop : o.op = .convert 38 9 x) (hx : ρ x = .slice a L.length c) (w : World) (h : Lies w a L) : (execOp ρ o).run Try.prog w = .ok (.value (.string ⟨L.toArray⟩)) w := by
  unfold execOp
  rw [hop]
  have := run_str w a L c h
  simp [hx, this, go_sem]
theorem exec_neqS {x y : Operand} (A : ByteArray) (hop : o.op = .binOp .neq 9 x y 9) (hx : ρ x = .string A) (hy : ρ y = .string A) (w : World) : (execOp ρ o).run Try.prog w = .ok (.value (.bool false)) w := by
  unfold execOp
  rw [hop]
  simp [hx, hy, go_sem]
theorem exec_eqlS {x y : Operand} (A : ByteArray) (hop : o.op = .binOp .eql 9 x y 9) (hx : ρ x = .string A) (hy : ρ y = .string A) (w : World) : (execOp ρ o).run Try.prog w = .ok (.value (.bool true)) w := by
  unfold execOp
  rw [hop]
  simp [hx, hy, go_sem]
end
end Go.Proofs.Ytikjobjcpldhkaa
