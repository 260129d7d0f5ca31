/- What the small calls of package page, and of chapter 4's own answer, do to a page. -/
import Derived.Test.YtpknppicamefgaaBase
namespace Go.Proofs.Ytpknppicamefgaa
open Go.ChangeShapes Go.WideShapes Go.ChangeAt Go.RowKit
set_option linter.unusedVariables false
theorem build51 (x : Int) (w : World) : (Instr.build 109 #[(1, .int .i64 x)]).run Try.prog w = .ok (.agg (pcells zeros x 0)) w := by kernel_rfl
theorem wpList_build {P : Program} {w : World} {ops : Array Oper} {rest : List Oper} {o : Oper} {a : Act} {Q : Exit → Act → World → Prop} (hgd : o.guard = none) (t : TypeId) (parts : Array (Nat × Operand))
    (ho : o.op = .build t parts) {ps : Array (Nat × Value)} {v : Value} (hp : (parts.map fun (i, x) => (i, a.eval x)) = ps)
    (hr : (Instr.build t ps).run P w = .ok v w) (h : wpList P ops Q rest (a.put o.dst v) w) : wpList P ops Q (o :: rest) a w :=
  wpList_plain hgd fun _ hK => by
    unfold Oper.wp execOp
    simp only [ho, hp, Sem.run_bind, Sem.run_pure, Result.andThen_ok, hr]
    exact hK _ _ h
theorem there_yes (i : Int) (w : World) (h0 : 0 ≤ i) (h1 : i < 256) : Calls Try.prog 69 #[.int .i64 i] w fun e w' => e = .returned (.bool true) ∧ w' = w := by
  go_enter Try.func69, Try.ntmps69
  go_wp2
  go_ret
  exact ⟨rfl, rfl⟩
theorem there_no (i : Int) (w : World) (h : ¬ (0 ≤ i ∧ i < 256)) : Calls Try.prog 69 #[.int .i64 i] w fun e w' => e = .returned (.bool false) ∧ w' = w := by
  by_cases h0 : 0 ≤ i
  · have h1 : ¬ i < 256 := by omega
    clear h
    go_enter Try.func69, Try.ntmps69
    go_wp2
    go_ret
    exact ⟨rfl, rfl⟩
  · clear h
    have h0' : decide (0 ≤ i) = false := by simpa using h0
    go_enter Try.func69, Try.ntmps69
    go_wp2
    go_ret
    exact ⟨rfl, rfl⟩
set_option maxRecDepth 20000 in
theorem new_any (p : Int) (w : World) : Calls Try.prog 80 #[.int .i64 p] w fun e w' => e = .returned (.pointer (some ⟨w.heap.size, 0, none⟩)) ∧ w' = w.alloc (.cells (pcells zeros (p % 8) 0) 109) := by
  have ha := and7
  go_enter Try.func80, Try.ntmps80
  go_wp2_with (refine wpList_build rfl 109 _ rfl (ps := #[(1, .int .i64 (p % 8))]) ?_ (build51 _ _) ?_; simp [Act.eval])
  go_ret
  exact ⟨rfl, rfl⟩
theorem perm_any (w : World) (b : Nat) (l : List UInt8) (p n : Int) (h : Pg 109 w b l p n) : Calls Try.prog 46 #[.pointer (some ⟨b, 0, none⟩)] w fun e w' => e = .returned (.int .i64 p) ∧ w' = w := by
  have hc := h.perm
  go_enter Try.func46, Try.ntmps46
  go_wp2
  go_ret
  exact ⟨rfl, rfl⟩
theorem setPerm_any (w : World) (b : Nat) (l : List UInt8) (p n q : Int) (h : Pg 109 w b l p n) : Calls Try.prog 77 #[.pointer (some ⟨b, 0, none⟩), .int .i64 q] w fun e w' => e = .returned (.tuple #[]) ∧ w' = w.setCell ⟨b, 256, none⟩ (.int .i64 (q % 8)) := by
  have hc := h.perm
  have hz := h.thaw 256
  have ha := and7
  go_enter Try.func77, Try.ntmps77
  go_wp2
  go_end0
  exact ⟨rfl, rfl⟩
theorem load_any (w : World) (b : Nat) (n : Int) (hc : w.cell? ⟨b, 257, none⟩ = some (.int .i64 n)) : Calls Try.prog 78 #[.pointer (some ⟨b, 257, none⟩)] w fun e w' => e = .returned (.int .i64 n) ∧ w' = w := by
  have hl := run_call_load (P := Try.prog) Try.func87 (by kernel_rfl) (by kernel_rfl) (by kernel_rfl) .i64 (by kernel_rfl) hc
  go_enter Try.func78, Try.ntmps78
  go_wp2
  go_ret
  exact ⟨rfl, rfl⟩
theorem add_any (w : World) (b : Nat) (n : Int) (h0 : 0 ≤ n) (h1 : n < 9223372036854775807) (hc : w.cell? ⟨b, 257, none⟩ = some (.int .i64 n)) (hz : w.frozen? ⟨b, 257, none⟩ = false) : Calls Try.prog 88 #[.pointer (some ⟨b, 257, none⟩), .int .i64 1] w fun e w' => e = .returned (.int .i64 (n + 1)) ∧ w' = w.setCell ⟨b, 257, none⟩ (.int .i64 (n + 1)) := by
  have hl := run_call_add (P := Try.prog) Try.func100 (by kernel_rfl) (by kernel_rfl) (by kernel_rfl) .i64 (by kernel_rfl) (y := 1) (s := n + 1) hc hz (by simp [go_sem, IntKind.wrap_i64]; omega)
  go_enter Try.func88, Try.ntmps88
  go_wp2
  go_ret
  exact ⟨rfl, rfl⟩
end Go.Proofs.Ytpknppicamefgaa
