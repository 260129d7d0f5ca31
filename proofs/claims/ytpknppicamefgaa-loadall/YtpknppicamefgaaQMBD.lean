/- No memory at all, twice: the same. -/
import Derived.Test.YtpknppicamefgaaQMBC
import Derived.Test.YtpknppicamefgaaQMAX
import Derived.Test.YtpknppicamefgaaQMAK
import Derived.Handy
namespace Go.Proofs.Ytpknppicamefgaa
open Go.ChangeShapes Go.WideShapes Go.ChangeAt Go.RowKit
set_option linter.unusedVariables false
theorem sameMem_nil (w : World) : Calls Try.prog 12 #[.pointer none, .pointer none] w fun e w' => e = .returned (.bool true) ∧ Below w.heap.size w w' := by
  go_enter Try.func12, Try.ntmps12
  go_wp2
  go_ret
  exact ⟨rfl, Below.refl _ _⟩
end Go.Proofs.Ytpknppicamefgaa
namespace Go.Proofs.Ytpknppicamefgaa
open Go.ChangeShapes Go.WideShapes Go.ChangeAt Go.RowKit
set_option linter.unusedVariables false
theorem run_eqRb (w : World) : (binOp .eql 29 (.agg (stR 2147479536).toArray) (.agg (stR 2147479536).toArray)).run Try.prog w = .ok (.bool true) w := by kernel_rfl
theorem wpList_eqRb {ops : Array Oper} {rest : List Oper} {o : Oper} {a : Act} {w : World} {Q : Exit → Act → World → Prop} (hgd : o.guard = none) (x y : Operand) (ho : o.op = .binOp .eql 29 x y 29)
    (hx : a.eval x = .agg (stR 2147479536).toArray) (hy : a.eval y = .agg (stR 2147479536).toArray)
    (h : wpList Try.prog ops Q rest (a.put o.dst (.bool true)) w) : wpList Try.prog ops Q (o :: rest) a w := by
  refine Great.wpList_runTo hgd o.dst rfl (.bool true) w ?_ h
  have he : (eqGuard .eql 29 x y (.agg (stR 2147479536).toArray) (.agg (stR 2147479536).toArray)).run Try.prog w = .ok () w := by kernel_rfl
  unfold execOp
  simp only [ho, hx, hy, Sem.run_bind, he, run_eqRb, Result.andThen_ok, Sem.run_pure]
set_option maxRecDepth 20000 in
set_option maxHeartbeats 1000000 in
theorem sameState_begun (w : World) (pc nx : Int) : Calls Try.prog 11 #[.agg (stC 2147479536 pc nx), .agg (stC 2147479536 pc nx)] w fun e w' => e = .returned (.bool true) ∧ Below w.heap.size w w' := by
  obtain ⟨n, hn⟩ : ∃ n, w.heap.size = n := ⟨_, rfl⟩
  obtain ⟨W, hW⟩ : ∃ W, (w.alloc (.cells (stC 2147479536 pc nx) 31)).alloc (.cells (stC 2147479536 pc nx) 31) = W := ⟨_, rfl⟩
  have k1 : Blk W n (stC 2147479536 pc nx) 31 := by rw [← hW, ← hn]; exact (heap_alloc_old _ _ (by simp)).trans (Blk.new w _ _)
  have k2 : Blk W (n + 1) (stC 2147479536 pc nx) 31 := by
    have := Blk.new (w.alloc (.cells (stC 2147479536 pc nx) 31)) (stC 2147479536 pc nx) 31
    rw [World.size_alloc, hn] at this
    rw [← hW]; exact this
  have hB : Below n w W := by rw [← hW, ← hn]; exact ((Below.refl _ w).alloc (Nat.le_refl _) _).alloc (by simp) _
  have c32 : W.cell? ⟨n, 32, none⟩ = some (.int .u32 0) := k1.cell rfl
  have c33 : W.cell? ⟨n, 33, none⟩ = some (.int .u32 0) := k1.cell rfl
  have c34 : W.cell? ⟨n, 34, none⟩ = some (.int .u32 pc) := k1.cell rfl
  have c35 : W.cell? ⟨n, 35, none⟩ = some (.int .u32 nx) := k1.cell rfl
  have c36 : W.cell? ⟨n, 36, none⟩ = some (.bool false) := k1.cell rfl
  have d32 : W.cell? ⟨n + 1, 32, none⟩ = some (.int .u32 0) := k2.cell rfl
  have d33 : W.cell? ⟨n + 1, 33, none⟩ = some (.int .u32 0) := k2.cell rfl
  have d34 : W.cell? ⟨n + 1, 34, none⟩ = some (.int .u32 pc) := k2.cell rfl
  have d35 : W.cell? ⟨n + 1, 35, none⟩ = some (.int .u32 nx) := k2.cell rfl
  have d36 : W.cell? ⟨n + 1, 36, none⟩ = some (.bool false) := k2.cell rfl
  have K1 := hidden k1
  have K2 := hidden k2
  have HB := hidden hB
  have T1 : Hid True := trivial
  clear k1 k2 hB
  go_enter Try.func11, Try.ntmps11
  go_wp2_with (first
    | (clear T1; refine wpList_loadR rfl _ rfl n 2147479536 pc nx rfl (Hid.out K1) ?_)
    | (refine wpList_loadR rfl _ rfl (n + 1) 2147479536 pc nx rfl (Hid.out K2) ?_)
    | (refine wpList_eqRb rfl _ _ rfl rfl rfl ?_))
  go_ret
  exact ⟨rfl, by rw [hn]; exact Hid.out HB⟩
end Go.Proofs.Ytpknppicamefgaa
namespace Go.Proofs.Ytpknppicamefgaa
open Go.ChangeShapes Go.WideShapes Go.ChangeAt Go.RowKit
set_option linter.unusedVariables false
def word4 (x0 x1 x2 x3 : Int) : Int := ((x0 * 256 + x1) * 256 + x2) * 256 + x3
theorem zero_byte : (0 : Int) ≤ 0 ∧ (0 : Int) ≤ 255 := by omega
theorem or_byte (y x : Int) (h1 : 0 ≤ y) (hx : 0 ≤ x ∧ x ≤ 255) : bits .or .u32 (y * 256 % 4294967296) x = y * 256 % 4294967296 + x := by
  obtain ⟨n, rfl⟩ := Int.eq_ofNat_of_zero_le h1
  obtain ⟨m, rfl⟩ := Int.eq_ofNat_of_zero_le hx.1
  have e : ((n : Int) * 256 % 4294967296) = ((2 ^ 8 * (n % 16777216) : Nat) : Int) := by omega
  rw [e, u32_or_nat _ _ (by omega) (by omega), ← Nat.two_pow_add_eq_or_of_lt (by omega)]
  omega
theorem or_zero (x : Int) (hx : 0 ≤ x ∧ x ≤ 255) : bits .or .u32 0 x = x := by
  have := or_byte 0 x (by omega) hx
  simpa using this
theorem word_or (x0 x1 x2 x3 : Int) (b0 : 0 ≤ x0 ∧ x0 ≤ 255) (b1 : 0 ≤ x1 ∧ x1 ≤ 255) (b2 : 0 ≤ x2 ∧ x2 ≤ 255) (b3 : 0 ≤ x3 ∧ x3 ≤ 255) :
    bits .or .u32 (bits .or .u32 (bits .or .u32 (bits .or .u32 0 x0 * 256 % 4294967296) x1 * 256 % 4294967296) x2 * 256 % 4294967296) x3 = word4 x0 x1 x2 x3 := by
  rw [or_zero x0 b0, or_byte x0 x1 b0.1 b1, or_byte _ x2 (by omega) b2, or_byte _ x3 (by omega) b3]
  unfold word4
  omega
theorem ix0 (u0 u1 u2 u3 : Value) (w : World) : (Instr.index 112 (.agg #[u0, u1, u2, u3]) (.int .i64 0)).run Try.prog w = .ok u0 w := by kernel_rfl
theorem ix1 (u0 u1 u2 u3 : Value) (w : World) : (Instr.index 112 (.agg #[u0, u1, u2, u3]) (.int .i64 1)).run Try.prog w = .ok u1 w := by kernel_rfl
theorem ix2 (u0 u1 u2 u3 : Value) (w : World) : (Instr.index 112 (.agg #[u0, u1, u2, u3]) (.int .i64 2)).run Try.prog w = .ok u2 w := by kernel_rfl
theorem ix3 (u0 u1 u2 u3 : Value) (w : World) : (Instr.index 112 (.agg #[u0, u1, u2, u3]) (.int .i64 3)).run Try.prog w = .ok u3 w := by kernel_rfl
end Go.Proofs.Ytpknppicamefgaa
