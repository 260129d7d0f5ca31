/- What Word answers where all four bytes are there; the own Word of chapter 1 answers the same. -/
import Derived.Test.YtjpmagekianpdaaRowy
import Derived.Handy
namespace Go.Proofs.Ytjpmagekianpdaa
open Go.ChangeShapes Go.WideShapes Go.ChangeAt Go.RowKit
set_option linter.unusedVariables false
def word4 (x0 x1 x2 x3 : Int) : Int := ((x0 * 256 + x1) * 256 + x2) * 256 + x3
theorem zero_byte : (0 : Int) ≤ 0 ∧ (0 : Int) ≤ 255 := by omega
theorem or_byte (y x : Int) (h1 : 0 ≤ y) (hx : 0 ≤ x ∧ x ≤ 255) : bits .or .u32 (y * 256 % 4294967296) x = y * 256 % 4294967296 + x := by
  obtain ⟨n, rfl⟩ := Int.eq_ofNat_of_zero_le h1
  obtain ⟨m, rfl⟩ := Int.eq_ofNat_of_zero_le hx.1
  have e : ((n : Int) * 256 % 4294967296) = ((2 ^ 8 * (n % 16777216) : Nat) : Int) := by omega
  rw [e, u32_or_nat _ _ (by omega) (by omega), ← Nat.two_pow_add_eq_or_of_lt (by omega)]
  omega
theorem or_zero (x : Int) (hx : 0 ≤ x ∧ x ≤ 255) : bits .or .u32 0 x = x := by
  have := or_byte 0 x (by omega) hx
  simpa using this
theorem word_or (x0 x1 x2 x3 : Int) (b0 : 0 ≤ x0 ∧ x0 ≤ 255) (b1 : 0 ≤ x1 ∧ x1 ≤ 255) (b2 : 0 ≤ x2 ∧ x2 ≤ 255) (b3 : 0 ≤ x3 ∧ x3 ≤ 255) :
    bits .or .u32 (bits .or .u32 (bits .or .u32 (bits .or .u32 0 x0 * 256 % 4294967296) x1 * 256 % 4294967296) x2 * 256 % 4294967296) x3 = word4 x0 x1 x2 x3 := by
  rw [or_zero x0 b0, or_byte x0 x1 b0.1 b1, or_byte _ x2 (by omega) b2, or_byte _ x3 (by omega) b3]
  unfold word4
  omega
theorem ix0 (u0 u1 u2 u3 : Value) (w : World) : (Instr.index 64 (.agg #[u0, u1, u2, u3]) (.int .i64 0)).run Try.prog w = .ok u0 w := by kernel_rfl
theorem ix1 (u0 u1 u2 u3 : Value) (w : World) : (Instr.index 64 (.agg #[u0, u1, u2, u3]) (.int .i64 1)).run Try.prog w = .ok u1 w := by kernel_rfl
theorem ix2 (u0 u1 u2 u3 : Value) (w : World) : (Instr.index 64 (.agg #[u0, u1, u2, u3]) (.int .i64 2)).run Try.prog w = .ok u2 w := by kernel_rfl
theorem ix3 (u0 u1 u2 u3 : Value) (w : World) : (Instr.index 64 (.agg #[u0, u1, u2, u3]) (.int .i64 3)).run Try.prog w = .ok u3 w := by kernel_rfl
set_option maxHeartbeats 2000000 in
theorem word_E4 (b off : Nat) (len cap : Nat) (p : Int) (w : World) (hl : len ≤ 140737488351232) (hlow : -9223372036854775808 ≤ p) (hb : b < w.heap.size) (h0 : 0 ≤ p) (h1 : p + 3 < len) (x0 : Int) (b0 : 0 ≤ x0 ∧ x0 ≤ 255) (c0 : w.cell? ⟨b, off + p.toNat, none⟩ = some (.int .u8 x0)) (x1 : Int) (b1 : 0 ≤ x1 ∧ x1 ≤ 255) (c1 : w.cell? ⟨b, off + (p + 1).toNat, none⟩ = some (.int .u8 x1)) (x2 : Int) (b2 : 0 ≤ x2 ∧ x2 ≤ 255) (c2 : w.cell? ⟨b, off + (p + 2).toNat, none⟩ = some (.int .u8 x2)) (x3 : Int) (b3 : 0 ≤ x3 ∧ x3 ≤ 255) (c3 : w.cell? ⟨b, off + (p + 3).toNat, none⟩ = some (.int .u8 x3)) :
    Calls Try.prog 23 #[.slice (some ⟨b, off, none⟩) len cap, .int .i64 p] w fun e w' => e = .returned (.int .u32 (word4 x0 x1 x2 x3)) ∧ w' = w.alloc (.cells #[.int .u8 (x0), .int .u8 (x1), .int .u8 (x2), .int .u8 (x3)] 64) := by
  have i0 := ix0
  have i1 := ix1
  have i2 := ix2
  have i3 := ix3
  go_enter Try.func23, Try.ntmps23
  go_wp2
  go_rounds 5
  go_rounds 5
  go_ret
  exact ⟨ret_int (word_or x0 x1 x2 x3 b0 b1 b2 b3), rfl⟩
set_option maxHeartbeats 2000000 in
theorem rword_E4 (b off : Nat) (len cap : Nat) (p : Int) (w : World) (hl : len ≤ 140737488351232) (hlow : -9223372036854775808 ≤ p) (hb : b < w.heap.size) (h0 : 0 ≤ p) (h1 : p + 3 < len) (x0 : Int) (b0 : 0 ≤ x0 ∧ x0 ≤ 255) (c0 : w.cell? ⟨b, off + p.toNat, none⟩ = some (.int .u8 x0)) (x1 : Int) (b1 : 0 ≤ x1 ∧ x1 ≤ 255) (c1 : w.cell? ⟨b, off + (p + 1).toNat, none⟩ = some (.int .u8 x1)) (x2 : Int) (b2 : 0 ≤ x2 ∧ x2 ≤ 255) (c2 : w.cell? ⟨b, off + (p + 2).toNat, none⟩ = some (.int .u8 x2)) (x3 : Int) (b3 : 0 ≤ x3 ∧ x3 ≤ 255) (c3 : w.cell? ⟨b, off + (p + 3).toNat, none⟩ = some (.int .u8 x3)) :
    Calls Try.prog 25 #[.slice (some ⟨b, off, none⟩) len cap, .int .i64 p] w fun e w' => e = .returned (.int .u32 (word4 x0 x1 x2 x3)) ∧ w' = w := by
  go_enter Try.func25, Try.ntmps25
  go_wp2
  go_rounds 5
  go_ret
  exact ⟨ret_int (by unfold word4; omega), rfl⟩
end Go.Proofs.Ytjpmagekianpdaa
