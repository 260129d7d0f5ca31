/- What layer 9 reckons, as plain functions. -/
import Derived.Test.YtobnocioefchlaaPMAQ
namespace Go.Proofs.Ytobnocioefchlaa
open Go.ChangeShapes Go.WideShapes Go.ChangeAt Go.RowKit
set_option linter.unusedVariables false
def norV (s t : Int) : Int := 4294967295 - bits .or .u32 s t
/-- What layer 9 reckons: the number, and whether there is one. -/
def reck (op s t A m : Int) : Int × Bool :=
  if op = 1 then (add32 s t, true) else
  if op = 2 then (sub32 s t, true) else
  if op = 3 then (bits .and .u32 s t, true) else
  if op = 4 then (bits .or .u32 s t, true) else
  if op = 5 then (bits .xor .u32 s t, true) else
  if op = 6 then (norV s t, true) else
  if op = 7 then (oneI (lt32 s t), true) else
  if op = 8 then (oneI (decide (s < t)), true) else
  if op = 9 then (add32 s t, true) else
  if op = 10 then (sub32 s t, true) else
  if op = 11 then (shl32 t s, true) else
  if op = 12 then (shr32 t s, true) else
  if op = 13 then (sar32 t s, true) else
  if op = 16 then (shl32 t A, true) else
  if op = 17 then (shr32 t A, true) else
  if op = 18 then (sar32 t A, true) else
  if op = 37 then (mulLo s t, true) else
  if op = 38 then (zeros32 s, true) else
  if op = 39 then (zeros32 (4294967295 - s), true) else
  if op = 40 then (add32 s m, true) else
  if op = 41 then (add32 s m, true) else
  if op = 42 then (oneI (lt32 s m), true) else
  if op = 43 then (oneI (decide (s < m)), true) else
  if op = 44 then (bits .and .u32 s m, true) else
  if op = 45 then (bits .or .u32 s m, true) else
  if op = 46 then (bits .xor .u32 s m, true) else
  if op = 47 then (m * 65536 % 4294967296, true) else
  (0, false)
theorem u32_or_range (a b : Int) (h1 : 0 ≤ a) (h2 : a < 4294967296) (h3 : 0 ≤ b) (h4 : b < 4294967296) : 0 ≤ bits .or .u32 a b ∧ bits .or .u32 a b < 4294967296 := by
  rw [u32_or a b h1 h2 h3 h4]
  have hx : a.toNat ||| b.toNat < 2 ^ 32 := Nat.or_lt_two_pow (by omega) (by omega)
  omega
theorem norV_range (a b : Int) (h1 : 0 ≤ a) (h2 : a < 4294967296) (h3 : 0 ≤ b) (h4 : b < 4294967296) : 0 ≤ norV a b ∧ norV a b < 4294967296 := by
  have := u32_or_range a b h1 h2 h3 h4
  unfold norV; omega
theorem shl32_m (t A : Int) : shl32 t (A % 4294967296) = shl32 t A := by
  unfold shl32; rw [show A % 4294967296 % 32 = A % 32 by omega]
theorem shr32_m (t A : Int) : shr32 t (A % 4294967296) = shr32 t A := by
  unfold shr32; rw [show A % 4294967296 % 32 = A % 32 by omega]
theorem sar32_m (t A : Int) : sar32 t (A % 4294967296) = sar32 t A := by
  unfold sar32; rw [show A % 4294967296 % 32 = A % 32 by omega]
theorem shl32_s (t A : Int) : shl32 t (A % 32) = shl32 t A := by
  unfold shl32; rw [show A % 32 % 32 = A % 32 by omega]
theorem shr32_s (t A : Int) : shr32 t (A % 32) = shr32 t A := by
  unfold shr32; rw [show A % 32 % 32 = A % 32 by omega]
theorem sar32_s (t A : Int) : sar32 t (A % 32) = sar32 t A := by
  unfold sar32; rw [show A % 32 % 32 = A % 32 by omega]
theorem and31i (n : Int) : bits .and .i64 n 31 = n % 32 := by
  have h7 : (BitVec.ofInt 64 31).toNat = 2 ^ 5 - 1 := by decide
  have key : (BitVec.ofInt 64 n &&& BitVec.ofInt 64 31).toNat = (n % ((2 ^ 64 : Nat) : Int)).toNat % 2 ^ 5 := by
    rw [BitVec.toNat_and, BitVec.toNat_ofInt, h7, Nat.and_two_pow_sub_one_eq_mod]
  show IntKind.i64.wrap ((BitVec.ofInt 64 n &&& BitVec.ofInt 64 31).toNat : Nat) = n % 32
  rw [key, IntKind.wrap_i64]
  omega
end Go.Proofs.Ytobnocioefchlaa
