/- The plain laws by which the own answer of chapter 1 gives the same numbers. -/
import Derived.Test.YtlheilpaafjeiaaPDivLaws
namespace Go.Proofs.Ytlheilpaafjeiaa
open Go.RowKit
set_option linter.unusedVariables false
theorem refAdd_eq (a b : Int) (h1 : 0 ≤ a) (h2 : a < 4294967296) (h3 : 0 ≤ b) (h4 : b < 4294967296) :
    (!decide (-2147483648 ≤ sg a + sg b) || !decide (sg a + sg b < 2147483648)) = addOv a b := by
  unfold addOv top sg add32
  by_cases x : 2147483648 ≤ a <;> by_cases y : 2147483648 ≤ b <;> by_cases z : 2147483648 ≤ (a + b) % 4294967296 <;> simp [x, y, z] <;> omega
theorem refSub_eq (a b : Int) (h1 : 0 ≤ a) (h2 : a < 4294967296) (h3 : 0 ≤ b) (h4 : b < 4294967296) :
    (!decide (-2147483648 ≤ sg a - sg b) || !decide (sg a - sg b < 2147483648)) = subOv a b := by
  unfold subOv top sg sub32
  by_cases x : 2147483648 ≤ a <;> by_cases y : 2147483648 ≤ b <;> by_cases z : 2147483648 ≤ (a - b) % 4294967296 <;> simp [x, y, z] <;> omega
theorem refQuo_eq (a b : Int) (h1 : 0 ≤ a) (h2 : a < 4294967296) (h3 : 0 < b) (h4 : b < 4294967296) : wrap64 ((sg a).tdiv (sg b)) % 4294967296 = quoT a b := by
  unfold quoT
  rw [wrap32_mod]
  unfold wrap64
  omega
theorem fieldCore (a : Int) (k m : Nat) (h1 : 0 ≤ a) (h2 : a < 4294967296) (hm : m ≤ 32) :
    bits .and .u64 (a / 2 ^ k) (IntKind.u64.wrap (IntKind.u64.wrap (2 ^ m) - 1)) % 4294967296 = a / 2 ^ k % 2 ^ m := by
  have hx := div_pow_range k h1 h2
  generalize a / 2 ^ k = x at *
  obtain ⟨y, rfl⟩ := Int.eq_ofNat_of_zero_le hx.1
  have hp := pow_le32 hm
  have hq := pow_cast m
  have e : IntKind.u64.wrap (IntKind.u64.wrap (2 ^ m) - 1) = ((2 ^ m - 1 : Nat) : Int) := by
    rw [IntKind.wrap_u64, IntKind.wrap_u64]
    omega
  have hp' : 2 ^ m - 1 < 18446744073709551616 := by omega
  rw [e, u64_and_nat y (2 ^ m - 1) (by omega) hp', Nat.and_two_pow_sub_one_eq_mod, ← pow_cast]
  have := Nat.mod_le y (2 ^ m)
  rw [← Int.natCast_emod]
  omega
theorem fieldFin (a x L : Int) (k m : Nat) (h1 : 0 ≤ a) (h2 : a < 4294967296) (hm : m ≤ 32) (hx : x = a / 2 ^ k) (hL : L = 2 ^ m - 1) :
    bits .and .u64 x L % 4294967296 = a / 2 ^ k % 2 ^ m := by
  have e : IntKind.u64.wrap (IntKind.u64.wrap (2 ^ m) - 1) = 2 ^ m - 1 := by
    have hp := pow_le32 hm
    rw [IntKind.wrap_u64, IntKind.wrap_u64]
    omega
  rw [hx, hL, ← e]
  exact fieldCore a k m h1 h2 hm
theorem maskW (m : Nat) (hm : m ≤ 32) : IntKind.u64.wrap (IntKind.u64.wrap (2 ^ m) - 1) = 2 ^ m - 1 := by
  have hp := pow_le32 hm
  rw [IntKind.wrap_u64, IntKind.wrap_u64]
  omega
theorem mask1 : IntKind.u64.wrap (IntKind.u64.wrap 2 - 1) = 2 ^ 1 - 1 := maskW 1 (by omega)
theorem mask32 : IntKind.u64.wrap (IntKind.u64.wrap 4294967296 - 1) = 2 ^ 32 - 1 := maskW 32 (by omega)
theorem mask0 : IntKind.u64.wrap (IntKind.u64.wrap 1 - 1) = 2 ^ 0 - 1 := maskW 0 (by omega)
theorem mask00 : (0 : Int) = 2 ^ 0 - 1 := by decide
theorem over0 (a : Int) : a = a / 2 ^ 0 := by simp
theorem over31 (a : Int) : a / 2147483648 = a / 2 ^ 31 := by simp
theorem zeros_end (a : Int) (k : Nat) (hk : k = 32) (hq : a / 2 ^ (32 - k) = 0) : (k : Int) = zeros32 a := by
  subst hk
  simp at hq
  subst hq
  decide
theorem zeros_at (a : Int) (k : Nat) (h1 : 0 ≤ a) (h2 : a < 4294967296) (hk : k < 32) (hq : a / 2 ^ (32 - k) = 0) (hb : ¬ a / 2 ^ (31 - k) = 0) : (k : Int) = zeros32 a := by
  obtain ⟨y, rfl⟩ := Int.eq_ofNat_of_zero_le h1
  have e1 := len_shift (y : Int) (31 - k) h1 hb
  have p1 : (0 : Int) < 2 ^ (31 - k) := Int.pow_pos (by omega)
  have hx : 0 ≤ (y : Int) / 2 ^ (31 - k) := Int.ediv_nonneg h1 (by omega)
  have e2 : (y : Int) / 2 ^ (31 - k) / 2 = 0 := by
    rw [Int.ediv_ediv_of_nonneg (by omega), show (2 : Int) ^ (31 - k) * 2 = 2 ^ (32 - k) by rw [← Int.pow_succ]; congr 1; omega]
    exact hq
  have e3 : (y : Int) / 2 ^ (31 - k) = 1 := by omega
  rw [e3] at e1
  have e4 : bitLen (1 : Int).toNat = 1 := by decide
  unfold zeros32
  omega
end Go.Proofs.Ytlheilpaafjeiaa
