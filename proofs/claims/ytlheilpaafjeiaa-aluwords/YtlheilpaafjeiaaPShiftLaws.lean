/- The plain laws that BitsShifts asks of shifts. -/
import Derived.Test.YtlheilpaafjeiaaPSumLaws
namespace Go.Proofs.Ytlheilpaafjeiaa
open Go.RowKit
set_option linter.unusedVariables false
theorem or_low (x J : Nat) : x ||| (2 ^ J - 1) = x / 2 ^ J * 2 ^ J + (2 ^ J - 1) := by
  apply Nat.eq_of_testBit_eq
  intro i
  have hp := Nat.two_pow_pos J
  rw [Nat.testBit_or, Nat.testBit_two_pow_sub_one, Nat.mul_comm, Nat.testBit_two_pow_mul_add _ (by omega)]
  split
  · rename_i h; simp [h, Nat.testBit_two_pow_sub_one]
  · rename_i h
    simp only [h, decide_false, Bool.or_false]
    rw [Nat.testBit_div_two_pow]
    congr 1
    omega
theorem low_and (x : Int) (J : Nat) (hJ : J ≤ 32) (h1 : 0 ≤ x) (h2 : x < 4294967296) : bits .and .u32 x ((2 ^ J - 1) % 4294967296) = x % 2 ^ J := by
  obtain ⟨y, rfl⟩ := Int.eq_ofNat_of_zero_le h1
  have hp := pow_le32 hJ
  have e : ((2 : Int) ^ J - 1) % 4294967296 = ((2 ^ J - 1 : Nat) : Int) := by
    rw [Int.emod_eq_of_lt (by omega) (by omega), ← pow_cast]
    have := Nat.two_pow_pos J
    omega
  have hp' : 2 ^ J - 1 < 4294967296 := by
    have := pow_cast J
    omega
  rw [e, u32_and_nat y (2 ^ J - 1) (by omega) hp', Nat.and_two_pow_sub_one_eq_mod, ← pow_cast]
  simp
theorem low_or (x : Int) (J : Nat) (hJ : J ≤ 32) (h1 : 0 ≤ x) (h2 : x < 4294967296) : bits .or .u32 x ((2 ^ J - 1) % 4294967296) = x / 2 ^ J * 2 ^ J + (2 ^ J - 1) := by
  obtain ⟨y, rfl⟩ := Int.eq_ofNat_of_zero_le h1
  have hp := pow_le32 hJ
  have hq := Nat.two_pow_pos J
  have e : ((2 : Int) ^ J - 1) % 4294967296 = ((2 ^ J - 1 : Nat) : Int) := by
    rw [Int.emod_eq_of_lt (by omega) (by omega), ← pow_cast]
    omega
  have hp' : 2 ^ J - 1 < 4294967296 := by
    have := pow_cast J
    omega
  rw [e, u32_or_nat y (2 ^ J - 1) (by omega) hp', or_low]
  rw [← pow_cast, Int.natCast_add, Int.natCast_mul, Int.natCast_ediv, Int.natCast_sub (by omega)]
  simp
theorem cases32 {K : Int} (h0 : 0 ≤ K) (h1 : K < 32) : K = 0 ∨ K = 1 ∨ K = 2 ∨ K = 3 ∨ K = 4 ∨ K = 5 ∨ K = 6 ∨ K = 7 ∨ K = 8 ∨ K = 9 ∨ K = 10 ∨ K = 11 ∨ K = 12 ∨ K = 13 ∨ K = 14 ∨ K = 15 ∨ K = 16 ∨ K = 17 ∨ K = 18 ∨ K = 19 ∨ K = 20 ∨ K = 21 ∨ K = 22 ∨ K = 23 ∨ K = 24 ∨ K = 25 ∨ K = 26 ∨ K = 27 ∨ K = 28 ∨ K = 29 ∨ K = 30 ∨ K = 31 := by omega
theorem up_down (v K : Int) (h1 : 0 ≤ v) (h2 : v < 4294967296) (h3 : 0 ≤ K) (h4 : K < 32) : v * 2 ^ K.toNat % 4294967296 / 2 ^ K.toNat = v % 2 ^ (32 - K).toNat := by
  rcases cases32 h3 h4 with h|h|h|h|h|h|h|h|h|h|h|h|h|h|h|h|h|h|h|h|h|h|h|h|h|h|h|h|h|h|h|h <;> subst h <;> simp <;> omega
theorem sar_low (v K : Int) (h1 : 0 ≤ v) (h2 : v < 4294967296) (h3 : 0 ≤ K) (h4 : K < 32) : sg v / 2 ^ K.toNat % 4294967296 % 2 ^ (32 - K).toNat = v / 2 ^ K.toNat % 2 ^ (32 - K).toNat := by
  have e : sg v = v ∨ sg v = v - 4294967296 := by unfold sg; split <;> omega
  generalize sg v = s at e
  rcases cases32 h3 h4 with h|h|h|h|h|h|h|h|h|h|h|h|h|h|h|h|h|h|h|h|h|h|h|h|h|h|h|h|h|h|h|h <;> subst h <;> simp <;> omega
theorem sar_high (v K : Int) (h1 : 2147483648 ≤ v) (h2 : v < 4294967296) (h3 : 0 ≤ K) (h4 : K < 32) : sg v / 2 ^ K.toNat % 4294967296 / 2 ^ (32 - K).toNat * 2 ^ (32 - K).toNat + (2 ^ (32 - K).toNat - 1) = 4294967295 := by
  have e : sg v = v - 4294967296 := by unfold sg; split <;> omega
  rw [e]
  rcases cases32 h3 h4 with h|h|h|h|h|h|h|h|h|h|h|h|h|h|h|h|h|h|h|h|h|h|h|h|h|h|h|h|h|h|h|h <;> subst h <;> simp <;> omega
def lowOf (n : Int) : Int := (2 ^ (32 - n % 32).toNat - 1) % 4294967296
theorem lowOf_zero (n : Int) (h : n % 32 = 0) : lowOf n = 4294967295 := by unfold lowOf; rw [h]; decide
theorem shifts1 (v n : Int) (h1 : 0 ≤ v) (h2 : v < 4294967296) (h3 : 0 ≤ n) (h4 : n < 4294967296) : shr32 (shl32 v n) n = bits .and .u32 v (lowOf n) := by
  unfold lowOf
  rw [low_and v _ (by omega) h1 h2]
  unfold shr32 shl32
  exact up_down v (n % 32) h1 h2 (by omega) (by omega)
theorem shifts2 (v n : Int) (h3 : 0 ≤ n) (h4 : n < 4294967296) : shl32 v ((n + 32) % 4294967296) = shl32 v n := by
  unfold shl32
  have : (n + 32) % 4294967296 % 32 = n % 32 := by omega
  rw [this]
theorem shifts3 (v n : Int) : shr32 v (n % 32) = shr32 v n := by
  unfold shr32
  have : n % 32 % 32 = n % 32 := by omega
  rw [this]
theorem shifts4 (v n : Int) (h1 : 0 ≤ v) (h2 : v < 4294967296) : bits .and .u32 (sar32 v n) (lowOf n) = bits .and .u32 (shr32 v n) (lowOf n) := by
  have a := sar32_range v n
  have b := shr32_range n h1 h2
  unfold lowOf
  rw [low_and _ _ (by omega) a.1 a.2, low_and _ _ (by omega) b.1 b.2]
  exact sar_low v (n % 32) h1 h2 (by omega) (by omega)
theorem shifts5 (v n : Int) (h1 : 0 ≤ v) (h2 : v < 2147483648) : sar32 v n = shr32 v n := by
  have b := shr32_range n h1 (by omega)
  have e : sg v = v := by unfold sg; split <;> omega
  unfold sar32 shr32 at *
  rw [e, Int.emod_eq_of_lt b.1 b.2]
theorem shifts6 (v n : Int) (h1 : 2147483648 ≤ v) (h2 : v < 4294967296) : bits .or .u32 (sar32 v n) (lowOf n) = 4294967295 := by
  have a := sar32_range v n
  unfold lowOf
  rw [low_or _ _ (by omega) a.1 a.2]
  exact sar_high v (n % 32) h1 h2 (by omega) (by omega)
end Go.Proofs.Ytlheilpaafjeiaa
