/- The plain laws that BitsDivides asks of quotients and of what is left. -/
import Derived.Test.YtlheilpaafjeiaaPMulLaws
namespace Go.Proofs.Ytlheilpaafjeiaa
open Go.RowKit
set_option linter.unusedVariables false
theorem quoT_range (a b : Int) : 0 ≤ quoT a b ∧ quoT a b < 4294967296 := by unfold quoT; omega
theorem remT_range (a b : Int) : 0 ≤ remT a b ∧ remT a b < 4294967296 := by unfold remT; omega
theorem quo_range (a b : Int) (h1 : 0 ≤ a) (h2 : a < 4294967296) (h3 : 0 < b) : 0 ≤ a / b ∧ a / b < 4294967296 := by
  exact ⟨Int.ediv_nonneg h1 (by omega), Int.lt_of_le_of_lt (Int.ediv_le_self _ h1) h2⟩
theorem div_f1 (a b : Int) (h1 : 0 ≤ a) (h2 : a < 4294967296) : (mulLo (a / b) b + a % b) % 4294967296 = a := by
  rw [lo_mod]
  have e : a / b * b + a % b = a := by rw [Int.mul_comm]; exact Int.mul_ediv_add_emod a b
  generalize a / b * b = p at *
  generalize a % b = r at *
  omega
theorem wrap32_mod (q : Int) : wrap32 q % 4294967296 = q % 4294967296 := by unfold wrap32; omega
theorem sg_quoT (a b : Int) : sg (quoT a b) % 4294967296 = ((sg a).tdiv (sg b)) % 4294967296 := by
  rw [sg_mod]; unfold quoT; rw [Int.emod_emod_of_dvd _ (Int.dvd_refl _), wrap32_mod]
theorem div_f2 (a b : Int) (h1 : 0 ≤ a) (h2 : a < 4294967296) : (mulLo (sg (quoT a b)) (sg b) + remT a b) % 4294967296 = a := by
  rw [lo_mod, Int.mul_emod, sg_quoT, ← Int.mul_emod]
  unfold remT
  have e : (sg a).tdiv (sg b) * sg b + (sg a).tmod (sg b) = sg a := by rw [Int.mul_comm]; exact Int.mul_tdiv_add_tmod (sg a) (sg b)
  have e2 := sg_mod a
  generalize (sg a).tdiv (sg b) * sg b = p at *
  generalize (sg a).tmod (sg b) = r at *
  omega
theorem tmod_pos (x y : Int) (h : 0 < y) : -y < x.tmod y ∧ x.tmod y < y := tmod_range x y h
theorem tmod_neg_range (x y : Int) (h : y < 0) : y < x.tmod y ∧ x.tmod y < -y := by
  have := tmod_range x (-y) (by omega)
  rw [Int.tmod_neg] at this
  omega
theorem tmod_sign (x y : Int) : (0 ≤ x → 0 ≤ x.tmod y) ∧ (x ≤ 0 → x.tmod y ≤ 0) := by
  refine ⟨fun h => Int.tmod_nonneg _ h, fun h => ?_⟩
  have := Int.tmod_nonneg (a := -x) y (by omega)
  rw [Int.neg_tmod] at this
  omega
/-- What is left, with its sign: nearer to 0 than the divisor, with the sign of the number. -/
theorem left_cases (a b : Int) (h1 : 0 ≤ a) (h2 : a < 4294967296) (h3 : 0 < b) (h4 : b < 4294967296) :
    ∃ X, wrap32 (remT a b) = X ∧ wrap64 X = X ∧ wrap64 (-X) = -X ∧
      ((remT a b = 0 ∧ X = 0 ∧ 0 < sg b) ∨ (remT a b = 0 ∧ X = 0 ∧ sg b < 0) ∨
       (remT a b ≠ 0 ∧ 0 < X ∧ 0 ≤ sg a ∧ X < sg b) ∨ (remT a b ≠ 0 ∧ 0 < X ∧ 0 ≤ sg a ∧ X < -sg b) ∨
       (remT a b ≠ 0 ∧ X < 0 ∧ sg a < 0 ∧ -X < sg b) ∨ (remT a b ≠ 0 ∧ X < 0 ∧ sg a < 0 ∧ -X < -sg b)) := by
  have rb := sg_range (v := b) (by omega) h4
  have nb : sg b ≠ 0 := by unfold sg; split <;> omega
  have s := tmod_sign (sg a) (sg b)
  have p := tmod_pos (sg a) (sg b)
  have q := tmod_neg_range (sg a) (sg b)
  refine ⟨(sg a).tmod (sg b), ?_⟩
  unfold remT
  generalize (sg a).tmod (sg b) = R at *
  generalize sg b = y at *
  generalize sg a = x at *
  have hR : -2147483648 < R ∧ R < 2147483648 := by
    by_cases h : 0 < y
    · have := p h; omega
    · have := q (by omega); omega
  refine ⟨by unfold wrap32; omega, by unfold wrap64; omega, by unfold wrap64; omega, ?_⟩
  by_cases h : 0 < y
  · have hp := p h
    by_cases hx : 0 ≤ x
    · have := s.1 hx; omega
    · have := s.2 (by omega); omega
  · have hp := q (by omega)
    by_cases hx : 0 ≤ x
    · have := s.1 hx; omega
    · have := s.2 (by omega); omega
theorem wrap64_neg_sg {v : Int} (h0 : 0 ≤ v) (h1 : v < 4294967296) : wrap64 (-sg v) = -sg v := by
  have := sg_range h0 h1
  unfold wrap64; omega
end Go.Proofs.Ytlheilpaafjeiaa
