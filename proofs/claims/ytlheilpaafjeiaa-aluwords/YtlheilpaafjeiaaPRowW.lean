/- Fields of a word, and rows. -/
import Derived.Test.YtlheilpaafjeiaaPTabA
namespace Go.Proofs.Ytlheilpaafjeiaa
open Go.ChangeShapes Go.WideShapes Go.ChangeAt Go.RowKit
set_option linter.unusedVariables false
theorem field32_range (v a n : Int) (h1 : 0 ≤ v) (h2 : v < 4294967296) : 0 ≤ field32 v a n ∧ field32 v a n < 4294967296 := by
  unfold field32
  have hx := div_pow_range (clip a 0 31).toNat h1 h2
  have hp : (0 : Int) < 2 ^ (clip n 0 (32 - clip a 0 31)).toNat := Int.pow_pos (by omega)
  have h3 := Int.emod_nonneg (v / 2 ^ (clip a 0 31).toNat) (Int.ne_of_gt hp)
  have h4 : v / 2 ^ (clip a 0 31).toNat % 2 ^ (clip n 0 (32 - clip a 0 31)).toNat ≤ v / 2 ^ (clip a 0 31).toNat := by
    obtain ⟨y, hy⟩ := Int.eq_ofNat_of_zero_le hx.1
    obtain ⟨q, hq⟩ := Int.eq_ofNat_of_zero_le (Int.le_of_lt hp)
    rw [hy, hq, ← Int.natCast_emod]
    exact Int.ofNat_le.2 (Nat.mod_le y q)
  omega
theorem fldW (v a n : Int) (h1 : 0 ≤ v) (h2 : v < 4294967296) (w : World) : Calls Try.prog 49 #[.int .u32 v, .int .i64 a, .int .i64 n] w fun e w' => (∃ x : Int, e = .returned (.int .u32 x) ∧ 0 ≤ x ∧ x < 4294967296) ∧ w' = w :=
  (refField_any v a n h1 h2 w).mono fun e w' ⟨he, hw⟩ => ⟨⟨_, he, (field32_range v a n h1 h2).1, (field32_range v a n h1 h2).2⟩, hw⟩
theorem sextW (v n : Int) (h1 : 0 ≤ v) (h2 : v < 4294967296) (w : World) : Calls Try.prog 50 #[.int .u32 v, .int .i64 n] w fun e w' => (∃ x : Int, e = .returned (.int .u32 x) ∧ 0 ≤ x ∧ x < 4294967296) ∧ w' = w :=
  (refSext_any v n h1 h2 w).mono fun e w' ⟨he, hw⟩ => ⟨⟨_, he, (sext32_range v n).1, (sext32_range v n).2⟩, hw⟩
theorem u32i64 (x : Int) (h0 : 0 ≤ x) (h1 : x < 4294967296) : wrap64 x = x := by unfold wrap64; omega
abbrev rwC (op f o n : Int) (nm : ByteArray) : Array Value := #[.int .i64 op, .int .u8 f, .int .i64 o, .int .i64 n, .string nm]
end Go.Proofs.Ytlheilpaafjeiaa
