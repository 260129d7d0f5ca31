/- The plain laws that BitsFields asks of fields and signs. -/
import Derived.Test.YtocajlafdmfamaaShiftLaws
namespace Go.Proofs.Ytocajlafdmfamaa
open Go.RowKit
set_option linter.unusedVariables false
theorem clip_in {v lo hi : Int} (h1 : lo ≤ v) (h2 : v ≤ hi) : clip v lo hi = v := by unfold clip; split <;> (try split) <;> omega
theorem field_low (w K : Int) (h1 : 0 ≤ K) (h2 : K ≤ 32) : field32 w 0 K = w % 2 ^ K.toNat := by
  unfold field32
  rw [clip_in (v := 0) (lo := 0) (hi := 31) (by omega) (by omega), clip_in h1 (by omega)]
  simp
theorem field_high (w K : Int) (h1 : 0 ≤ K) (h2 : K ≤ 31) : field32 w K (32 - K) = w / 2 ^ K.toNat % 2 ^ (32 - K).toNat := by
  unfold field32
  rw [clip_in (v := K) (lo := 0) (hi := 31) (by omega) (by omega), clip_in (by omega) (by omega)]
theorem field_range (w a n : Int) (h1 : 0 ≤ w) (h2 : w < 4294967296) : 0 ≤ field32 w a n ∧ field32 w a n < 4294967296 := by
  have h := div_pow_range (clip a 0 31).toNat h1 h2
  unfold field32
  generalize w / 2 ^ (clip a 0 31).toNat = x at *
  have hp : (0 : Int) < 2 ^ (clip n 0 (32 - clip a 0 31)).toNat := Int.pow_pos (by omega)
  obtain ⟨y, rfl⟩ := Int.eq_ofNat_of_zero_le h.1
  refine ⟨Int.emod_nonneg _ (by omega), ?_⟩
  rw [← pow_cast, ← Int.natCast_emod]
  have := Nat.mod_le y (2 ^ (clip n 0 (32 - clip a 0 31)).toNat)
  omega
theorem fields1 (w K : Int) (h1 : 0 ≤ w) (h2 : w < 4294967296) (h3 : 1 ≤ K) (h4 : K ≤ 31) :
    (field32 w 0 K + field32 w K (32 - K) * 2 ^ K.toNat % 4294967296) % 4294967296 = w := by
  rw [field_low w K (by omega) (by omega), field_high w K (by omega) h4]
  rcases cases32 (K := K) (by omega) (by omega) with h|h|h|h|h|h|h|h|h|h|h|h|h|h|h|h|h|h|h|h|h|h|h|h|h|h|h|h|h|h|h|h <;> subst h <;> simp <;> omega
theorem sext_in (w M : Int) (h1 : 1 ≤ M) (h2 : M ≤ 32) : sext32 w M = sg (w * 2 ^ (32 - M).toNat % 4294967296) / 2 ^ (32 - M).toNat % 4294967296 := by
  unfold sext32; rw [clip_in h1 h2]
theorem sext_mod (w M : Int) (h1 : 0 ≤ w) (h2 : w < 4294967296) (h3 : 1 ≤ M) (h4 : M ≤ 32) : sext32 w M % 2 ^ M.toNat = w % 2 ^ M.toNat := by
  rw [sext_in w M h3 h4]
  have hx : 0 ≤ 32 - M ∧ 32 - M < 32 := by omega
  obtain ⟨J, rfl⟩ : ∃ J, M = 32 - J := ⟨32 - M, by omega⟩
  have e : (32 : Int) - (32 - J) = J := by omega
  rw [e] at *
  have hs : ∀ v : Int, sg v = v ∨ sg v = v - 4294967296 := by intro v; unfold sg; split <;> omega
  have hs' := hs (w * 2 ^ J.toNat % 4294967296)
  generalize hv : sg (w * 2 ^ J.toNat % 4294967296) = s at *
  clear hv hs
  rcases cases32 (K := J) (by omega) (by omega) with h|h|h|h|h|h|h|h|h|h|h|h|h|h|h|h|h|h|h|h|h|h|h|h|h|h|h|h|h|h|h|h <;> subst h <;> simp at * <;> omega
theorem sext_of_mod (x y M : Int) (h3 : 1 ≤ M) (h4 : M ≤ 32) (h : x % 2 ^ M.toNat = y % 2 ^ M.toNat) : sext32 x M = sext32 y M := by
  rw [sext_in x M h3 h4, sext_in y M h3 h4]
  have e : x * 2 ^ (32 - M).toNat % 4294967296 = y * 2 ^ (32 - M).toNat % 4294967296 := by
    obtain ⟨J, rfl⟩ : ∃ J, M = 32 - J := ⟨32 - M, by omega⟩
    have e : (32 : Int) - (32 - J) = J := by omega
    rw [e] at *
    rcases cases32 (K := J) (by omega) (by omega) with h'|h'|h'|h'|h'|h'|h'|h'|h'|h'|h'|h'|h'|h'|h'|h'|h'|h'|h'|h'|h'|h'|h'|h'|h'|h'|h'|h'|h'|h'|h'|h' <;> subst h' <;> simp at * <;> omega
  rw [e]
theorem fields2 (w M : Int) (h1 : 0 ≤ w) (h2 : w < 4294967296) (h3 : 1 ≤ M) (h4 : M ≤ 32) : field32 (sext32 w M) 0 M = field32 w 0 M := by
  rw [field_low _ M (by omega) h4, field_low _ M (by omega) h4, sext_mod w M h1 h2 h3 h4]
theorem fields3 (w M : Int) (h1 : 0 ≤ w) (h2 : w < 4294967296) (h3 : 1 ≤ M) (h4 : M ≤ 32) : sext32 (sext32 w M) M = sext32 w M :=
  sext_of_mod _ _ M h3 h4 (sext_mod w M h1 h2 h3 h4)
theorem zeros_none : zeros32 0 = 32 := by decide
theorem zeros_some (w : Int) (h1 : 0 < w) : zeros32 w ≤ 31 := by
  unfold zeros32 bitLen
  have : w.toNat ≠ 0 := by omega
  simp [this]
  omega
end Go.Proofs.Ytocajlafdmfamaa
