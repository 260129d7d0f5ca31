/- The bytes that CrcTurns turns: five of them, one behind the other, and that the sums are unlike then. -/
import Derived.Test.YtcogepndninkeaaMath
namespace Go.Proofs.Ytcogepndninkeaa
/-- The first j of the bytes from q on, turned by the bytes of x. -/
def upd (ns : List Nat) (q x : Nat) : Nat → List Nat
  | 0 => ns
  | j + 1 => (upd ns q x j).set (q + j) ((upd ns q x j).getD (q + j) 0 ^^^ x / 2 ^ (8 * j) % 256)
theorem upd_len (ns : List Nat) (q x : Nat) : ∀ j, (upd ns q x j).length = ns.length
  | 0 => rfl
  | j + 1 => by simp [upd, upd_len ns q x j]
theorem upd_get (ns : List Nat) (q x i : Nat) (hi : i < ns.length) : ∀ j, (upd ns q x j).getD i 0 = if q ≤ i ∧ i < q + j then ns.getD i 0 ^^^ x / 2 ^ (8 * (i - q)) % 256 else ns.getD i 0
  | 0 => by rw [if_neg (by omega)]; rfl
  | j + 1 => by
    have ih := upd_get ns q x i hi j
    simp only [upd, List.getD_eq_getElem?_getD, List.getElem?_set, upd_len] at ih ⊢
    by_cases h : q + j = i
    · subst h
      rw [if_pos rfl, if_pos hi, if_pos (by omega)]
      rw [if_neg (by omega)] at ih
      simp only [Option.getD_some, ih]
      rw [show q + j - q = j by omega]
    · rw [if_neg h, ih]
      by_cases h2 : q ≤ i ∧ i < q + j
      · rw [if_pos h2, if_pos (by omega)]
      · rw [if_neg h2, if_neg (by omega)]
theorem upd_lt (ns : List Nat) (q x : Nat) (h : ∀ y ∈ ns, y < 256) (j : Nat) : ∀ y ∈ upd ns q x j, y < 256 := by
  induction j with
  | zero => exact h
  | succ j ih =>
    intro y hy
    rcases List.mem_or_eq_of_mem_set hy with h1 | rfl
    · exact ih y h1
    · have hg : (upd ns q x j).getD (q + j) 0 < 256 := by
        by_cases hj : q + j < (upd ns q x j).length
        · rw [List.getD_eq_getElem?_getD, List.getElem?_eq_getElem hj, Option.getD_some]
          exact ih _ (List.getElem_mem hj)
        · rw [List.getD_eq_getElem?_getD, List.getElem?_eq_none (by omega)]
          simp
      have : (upd ns q x j).getD (q + j) 0 ^^^ x / 2 ^ (8 * j) % 256 < 2 ^ 8 := Nat.xor_lt_two_pow (by omega) (by omega)
      omega
theorem lows_len : ∀ (k x : Nat), (Crc.lows k x).length = k
  | 0, _ => rfl
  | k + 1, x => by simp [Crc.lows, lows_len k]
theorem lows_get : ∀ (k x i : Nat), i < k → (Crc.lows k x)[i]? = some (x / 2 ^ (8 * i) % 256)
  | 0, _, _, h => by omega
  | k + 1, x, 0, _ => by simp [Crc.lows]
  | k + 1, x, i + 1, h => by
    rw [Crc.lows, List.getElem?_cons_succ, lows_get k _ i (by omega), Nat.div_div_eq_div_mul, show 8 * (i + 1) = 8 + 8 * i by omega, Nat.pow_add]
theorem upd_zip (ns : List Nat) (q x m : Nat) (hl : ns.length = q + 5 + m) : upd ns q x 5 = List.zipWith (· ^^^ ·) ns (List.replicate q 0 ++ Crc.lows 5 x ++ List.replicate m 0) := by
  apply List.ext_getElem?
  intro i
  rw [List.getElem?_zipWith]
  by_cases hi : i < ns.length
  · have hg := upd_get ns q x i hi 5
    rw [List.getD_eq_getElem?_getD, List.getElem?_eq_getElem (by rw [upd_len]; exact hi), Option.getD_some, List.getD_eq_getElem?_getD, List.getElem?_eq_getElem hi, Option.getD_some] at hg
    rw [List.getElem?_eq_getElem (by rw [upd_len]; exact hi), List.getElem?_eq_getElem hi, hg]
    by_cases h1 : i < q
    · rw [if_neg (by omega), List.append_assoc, List.getElem?_append_left (by simpa using h1), List.getElem?_replicate, if_pos h1]
      simp
    · by_cases h2 : i < q + 5
      · rw [if_pos (by omega), List.getElem?_append_left (by simp [lows_len]; omega), List.getElem?_append_right (by simp; omega), List.length_replicate, lows_get 5 x (i - q) (by omega)]
      · rw [if_neg (by omega), List.getElem?_append_right (by simp [lows_len]; omega)]
        simp only [List.length_append, List.length_replicate, lows_len]
        rw [List.getElem?_replicate, if_pos (by omega)]
        simp
  · rw [List.getElem?_eq_none (by rw [upd_len]; omega), List.getElem?_eq_none (show ns.length ≤ i by omega)]
/-- Turned in 32 bits in a row the sums are unlike. -/
theorem turned_unlike (c : Nat) (ns : List Nat) (q r row : Nat) (hr : r < 8) (h0 : row ≠ 0) (hrow : row < 4294967296) (hl : q + 5 ≤ ns.length) : Crc.fold c (upd ns q (2 ^ r * row) 5) ≠ Crc.fold c ns := by
  rw [upd_zip ns q _ (ns.length - q - 5) (by omega)]
  exact Crc.unlike c ns q (ns.length - q - 5) r row hr h0 hrow (by omega)
end Go.Proofs.Ytcogepndninkeaa
