/- Numbers in few bytes, over plain lists: how they are put, how they are read, and that what is put is read. -/
namespace Go.Proofs.Ytokicdmbibbkpaa
/-- The bytes of a number, at most so many and one more. -/
def encF : Nat → Nat → List UInt8
  | 0, v => [UInt8.ofNat v]
  | n + 1, v => if v < 128 then [UInt8.ofNat v] else UInt8.ofNat (v % 128 + 128) :: encF n (v / 128)
def enc (v : Nat) : List UInt8 := encF 9 v
/-- What is read: the number, the place behind it, the error. -/
def dec (k : Nat) : Nat → Nat → List UInt8 → Nat × Nat × Nat
  | _, _, [] => (0, 0, 3)
  | i, acc, x :: t =>
    if i = 9 ∧ 1 < x.toNat then (0, 0, 4)
    else if 128 ≤ x.toNat then dec k (i + 1) (acc + x.toNat % 128 * 2 ^ (7 * i)) t
    else if x.toNat = 0 ∧ 0 < i then (0, 0, 4)
    else (acc + x.toNat % 128 * 2 ^ (7 * i), k + i + 1, 0)
/-- Get: of any place. -/
def getI (l : List UInt8) (at_ : Int) : Nat × Nat × Nat :=
  if at_ < 0 ∨ (l.length : Int) < at_ then (0, 0, 1) else dec at_.toNat 0 0 (l.drop at_.toNat)
theorem encF_small {n v : Nat} (h : v < 128) : encF n v = [UInt8.ofNat v] := by
  cases n with
  | zero => rfl
  | succ n => simp [encF, h]
theorem encF_great {n v : Nat} (h : ¬ v < 128) : encF (n + 1) v = UInt8.ofNat (v % 128 + 128) :: encF n (v / 128) := by simp [encF, h]
theorem encF_pos (n v : Nat) : 1 ≤ (encF n v).length := by
  cases n with
  | zero => simp [encF]
  | succ n => unfold encF; split <;> simp
theorem encF_len : ∀ n v : Nat, (encF n v).length ≤ n + 1
  | 0, v => by simp [encF]
  | n + 1, v => by
    have := encF_len n (v / 128)
    unfold encF
    split
    · simp
    · simp only [List.length_cons]; omega
theorem enc_pos (v : Nat) : 1 ≤ (enc v).length := encF_pos 9 v
theorem enc_len (v : Nat) : (enc v).length ≤ 10 := encF_len 9 v
theorem toNat_ofNat {n : Nat} (h : n < 256) : (UInt8.ofNat n).toNat = n := by
  rw [UInt8.toNat_ofNat']; omega
theorem dec_enc (k : Nat) (rest : List UInt8) : ∀ (n i acc v : Nat), i + n = 9 → v < 2 ^ (64 - 7 * i) → (v ≠ 0 ∨ i = 0) → dec k i acc (encF n v ++ rest) = (acc + v * 2 ^ (7 * i), k + i + (encF n v).length, 0) := by
  intro n
  induction n with
  | zero =>
    intro i acc v hi hv h0
    obtain rfl : i = 9 := by omega
    have hv2 : v < 2 := by simpa using hv
    rw [encF_small (by omega), List.singleton_append, dec, toNat_ofNat (by omega), if_neg (by omega), if_neg (by omega), if_neg (by omega), Nat.mod_eq_of_lt (by omega)]
    rfl
  | succ n ih =>
    intro i acc v hi hv h0
    by_cases h : v < 128
    · rw [encF_small h, List.singleton_append, dec, toNat_ofNat (by omega), if_neg (by omega), if_neg (by omega), if_neg (by omega), Nat.mod_eq_of_lt h]
      rfl
    · have hv3 : v / 128 < 2 ^ (64 - 7 * (i + 1)) := by
        rw [Nat.div_lt_iff_lt_mul (by omega)]
        have e : 2 ^ (64 - 7 * (i + 1)) * 128 = 2 ^ (64 - 7 * i) := by
          rw [show (128 : Nat) = 2 ^ 7 by decide, ← Nat.pow_add]
          congr 1
          omega
        rw [e]
        exact hv
      rw [encF_great h, List.cons_append, dec, toNat_ofNat (by omega), if_neg (by omega), if_pos (by omega), ih (i + 1) _ (v / 128) (by omega) hv3 (by omega)]
      have e2 : (v % 128 + 128) % 128 = v % 128 := by omega
      have e3 : acc + (v % 128 + 128) % 128 * 2 ^ (7 * i) + v / 128 * 2 ^ (7 * (i + 1)) = acc + v * 2 ^ (7 * i) := by
        rw [e2, show 7 * (i + 1) = 7 * i + 7 by omega, Nat.pow_add, Nat.add_assoc, ← Nat.mul_assoc, Nat.mul_right_comm (v / 128), ← Nat.add_mul]
        congr 2
        omega
      rw [e3, List.length_cons]
      congr 2
      omega
/-- What is put is read, whatever stands ahead of it and behind. -/
theorem get_enc (a rest : List UInt8) (v : Nat) (hv : v < 18446744073709551616) : getI (a ++ enc v ++ rest) (a.length : Int) = (v, a.length + (enc v).length, 0) := by
  unfold getI
  rw [if_neg (by simp; omega), Int.toNat_natCast, List.append_assoc, List.drop_left]
  have h := dec_enc a.length rest 9 0 0 v rfl (by simpa using hv) (.inr rfl)
  unfold enc
  rw [h]
  simp
theorem get_end (a : List UInt8) : getI a (a.length : Int) = (0, 0, 3) := by
  unfold getI
  rw [if_neg (by omega), Int.toNat_natCast, List.drop_length]
  rfl
end Go.Proofs.Ytokicdmbibbkpaa
