/- The sum of chapter 2 over plain numbers: one bit, one byte, many bytes; it is linear, and no step loses anything. -/
namespace Go.Proofs.Ytcogepndninkeaa
namespace Crc
def poly : Nat := 0xedb88320
/-- One bit: shifted down, turned by the polynomial if the bit that fell off was 1. -/
def bit1 (s : Nat) : Nat := if s % 2 = 1 then s / 2 ^^^ poly else s / 2
def bits : Nat → Nat → Nat
  | 0, s => s
  | k + 1, s => bits k (bit1 s)
def byte1 (c b : Nat) : Nat := bits 8 (c ^^^ b)
def fold (c : Nat) (l : List Nat) : Nat := l.foldl byte1 c
theorem xor_div2 (a b : Nat) : (a ^^^ b) / 2 = a / 2 ^^^ b / 2 := by
  apply Nat.eq_of_testBit_eq; intro i
  rw [Nat.testBit_div_two, Nat.testBit_xor, Nat.testBit_xor, Nat.testBit_div_two, Nat.testBit_div_two]
theorem xor_mod2 (a b : Nat) : (a ^^^ b) % 2 = (a % 2 + b % 2) % 2 := by
  have h := Nat.testBit_xor (x := a) (y := b) (i := 0)
  simp only [Nat.testBit_zero] at h
  have h1 : a % 2 = 0 ∨ a % 2 = 1 := by omega
  have h2 : b % 2 = 0 ∨ b % 2 = 1 := by omega
  have h3 : (a ^^^ b) % 2 = 0 ∨ (a ^^^ b) % 2 = 1 := by omega
  rcases h1 with h1 | h1 <;> rcases h2 with h2 | h2 <;> rcases h3 with h3 | h3 <;> simp [h1, h2, h3] at h ⊢
theorem bit1_xor (a b : Nat) : bit1 (a ^^^ b) = bit1 a ^^^ bit1 b := by
  unfold bit1
  rw [xor_mod2, xor_div2]
  have h1 : a % 2 = 0 ∨ a % 2 = 1 := by omega
  have h2 : b % 2 = 0 ∨ b % 2 = 1 := by omega
  rcases h1 with h1 | h1 <;> rcases h2 with h2 | h2 <;> simp [h1, h2]
  · rw [Nat.xor_assoc]
  · rw [Nat.xor_assoc, Nat.xor_assoc, Nat.xor_comm poly]
  · rw [Nat.xor_assoc, Nat.xor_comm poly, Nat.xor_assoc, Nat.xor_self, Nat.xor_zero]
theorem bits_xor : ∀ (k a b : Nat), bits k (a ^^^ b) = bits k a ^^^ bits k b
  | 0, _, _ => rfl
  | k + 1, a, b => by simp only [bits]; rw [bit1_xor, bits_xor k]
theorem bit1_double (a : Nat) : bit1 (2 * a) = a := by unfold bit1; rw [if_neg (by omega)]; omega
theorem bits_pow : ∀ (k a : Nat), bits k (2 ^ k * a) = a
  | 0, a => by simp [bits]
  | k + 1, a => by
    simp only [bits]
    rw [show 2 ^ (k + 1) * a = 2 * (2 ^ k * a) by rw [Nat.pow_succ, Nat.mul_comm (2 ^ k) 2, Nat.mul_assoc], bit1_double, bits_pow k]
theorem bits_zero : ∀ k, bits k 0 = 0
  | 0 => rfl
  | k + 1 => by simp only [bits]; rw [show bit1 0 = 0 by decide, bits_zero k]
theorem bits_add : ∀ (j k a : Nat), bits (j + k) a = bits k (bits j a)
  | 0, k, a => by rw [Nat.zero_add]; rfl
  | j + 1, k, a => by rw [Nat.add_right_comm]; simp only [bits]; exact bits_add j k (bit1 a)
theorem bit1_lt {a : Nat} (h : a < 4294967296) : bit1 a < 4294967296 := by
  unfold bit1
  split
  · have : a / 2 ^^^ poly < 2 ^ 32 := Nat.xor_lt_two_pow (by omega) (by decide)
    omega
  · omega
theorem bits_lt : ∀ (k : Nat) {a : Nat}, a < 4294967296 → bits k a < 4294967296
  | 0, _, h => h
  | k + 1, _, h => bits_lt k (bit1_lt h)
theorem bit1_ne {a : Nat} (h : a < 4294967296) (h0 : a ≠ 0) : bit1 a ≠ 0 := by
  unfold bit1
  split
  · intro e
    have e2 : a / 2 = poly := by
      have := congrArg (· ^^^ poly) e
      simpa [Nat.xor_assoc] using this
    have : poly = 3988292384 := by decide
    omega
  · omega
theorem bits_ne : ∀ (k : Nat) {a : Nat}, a < 4294967296 → a ≠ 0 → bits k a ≠ 0
  | 0, _, _, h0 => h0
  | k + 1, _, h, h0 => bits_ne k (bit1_lt h) (bit1_ne h h0)
/-- By a table of 256: the lowest byte by the table, turned by what is above it. -/
theorem split256 (s : Nat) : s = s % 256 ^^^ 2 ^ 8 * (s / 256) := by
  apply Nat.eq_of_testBit_eq
  intro i
  rw [Nat.testBit_xor, show (256 : Nat) = 2 ^ 8 by decide, Nat.testBit_mod_two_pow, Nat.testBit_two_pow_mul, Nat.testBit_div_two_pow]
  by_cases h : i < 8
  · have h2 : ¬ 8 ≤ i := by omega
    simp [h, h2]
  · have h2 : 8 ≤ i := by omega
    simp [h, h2]
theorem byte_table (s : Nat) : bits 8 s = bits 8 (s % 256) ^^^ s / 256 := by
  have e := split256 s
  conv => lhs; rw [e]
  rw [bits_xor, bits_pow]
theorem byte1_xor (c d b e : Nat) : byte1 (c ^^^ d) (b ^^^ e) = byte1 c b ^^^ byte1 d e := by
  unfold byte1
  rw [show c ^^^ d ^^^ (b ^^^ e) = (c ^^^ b) ^^^ (d ^^^ e) by rw [Nat.xor_assoc, Nat.xor_assoc, ← Nat.xor_assoc d b, Nat.xor_comm d b, Nat.xor_assoc], bits_xor]
theorem fold_nil (c : Nat) : fold c [] = c := rfl
theorem fold_cons (c b : Nat) (l : List Nat) : fold c (b :: l) = fold (byte1 c b) l := rfl
theorem fold_append (c : Nat) (l m : List Nat) : fold c (l ++ m) = fold (fold c l) m := by unfold fold; rw [List.foldl_append]
theorem fold_xor : ∀ (l m : List Nat) (c d : Nat), l.length = m.length → fold (c ^^^ d) (List.zipWith (· ^^^ ·) l m) = fold c l ^^^ fold d m
  | [], [], _, _, _ => rfl
  | [], _ :: _, _, _, h => by simp at h
  | _ :: _, [], _, _, h => by simp at h
  | b :: l, e :: m, c, d, h => by
    simp only [List.zipWith_cons_cons, fold_cons]
    rw [byte1_xor]
    exact fold_xor l m _ _ (by simpa using h)
theorem fold_zeros : ∀ (k c : Nat), fold c (List.replicate k 0) = bits (8 * k) c
  | 0, c => rfl
  | k + 1, c => by
    rw [List.replicate_succ, fold_cons, fold_zeros k, show 8 * (k + 1) = 8 + 8 * k by omega, bits_add]
    unfold byte1
    rw [Nat.xor_zero]
theorem byte1_lt {c b : Nat} (h : c < 4294967296) (hb : b < 256) : byte1 c b < 4294967296 := by
  apply bits_lt
  have : c ^^^ b < 2 ^ 32 := Nat.xor_lt_two_pow (by omega) (by omega)
  omega
theorem fold_lt : ∀ (l : List Nat) {c : Nat}, c < 4294967296 → (∀ b ∈ l, b < 256) → fold c l < 4294967296
  | [], _, h, _ => h
  | b :: l, c, h, hl => by
    rw [fold_cons]
    exact fold_lt l (byte1_lt h (hl b (by simp))) (fun x hx => hl x (by simp [hx]))
/-- So many bytes of a number, the lowest first. -/
def lows : Nat → Nat → List Nat
  | 0, _ => []
  | k + 1, x => x % 256 :: lows k (x / 256)
/-- Bytes of a number that has no more: as if it were shifted through as a whole. -/
theorem fold_lows : ∀ (k x c : Nat), x < 256 ^ k → fold c (lows k x) = bits (8 * k) (c ^^^ x)
  | 0, x, c, h => by
    have : x = 0 := by simpa using h
    subst this
    simp [lows, fold_nil, bits]
  | k + 1, x, c, h => by
    have hx : x / 256 < 256 ^ k := by
      rw [Nat.div_lt_iff_lt_mul (by omega)]
      rw [Nat.pow_succ] at h
      exact h
    have e : x = x % 256 ^^^ 2 ^ 8 * (x / 256) := split256 x
    rw [lows, fold_cons, fold_lows k _ _ hx, show 8 * (k + 1) = 8 + 8 * k by omega, bits_add]
    congr 1
    conv => rhs; rw [e]
    unfold byte1
    rw [← Nat.xor_assoc, bits_xor 8 (c ^^^ x % 256), bits_pow]
/-- What differs in 32 bits in a row, from bit r of a byte on, differs behind any further bytes. -/
theorem burst (n m r row : Nat) (hr : r < 8) (h0 : row ≠ 0) (hrow : row < 4294967296) :
    fold 0 (List.replicate n 0 ++ lows 5 (2 ^ r * row) ++ List.replicate m 0) ≠ 0 := by
  have hx : 2 ^ r * row < 256 ^ 5 := by
    have h1 : 2 ^ r ≤ 2 ^ 7 := Nat.pow_le_pow_right (by omega) (by omega)
    have h2 := Nat.mul_le_mul h1 (Nat.le_of_lt hrow)
    have h3 : (2 : Nat) ^ 7 = 128 := by decide
    have h4 : (256 : Nat) ^ 5 = 1099511627776 := by decide
    rw [h3] at h2
    omega
  rw [fold_append, fold_append, fold_zeros, fold_zeros, bits_zero, fold_lows 5 _ _ hx, Nat.zero_xor, show 8 * 5 = r + (40 - r) by omega, bits_add, bits_pow, ← bits_add]
  exact bits_ne _ hrow h0
/-- Two lists of one length that differ by such bits have unlike folds. -/
theorem unlike (c : Nat) (l : List Nat) (n m r row : Nat) (hr : r < 8) (h0 : row ≠ 0) (hrow : row < 4294967296) (hl : l.length = n + 5 + m) :
    fold c (List.zipWith (· ^^^ ·) l (List.replicate n 0 ++ lows 5 (2 ^ r * row) ++ List.replicate m 0)) ≠ fold c l := by
  have hlen : (List.replicate n 0 ++ lows 5 (2 ^ r * row) ++ List.replicate m 0).length = n + 5 + m := by simp [lows]; omega
  have h := fold_xor l (List.replicate n 0 ++ lows 5 (2 ^ r * row) ++ List.replicate m 0) c 0 (by rw [hl, hlen])
  rw [Nat.xor_zero] at h
  rw [h]
  have hb := burst n m r row hr h0 hrow
  generalize fold 0 (List.replicate n 0 ++ lows 5 (2 ^ r * row) ++ List.replicate m 0) = d at hb
  intro e
  apply hb
  have := congrArg (fold c l ^^^ ·) e
  simpa [← Nat.xor_assoc] using this
end Crc
end Go.Proofs.Ytcogepndninkeaa
