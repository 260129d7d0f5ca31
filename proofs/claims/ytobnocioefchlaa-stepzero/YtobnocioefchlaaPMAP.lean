/- The plain laws that BitsMuls asks of products. -/
import Derived.Test.YtobnocioefchlaaPMAO
namespace Go.Proofs.Ytobnocioefchlaa
open Go.RowKit
set_option linter.unusedVariables false
theorem sg_mod (a : Int) : sg a % 4294967296 = a % 4294967296 := by unfold sg; split <;> omega
theorem lo_mod (x y : Int) : mulLo x y = x * y % 4294967296 := by
  unfold mulLo
  rw [IntKind.wrap_u64]
  generalize x * y = p
  omega
theorem muls1 (x y : Int) : mulHi x y = mulHi y x := by unfold mulHi; rw [Int.mul_comm]
theorem muls2 (x y : Int) : mulLo x y = mulLo y x := by unfold mulLo; rw [Int.mul_comm]
theorem muls3 (a b : Int) : mulLo a b = mulLo (sg a) (sg b) := by
  rw [lo_mod, lo_mod, Int.mul_emod, Int.mul_emod (sg a), sg_mod, sg_mod]
theorem sg1 : sg 1 = 1 := by decide
theorem muls4 (a : Int) (h1 : 0 ≤ a) (h2 : a < 4294967296) : mulHi (sg a) (sg 1) = sar32 a 31 := by
  have e : sg a = a ∨ sg a = a - 4294967296 := by unfold sg; split <;> omega
  have r := sg_range h1 h2
  rw [sg1]
  unfold mulHi sar32
  rw [Int.mul_one, IntKind.wrap_u64]
  generalize sg a = s at *
  simp
  omega
theorem muls5 (a : Int) (h1 : 0 ≤ a) (h2 : a < 4294967296) : mulLo (sg a) (sg 1) = a := by
  rw [sg1, lo_mod, Int.mul_one, sg_mod]; omega
theorem muls6 (a : Int) : mulLo a 0 = 0 := by rw [lo_mod]; simp
theorem muls7 (a b : Int) (h1 : a < 2147483648) (h2 : b < 2147483648) : mulHi a b = mulHi (sg a) (sg b) := by
  have e1 : sg a = a := by unfold sg; split <;> omega
  have e2 : sg b = b := by unfold sg; split <;> omega
  rw [e1, e2]
theorem mulHi_range (a b : Int) : 0 ≤ mulHi a b ∧ mulHi a b < 4294967296 := by unfold mulHi; omega
theorem mulLo_range (a b : Int) : 0 ≤ mulLo a b ∧ mulLo a b < 4294967296 := by unfold mulLo; omega
end Go.Proofs.Ytobnocioefchlaa
namespace Go.Proofs.Ytobnocioefchlaa
open Go.RowKit
set_option linter.unusedVariables false
theorem quoT_range (a b : Int) : 0 ≤ quoT a b ∧ quoT a b < 4294967296 := by unfold quoT; omega
theorem remT_range (a b : Int) : 0 ≤ remT a b ∧ remT a b < 4294967296 := by unfold remT; omega
theorem quo_range (a b : Int) (h1 : 0 ≤ a) (h2 : a < 4294967296) (h3 : 0 < b) : 0 ≤ a / b ∧ a / b < 4294967296 := by
  exact ⟨Int.ediv_nonneg h1 (by omega), Int.lt_of_le_of_lt (Int.ediv_le_self _ h1) h2⟩
theorem div_f1 (a b : Int) (h1 : 0 ≤ a) (h2 : a < 4294967296) : (mulLo (a / b) b + a % b) % 4294967296 = a := by
  rw [lo_mod]
  have e : a / b * b + a % b = a := by rw [Int.mul_comm]; exact Int.mul_ediv_add_emod a b
  generalize a / b * b = p at *
  generalize a % b = r at *
  omega
theorem wrap32_mod (q : Int) : wrap32 q % 4294967296 = q % 4294967296 := by unfold wrap32; omega
theorem sg_quoT (a b : Int) : sg (quoT a b) % 4294967296 = ((sg a).tdiv (sg b)) % 4294967296 := by
  rw [sg_mod]; unfold quoT; rw [Int.emod_emod_of_dvd _ (Int.dvd_refl _), wrap32_mod]
theorem div_f2 (a b : Int) (h1 : 0 ≤ a) (h2 : a < 4294967296) : (mulLo (sg (quoT a b)) (sg b) + remT a b) % 4294967296 = a := by
  rw [lo_mod, Int.mul_emod, sg_quoT, ← Int.mul_emod]
  unfold remT
  have e : (sg a).tdiv (sg b) * sg b + (sg a).tmod (sg b) = sg a := by rw [Int.mul_comm]; exact Int.mul_tdiv_add_tmod (sg a) (sg b)
  have e2 := sg_mod a
  generalize (sg a).tdiv (sg b) * sg b = p at *
  generalize (sg a).tmod (sg b) = r at *
  omega
theorem tmod_pos (x y : Int) (h : 0 < y) : -y < x.tmod y ∧ x.tmod y < y := tmod_range x y h
theorem tmod_neg_range (x y : Int) (h : y < 0) : y < x.tmod y ∧ x.tmod y < -y := by
  have := tmod_range x (-y) (by omega)
  rw [Int.tmod_neg] at this
  omega
theorem tmod_sign (x y : Int) : (0 ≤ x → 0 ≤ x.tmod y) ∧ (x ≤ 0 → x.tmod y ≤ 0) := by
  refine ⟨fun h => Int.tmod_nonneg _ h, fun h => ?_⟩
  have := Int.tmod_nonneg (a := -x) y (by omega)
  rw [Int.neg_tmod] at this
  omega
/-- What is left, with its sign: nearer to 0 than the divisor, with the sign of the number. -/
theorem left_cases (a b : Int) (h1 : 0 ≤ a) (h2 : a < 4294967296) (h3 : 0 < b) (h4 : b < 4294967296) :
    ∃ X, wrap32 (remT a b) = X ∧ wrap64 X = X ∧ wrap64 (-X) = -X ∧
      ((remT a b = 0 ∧ X = 0 ∧ 0 < sg b) ∨ (remT a b = 0 ∧ X = 0 ∧ sg b < 0) ∨
       (remT a b ≠ 0 ∧ 0 < X ∧ 0 ≤ sg a ∧ X < sg b) ∨ (remT a b ≠ 0 ∧ 0 < X ∧ 0 ≤ sg a ∧ X < -sg b) ∨
       (remT a b ≠ 0 ∧ X < 0 ∧ sg a < 0 ∧ -X < sg b) ∨ (remT a b ≠ 0 ∧ X < 0 ∧ sg a < 0 ∧ -X < -sg b)) := by
  have rb := sg_range (v := b) (by omega) h4
  have nb : sg b ≠ 0 := by unfold sg; split <;> omega
  have s := tmod_sign (sg a) (sg b)
  have p := tmod_pos (sg a) (sg b)
  have q := tmod_neg_range (sg a) (sg b)
  refine ⟨(sg a).tmod (sg b), ?_⟩
  unfold remT
  generalize (sg a).tmod (sg b) = R at *
  generalize sg b = y at *
  generalize sg a = x at *
  have hR : -2147483648 < R ∧ R < 2147483648 := by
    by_cases h : 0 < y
    · have := p h; omega
    · have := q (by omega); omega
  refine ⟨by unfold wrap32; omega, by unfold wrap64; omega, by unfold wrap64; omega, ?_⟩
  by_cases h : 0 < y
  · have hp := p h
    by_cases hx : 0 ≤ x
    · have := s.1 hx; omega
    · have := s.2 (by omega); omega
  · have hp := q (by omega)
    by_cases hx : 0 ≤ x
    · have := s.1 hx; omega
    · have := s.2 (by omega); omega
theorem wrap64_neg_sg {v : Int} (h0 : 0 ≤ v) (h1 : v < 4294967296) : wrap64 (-sg v) = -sg v := by
  have := sg_range h0 h1
  unfold wrap64; omega
end Go.Proofs.Ytobnocioefchlaa
namespace Go.Proofs.Ytobnocioefchlaa
open Go.RowKit
set_option linter.unusedVariables false
theorem refAdd_eq (a b : Int) (h1 : 0 ≤ a) (h2 : a < 4294967296) (h3 : 0 ≤ b) (h4 : b < 4294967296) :
    (!decide (-2147483648 ≤ sg a + sg b) || !decide (sg a + sg b < 2147483648)) = addOv a b := by
  unfold addOv top sg add32
  by_cases x : 2147483648 ≤ a <;> by_cases y : 2147483648 ≤ b <;> by_cases z : 2147483648 ≤ (a + b) % 4294967296 <;> simp [x, y, z] <;> omega
theorem refSub_eq (a b : Int) (h1 : 0 ≤ a) (h2 : a < 4294967296) (h3 : 0 ≤ b) (h4 : b < 4294967296) :
    (!decide (-2147483648 ≤ sg a - sg b) || !decide (sg a - sg b < 2147483648)) = subOv a b := by
  unfold subOv top sg sub32
  by_cases x : 2147483648 ≤ a <;> by_cases y : 2147483648 ≤ b <;> by_cases z : 2147483648 ≤ (a - b) % 4294967296 <;> simp [x, y, z] <;> omega
theorem refQuo_eq (a b : Int) (h1 : 0 ≤ a) (h2 : a < 4294967296) (h3 : 0 < b) (h4 : b < 4294967296) : wrap64 ((sg a).tdiv (sg b)) % 4294967296 = quoT a b := by
  unfold quoT
  rw [wrap32_mod]
  unfold wrap64
  omega
theorem fieldCore (a : Int) (k m : Nat) (h1 : 0 ≤ a) (h2 : a < 4294967296) (hm : m ≤ 32) :
    bits .and .u64 (a / 2 ^ k) (IntKind.u64.wrap (IntKind.u64.wrap (2 ^ m) - 1)) % 4294967296 = a / 2 ^ k % 2 ^ m := by
  have hx := div_pow_range k h1 h2
  generalize a / 2 ^ k = x at *
  obtain ⟨y, rfl⟩ := Int.eq_ofNat_of_zero_le hx.1
  have hp := pow_le32 hm
  have hq := pow_cast m
  have e : IntKind.u64.wrap (IntKind.u64.wrap (2 ^ m) - 1) = ((2 ^ m - 1 : Nat) : Int) := by
    rw [IntKind.wrap_u64, IntKind.wrap_u64]
    omega
  have hp' : 2 ^ m - 1 < 18446744073709551616 := by omega
  rw [e, u64_and_nat y (2 ^ m - 1) (by omega) hp', Nat.and_two_pow_sub_one_eq_mod, ← pow_cast]
  have := Nat.mod_le y (2 ^ m)
  rw [← Int.natCast_emod]
  omega
theorem fieldFin (a x L : Int) (k m : Nat) (h1 : 0 ≤ a) (h2 : a < 4294967296) (hm : m ≤ 32) (hx : x = a / 2 ^ k) (hL : L = 2 ^ m - 1) :
    bits .and .u64 x L % 4294967296 = a / 2 ^ k % 2 ^ m := by
  have e : IntKind.u64.wrap (IntKind.u64.wrap (2 ^ m) - 1) = 2 ^ m - 1 := by
    have hp := pow_le32 hm
    rw [IntKind.wrap_u64, IntKind.wrap_u64]
    omega
  rw [hx, hL, ← e]
  exact fieldCore a k m h1 h2 hm
theorem maskW (m : Nat) (hm : m ≤ 32) : IntKind.u64.wrap (IntKind.u64.wrap (2 ^ m) - 1) = 2 ^ m - 1 := by
  have hp := pow_le32 hm
  rw [IntKind.wrap_u64, IntKind.wrap_u64]
  omega
theorem mask1 : IntKind.u64.wrap (IntKind.u64.wrap 2 - 1) = 2 ^ 1 - 1 := maskW 1 (by omega)
theorem mask32 : IntKind.u64.wrap (IntKind.u64.wrap 4294967296 - 1) = 2 ^ 32 - 1 := maskW 32 (by omega)
theorem mask0 : IntKind.u64.wrap (IntKind.u64.wrap 1 - 1) = 2 ^ 0 - 1 := maskW 0 (by omega)
theorem mask00 : (0 : Int) = 2 ^ 0 - 1 := by decide
theorem over0 (a : Int) : a = a / 2 ^ 0 := by simp
theorem over31 (a : Int) : a / 2147483648 = a / 2 ^ 31 := by simp
theorem zeros_end (a : Int) (k : Nat) (hk : k = 32) (hq : a / 2 ^ (32 - k) = 0) : (k : Int) = zeros32 a := by
  subst hk
  simp at hq
  subst hq
  decide
theorem zeros_at (a : Int) (k : Nat) (h1 : 0 ≤ a) (h2 : a < 4294967296) (hk : k < 32) (hq : a / 2 ^ (32 - k) = 0) (hb : ¬ a / 2 ^ (31 - k) = 0) : (k : Int) = zeros32 a := by
  obtain ⟨y, rfl⟩ := Int.eq_ofNat_of_zero_le h1
  have e1 := len_shift (y : Int) (31 - k) h1 hb
  have p1 : (0 : Int) < 2 ^ (31 - k) := Int.pow_pos (by omega)
  have hx : 0 ≤ (y : Int) / 2 ^ (31 - k) := Int.ediv_nonneg h1 (by omega)
  have e2 : (y : Int) / 2 ^ (31 - k) / 2 = 0 := by
    rw [Int.ediv_ediv_of_nonneg (by omega), show (2 : Int) ^ (31 - k) * 2 = 2 ^ (32 - k) by rw [← Int.pow_succ]; congr 1; omega]
    exact hq
  have e3 : (y : Int) / 2 ^ (31 - k) = 1 := by omega
  rw [e3] at e1
  have e4 : bitLen (1 : Int).toNat = 1 := by decide
  unfold zeros32
  omega
end Go.Proofs.Ytobnocioefchlaa
namespace Go.Proofs.Ytobnocioefchlaa
open Go.ChangeShapes Go.WideShapes Go.ChangeAt Go.RowKit
set_option linter.unusedVariables false
set_option maxHeartbeats 1000000 in
theorem refField_1 (a at_ n : Int) (h1 : 0 ≤ a) (h2 : a < 4294967296) (k1 : at_ < 0) (m1 : n < 0) (w : World) :
    Calls Try.prog 99 #[.int .u32 a, .int .i64 at_, .int .i64 n] w fun e w' => e = .returned (.int .u32 (field32 a at_ n)) ∧ w' = w := by
  have ek : clip at_ 0 31 = 0 := by unfold clip; split <;> (try split) <;> omega
  have em : clip n 0 (32 - clip at_ 0 31) = 0 := by rw [ek]; unfold clip; split <;> (try split) <;> omega
  have ef : field32 a at_ n = a / 2 ^ 0 % 2 ^ 0 := by unfold field32; rw [em, ek]; rfl
  rw [ef]
  clear ek em ef
  go_enter Try.func99, Try.ntmps99
  go_wp2
  go_ret
  refine ⟨ret_int (fieldFin a _ _ 0 0 h1 h2 (by omega) (over0 _) ?_), rfl⟩
  first | exact mask00 | exact mask0
set_option maxHeartbeats 1000000 in
theorem refField_2 (a at_ n : Int) (h1 : 0 ≤ a) (h2 : a < 4294967296) (k1 : at_ < 0) (m2 : 32 - (0) < n) (w : World) :
    Calls Try.prog 99 #[.int .u32 a, .int .i64 at_, .int .i64 n] w fun e w' => e = .returned (.int .u32 (field32 a at_ n)) ∧ w' = w := by
  have ek : clip at_ 0 31 = 0 := by unfold clip; split <;> (try split) <;> omega
  have em : clip n 0 (32 - clip at_ 0 31) = 32 - (0) := by rw [ek]; unfold clip; split <;> (try split) <;> omega
  have ef : field32 a at_ n = a / 2 ^ 0 % 2 ^ 32 := by unfold field32; rw [em, ek]; rfl
  rw [ef]
  clear ek em ef
  go_enter Try.func99, Try.ntmps99
  go_wp2
  go_ret
  refine ⟨ret_int (fieldFin a _ _ 0 32 h1 h2 (by omega) (over0 _) ?_), rfl⟩
  first | exact mask32 | exact mask1 | exact maskW _ (by omega)
set_option maxHeartbeats 1000000 in
theorem refField_3 (a at_ n : Int) (h1 : 0 ≤ a) (h2 : a < 4294967296) (k1 : at_ < 0) (m3 : 0 ≤ n ∧ n ≤ 32 - (0)) (w : World) :
    Calls Try.prog 99 #[.int .u32 a, .int .i64 at_, .int .i64 n] w fun e w' => e = .returned (.int .u32 (field32 a at_ n)) ∧ w' = w := by
  have ek : clip at_ 0 31 = 0 := by unfold clip; split <;> (try split) <;> omega
  have em : clip n 0 (32 - clip at_ 0 31) = n := by rw [ek]; unfold clip; split <;> (try split) <;> omega
  have ef : field32 a at_ n = a / 2 ^ 0 % 2 ^ n.toNat := by unfold field32; rw [em, ek]; rfl
  rw [ef]
  clear ek em ef
  go_enter Try.func99, Try.ntmps99
  go_wp2
  go_ret
  refine ⟨ret_int (fieldFin a _ _ 0 n.toNat h1 h2 (by omega) (over0 _) ?_), rfl⟩
  exact maskW _ (by omega)
set_option maxHeartbeats 1000000 in
theorem refField_4 (a at_ n : Int) (h1 : 0 ≤ a) (h2 : a < 4294967296) (k2 : 31 < at_) (m1 : n < 0) (w : World) :
    Calls Try.prog 99 #[.int .u32 a, .int .i64 at_, .int .i64 n] w fun e w' => e = .returned (.int .u32 (field32 a at_ n)) ∧ w' = w := by
  have ek : clip at_ 0 31 = 31 := by unfold clip; split <;> (try split) <;> omega
  have em : clip n 0 (32 - clip at_ 0 31) = 0 := by rw [ek]; unfold clip; split <;> (try split) <;> omega
  have ef : field32 a at_ n = a / 2 ^ 31 % 2 ^ 0 := by unfold field32; rw [em, ek]; rfl
  rw [ef]
  clear ek em ef
  go_enter Try.func99, Try.ntmps99
  go_wp2
  go_ret
  refine ⟨ret_int (fieldFin a _ _ 31 0 h1 h2 (by omega) (over31 _) ?_), rfl⟩
  first | exact mask00 | exact mask0
set_option maxHeartbeats 1000000 in
theorem refField_5 (a at_ n : Int) (h1 : 0 ≤ a) (h2 : a < 4294967296) (k2 : 31 < at_) (m2 : 32 - (31) < n) (w : World) :
    Calls Try.prog 99 #[.int .u32 a, .int .i64 at_, .int .i64 n] w fun e w' => e = .returned (.int .u32 (field32 a at_ n)) ∧ w' = w := by
  have ek : clip at_ 0 31 = 31 := by unfold clip; split <;> (try split) <;> omega
  have em : clip n 0 (32 - clip at_ 0 31) = 32 - (31) := by rw [ek]; unfold clip; split <;> (try split) <;> omega
  have ef : field32 a at_ n = a / 2 ^ 31 % 2 ^ 1 := by unfold field32; rw [em, ek]; rfl
  rw [ef]
  clear ek em ef
  go_enter Try.func99, Try.ntmps99
  go_wp2
  go_ret
  refine ⟨ret_int (fieldFin a _ _ 31 1 h1 h2 (by omega) (over31 _) ?_), rfl⟩
  first | exact mask32 | exact mask1 | exact maskW _ (by omega)
set_option maxHeartbeats 1000000 in
theorem refField_6 (a at_ n : Int) (h1 : 0 ≤ a) (h2 : a < 4294967296) (k2 : 31 < at_) (m3 : 0 ≤ n ∧ n ≤ 32 - (31)) (w : World) :
    Calls Try.prog 99 #[.int .u32 a, .int .i64 at_, .int .i64 n] w fun e w' => e = .returned (.int .u32 (field32 a at_ n)) ∧ w' = w := by
  have ek : clip at_ 0 31 = 31 := by unfold clip; split <;> (try split) <;> omega
  have em : clip n 0 (32 - clip at_ 0 31) = n := by rw [ek]; unfold clip; split <;> (try split) <;> omega
  have ef : field32 a at_ n = a / 2 ^ 31 % 2 ^ n.toNat := by unfold field32; rw [em, ek]; rfl
  rw [ef]
  clear ek em ef
  go_enter Try.func99, Try.ntmps99
  go_wp2
  go_ret
  refine ⟨ret_int (fieldFin a _ _ 31 n.toNat h1 h2 (by omega) (over31 _) ?_), rfl⟩
  exact maskW _ (by omega)
set_option maxHeartbeats 1000000 in
theorem refField_7 (a at_ n : Int) (h1 : 0 ≤ a) (h2 : a < 4294967296) (k3 : 0 ≤ at_ ∧ at_ ≤ 31) (m1 : n < 0) (w : World) :
    Calls Try.prog 99 #[.int .u32 a, .int .i64 at_, .int .i64 n] w fun e w' => e = .returned (.int .u32 (field32 a at_ n)) ∧ w' = w := by
  have ek : clip at_ 0 31 = at_ := by unfold clip; split <;> (try split) <;> omega
  have em : clip n 0 (32 - clip at_ 0 31) = 0 := by rw [ek]; unfold clip; split <;> (try split) <;> omega
  have ef : field32 a at_ n = a / 2 ^ at_.toNat % 2 ^ 0 := by unfold field32; rw [em, ek]; rfl
  rw [ef]
  clear ek em ef
  go_enter Try.func99, Try.ntmps99
  go_wp2
  go_ret
  refine ⟨ret_int (fieldFin a _ _ at_.toNat 0 h1 h2 (by omega) (rfl) ?_), rfl⟩
  first | exact mask00 | exact mask0
set_option maxHeartbeats 1000000 in
theorem refField_8 (a at_ n : Int) (h1 : 0 ≤ a) (h2 : a < 4294967296) (k3 : 0 ≤ at_ ∧ at_ ≤ 31) (m2 : 32 - (at_) < n) (w : World) :
    Calls Try.prog 99 #[.int .u32 a, .int .i64 at_, .int .i64 n] w fun e w' => e = .returned (.int .u32 (field32 a at_ n)) ∧ w' = w := by
  have ek : clip at_ 0 31 = at_ := by unfold clip; split <;> (try split) <;> omega
  have em : clip n 0 (32 - clip at_ 0 31) = 32 - (at_) := by rw [ek]; unfold clip; split <;> (try split) <;> omega
  have ef : field32 a at_ n = a / 2 ^ at_.toNat % 2 ^ (32 - at_).toNat := by unfold field32; rw [em, ek]
  rw [ef]
  clear ek em ef
  go_enter Try.func99, Try.ntmps99
  go_wp2
  go_ret
  refine ⟨ret_int (fieldFin a _ _ at_.toNat (32 - at_).toNat h1 h2 (by omega) (rfl) ?_), rfl⟩
  first | exact mask32 | exact mask1 | exact maskW _ (by omega)
set_option maxHeartbeats 1000000 in
theorem refField_9 (a at_ n : Int) (h1 : 0 ≤ a) (h2 : a < 4294967296) (k3 : 0 ≤ at_ ∧ at_ ≤ 31) (m3 : 0 ≤ n ∧ n ≤ 32 - (at_)) (w : World) :
    Calls Try.prog 99 #[.int .u32 a, .int .i64 at_, .int .i64 n] w fun e w' => e = .returned (.int .u32 (field32 a at_ n)) ∧ w' = w := by
  have ek : clip at_ 0 31 = at_ := by unfold clip; split <;> (try split) <;> omega
  have em : clip n 0 (32 - clip at_ 0 31) = n := by rw [ek]; unfold clip; split <;> (try split) <;> omega
  have ef : field32 a at_ n = a / 2 ^ at_.toNat % 2 ^ n.toNat := by unfold field32; rw [em, ek]
  rw [ef]
  clear ek em ef
  go_enter Try.func99, Try.ntmps99
  go_wp2
  go_ret
  refine ⟨ret_int (fieldFin a _ _ at_.toNat n.toNat h1 h2 (by omega) (rfl) ?_), rfl⟩
  exact maskW _ (by omega)
theorem refField_any (a at_ n : Int) (h1 : 0 ≤ a) (h2 : a < 4294967296) (w : World) :
    Calls Try.prog 99 #[.int .u32 a, .int .i64 at_, .int .i64 n] w fun e w' => e = .returned (.int .u32 (field32 a at_ n)) ∧ w' = w := by
  by_cases k1 : at_ < 0
  · by_cases m1 : n < 0
    · exact refField_1 a at_ n h1 h2 k1 m1 w
    · by_cases m2 : 32 - (0) < n
      · exact refField_2 a at_ n h1 h2 k1 m2 w
      · exact refField_3 a at_ n h1 h2 k1 (by omega) w
  · by_cases k2 : 31 < at_
    · by_cases m1 : n < 0
      · exact refField_4 a at_ n h1 h2 k2 m1 w
      · by_cases m2 : 32 - (31) < n
        · exact refField_5 a at_ n h1 h2 k2 m2 w
        · exact refField_6 a at_ n h1 h2 k2 (by omega) w
    · by_cases m1 : n < 0
      · exact refField_7 a at_ n h1 h2 (by omega) m1 w
      · by_cases m2 : 32 - (at_) < n
        · exact refField_8 a at_ n h1 h2 (by omega) m2 w
        · exact refField_9 a at_ n h1 h2 (by omega) (by omega) w
end Go.Proofs.Ytobnocioefchlaa
