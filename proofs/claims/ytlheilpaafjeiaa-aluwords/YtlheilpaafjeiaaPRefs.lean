/- What the calls of the own answer of chapter 1 give, walked over their text. -/
import Derived.Test.YtlheilpaafjeiaaPBits
import Derived.Test.YtlheilpaafjeiaaPSumLaws
import Derived.Test.YtlheilpaafjeiaaPRefLaws
namespace Go.Proofs.Ytlheilpaafjeiaa
open Go.ChangeShapes Go.WideShapes Go.ChangeAt Go.RowKit
set_option linter.unusedVariables false
theorem signed_any (a : Int) (h1 : 0 ≤ a) (h2 : a < 4294967296) (w : World) :
    Calls Try.prog 47 #[.int .u32 a] w fun e w' => e = .returned (.int .i64 (sg a)) ∧ w' = w := by
  have ha := wrap32_sg h1 h2
  have ra := wrap64_sg h1 h2
  go_enter Try.func47, Try.ntmps47
  go_wp2
  go_ret
  exact ⟨ret_int ra, rfl⟩
theorem in_any (v : Int) (w : World) :
    Calls Try.prog 48 #[.int .i64 v] w fun e w' => e = .returned (.bool (decide (-2147483648 ≤ v) && decide (v < 2147483648))) ∧ w' = w := by
  by_cases h : -2147483648 ≤ v
  · have hd : decide (-2147483648 ≤ v) = true := by simp [h]
    go_enter Try.func48, Try.ntmps48
    go_wp2
    go_ret
    exact ⟨ret_bool (by simp [h]), rfl⟩
  · have hd : decide (-2147483648 ≤ v) = false := by simp [h]
    go_enter Try.func48, Try.ntmps48
    go_wp2
    go_ret
    exact ⟨ret_bool (by simp), rfl⟩
theorem refAddOver_any (a b : Int) (h1 : 0 ≤ a) (h2 : a < 4294967296) (h3 : 0 ≤ b) (h4 : b < 4294967296) (w : World) :
    Calls Try.prog 38 #[.int .u32 a, .int .u32 b] w fun e w' => e = .returned (.tuple #[.int .u32 (add32 a b), .bool (addOv a b)]) ∧ w' = w := by
  have r1 := sg_range h1 h2
  have r2 := sg_range h3 h4
  go_enter Try.func38, Try.ntmps38
  go_wp2_with (first | (go_at_call 47; refine (signed_any _ (by omega) (by omega) _).mono ?_; rintro e w' ⟨rfl, rfl⟩) | (go_at_call 48; refine (in_any _ _).mono ?_; rintro e w' ⟨rfl, rfl⟩))
  go_ret2
  exact ⟨ret_intb rfl (refAdd_eq a b h1 h2 h3 h4), rfl⟩
theorem refSubOver_any (a b : Int) (h1 : 0 ≤ a) (h2 : a < 4294967296) (h3 : 0 ≤ b) (h4 : b < 4294967296) (w : World) :
    Calls Try.prog 39 #[.int .u32 a, .int .u32 b] w fun e w' => e = .returned (.tuple #[.int .u32 (sub32 a b), .bool (subOv a b)]) ∧ w' = w := by
  have r1 := sg_range h1 h2
  have r2 := sg_range h3 h4
  go_enter Try.func39, Try.ntmps39
  go_wp2_with (first | (go_at_call 47; refine (signed_any _ (by omega) (by omega) _).mono ?_; rintro e w' ⟨rfl, rfl⟩) | (go_at_call 48; refine (in_any _ _).mono ?_; rintro e w' ⟨rfl, rfl⟩))
  go_ret2
  exact ⟨ret_intb rfl (refSub_eq a b h1 h2 h3 h4), rfl⟩
theorem refMulT_any (a b : Int) (h1 : 0 ≤ a) (h2 : a < 4294967296) (h3 : 0 ≤ b) (h4 : b < 4294967296) (w : World) :
    Calls Try.prog 28 #[.int .u32 a, .int .u32 b, .bool true] w fun e w' => e = .returned (.tuple #[.int .u32 (mulHi (sg a) (sg b)), .int .u32 (mulLo (sg a) (sg b))]) ∧ w' = w := by
  have ha := wrap32_sg h1 h2
  have hb := wrap32_sg h3 h4
  have Ra := wrap64_sg h1 h2
  have Rb := wrap64_sg h3 h4
  have Rp := wrap64_sgmul h1 h2 h3 h4
  go_enter Try.func28, Try.ntmps28
  go_wp2
  go_ret2
  exact ⟨ret_int2 rfl rfl, rfl⟩
theorem refMulF_any (a b : Int) (h1 : 0 ≤ a) (h2 : a < 4294967296) (h3 : 0 ≤ b) (h4 : b < 4294967296) (w : World) :
    Calls Try.prog 28 #[.int .u32 a, .int .u32 b, .bool false] w fun e w' => e = .returned (.tuple #[.int .u32 (mulHi a b), .int .u32 (mulLo a b)]) ∧ w' = w := by
  go_enter Try.func28, Try.ntmps28
  go_wp2
  go_ret2
  exact ⟨ret_int2 rfl rfl, rfl⟩
theorem refMul_any (a b : Int) (s : Bool) (h1 : 0 ≤ a) (h2 : a < 4294967296) (h3 : 0 ≤ b) (h4 : b < 4294967296) (w : World) :
    Calls Try.prog 28 #[.int .u32 a, .int .u32 b, .bool s] w fun e w' => e = .returned (.tuple #[.int .u32 (mulHi (sgs s a) (sgs s b)), .int .u32 (mulLo (sgs s a) (sgs s b))]) ∧ w' = w := by
  cases s
  · exact refMulF_any a b h1 h2 h3 h4 w
  · exact refMulT_any a b h1 h2 h3 h4 w
theorem refDivF_any (a b : Int) (h1 : 0 ≤ a) (h2 : a < 4294967296) (h3 : 0 < b) (h4 : b < 4294967296) (w : World) :
    Calls Try.prog 35 #[.int .u32 a, .int .u32 b, .bool false] w fun e w' => e = .returned (.tuple #[.int .u32 (a / b), .int .u32 (a % b)]) ∧ ∃ n, w' = w.drewN n := by
  have hz : (b == 0) = false := beq_eq_false_iff_ne.2 (by omega)
  go_enter Try.func35, Try.ntmps35
  go_wp2
  go_quiet (fail)
  go_wp2
  go_ret2
  exact ⟨ret_int2 rfl rfl, nq, rfl⟩
theorem refDivT_any (a b : Int) (h1 : 0 ≤ a) (h2 : a < 4294967296) (h3 : 0 < b) (h4 : b < 4294967296) (w : World) :
    Calls Try.prog 35 #[.int .u32 a, .int .u32 b, .bool true] w fun e w' => e = .returned (.tuple #[.int .u32 (quoT a b), .int .u32 (remT a b)]) ∧ ∃ n, w' = w.drewN n := by
  have hz : (b == 0) = false := beq_eq_false_iff_ne.2 (by omega)
  have hz' : ¬ sg b = 0 := by unfold sg; split <;> omega
  have hq := refQuo_eq a b h1 h2 h3 h4
  go_enter Try.func35, Try.ntmps35
  go_wp2_with (go_at_call 47; refine (signed_any _ (by omega) (by omega) _).mono ?_; rintro e w' ⟨rfl, rfl⟩)
  go_quiet (fail)
  go_wp2
  go_ret2
  exact ⟨ret_int2 hq rfl, nq, rfl⟩
theorem refDiv0_any (a : Int) (s : Bool) (w : World) :
    Calls Try.prog 35 #[.int .u32 a, .int .u32 0, .bool s] w fun e w' => e = .returned (.tuple #[.int .u32 0, .int .u32 0]) ∧ w' = w := by
  go_enter Try.func35, Try.ntmps35
  go_wp2
  go_ret2
  exact ⟨ret_int2 rfl rfl, rfl⟩
theorem refSar_any (a b : Int) (h1 : 0 ≤ a) (h2 : a < 4294967296) (h3 : 0 ≤ b) (h4 : b < 4294967296) (w : World) :
    Calls Try.prog 20 #[.int .u32 a, .int .u32 b] w fun e w' => e = .returned (.int .u32 (sar32 a b)) ∧ w' = w := by
  have hm := and31 b h3 h4
  have h0 : 0 ≤ b % 32 := by omega
  have hw := wrap32_sg h1 h2
  go_enter Try.func20, Try.ntmps20
  go_wp2
  go_ret
  exact ⟨ret_int rfl, rfl⟩
theorem refSext_any (a n : Int) (h1 : 0 ≤ a) (h2 : a < 4294967296) (w : World) :
    Calls Try.prog 50 #[.int .u32 a, .int .i64 n] w fun e w' => e = .returned (.int .u32 (sext32 a n)) ∧ w' = w := by
  unfold sext32
  by_cases m1 : n < 1
  · have hw := wrap32_sg (v := a * 2147483648 % 4294967296) (by omega) (by omega)
    rw [show clip n 1 32 = 1 by unfold clip; simp [m1]]
    go_enter Try.func50, Try.ntmps50
    go_wp2
    go_ret
    exact ⟨ret_int (by simp), rfl⟩
  · by_cases m2 : 32 < n
    · have hw := wrap32_sg (v := a % 4294967296) (by omega) (by omega)
      rw [show clip n 1 32 = 32 by unfold clip; simp [m1, m2]]
      go_enter Try.func50, Try.ntmps50
      go_wp2
      go_ret
      exact ⟨ret_int (by rw [Int.emod_eq_of_lt h1 h2, wrap32_sg h1 h2]), rfl⟩
    · have hw := wrap32_sg (v := a * 2 ^ (32 - n).toNat % 4294967296) (by omega) (by omega)
      rw [show clip n 1 32 = n by unfold clip; simp [m1, m2]]
      go_enter Try.func50, Try.ntmps50
      go_wp2
      go_ret
      exact ⟨ret_int rfl, rfl⟩
set_option maxHeartbeats 1000000 in
theorem refField_1 (a at_ n : Int) (h1 : 0 ≤ a) (h2 : a < 4294967296) (k1 : at_ < 0) (m1 : n < 0) (w : World) :
    Calls Try.prog 49 #[.int .u32 a, .int .i64 at_, .int .i64 n] w fun e w' => e = .returned (.int .u32 (field32 a at_ n)) ∧ w' = w := by
  have ek : clip at_ 0 31 = 0 := by unfold clip; split <;> (try split) <;> omega
  have em : clip n 0 (32 - clip at_ 0 31) = 0 := by rw [ek]; unfold clip; split <;> (try split) <;> omega
  have ef : field32 a at_ n = a / 2 ^ 0 % 2 ^ 0 := by unfold field32; rw [em, ek]; rfl
  rw [ef]
  clear ek em ef
  go_enter Try.func49, Try.ntmps49
  go_wp2
  go_ret
  refine ⟨ret_int (fieldFin a _ _ 0 0 h1 h2 (by omega) (over0 _) ?_), rfl⟩
  first | exact mask00 | exact mask0
set_option maxHeartbeats 1000000 in
theorem refField_2 (a at_ n : Int) (h1 : 0 ≤ a) (h2 : a < 4294967296) (k1 : at_ < 0) (m2 : 32 - (0) < n) (w : World) :
    Calls Try.prog 49 #[.int .u32 a, .int .i64 at_, .int .i64 n] w fun e w' => e = .returned (.int .u32 (field32 a at_ n)) ∧ w' = w := by
  have ek : clip at_ 0 31 = 0 := by unfold clip; split <;> (try split) <;> omega
  have em : clip n 0 (32 - clip at_ 0 31) = 32 - (0) := by rw [ek]; unfold clip; split <;> (try split) <;> omega
  have ef : field32 a at_ n = a / 2 ^ 0 % 2 ^ 32 := by unfold field32; rw [em, ek]; rfl
  rw [ef]
  clear ek em ef
  go_enter Try.func49, Try.ntmps49
  go_wp2
  go_ret
  refine ⟨ret_int (fieldFin a _ _ 0 32 h1 h2 (by omega) (over0 _) ?_), rfl⟩
  first | exact mask32 | exact mask1 | exact maskW _ (by omega)
set_option maxHeartbeats 1000000 in
theorem refField_3 (a at_ n : Int) (h1 : 0 ≤ a) (h2 : a < 4294967296) (k1 : at_ < 0) (m3 : 0 ≤ n ∧ n ≤ 32 - (0)) (w : World) :
    Calls Try.prog 49 #[.int .u32 a, .int .i64 at_, .int .i64 n] w fun e w' => e = .returned (.int .u32 (field32 a at_ n)) ∧ w' = w := by
  have ek : clip at_ 0 31 = 0 := by unfold clip; split <;> (try split) <;> omega
  have em : clip n 0 (32 - clip at_ 0 31) = n := by rw [ek]; unfold clip; split <;> (try split) <;> omega
  have ef : field32 a at_ n = a / 2 ^ 0 % 2 ^ n.toNat := by unfold field32; rw [em, ek]; rfl
  rw [ef]
  clear ek em ef
  go_enter Try.func49, Try.ntmps49
  go_wp2
  go_ret
  refine ⟨ret_int (fieldFin a _ _ 0 n.toNat h1 h2 (by omega) (over0 _) ?_), rfl⟩
  exact maskW _ (by omega)
set_option maxHeartbeats 1000000 in
theorem refField_4 (a at_ n : Int) (h1 : 0 ≤ a) (h2 : a < 4294967296) (k2 : 31 < at_) (m1 : n < 0) (w : World) :
    Calls Try.prog 49 #[.int .u32 a, .int .i64 at_, .int .i64 n] w fun e w' => e = .returned (.int .u32 (field32 a at_ n)) ∧ w' = w := by
  have ek : clip at_ 0 31 = 31 := by unfold clip; split <;> (try split) <;> omega
  have em : clip n 0 (32 - clip at_ 0 31) = 0 := by rw [ek]; unfold clip; split <;> (try split) <;> omega
  have ef : field32 a at_ n = a / 2 ^ 31 % 2 ^ 0 := by unfold field32; rw [em, ek]; rfl
  rw [ef]
  clear ek em ef
  go_enter Try.func49, Try.ntmps49
  go_wp2
  go_ret
  refine ⟨ret_int (fieldFin a _ _ 31 0 h1 h2 (by omega) (over31 _) ?_), rfl⟩
  first | exact mask00 | exact mask0
set_option maxHeartbeats 1000000 in
theorem refField_5 (a at_ n : Int) (h1 : 0 ≤ a) (h2 : a < 4294967296) (k2 : 31 < at_) (m2 : 32 - (31) < n) (w : World) :
    Calls Try.prog 49 #[.int .u32 a, .int .i64 at_, .int .i64 n] w fun e w' => e = .returned (.int .u32 (field32 a at_ n)) ∧ w' = w := by
  have ek : clip at_ 0 31 = 31 := by unfold clip; split <;> (try split) <;> omega
  have em : clip n 0 (32 - clip at_ 0 31) = 32 - (31) := by rw [ek]; unfold clip; split <;> (try split) <;> omega
  have ef : field32 a at_ n = a / 2 ^ 31 % 2 ^ 1 := by unfold field32; rw [em, ek]; rfl
  rw [ef]
  clear ek em ef
  go_enter Try.func49, Try.ntmps49
  go_wp2
  go_ret
  refine ⟨ret_int (fieldFin a _ _ 31 1 h1 h2 (by omega) (over31 _) ?_), rfl⟩
  first | exact mask32 | exact mask1 | exact maskW _ (by omega)
set_option maxHeartbeats 1000000 in
theorem refField_6 (a at_ n : Int) (h1 : 0 ≤ a) (h2 : a < 4294967296) (k2 : 31 < at_) (m3 : 0 ≤ n ∧ n ≤ 32 - (31)) (w : World) :
    Calls Try.prog 49 #[.int .u32 a, .int .i64 at_, .int .i64 n] w fun e w' => e = .returned (.int .u32 (field32 a at_ n)) ∧ w' = w := by
  have ek : clip at_ 0 31 = 31 := by unfold clip; split <;> (try split) <;> omega
  have em : clip n 0 (32 - clip at_ 0 31) = n := by rw [ek]; unfold clip; split <;> (try split) <;> omega
  have ef : field32 a at_ n = a / 2 ^ 31 % 2 ^ n.toNat := by unfold field32; rw [em, ek]; rfl
  rw [ef]
  clear ek em ef
  go_enter Try.func49, Try.ntmps49
  go_wp2
  go_ret
  refine ⟨ret_int (fieldFin a _ _ 31 n.toNat h1 h2 (by omega) (over31 _) ?_), rfl⟩
  exact maskW _ (by omega)
set_option maxHeartbeats 1000000 in
theorem refField_7 (a at_ n : Int) (h1 : 0 ≤ a) (h2 : a < 4294967296) (k3 : 0 ≤ at_ ∧ at_ ≤ 31) (m1 : n < 0) (w : World) :
    Calls Try.prog 49 #[.int .u32 a, .int .i64 at_, .int .i64 n] w fun e w' => e = .returned (.int .u32 (field32 a at_ n)) ∧ w' = w := by
  have ek : clip at_ 0 31 = at_ := by unfold clip; split <;> (try split) <;> omega
  have em : clip n 0 (32 - clip at_ 0 31) = 0 := by rw [ek]; unfold clip; split <;> (try split) <;> omega
  have ef : field32 a at_ n = a / 2 ^ at_.toNat % 2 ^ 0 := by unfold field32; rw [em, ek]; rfl
  rw [ef]
  clear ek em ef
  go_enter Try.func49, Try.ntmps49
  go_wp2
  go_ret
  refine ⟨ret_int (fieldFin a _ _ at_.toNat 0 h1 h2 (by omega) (rfl) ?_), rfl⟩
  first | exact mask00 | exact mask0
set_option maxHeartbeats 1000000 in
theorem refField_8 (a at_ n : Int) (h1 : 0 ≤ a) (h2 : a < 4294967296) (k3 : 0 ≤ at_ ∧ at_ ≤ 31) (m2 : 32 - (at_) < n) (w : World) :
    Calls Try.prog 49 #[.int .u32 a, .int .i64 at_, .int .i64 n] w fun e w' => e = .returned (.int .u32 (field32 a at_ n)) ∧ w' = w := by
  have ek : clip at_ 0 31 = at_ := by unfold clip; split <;> (try split) <;> omega
  have em : clip n 0 (32 - clip at_ 0 31) = 32 - (at_) := by rw [ek]; unfold clip; split <;> (try split) <;> omega
  have ef : field32 a at_ n = a / 2 ^ at_.toNat % 2 ^ (32 - at_).toNat := by unfold field32; rw [em, ek]
  rw [ef]
  clear ek em ef
  go_enter Try.func49, Try.ntmps49
  go_wp2
  go_ret
  refine ⟨ret_int (fieldFin a _ _ at_.toNat (32 - at_).toNat h1 h2 (by omega) (rfl) ?_), rfl⟩
  first | exact mask32 | exact mask1 | exact maskW _ (by omega)
set_option maxHeartbeats 1000000 in
theorem refField_9 (a at_ n : Int) (h1 : 0 ≤ a) (h2 : a < 4294967296) (k3 : 0 ≤ at_ ∧ at_ ≤ 31) (m3 : 0 ≤ n ∧ n ≤ 32 - (at_)) (w : World) :
    Calls Try.prog 49 #[.int .u32 a, .int .i64 at_, .int .i64 n] w fun e w' => e = .returned (.int .u32 (field32 a at_ n)) ∧ w' = w := by
  have ek : clip at_ 0 31 = at_ := by unfold clip; split <;> (try split) <;> omega
  have em : clip n 0 (32 - clip at_ 0 31) = n := by rw [ek]; unfold clip; split <;> (try split) <;> omega
  have ef : field32 a at_ n = a / 2 ^ at_.toNat % 2 ^ n.toNat := by unfold field32; rw [em, ek]
  rw [ef]
  clear ek em ef
  go_enter Try.func49, Try.ntmps49
  go_wp2
  go_ret
  refine ⟨ret_int (fieldFin a _ _ at_.toNat n.toNat h1 h2 (by omega) (rfl) ?_), rfl⟩
  exact maskW _ (by omega)
theorem refField_any (a at_ n : Int) (h1 : 0 ≤ a) (h2 : a < 4294967296) (w : World) :
    Calls Try.prog 49 #[.int .u32 a, .int .i64 at_, .int .i64 n] w fun e w' => e = .returned (.int .u32 (field32 a at_ n)) ∧ w' = w := by
  by_cases k1 : at_ < 0
  · by_cases m1 : n < 0
    · exact refField_1 a at_ n h1 h2 k1 m1 w
    · by_cases m2 : 32 - (0) < n
      · exact refField_2 a at_ n h1 h2 k1 m2 w
      · exact refField_3 a at_ n h1 h2 k1 (by omega) w
  · by_cases k2 : 31 < at_
    · by_cases m1 : n < 0
      · exact refField_4 a at_ n h1 h2 k2 m1 w
      · by_cases m2 : 32 - (31) < n
        · exact refField_5 a at_ n h1 h2 k2 m2 w
        · exact refField_6 a at_ n h1 h2 k2 (by omega) w
    · by_cases m1 : n < 0
      · exact refField_7 a at_ n h1 h2 (by omega) m1 w
      · by_cases m2 : 32 - (at_) < n
        · exact refField_8 a at_ n h1 h2 (by omega) m2 w
        · exact refField_9 a at_ n h1 h2 (by omega) (by omega) w
theorem refZeros_any (a : Int) (h1 : 0 ≤ a) (h2 : a < 4294967296) (w : World) :
    Calls Try.prog 29 #[.int .u32 a] w fun e w' => e = .returned (.int .u32 (zeros32 a)) ∧ w' = w := by
  go_enter Try.func29, Try.ntmps29
  go_wp2
  go_loop [3] (fun n => ∃ k : Nat, k ≤ 32 ∧ n = .int .u32 k ∧ a / 2 ^ (32 - k) = 0) (fun n => 32 - (intOf n).toNat)
  case atStart => exact ⟨0, by omega, rfl, by simp; omega⟩
  case round =>
    obtain ⟨k, hk, rfl, hq⟩ := hrel
    have HQ := hidden hq
    clear hq
    by_cases hlt : k < 32
    · have hd : decide ((k : Int) < 32) = true := by simp; omega
      by_cases hb : a / 2 ^ (31 - k) = 0
      · have hb' : (a / 2 ^ (31 - k) == 0) = true := by simp [hb]
        have HB := hidden hb
        clear hb
        go_wp2
        go_round
        case rel => exact ⟨k + 1, by omega, by go_num, by rw [show 32 - (k + 1) = 31 - k by omega]; exact HB.out⟩
        case measure => simp [intOf]; omega
      · have hb' : (a / 2 ^ (31 - k) == 0) = false := by simp [hb]
        have HB := hidden hb
        clear hb
        go_wp2
        go_ret
        exact ⟨ret_int (zeros_at a k h1 h2 hlt HQ.out HB.out), rfl⟩
    · have hd : decide ((k : Int) < 32) = false := by simp; omega
      go_wp2
      go_ret
      exact ⟨ret_int (zeros_end a k (by omega) HQ.out), rfl⟩
theorem refOnes_any (a : Int) (h1 : 0 ≤ a) (h2 : a < 4294967296) (w : World) :
    Calls Try.prog 30 #[.int .u32 a] w fun e w' => e = .returned (.int .u32 (zeros32 (4294967295 - a))) ∧ w' = w := by
  have hx := not32 a h1 h2
  have hs : IntKind.u32.signed = false := rfl
  go_enter Try.func30, Try.ntmps30
  go_wp2_with (go_at_call 29; refine (refZeros_any (4294967295 - a) (by omega) (by omega) _).mono ?_; rintro e w' ⟨rfl, rfl⟩)
  go_ret
  exact ⟨ret_int rfl, rfl⟩
end Go.Proofs.Ytlheilpaafjeiaa
