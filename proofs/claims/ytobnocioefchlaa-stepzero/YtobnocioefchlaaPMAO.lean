/- What each call of layer 1 answers, walked over the text of the program. -/
import Derived.Test.YtobnocioefchlaaPMAA
import Derived.Test.YtobnocioefchlaaRows
import Derived.WalkKit
import Derived.ProofKit
import Derived.OpenShut
import Derived.Deep.QuietTactic
import Derived.BigQuiet
namespace Go.Proofs.Ytobnocioefchlaa
open Go.ChangeShapes Go.WideShapes Go.ChangeAt Go.RowKit
set_option linter.unusedVariables false
theorem addOver_any (a b : Int) (h1 : 0 ≤ a) (h2 : a < 4294967296) (h3 : 0 ≤ b) (h4 : b < 4294967296) (w : World) :
    Calls Try.prog 71 #[.int .u32 a, .int .u32 b] w fun e w' => e = .returned (.tuple #[.int .u32 (add32 a b), .bool (addOv a b)]) ∧ w' = w := by
  have H := addOver_eq a b h1 h2 h3 h4
  go_enter Try.func71, Try.ntmps71
  go_wp2
  go_ret2
  exact ⟨ret_intb rfl rfl, rfl⟩
theorem subOver_any (a b : Int) (h1 : 0 ≤ a) (h2 : a < 4294967296) (h3 : 0 ≤ b) (h4 : b < 4294967296) (w : World) :
    Calls Try.prog 72 #[.int .u32 a, .int .u32 b] w fun e w' => e = .returned (.tuple #[.int .u32 (sub32 a b), .bool (subOv a b)]) ∧ w' = w := by
  have H := subOver_eq a b h1 h2 h3 h4
  go_enter Try.func72, Try.ntmps72
  go_wp2
  go_ret2
  exact ⟨ret_intb rfl rfl, rfl⟩
theorem shl_any (a b : Int) (h1 : 0 ≤ a) (h2 : a < 4294967296) (h3 : 0 ≤ b) (h4 : b < 4294967296) (w : World) :
    Calls Try.prog 95 #[.int .u32 a, .int .u32 b] w fun e w' => e = .returned (.int .u32 (shl32 a b)) ∧ w' = w := by
  have hm := and31 b h3 h4
  have h0 : 0 ≤ b % 32 := by omega
  go_enter Try.func95, Try.ntmps95
  go_wp2
  go_ret
  exact ⟨ret_int rfl, rfl⟩
theorem shr_any (a b : Int) (h1 : 0 ≤ a) (h2 : a < 4294967296) (h3 : 0 ≤ b) (h4 : b < 4294967296) (w : World) :
    Calls Try.prog 96 #[.int .u32 a, .int .u32 b] w fun e w' => e = .returned (.int .u32 (shr32 a b)) ∧ w' = w := by
  have hm := and31 b h3 h4
  have h0 : 0 ≤ b % 32 := by omega
  go_enter Try.func96, Try.ntmps96
  go_wp2
  go_ret
  exact ⟨ret_int rfl, rfl⟩
theorem sar_any (a b : Int) (h1 : 0 ≤ a) (h2 : a < 4294967296) (h3 : 0 ≤ b) (h4 : b < 4294967296) (w : World) :
    Calls Try.prog 97 #[.int .u32 a, .int .u32 b] w fun e w' => e = .returned (.int .u32 (sar32 a b)) ∧ w' = w := by
  have hm := and31 b h3 h4
  have h0 : 0 ≤ b % 32 := by omega
  have hw := wrap32_sg h1 h2
  go_enter Try.func97, Try.ntmps97
  go_wp2
  go_ret
  exact ⟨ret_int rfl, rfl⟩
theorem sext_any (a n : Int) (h1 : 0 ≤ a) (h2 : a < 4294967296) (w : World) :
    Calls Try.prog 92 #[.int .u32 a, .int .i64 n] w fun e w' => e = .returned (.int .u32 (sext32 a n)) ∧ w' = w := by
  have hc := clip_range n 1 32 (by omega)
  have hw := wrap32_sg (v := a * 2 ^ (32 - clip n 1 32).toNat % 4294967296) (by omega) (by omega)
  go_enter Try.func92, Try.ntmps92
  go_wp2_with (go_at_call 101; refine (cut_any _ _ _ _).mono ?_; rintro e w' ⟨rfl, rfl⟩)
  go_ret
  exact ⟨ret_int rfl, rfl⟩
theorem mulT_any (a b : Int) (h1 : 0 ≤ a) (h2 : a < 4294967296) (h3 : 0 ≤ b) (h4 : b < 4294967296) (w : World) :
    Calls Try.prog 78 #[.int .u32 a, .int .u32 b, .bool true] w fun e w' => e = .returned (.tuple #[.int .u32 (mulHi (sg a) (sg b)), .int .u32 (mulLo (sg a) (sg b))]) ∧ w' = w := by
  have ha := wrap32_sg h1 h2
  have hb := wrap32_sg h3 h4
  have ra := sg_range h1 h2
  have rb := sg_range h3 h4
  have Ra := wrap64_sg h1 h2
  have Rb := wrap64_sg h3 h4
  have Rp := wrap64_sgmul h1 h2 h3 h4
  go_enter Try.func78, Try.ntmps78
  go_wp2
  go_ret2
  exact ⟨ret_int2 rfl rfl, rfl⟩
theorem mulF_any (a b : Int) (h1 : 0 ≤ a) (h2 : a < 4294967296) (h3 : 0 ≤ b) (h4 : b < 4294967296) (w : World) :
    Calls Try.prog 78 #[.int .u32 a, .int .u32 b, .bool false] w fun e w' => e = .returned (.tuple #[.int .u32 (mulHi a b), .int .u32 (mulLo a b)]) ∧ w' = w := by
  go_enter Try.func78, Try.ntmps78
  go_wp2
  go_ret2
  exact ⟨ret_int2 rfl rfl, rfl⟩
theorem mul_any (a b : Int) (s : Bool) (h1 : 0 ≤ a) (h2 : a < 4294967296) (h3 : 0 ≤ b) (h4 : b < 4294967296) (w : World) :
    Calls Try.prog 78 #[.int .u32 a, .int .u32 b, .bool s] w fun e w' => e = .returned (.tuple #[.int .u32 (mulHi (sgs s a) (sgs s b)), .int .u32 (mulLo (sgs s a) (sgs s b))]) ∧ w' = w := by
  cases s
  · exact mulF_any a b h1 h2 h3 h4 w
  · exact mulT_any a b h1 h2 h3 h4 w
theorem divF_any (a b : Int) (h1 : 0 ≤ a) (h2 : a < 4294967296) (h3 : 0 < b) (h4 : b < 4294967296) (w : World) :
    Calls Try.prog 79 #[.int .u32 a, .int .u32 b, .bool false] w fun e w' => e = .returned (.tuple #[.int .u32 (a / b), .int .u32 (a % b)]) ∧ ∃ n, w' = w.drewN n := by
  have hz : (b == 0) = false := beq_eq_false_iff_ne.2 (by omega)
  go_enter Try.func79, Try.ntmps79
  go_wp2
  go_quiet (fail)
  go_wp2
  go_ret2
  exact ⟨ret_int2 rfl rfl, nq, rfl⟩
theorem divT_any (a b : Int) (h1 : 0 ≤ a) (h2 : a < 4294967296) (h3 : 0 < b) (h4 : b < 4294967296) (w : World) :
    Calls Try.prog 79 #[.int .u32 a, .int .u32 b, .bool true] w fun e w' => e = .returned (.tuple #[.int .u32 (quoT a b), .int .u32 (remT a b)]) ∧ ∃ n, w' = w.drewN n := by
  have hz : (b == 0) = false := beq_eq_false_iff_ne.2 (by omega)
  have ha := wrap32_sg h1 h2
  have hb := wrap32_sg (by omega) h4
  have hz' : ¬ sg b = 0 := by unfold sg; split <;> omega
  go_enter Try.func79, Try.ntmps79
  go_wp2
  go_quiet (fail)
  go_wp2
  go_ret2
  exact ⟨ret_int2 rfl rfl, nq, rfl⟩
theorem div0_any (a : Int) (s : Bool) (w : World) :
    Calls Try.prog 79 #[.int .u32 a, .int .u32 0, .bool s] w fun e w' => e = .returned (.tuple #[.int .u32 0, .int .u32 0]) ∧ w' = w := by
  go_enter Try.func79, Try.ntmps79
  go_wp2
  go_ret2
  exact ⟨ret_int2 rfl rfl, rfl⟩
set_option maxRecDepth 100000 in
theorem len32_a (a : Int) (h1 : 0 ≤ a) (h2 : a < 256) (w : World) :
    Calls Try.prog 103 #[.int .u32 a] w fun e w' => e = .returned (.int .i64 (bitLen a.toNat)) ∧ w' = w := by
  have hb := bitLen_le8 a.toNat (by omega)
  go_enter Try.func103, Try.ntmps103
  go_wp2
  go_ret
  refine ⟨ret_int ?_, rfl⟩
  rw [len8tab_get]
  have e := wrap64_small (bitLen a.toNat) (by omega)
  rw [e, e]
set_option maxRecDepth 100000 in
theorem len32_b (a : Int) (h1 : 256 ≤ a) (h2 : a < 65536) (w : World) :
    Calls Try.prog 103 #[.int .u32 a] w fun e w' => e = .returned (.int .i64 (bitLen a.toNat)) ∧ w' = w := by
  have hb := bitLen_le8 (a / 256).toNat (by omega)
  have hs := len_shift a 8 (by omega) (by simp; omega)
  have ed : a / 2 ^ 8 = a / 256 := by simp; try omega
  rw [ed] at hs
  have HS := hidden hs
  clear hs ed
  go_enter Try.func103, Try.ntmps103
  go_wp2
  go_ret
  refine ⟨ret_int ?_, rfl⟩
  rw [len8tab_get, HS.out]
  have e := wrap64_small (bitLen (a / 256).toNat) (by omega)
  rw [e, wrap64_small _ (by omega)]
  simp
set_option maxRecDepth 100000 in
theorem len32_c (a : Int) (h1 : 65536 ≤ a) (h2 : a < 16777216) (w : World) :
    Calls Try.prog 103 #[.int .u32 a] w fun e w' => e = .returned (.int .i64 (bitLen a.toNat)) ∧ w' = w := by
  have hb := bitLen_le8 (a / 65536).toNat (by omega)
  have hs := len_shift a 16 (by omega) (by simp; omega)
  have ed : a / 2 ^ 16 = a / 65536 := by simp; try omega
  rw [ed] at hs
  have HS := hidden hs
  clear hs ed
  go_enter Try.func103, Try.ntmps103
  go_wp2
  go_ret
  refine ⟨ret_int ?_, rfl⟩
  rw [len8tab_get, HS.out]
  have e := wrap64_small (bitLen (a / 65536).toNat) (by omega)
  rw [e, wrap64_small _ (by omega)]
  simp
set_option maxRecDepth 100000 in
theorem len32_d (a : Int) (h1 : 16777216 ≤ a) (h2 : a < 4294967296) (w : World) :
    Calls Try.prog 103 #[.int .u32 a] w fun e w' => e = .returned (.int .i64 (bitLen a.toNat)) ∧ w' = w := by
  have hb := bitLen_le8 (a / 65536 / 256).toNat (by omega)
  have hs := len_shift a 24 (by omega) (by simp; omega)
  have ed : a / 2 ^ 24 = a / 65536 / 256 := by simp; try omega
  rw [ed] at hs
  have HS := hidden hs
  clear hs ed
  go_enter Try.func103, Try.ntmps103
  go_wp2
  go_ret
  refine ⟨ret_int ?_, rfl⟩
  rw [len8tab_get, HS.out]
  have e := wrap64_small (bitLen (a / 65536 / 256).toNat) (by omega)
  rw [e, wrap64_small _ (by omega)]
  simp
theorem len32_any (a : Int) (h1 : 0 ≤ a) (h2 : a < 4294967296) (w : World) :
    Calls Try.prog 103 #[.int .u32 a] w fun e w' => e = .returned (.int .i64 (bitLen a.toNat)) ∧ w' = w := by
  by_cases a1 : a < 256
  · exact len32_a a h1 a1 w
  · by_cases a2 : a < 65536
    · exact len32_b a (by omega) a2 w
    · by_cases a3 : a < 16777216
      · exact len32_c a (by omega) a3 w
      · exact len32_d a (by omega) h2 w
theorem lead32_any (a : Int) (h1 : 0 ≤ a) (h2 : a < 4294967296) (w : World) :
    Calls Try.prog 98 #[.int .u32 a] w fun e w' => e = .returned (.int .i64 (zeros32 a)) ∧ w' = w := by
  have hb := bitLen_le32 a h1 h2
  go_enter Try.func98, Try.ntmps98
  go_wp2_with (go_at_call 103; refine (len32_any _ h1 h2 _).mono ?_; rintro e w' ⟨rfl, rfl⟩)
  go_ret
  exact ⟨ret_int rfl, rfl⟩
theorem zeros_any (a : Int) (h1 : 0 ≤ a) (h2 : a < 4294967296) (w : World) :
    Calls Try.prog 83 #[.int .u32 a] w fun e w' => e = .returned (.int .u32 (zeros32 a)) ∧ w' = w := by
  have hb := zeros32_range a h1 h2
  go_enter Try.func83, Try.ntmps83
  go_wp2_with (go_at_call 98; refine (lead32_any _ h1 h2 _).mono ?_; rintro e w' ⟨rfl, rfl⟩)
  go_ret
  exact ⟨ret_int rfl, rfl⟩
theorem ones_any (a : Int) (h1 : 0 ≤ a) (h2 : a < 4294967296) (w : World) :
    Calls Try.prog 84 #[.int .u32 a] w fun e w' => e = .returned (.int .u32 (zeros32 (4294967295 - a))) ∧ w' = w := by
  have hx := not32 a h1 h2
  have hs : IntKind.u32.signed = false := rfl
  go_enter Try.func84, Try.ntmps84
  go_wp2_with (go_at_call 83; refine (zeros_any (4294967295 - a) (by omega) (by omega) _).mono ?_; rintro e w' ⟨rfl, rfl⟩)
  go_ret
  exact ⟨ret_int rfl, rfl⟩
end Go.Proofs.Ytobnocioefchlaa
namespace Go.Proofs.Ytobnocioefchlaa
open Go.RowKit
set_option linter.unusedVariables false
theorem u32_of_wf {a : Int} (h : (Lit.int .u32 a).wf = true) : 0 ≤ a ∧ a < 4294967296 := by
  simp [Lit.wf, IntKind.bits, IntKind.signed, IntKind.min, IntKind.max] at h; omega
theorem div31_range {a : Int} (h1 : 0 ≤ a) (h2 : a < 4294967296) : 0 ≤ a / 2147483648 ∧ a / 2147483648 < 4294967296 := by omega
theorem sums_back (a b : Int) (h1 : 0 ≤ a) (h2 : a < 4294967296) (h3 : 0 ≤ b) (h4 : b < 4294967296) : sub32 (add32 a b) b = a := by
  unfold sub32 add32; omega
theorem sums_backOv (a b : Int) (h1 : 0 ≤ a) (h2 : a < 4294967296) (h3 : 0 ≤ b) (h4 : b < 4294967296) : subOv (add32 a b) b = addOv a b := by
  unfold subOv addOv
  rw [sums_back a b h1 h2 h3 h4]
  unfold top add32
  by_cases x : 2147483648 ≤ a <;> by_cases y : 2147483648 ≤ b <;> by_cases z : 2147483648 ≤ (a + b) % 4294967296 <;> simp [x, y, z] <;> omega
theorem sar_sext (a : Int) (h1 : 0 ≤ a) (h2 : a < 4294967296) : sar32 a 31 = sext32 (a / 2147483648) 1 := by
  unfold sar32 sext32 clip
  by_cases x : a < 2147483648
  · have : a / 2147483648 = 0 := by omega
    rw [this]
    simp [sg, x]
    omega
  · have : a / 2147483648 = 1 := by omega
    rw [this]
    simp [sg, x]
    omega
theorem sums_cases (a b : Int) (h1 : 0 ≤ a) (h2 : a < 4294967296) (h3 : 0 ≤ b) (h4 : b < 4294967296) :
    (a / 2147483648 = 0 ∧ b / 2147483648 = 0 ∧ add32 a b / 2147483648 = 0 ∧ addOv a b = false) ∨
    (a / 2147483648 = 0 ∧ b / 2147483648 = 0 ∧ add32 a b / 2147483648 = 1 ∧ addOv a b = true) ∨
    (a / 2147483648 = 1 ∧ b / 2147483648 = 1 ∧ add32 a b / 2147483648 = 0 ∧ addOv a b = true) ∨
    (a / 2147483648 = 1 ∧ b / 2147483648 = 1 ∧ add32 a b / 2147483648 = 1 ∧ addOv a b = false) ∨
    (a / 2147483648 = 0 ∧ b / 2147483648 = 1 ∧ (add32 a b / 2147483648 = 0 ∨ add32 a b / 2147483648 = 1) ∧ addOv a b = false) ∨
    (a / 2147483648 = 1 ∧ b / 2147483648 = 0 ∧ (add32 a b / 2147483648 = 0 ∨ add32 a b / 2147483648 = 1) ∧ addOv a b = false) := by
  have hs := add32_range a b
  have ho : addOv a b = ((top a != top (add32 a b)) && (top b != top (add32 a b))) := rfl
  generalize add32 a b = s at *
  unfold top at ho
  by_cases x : 2147483648 ≤ a <;> by_cases y : 2147483648 ≤ b <;> by_cases z : 2147483648 ≤ s <;> simp [x, y, z] at ho <;> simp [ho] <;> omega
end Go.Proofs.Ytobnocioefchlaa
namespace Go.Proofs.Ytobnocioefchlaa
open Go.RowKit
set_option linter.unusedVariables false
theorem or_low (x J : Nat) : x ||| (2 ^ J - 1) = x / 2 ^ J * 2 ^ J + (2 ^ J - 1) := by
  apply Nat.eq_of_testBit_eq
  intro i
  have hp := Nat.two_pow_pos J
  rw [Nat.testBit_or, Nat.testBit_two_pow_sub_one, Nat.mul_comm, Nat.testBit_two_pow_mul_add _ (by omega)]
  split
  · rename_i h; simp [h, Nat.testBit_two_pow_sub_one]
  · rename_i h
    simp only [h, decide_false, Bool.or_false]
    rw [Nat.testBit_div_two_pow]
    congr 1
    omega
theorem low_and (x : Int) (J : Nat) (hJ : J ≤ 32) (h1 : 0 ≤ x) (h2 : x < 4294967296) : bits .and .u32 x ((2 ^ J - 1) % 4294967296) = x % 2 ^ J := by
  obtain ⟨y, rfl⟩ := Int.eq_ofNat_of_zero_le h1
  have hp := pow_le32 hJ
  have e : ((2 : Int) ^ J - 1) % 4294967296 = ((2 ^ J - 1 : Nat) : Int) := by
    rw [Int.emod_eq_of_lt (by omega) (by omega), ← pow_cast]
    have := Nat.two_pow_pos J
    omega
  have hp' : 2 ^ J - 1 < 4294967296 := by
    have := pow_cast J
    omega
  rw [e, u32_and_nat y (2 ^ J - 1) (by omega) hp', Nat.and_two_pow_sub_one_eq_mod, ← pow_cast]
  simp
theorem low_or (x : Int) (J : Nat) (hJ : J ≤ 32) (h1 : 0 ≤ x) (h2 : x < 4294967296) : bits .or .u32 x ((2 ^ J - 1) % 4294967296) = x / 2 ^ J * 2 ^ J + (2 ^ J - 1) := by
  obtain ⟨y, rfl⟩ := Int.eq_ofNat_of_zero_le h1
  have hp := pow_le32 hJ
  have hq := Nat.two_pow_pos J
  have e : ((2 : Int) ^ J - 1) % 4294967296 = ((2 ^ J - 1 : Nat) : Int) := by
    rw [Int.emod_eq_of_lt (by omega) (by omega), ← pow_cast]
    omega
  have hp' : 2 ^ J - 1 < 4294967296 := by
    have := pow_cast J
    omega
  rw [e, u32_or_nat y (2 ^ J - 1) (by omega) hp', or_low]
  rw [← pow_cast, Int.natCast_add, Int.natCast_mul, Int.natCast_ediv, Int.natCast_sub (by omega)]
  simp
theorem cases32 {K : Int} (h0 : 0 ≤ K) (h1 : K < 32) : K = 0 ∨ K = 1 ∨ K = 2 ∨ K = 3 ∨ K = 4 ∨ K = 5 ∨ K = 6 ∨ K = 7 ∨ K = 8 ∨ K = 9 ∨ K = 10 ∨ K = 11 ∨ K = 12 ∨ K = 13 ∨ K = 14 ∨ K = 15 ∨ K = 16 ∨ K = 17 ∨ K = 18 ∨ K = 19 ∨ K = 20 ∨ K = 21 ∨ K = 22 ∨ K = 23 ∨ K = 24 ∨ K = 25 ∨ K = 26 ∨ K = 27 ∨ K = 28 ∨ K = 29 ∨ K = 30 ∨ K = 31 := by omega
theorem up_down (v K : Int) (h1 : 0 ≤ v) (h2 : v < 4294967296) (h3 : 0 ≤ K) (h4 : K < 32) : v * 2 ^ K.toNat % 4294967296 / 2 ^ K.toNat = v % 2 ^ (32 - K).toNat := by
  rcases cases32 h3 h4 with h|h|h|h|h|h|h|h|h|h|h|h|h|h|h|h|h|h|h|h|h|h|h|h|h|h|h|h|h|h|h|h <;> subst h <;> simp <;> omega
theorem sar_low (v K : Int) (h1 : 0 ≤ v) (h2 : v < 4294967296) (h3 : 0 ≤ K) (h4 : K < 32) : sg v / 2 ^ K.toNat % 4294967296 % 2 ^ (32 - K).toNat = v / 2 ^ K.toNat % 2 ^ (32 - K).toNat := by
  have e : sg v = v ∨ sg v = v - 4294967296 := by unfold sg; split <;> omega
  generalize sg v = s at e
  rcases cases32 h3 h4 with h|h|h|h|h|h|h|h|h|h|h|h|h|h|h|h|h|h|h|h|h|h|h|h|h|h|h|h|h|h|h|h <;> subst h <;> simp <;> omega
theorem sar_high (v K : Int) (h1 : 2147483648 ≤ v) (h2 : v < 4294967296) (h3 : 0 ≤ K) (h4 : K < 32) : sg v / 2 ^ K.toNat % 4294967296 / 2 ^ (32 - K).toNat * 2 ^ (32 - K).toNat + (2 ^ (32 - K).toNat - 1) = 4294967295 := by
  have e : sg v = v - 4294967296 := by unfold sg; split <;> omega
  rw [e]
  rcases cases32 h3 h4 with h|h|h|h|h|h|h|h|h|h|h|h|h|h|h|h|h|h|h|h|h|h|h|h|h|h|h|h|h|h|h|h <;> subst h <;> simp <;> omega
def lowOf (n : Int) : Int := (2 ^ (32 - n % 32).toNat - 1) % 4294967296
theorem lowOf_zero (n : Int) (h : n % 32 = 0) : lowOf n = 4294967295 := by unfold lowOf; rw [h]; decide
theorem shifts1 (v n : Int) (h1 : 0 ≤ v) (h2 : v < 4294967296) (h3 : 0 ≤ n) (h4 : n < 4294967296) : shr32 (shl32 v n) n = bits .and .u32 v (lowOf n) := by
  unfold lowOf
  rw [low_and v _ (by omega) h1 h2]
  unfold shr32 shl32
  exact up_down v (n % 32) h1 h2 (by omega) (by omega)
theorem shifts2 (v n : Int) (h3 : 0 ≤ n) (h4 : n < 4294967296) : shl32 v ((n + 32) % 4294967296) = shl32 v n := by
  unfold shl32
  have : (n + 32) % 4294967296 % 32 = n % 32 := by omega
  rw [this]
theorem shifts3 (v n : Int) : shr32 v (n % 32) = shr32 v n := by
  unfold shr32
  have : n % 32 % 32 = n % 32 := by omega
  rw [this]
theorem shifts4 (v n : Int) (h1 : 0 ≤ v) (h2 : v < 4294967296) : bits .and .u32 (sar32 v n) (lowOf n) = bits .and .u32 (shr32 v n) (lowOf n) := by
  have a := sar32_range v n
  have b := shr32_range n h1 h2
  unfold lowOf
  rw [low_and _ _ (by omega) a.1 a.2, low_and _ _ (by omega) b.1 b.2]
  exact sar_low v (n % 32) h1 h2 (by omega) (by omega)
theorem shifts5 (v n : Int) (h1 : 0 ≤ v) (h2 : v < 2147483648) : sar32 v n = shr32 v n := by
  have b := shr32_range n h1 (by omega)
  have e : sg v = v := by unfold sg; split <;> omega
  unfold sar32 shr32 at *
  rw [e, Int.emod_eq_of_lt b.1 b.2]
theorem shifts6 (v n : Int) (h1 : 2147483648 ≤ v) (h2 : v < 4294967296) : bits .or .u32 (sar32 v n) (lowOf n) = 4294967295 := by
  have a := sar32_range v n
  unfold lowOf
  rw [low_or _ _ (by omega) a.1 a.2]
  exact sar_high v (n % 32) h1 h2 (by omega) (by omega)
end Go.Proofs.Ytobnocioefchlaa
