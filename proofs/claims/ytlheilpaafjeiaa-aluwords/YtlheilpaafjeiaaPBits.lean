/- What each call of layer 1 answers, walked over the text of the program. -/
import Derived.Test.YtlheilpaafjeiaaRows
import Derived.Test.YtlheilpaafjeiaaPNums
import Derived.WalkKit
import Derived.ProofKit
import Derived.OpenShut
import Derived.Deep.QuietTactic
import Derived.BigQuiet
namespace Go.Proofs.Ytlheilpaafjeiaa
open Go.ChangeShapes Go.WideShapes Go.ChangeAt Go.RowKit
set_option linter.unusedVariables false
theorem ret_int {k : IntKind} {a b : Int} (h : a = b) : Ending.returned (.int k a) = .returned (.int k b) := by rw [h]
theorem hidden {p : Prop} (h : p) : Hid p := h
theorem ret_bool {a b : Bool} (h : a = b) : Ending.returned (.bool a) = .returned (.bool b) := by rw [h]
theorem ret_int2 {k l : IntKind} {a b c d : Int} (h : a = b) (h2 : c = d) : Ending.returned (.tuple #[.int k a, .int l c]) = .returned (.tuple #[.int k b, .int l d]) := by rw [h, h2]
theorem ret_intb {k : IntKind} {a b : Int} {c d : Bool} (h : a = b) (h2 : c = d) : Ending.returned (.tuple #[.int k a, .bool c]) = .returned (.tuple #[.int k b, .bool d]) := by rw [h, h2]

theorem addOver_any (a b : Int) (h1 : 0 ≤ a) (h2 : a < 4294967296) (h3 : 0 ≤ b) (h4 : b < 4294967296) (w : World) :
    Calls Try.prog 36 #[.int .u32 a, .int .u32 b] w fun e w' => e = .returned (.tuple #[.int .u32 (add32 a b), .bool (addOv a b)]) ∧ w' = w := by
  have H := addOver_eq a b h1 h2 h3 h4
  go_enter Try.func36, Try.ntmps36
  go_wp2
  go_ret2
  exact ⟨ret_intb rfl rfl, rfl⟩
theorem subOver_any (a b : Int) (h1 : 0 ≤ a) (h2 : a < 4294967296) (h3 : 0 ≤ b) (h4 : b < 4294967296) (w : World) :
    Calls Try.prog 37 #[.int .u32 a, .int .u32 b] w fun e w' => e = .returned (.tuple #[.int .u32 (sub32 a b), .bool (subOv a b)]) ∧ w' = w := by
  have H := subOver_eq a b h1 h2 h3 h4
  go_enter Try.func37, Try.ntmps37
  go_wp2
  go_ret2
  exact ⟨ret_intb rfl rfl, rfl⟩
theorem shl_any (a b : Int) (h1 : 0 ≤ a) (h2 : a < 4294967296) (h3 : 0 ≤ b) (h4 : b < 4294967296) (w : World) :
    Calls Try.prog 43 #[.int .u32 a, .int .u32 b] w fun e w' => e = .returned (.int .u32 (shl32 a b)) ∧ w' = w := by
  have hm := and31 b h3 h4
  have h0 : 0 ≤ b % 32 := by omega
  go_enter Try.func43, Try.ntmps43
  go_wp2
  go_ret
  exact ⟨ret_int rfl, rfl⟩
theorem shr_any (a b : Int) (h1 : 0 ≤ a) (h2 : a < 4294967296) (h3 : 0 ≤ b) (h4 : b < 4294967296) (w : World) :
    Calls Try.prog 44 #[.int .u32 a, .int .u32 b] w fun e w' => e = .returned (.int .u32 (shr32 a b)) ∧ w' = w := by
  have hm := and31 b h3 h4
  have h0 : 0 ≤ b % 32 := by omega
  go_enter Try.func44, Try.ntmps44
  go_wp2
  go_ret
  exact ⟨ret_int rfl, rfl⟩
theorem sar_any (a b : Int) (h1 : 0 ≤ a) (h2 : a < 4294967296) (h3 : 0 ≤ b) (h4 : b < 4294967296) (w : World) :
    Calls Try.prog 45 #[.int .u32 a, .int .u32 b] w fun e w' => e = .returned (.int .u32 (sar32 a b)) ∧ w' = w := by
  have hm := and31 b h3 h4
  have h0 : 0 ≤ b % 32 := by omega
  have hw := wrap32_sg h1 h2
  go_enter Try.func45, Try.ntmps45
  go_wp2
  go_ret
  exact ⟨ret_int rfl, rfl⟩
theorem mulT_any (a b : Int) (h1 : 0 ≤ a) (h2 : a < 4294967296) (h3 : 0 ≤ b) (h4 : b < 4294967296) (w : World) :
    Calls Try.prog 25 #[.int .u32 a, .int .u32 b, .bool true] w fun e w' => e = .returned (.tuple #[.int .u32 (mulHi (sg a) (sg b)), .int .u32 (mulLo (sg a) (sg b))]) ∧ w' = w := by
  have ha := wrap32_sg h1 h2
  have hb := wrap32_sg h3 h4
  have ra := sg_range h1 h2
  have rb := sg_range h3 h4
  have Ra := wrap64_sg h1 h2
  have Rb := wrap64_sg h3 h4
  have Rp := wrap64_sgmul h1 h2 h3 h4
  go_enter Try.func25, Try.ntmps25
  go_wp2
  go_ret2
  exact ⟨ret_int2 rfl rfl, rfl⟩
theorem mulF_any (a b : Int) (h1 : 0 ≤ a) (h2 : a < 4294967296) (h3 : 0 ≤ b) (h4 : b < 4294967296) (w : World) :
    Calls Try.prog 25 #[.int .u32 a, .int .u32 b, .bool false] w fun e w' => e = .returned (.tuple #[.int .u32 (mulHi a b), .int .u32 (mulLo a b)]) ∧ w' = w := by
  go_enter Try.func25, Try.ntmps25
  go_wp2
  go_ret2
  exact ⟨ret_int2 rfl rfl, rfl⟩
theorem mul_any (a b : Int) (s : Bool) (h1 : 0 ≤ a) (h2 : a < 4294967296) (h3 : 0 ≤ b) (h4 : b < 4294967296) (w : World) :
    Calls Try.prog 25 #[.int .u32 a, .int .u32 b, .bool s] w fun e w' => e = .returned (.tuple #[.int .u32 (mulHi (sgs s a) (sgs s b)), .int .u32 (mulLo (sgs s a) (sgs s b))]) ∧ w' = w := by
  cases s
  · exact mulF_any a b h1 h2 h3 h4 w
  · exact mulT_any a b h1 h2 h3 h4 w
theorem divF_any (a b : Int) (h1 : 0 ≤ a) (h2 : a < 4294967296) (h3 : 0 < b) (h4 : b < 4294967296) (w : World) :
    Calls Try.prog 34 #[.int .u32 a, .int .u32 b, .bool false] w fun e w' => e = .returned (.tuple #[.int .u32 (a / b), .int .u32 (a % b)]) ∧ ∃ n, w' = w.drewN n := by
  have hz : (b == 0) = false := beq_eq_false_iff_ne.2 (by omega)
  go_enter Try.func34, Try.ntmps34
  go_wp2
  go_quiet (fail)
  go_wp2
  go_ret2
  exact ⟨ret_int2 rfl rfl, nq, rfl⟩
theorem divT_any (a b : Int) (h1 : 0 ≤ a) (h2 : a < 4294967296) (h3 : 0 < b) (h4 : b < 4294967296) (w : World) :
    Calls Try.prog 34 #[.int .u32 a, .int .u32 b, .bool true] w fun e w' => e = .returned (.tuple #[.int .u32 (quoT a b), .int .u32 (remT a b)]) ∧ ∃ n, w' = w.drewN n := by
  have hz : (b == 0) = false := beq_eq_false_iff_ne.2 (by omega)
  have ha := wrap32_sg h1 h2
  have hb := wrap32_sg (by omega) h4
  have hz' : ¬ sg b = 0 := by unfold sg; split <;> omega
  go_enter Try.func34, Try.ntmps34
  go_wp2
  go_quiet (fail)
  go_wp2
  go_ret2
  exact ⟨ret_int2 rfl rfl, nq, rfl⟩
theorem div0_any (a : Int) (s : Bool) (w : World) :
    Calls Try.prog 34 #[.int .u32 a, .int .u32 0, .bool s] w fun e w' => e = .returned (.tuple #[.int .u32 0, .int .u32 0]) ∧ w' = w := by
  go_enter Try.func34, Try.ntmps34
  go_wp2
  go_ret2
  exact ⟨ret_int2 rfl rfl, rfl⟩
set_option maxRecDepth 100000 in
theorem len32_a (a : Int) (h1 : 0 ≤ a) (h2 : a < 256) (w : World) :
    Calls Try.prog 51 #[.int .u32 a] w fun e w' => e = .returned (.int .i64 (bitLen a.toNat)) ∧ w' = w := by
  have hb := bitLen_le8 a.toNat (by omega)
  go_enter Try.func51, Try.ntmps51
  go_wp2
  go_ret
  refine ⟨ret_int ?_, rfl⟩
  rw [len8tab_get]
  have e := wrap64_small (bitLen a.toNat) (by omega)
  rw [e, e]
set_option maxRecDepth 100000 in
theorem len32_b (a : Int) (h1 : 256 ≤ a) (h2 : a < 65536) (w : World) :
    Calls Try.prog 51 #[.int .u32 a] w fun e w' => e = .returned (.int .i64 (bitLen a.toNat)) ∧ w' = w := by
  have hb := bitLen_le8 (a / 256).toNat (by omega)
  have hs := len_shift a 8 (by omega) (by simp; omega)
  have ed : a / 2 ^ 8 = a / 256 := by simp; try omega
  rw [ed] at hs
  have HS := hidden hs
  clear hs ed
  go_enter Try.func51, Try.ntmps51
  go_wp2
  go_ret
  refine ⟨ret_int ?_, rfl⟩
  rw [len8tab_get, HS.out]
  have e := wrap64_small (bitLen (a / 256).toNat) (by omega)
  rw [e, wrap64_small _ (by omega)]
  simp
set_option maxRecDepth 100000 in
theorem len32_c (a : Int) (h1 : 65536 ≤ a) (h2 : a < 16777216) (w : World) :
    Calls Try.prog 51 #[.int .u32 a] w fun e w' => e = .returned (.int .i64 (bitLen a.toNat)) ∧ w' = w := by
  have hb := bitLen_le8 (a / 65536).toNat (by omega)
  have hs := len_shift a 16 (by omega) (by simp; omega)
  have ed : a / 2 ^ 16 = a / 65536 := by simp; try omega
  rw [ed] at hs
  have HS := hidden hs
  clear hs ed
  go_enter Try.func51, Try.ntmps51
  go_wp2
  go_ret
  refine ⟨ret_int ?_, rfl⟩
  rw [len8tab_get, HS.out]
  have e := wrap64_small (bitLen (a / 65536).toNat) (by omega)
  rw [e, wrap64_small _ (by omega)]
  simp
set_option maxRecDepth 100000 in
theorem len32_d (a : Int) (h1 : 16777216 ≤ a) (h2 : a < 4294967296) (w : World) :
    Calls Try.prog 51 #[.int .u32 a] w fun e w' => e = .returned (.int .i64 (bitLen a.toNat)) ∧ w' = w := by
  have hb := bitLen_le8 (a / 65536 / 256).toNat (by omega)
  have hs := len_shift a 24 (by omega) (by simp; omega)
  have ed : a / 2 ^ 24 = a / 65536 / 256 := by simp; try omega
  rw [ed] at hs
  have HS := hidden hs
  clear hs ed
  go_enter Try.func51, Try.ntmps51
  go_wp2
  go_ret
  refine ⟨ret_int ?_, rfl⟩
  rw [len8tab_get, HS.out]
  have e := wrap64_small (bitLen (a / 65536 / 256).toNat) (by omega)
  rw [e, wrap64_small _ (by omega)]
  simp
theorem len32_any (a : Int) (h1 : 0 ≤ a) (h2 : a < 4294967296) (w : World) :
    Calls Try.prog 51 #[.int .u32 a] w fun e w' => e = .returned (.int .i64 (bitLen a.toNat)) ∧ w' = w := by
  by_cases a1 : a < 256
  · exact len32_a a h1 a1 w
  · by_cases a2 : a < 65536
    · exact len32_b a (by omega) a2 w
    · by_cases a3 : a < 16777216
      · exact len32_c a (by omega) a3 w
      · exact len32_d a (by omega) h2 w
theorem lead32_any (a : Int) (h1 : 0 ≤ a) (h2 : a < 4294967296) (w : World) :
    Calls Try.prog 46 #[.int .u32 a] w fun e w' => e = .returned (.int .i64 (zeros32 a)) ∧ w' = w := by
  have hb := bitLen_le32 a h1 h2
  go_enter Try.func46, Try.ntmps46
  go_wp2_with (go_at_call 51; refine (len32_any _ h1 h2 _).mono ?_; rintro e w' ⟨rfl, rfl⟩)
  go_ret
  exact ⟨ret_int rfl, rfl⟩
theorem zeros_any (a : Int) (h1 : 0 ≤ a) (h2 : a < 4294967296) (w : World) :
    Calls Try.prog 26 #[.int .u32 a] w fun e w' => e = .returned (.int .u32 (zeros32 a)) ∧ w' = w := by
  have hb := zeros32_range a h1 h2
  go_enter Try.func26, Try.ntmps26
  go_wp2_with (go_at_call 46; refine (lead32_any _ h1 h2 _).mono ?_; rintro e w' ⟨rfl, rfl⟩)
  go_ret
  exact ⟨ret_int rfl, rfl⟩
theorem ones_any (a : Int) (h1 : 0 ≤ a) (h2 : a < 4294967296) (w : World) :
    Calls Try.prog 27 #[.int .u32 a] w fun e w' => e = .returned (.int .u32 (zeros32 (4294967295 - a))) ∧ w' = w := by
  have hx := not32 a h1 h2
  have hs : IntKind.u32.signed = false := rfl
  go_enter Try.func27, Try.ntmps27
  go_wp2_with (go_at_call 26; refine (zeros_any (4294967295 - a) (by omega) (by omega) _).mono ?_; rintro e w' ⟨rfl, rfl⟩)
  go_ret
  exact ⟨ret_int rfl, rfl⟩
end Go.Proofs.Ytlheilpaafjeiaa
