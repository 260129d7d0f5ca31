/- What each call of layer 1 answers, walked over the text of the program. -/
import Derived.Test.YtocajlafdmfamaaRows
import Derived.Test.YtocajlafdmfamaaNums
import Derived.WalkKit
import Derived.ProofKit
import Derived.OpenShut
import Derived.Deep.QuietTactic
import Derived.BigQuiet
namespace Go.Proofs.Ytocajlafdmfamaa
open Go.ChangeShapes Go.WideShapes Go.ChangeAt Go.RowKit
set_option linter.unusedVariables false
theorem ret_int {k : IntKind} {a b : Int} (h : a = b) : Ending.returned (.int k a) = .returned (.int k b) := by rw [h]
theorem hidden {p : Prop} (h : p) : Hid p := h
theorem ret_bool {a b : Bool} (h : a = b) : Ending.returned (.bool a) = .returned (.bool b) := by rw [h]
theorem ret_int2 {k l : IntKind} {a b c d : Int} (h : a = b) (h2 : c = d) : Ending.returned (.tuple #[.int k a, .int l c]) = .returned (.tuple #[.int k b, .int l d]) := by rw [h, h2]
theorem ret_intb {k : IntKind} {a b : Int} {c d : Bool} (h : a = b) (h2 : c = d) : Ending.returned (.tuple #[.int k a, .bool c]) = .returned (.tuple #[.int k b, .bool d]) := by rw [h, h2]

theorem addOver_any (a b : Int) (h1 : 0 ≤ a) (h2 : a < 4294967296) (h3 : 0 ≤ b) (h4 : b < 4294967296) (w : World) :
    Calls Try.prog 9 #[.int .u32 a, .int .u32 b] w fun e w' => e = .returned (.tuple #[.int .u32 (add32 a b), .bool (addOv a b)]) ∧ w' = w := by
  have H := addOver_eq a b h1 h2 h3 h4
  go_enter Try.func9, Try.ntmps9
  go_wp2
  go_ret2
  exact ⟨ret_intb rfl rfl, rfl⟩
theorem subOver_any (a b : Int) (h1 : 0 ≤ a) (h2 : a < 4294967296) (h3 : 0 ≤ b) (h4 : b < 4294967296) (w : World) :
    Calls Try.prog 11 #[.int .u32 a, .int .u32 b] w fun e w' => e = .returned (.tuple #[.int .u32 (sub32 a b), .bool (subOv a b)]) ∧ w' = w := by
  have H := subOver_eq a b h1 h2 h3 h4
  go_enter Try.func11, Try.ntmps11
  go_wp2
  go_ret2
  exact ⟨ret_intb rfl rfl, rfl⟩
theorem shl_any (a b : Int) (h1 : 0 ≤ a) (h2 : a < 4294967296) (h3 : 0 ≤ b) (h4 : b < 4294967296) (w : World) :
    Calls Try.prog 22 #[.int .u32 a, .int .u32 b] w fun e w' => e = .returned (.int .u32 (shl32 a b)) ∧ w' = w := by
  have hm := and31 b h3 h4
  have h0 : 0 ≤ b % 32 := by omega
  go_enter Try.func22, Try.ntmps22
  go_wp2
  go_ret
  exact ⟨ret_int rfl, rfl⟩
theorem shr_any (a b : Int) (h1 : 0 ≤ a) (h2 : a < 4294967296) (h3 : 0 ≤ b) (h4 : b < 4294967296) (w : World) :
    Calls Try.prog 23 #[.int .u32 a, .int .u32 b] w fun e w' => e = .returned (.int .u32 (shr32 a b)) ∧ w' = w := by
  have hm := and31 b h3 h4
  have h0 : 0 ≤ b % 32 := by omega
  go_enter Try.func23, Try.ntmps23
  go_wp2
  go_ret
  exact ⟨ret_int rfl, rfl⟩
theorem sar_any (a b : Int) (h1 : 0 ≤ a) (h2 : a < 4294967296) (h3 : 0 ≤ b) (h4 : b < 4294967296) (w : World) :
    Calls Try.prog 24 #[.int .u32 a, .int .u32 b] w fun e w' => e = .returned (.int .u32 (sar32 a b)) ∧ w' = w := by
  have hm := and31 b h3 h4
  have h0 : 0 ≤ b % 32 := by omega
  have hw := wrap32_sg h1 h2
  go_enter Try.func24, Try.ntmps24
  go_wp2
  go_ret
  exact ⟨ret_int rfl, rfl⟩
theorem cut_any (v lo hi : Int) (w : World) :
    Calls Try.prog 37 #[.int .i64 v, .int .i64 lo, .int .i64 hi] w fun e w' => e = .returned (.int .i64 (clip v lo hi)) ∧ w' = w := by
  by_cases a : v < lo
  · have e : clip v lo hi = lo := by unfold clip; simp [a]
    rw [e]
    go_enter Try.func37, Try.ntmps37
    go_wp2
    go_ret
    exact ⟨ret_int rfl, rfl⟩
  · by_cases b : hi < v
    · have e : clip v lo hi = hi := by unfold clip; simp [a, b]
      rw [e]
      go_enter Try.func37, Try.ntmps37
      go_wp2
      go_ret
      exact ⟨ret_int rfl, rfl⟩
    · have e : clip v lo hi = v := by unfold clip; simp [a, b]
      rw [e]
      go_enter Try.func37, Try.ntmps37
      go_wp2
      go_ret
      exact ⟨ret_int rfl, rfl⟩
theorem sext_any (a n : Int) (h1 : 0 ≤ a) (h2 : a < 4294967296) (w : World) :
    Calls Try.prog 20 #[.int .u32 a, .int .i64 n] w fun e w' => e = .returned (.int .u32 (sext32 a n)) ∧ w' = w := by
  have hc := clip_range n 1 32 (by omega)
  have hw := wrap32_sg (v := a * 2 ^ (32 - clip n 1 32).toNat % 4294967296) (by omega) (by omega)
  go_enter Try.func20, Try.ntmps20
  go_wp2_with (go_at_call 37; refine (cut_any _ _ _ _).mono ?_; rintro e w' ⟨rfl, rfl⟩)
  go_ret
  exact ⟨ret_int rfl, rfl⟩
theorem field_any (a at_ n : Int) (h1 : 0 ≤ a) (h2 : a < 4294967296) (w : World) :
    Calls Try.prog 18 #[.int .u32 a, .int .i64 at_, .int .i64 n] w fun e w' => e = .returned (.int .u32 (field32 a at_ n)) ∧ w' = w := by
  have hc := clip_range at_ 0 31 (by omega)
  have hd := clip_range n 0 (32 - clip at_ 0 31) (by omega)
  go_enter Try.func18, Try.ntmps18
  go_wp2_with (go_at_call 37; refine (cut_any _ _ _ _).mono ?_; rintro e w' ⟨rfl, rfl⟩)
  go_ret
  exact ⟨ret_int (field_eq a at_ n h1 h2), rfl⟩
theorem mulT_any (a b : Int) (h1 : 0 ≤ a) (h2 : a < 4294967296) (h3 : 0 ≤ b) (h4 : b < 4294967296) (w : World) :
    Calls Try.prog 13 #[.int .u32 a, .int .u32 b, .bool true] w fun e w' => e = .returned (.tuple #[.int .u32 (mulHi (sg a) (sg b)), .int .u32 (mulLo (sg a) (sg b))]) ∧ w' = w := by
  have ha := wrap32_sg h1 h2
  have hb := wrap32_sg h3 h4
  have ra := sg_range h1 h2
  have rb := sg_range h3 h4
  have Ra := wrap64_sg h1 h2
  have Rb := wrap64_sg h3 h4
  have Rp := wrap64_sgmul h1 h2 h3 h4
  go_enter Try.func13, Try.ntmps13
  go_wp2
  go_ret2
  exact ⟨ret_int2 rfl rfl, rfl⟩
theorem mulF_any (a b : Int) (h1 : 0 ≤ a) (h2 : a < 4294967296) (h3 : 0 ≤ b) (h4 : b < 4294967296) (w : World) :
    Calls Try.prog 13 #[.int .u32 a, .int .u32 b, .bool false] w fun e w' => e = .returned (.tuple #[.int .u32 (mulHi a b), .int .u32 (mulLo a b)]) ∧ w' = w := by
  go_enter Try.func13, Try.ntmps13
  go_wp2
  go_ret2
  exact ⟨ret_int2 rfl rfl, rfl⟩
theorem mul_any (a b : Int) (s : Bool) (h1 : 0 ≤ a) (h2 : a < 4294967296) (h3 : 0 ≤ b) (h4 : b < 4294967296) (w : World) :
    Calls Try.prog 13 #[.int .u32 a, .int .u32 b, .bool s] w fun e w' => e = .returned (.tuple #[.int .u32 (mulHi (sgs s a) (sgs s b)), .int .u32 (mulLo (sgs s a) (sgs s b))]) ∧ w' = w := by
  cases s
  · exact mulF_any a b h1 h2 h3 h4 w
  · exact mulT_any a b h1 h2 h3 h4 w
theorem place_any (v n : Int) (h : 0 < n) (h2 : n < 4294967296) (w : World) :
    Calls Try.prog 34 #[.int .i64 v, .int .i64 n] w fun e w' => e = .returned (.int .i64 (v % n)) ∧ w' = w := by
  have hz : (n == 0) = false := beq_eq_false_iff_ne.2 (by omega)
  have hb := tmod_range v n h
  by_cases hm : 0 ≤ v.tmod n
  · go_enter Try.func34, Try.ntmps34
    go_wp2
    go_ret
    exact ⟨ret_int (place_nonneg v n h hm), rfl⟩
  · have hm' : v.tmod n < 0 := by omega
    have e := place_neg v n h hm'
    go_enter Try.func34, Try.ntmps34
    go_wp2
    go_ret
    exact ⟨ret_int rfl, rfl⟩
theorem divF_any (a b : Int) (h1 : 0 ≤ a) (h2 : a < 4294967296) (h3 : 0 < b) (h4 : b < 4294967296) (w : World) :
    Calls Try.prog 15 #[.int .u32 a, .int .u32 b, .bool false] w fun e w' => e = .returned (.tuple #[.int .u32 (a / b), .int .u32 (a % b)]) ∧ ∃ n, w' = w.drewN n := by
  have hz : (b == 0) = false := beq_eq_false_iff_ne.2 (by omega)
  go_enter Try.func15, Try.ntmps15
  go_wp2
  go_quiet (fail)
  go_wp2
  go_ret2
  exact ⟨ret_int2 rfl rfl, nq, rfl⟩
theorem divT_any (a b : Int) (h1 : 0 ≤ a) (h2 : a < 4294967296) (h3 : 0 < b) (h4 : b < 4294967296) (w : World) :
    Calls Try.prog 15 #[.int .u32 a, .int .u32 b, .bool true] w fun e w' => e = .returned (.tuple #[.int .u32 (quoT a b), .int .u32 (remT a b)]) ∧ ∃ n, w' = w.drewN n := by
  have hz : (b == 0) = false := beq_eq_false_iff_ne.2 (by omega)
  have ha := wrap32_sg h1 h2
  have hb := wrap32_sg (by omega) h4
  have hz' : ¬ sg b = 0 := by unfold sg; split <;> omega
  go_enter Try.func15, Try.ntmps15
  go_wp2
  go_quiet (fail)
  go_wp2
  go_ret2
  exact ⟨ret_int2 rfl rfl, nq, rfl⟩
theorem div0_any (a : Int) (s : Bool) (w : World) :
    Calls Try.prog 15 #[.int .u32 a, .int .u32 0, .bool s] w fun e w' => e = .returned (.tuple #[.int .u32 0, .int .u32 0]) ∧ w' = w := by
  go_enter Try.func15, Try.ntmps15
  go_wp2
  go_ret2
  exact ⟨ret_int2 rfl rfl, rfl⟩
set_option maxRecDepth 100000 in
theorem len32_a (a : Int) (h1 : 0 ≤ a) (h2 : a < 256) (w : World) :
    Calls Try.prog 39 #[.int .u32 a] w fun e w' => e = .returned (.int .i64 (bitLen a.toNat)) ∧ w' = w := by
  have hb := bitLen_le8 a.toNat (by omega)
  go_enter Try.func39, Try.ntmps39
  go_wp2
  go_ret
  refine ⟨ret_int ?_, rfl⟩
  rw [len8tab_get]
  have e := wrap64_small (bitLen a.toNat) (by omega)
  rw [e, e]
set_option maxRecDepth 100000 in
theorem len32_b (a : Int) (h1 : 256 ≤ a) (h2 : a < 65536) (w : World) :
    Calls Try.prog 39 #[.int .u32 a] w fun e w' => e = .returned (.int .i64 (bitLen a.toNat)) ∧ w' = w := by
  have hb := bitLen_le8 (a / 256).toNat (by omega)
  have hs := len_shift a 8 (by omega) (by simp; omega)
  have ed : a / 2 ^ 8 = a / 256 := by simp; try omega
  rw [ed] at hs
  have HS := hidden hs
  clear hs ed
  go_enter Try.func39, Try.ntmps39
  go_wp2
  go_ret
  refine ⟨ret_int ?_, rfl⟩
  rw [len8tab_get, HS.out]
  have e := wrap64_small (bitLen (a / 256).toNat) (by omega)
  rw [e, wrap64_small _ (by omega)]
  simp
set_option maxRecDepth 100000 in
theorem len32_c (a : Int) (h1 : 65536 ≤ a) (h2 : a < 16777216) (w : World) :
    Calls Try.prog 39 #[.int .u32 a] w fun e w' => e = .returned (.int .i64 (bitLen a.toNat)) ∧ w' = w := by
  have hb := bitLen_le8 (a / 65536).toNat (by omega)
  have hs := len_shift a 16 (by omega) (by simp; omega)
  have ed : a / 2 ^ 16 = a / 65536 := by simp; try omega
  rw [ed] at hs
  have HS := hidden hs
  clear hs ed
  go_enter Try.func39, Try.ntmps39
  go_wp2
  go_ret
  refine ⟨ret_int ?_, rfl⟩
  rw [len8tab_get, HS.out]
  have e := wrap64_small (bitLen (a / 65536).toNat) (by omega)
  rw [e, wrap64_small _ (by omega)]
  simp
set_option maxRecDepth 100000 in
theorem len32_d (a : Int) (h1 : 16777216 ≤ a) (h2 : a < 4294967296) (w : World) :
    Calls Try.prog 39 #[.int .u32 a] w fun e w' => e = .returned (.int .i64 (bitLen a.toNat)) ∧ w' = w := by
  have hb := bitLen_le8 (a / 65536 / 256).toNat (by omega)
  have hs := len_shift a 24 (by omega) (by simp; omega)
  have ed : a / 2 ^ 24 = a / 65536 / 256 := by simp; try omega
  rw [ed] at hs
  have HS := hidden hs
  clear hs ed
  go_enter Try.func39, Try.ntmps39
  go_wp2
  go_ret
  refine ⟨ret_int ?_, rfl⟩
  rw [len8tab_get, HS.out]
  have e := wrap64_small (bitLen (a / 65536 / 256).toNat) (by omega)
  rw [e, wrap64_small _ (by omega)]
  simp
theorem len32_any (a : Int) (h1 : 0 ≤ a) (h2 : a < 4294967296) (w : World) :
    Calls Try.prog 39 #[.int .u32 a] w fun e w' => e = .returned (.int .i64 (bitLen a.toNat)) ∧ w' = w := by
  by_cases a1 : a < 256
  · exact len32_a a h1 a1 w
  · by_cases a2 : a < 65536
    · exact len32_b a (by omega) a2 w
    · by_cases a3 : a < 16777216
      · exact len32_c a (by omega) a3 w
      · exact len32_d a (by omega) h2 w
theorem lead32_any (a : Int) (h1 : 0 ≤ a) (h2 : a < 4294967296) (w : World) :
    Calls Try.prog 38 #[.int .u32 a] w fun e w' => e = .returned (.int .i64 (zeros32 a)) ∧ w' = w := by
  have hb := bitLen_le32 a h1 h2
  go_enter Try.func38, Try.ntmps38
  go_wp2_with (go_at_call 39; refine (len32_any _ h1 h2 _).mono ?_; rintro e w' ⟨rfl, rfl⟩)
  go_ret
  exact ⟨ret_int rfl, rfl⟩
theorem zeros_any (a : Int) (h1 : 0 ≤ a) (h2 : a < 4294967296) (w : World) :
    Calls Try.prog 26 #[.int .u32 a] w fun e w' => e = .returned (.int .u32 (zeros32 a)) ∧ w' = w := by
  have hb := zeros32_range a h1 h2
  go_enter Try.func26, Try.ntmps26
  go_wp2_with (go_at_call 38; refine (lead32_any _ h1 h2 _).mono ?_; rintro e w' ⟨rfl, rfl⟩)
  go_ret
  exact ⟨ret_int rfl, rfl⟩
theorem ones_any (a : Int) (h1 : 0 ≤ a) (h2 : a < 4294967296) (w : World) :
    Calls Try.prog 28 #[.int .u32 a] w fun e w' => e = .returned (.int .u32 (zeros32 (4294967295 - a))) ∧ w' = w := by
  have hx := not32 a h1 h2
  have hs : IntKind.u32.signed = false := rfl
  go_enter Try.func28, Try.ntmps28
  go_wp2_with (go_at_call 26; refine (zeros_any (4294967295 - a) (by omega) (by omega) _).mono ?_; rintro e w' ⟨rfl, rfl⟩)
  go_ret
  exact ⟨ret_int rfl, rfl⟩
theorem awake_any (w : World) :
    Calls Try.prog 33 #[] w fun e w' => e = .returned (.bool true) ∧ w' = w := by
  have e1 : add32 2147483647 1 = 2147483648 := by decide
  have e2 : addOv 2147483647 1 = true := by decide
  have e3 : sext32 128 8 = 4294967168 := by decide
  have e4 : zeros32 1 = 31 := by decide
  go_enter Try.func33, Try.ntmps33
  go_wp2_with (first | (go_at_call 9; refine (addOver_any _ _ (by omega) (by omega) (by omega) (by omega) _).mono ?_; rintro e w' ⟨rfl, rfl⟩) | (go_at_call 20; refine (sext_any _ _ (by omega) (by omega) _).mono ?_; rintro e w' ⟨rfl, rfl⟩) | (go_at_call 26; refine (zeros_any _ (by omega) (by omega) _).mono ?_; rintro e w' ⟨rfl, rfl⟩))
  go_ret
  exact ⟨ret_bool rfl, rfl⟩
end Go.Proofs.Ytocajlafdmfamaa
