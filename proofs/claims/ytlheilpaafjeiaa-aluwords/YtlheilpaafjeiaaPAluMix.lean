/- mix and shift, by what they are asked for. -/
import Derived.Test.YtlheilpaafjeiaaPAluPlain
namespace Go.Proofs.Ytlheilpaafjeiaa
open Go.ChangeShapes Go.WideShapes Go.ChangeAt Go.RowKit
set_option linter.unusedVariables false
theorem mix_3 (s t : Int) (h1 : 0 ≤ s) (h2 : s < 4294967296) (h3 : 0 ≤ t) (h4 : t < 4294967296) (w : World) : Calls Try.prog 21 #[.int .i64 3, .int .u32 s, .int .u32 t] w fun e w' => e = .returned (.int .u32 (bits .and .u32 s t)) ∧ w' = w := by
  go_enter Try.func21, Try.ntmps21
  go_wp2
  go_ret
  exact ⟨ret_int rfl, rfl⟩
theorem mix_4 (s t : Int) (h1 : 0 ≤ s) (h2 : s < 4294967296) (h3 : 0 ≤ t) (h4 : t < 4294967296) (w : World) : Calls Try.prog 21 #[.int .i64 4, .int .u32 s, .int .u32 t] w fun e w' => e = .returned (.int .u32 (bits .or .u32 s t)) ∧ w' = w := by
  go_enter Try.func21, Try.ntmps21
  go_wp2
  go_ret
  exact ⟨ret_int rfl, rfl⟩
theorem mix_5 (s t : Int) (h1 : 0 ≤ s) (h2 : s < 4294967296) (h3 : 0 ≤ t) (h4 : t < 4294967296) (w : World) : Calls Try.prog 21 #[.int .i64 5, .int .u32 s, .int .u32 t] w fun e w' => e = .returned (.int .u32 (bits .xor .u32 s t)) ∧ w' = w := by
  go_enter Try.func21, Try.ntmps21
  go_wp2
  go_ret
  exact ⟨ret_int rfl, rfl⟩
theorem mix_6 (s t : Int) (h1 : 0 ≤ s) (h2 : s < 4294967296) (h3 : 0 ≤ t) (h4 : t < 4294967296) (w : World) : Calls Try.prog 21 #[.int .i64 6, .int .u32 s, .int .u32 t] w fun e w' => e = .returned (.int .u32 (norV s t)) ∧ w' = w := by
  have hs : IntKind.u32.signed = false := rfl
  have hx := u32_or_range s t h1 h2 h3 h4
  have hn := not32 (bits .or .u32 s t) hx.1 hx.2
  go_enter Try.func21, Try.ntmps21
  go_wp2
  go_ret
  exact ⟨ret_int rfl, rfl⟩
theorem mix_44 (s t : Int) (h1 : 0 ≤ s) (h2 : s < 4294967296) (h3 : 0 ≤ t) (h4 : t < 4294967296) (w : World) : Calls Try.prog 21 #[.int .i64 44, .int .u32 s, .int .u32 t] w fun e w' => e = .returned (.int .u32 (bits .and .u32 s t)) ∧ w' = w := by
  go_enter Try.func21, Try.ntmps21
  go_wp2
  go_ret
  exact ⟨ret_int rfl, rfl⟩
theorem mix_45 (s t : Int) (h1 : 0 ≤ s) (h2 : s < 4294967296) (h3 : 0 ≤ t) (h4 : t < 4294967296) (w : World) : Calls Try.prog 21 #[.int .i64 45, .int .u32 s, .int .u32 t] w fun e w' => e = .returned (.int .u32 (bits .or .u32 s t)) ∧ w' = w := by
  go_enter Try.func21, Try.ntmps21
  go_wp2
  go_ret
  exact ⟨ret_int rfl, rfl⟩
theorem mix_46 (s t : Int) (h1 : 0 ≤ s) (h2 : s < 4294967296) (h3 : 0 ≤ t) (h4 : t < 4294967296) (w : World) : Calls Try.prog 21 #[.int .i64 46, .int .u32 s, .int .u32 t] w fun e w' => e = .returned (.int .u32 (bits .xor .u32 s t)) ∧ w' = w := by
  go_enter Try.func21, Try.ntmps21
  go_wp2
  go_ret
  exact ⟨ret_int rfl, rfl⟩
theorem shift_11 (t s : Int) (h1 : 0 ≤ s) (h2 : s < 4294967296) (h3 : 0 ≤ t) (h4 : t < 4294967296) (w : World) : Calls Try.prog 24 #[.int .i64 11, .int .u32 t, .int .u32 s] w fun e w' => e = .returned (.int .u32 (shl32 t s)) ∧ w' = w := by
  go_enter Try.func24, Try.ntmps24
  go_wp2_with (go_at_call 43; refine (shl_any _ _ h3 h4 h1 h2 _).mono ?_; rintro e w' ⟨rfl, rfl⟩)
  go_ret
  exact ⟨ret_int rfl, rfl⟩
theorem shift_12 (t s : Int) (h1 : 0 ≤ s) (h2 : s < 4294967296) (h3 : 0 ≤ t) (h4 : t < 4294967296) (w : World) : Calls Try.prog 24 #[.int .i64 12, .int .u32 t, .int .u32 s] w fun e w' => e = .returned (.int .u32 (shr32 t s)) ∧ w' = w := by
  go_enter Try.func24, Try.ntmps24
  go_wp2_with (go_at_call 44; refine (shr_any _ _ h3 h4 h1 h2 _).mono ?_; rintro e w' ⟨rfl, rfl⟩)
  go_ret
  exact ⟨ret_int rfl, rfl⟩
theorem shift_13 (t s : Int) (h1 : 0 ≤ s) (h2 : s < 4294967296) (h3 : 0 ≤ t) (h4 : t < 4294967296) (w : World) : Calls Try.prog 24 #[.int .i64 13, .int .u32 t, .int .u32 s] w fun e w' => e = .returned (.int .u32 (sar32 t s)) ∧ w' = w := by
  go_enter Try.func24, Try.ntmps24
  go_wp2_with (go_at_call 45; refine (sar_any _ _ h3 h4 h1 h2 _).mono ?_; rintro e w' ⟨rfl, rfl⟩)
  go_ret
  exact ⟨ret_int rfl, rfl⟩
theorem shift_16 (t s : Int) (h1 : 0 ≤ s) (h2 : s < 4294967296) (h3 : 0 ≤ t) (h4 : t < 4294967296) (w : World) : Calls Try.prog 24 #[.int .i64 16, .int .u32 t, .int .u32 s] w fun e w' => e = .returned (.int .u32 (shl32 t s)) ∧ w' = w := by
  go_enter Try.func24, Try.ntmps24
  go_wp2_with (go_at_call 43; refine (shl_any _ _ h3 h4 h1 h2 _).mono ?_; rintro e w' ⟨rfl, rfl⟩)
  go_ret
  exact ⟨ret_int rfl, rfl⟩
theorem shift_17 (t s : Int) (h1 : 0 ≤ s) (h2 : s < 4294967296) (h3 : 0 ≤ t) (h4 : t < 4294967296) (w : World) : Calls Try.prog 24 #[.int .i64 17, .int .u32 t, .int .u32 s] w fun e w' => e = .returned (.int .u32 (shr32 t s)) ∧ w' = w := by
  go_enter Try.func24, Try.ntmps24
  go_wp2_with (go_at_call 44; refine (shr_any _ _ h3 h4 h1 h2 _).mono ?_; rintro e w' ⟨rfl, rfl⟩)
  go_ret
  exact ⟨ret_int rfl, rfl⟩
theorem shift_18 (t s : Int) (h1 : 0 ≤ s) (h2 : s < 4294967296) (h3 : 0 ≤ t) (h4 : t < 4294967296) (w : World) : Calls Try.prog 24 #[.int .i64 18, .int .u32 t, .int .u32 s] w fun e w' => e = .returned (.int .u32 (sar32 t s)) ∧ w' = w := by
  go_enter Try.func24, Try.ntmps24
  go_wp2_with (go_at_call 45; refine (sar_any _ _ h3 h4 h1 h2 _).mono ?_; rintro e w' ⟨rfl, rfl⟩)
  go_ret
  exact ⟨ret_int rfl, rfl⟩
end Go.Proofs.Ytlheilpaafjeiaa
