/- Words by numbers, walked (one kind). -/
import Derived.Test.YtobnocioefchlaaPMXX
namespace Go.Proofs.Ytobnocioefchlaa
open Go.ChangeShapes Go.WideShapes Go.ChangeAt Go.RowKit
set_option linter.unusedVariables false
set_option maxRecDepth 20000 in
set_option maxHeartbeats 400000 in
theorem plain00_0 (v : Int) (x : Int) (hv : v % 1073741824 = x) (hc : x % 23 = 0) (w : World) : Calls Try.prog 15 #[.int .i64 v] w (PlW w) := by
  obtain ⟨hx0, hx1⟩ : 0 ≤ x ∧ x < 1073741824 := by omega
  have HP := hidden (fun u => place_any v 1073741824 (by omega) (by omega) u)
  rw [hv] at HP
  obtain ⟨s, hS, hs⟩ : ∃ s, x / 64 % 8 = s ∧ 0 ≤ s ∧ s < 32 := ⟨_, rfl, by omega, by omega⟩
  obtain ⟨t, hT, ht⟩ : ∃ t, x / 512 % 8 = t ∧ 0 ≤ t ∧ t < 32 := ⟨_, rfl, by omega, by omega⟩
  obtain ⟨d, hD, hd⟩ : ∃ d, x / 4096 % 8 = d ∧ 0 ≤ d ∧ d < 32 := ⟨_, rfl, by omega, by omega⟩
  obtain ⟨m, hM, hm0, hm1⟩ : ∃ m, bits .and .i64 (x / 32768) 63 = m ∧ 0 ≤ m ∧ m < 64 := by
    obtain ⟨k, rfl⟩ := Int.eq_ofNat_of_zero_le hx0
    refine ⟨_, rfl, ?_⟩
    rw [show ((k : Int) / 32768) = ((k / 32768 : Nat) : Int) from rfl, i64_and63 _ (by omega)]
    omega
  have HW := hidden (fun u => plain_68 1 s t d (by omega) (by omega) hs ht hd u)
  have HX : Hid (0 ≤ x ∧ x < 1073741824) := hidden ⟨hx0, hx1⟩
  have HM := hidden hM
  clear hM
  have hmw : m % 4294967296 = m := by omega
  go_enter Try.func15, Try.ntmps15
  go_upto_region 4 with (first | (go_at_call 18; refine (HP.out _).mono ?_; rintro e w1 ⟨rfl, hww⟩; rw [hww]; clear hww w1))
  rw [HM.out, hmw]
  clear HM
  go_wp2_with (first
    | (go_at_call 16; refine (HW.out _).mono ?_; rintro e w2 ⟨W, rfl, h1, h2, b2⟩; have HR := hidden h1; have HR2 := hidden h2; have B2 := hidden b2; clear h1 h2 b2))
  go_ret
  exact ⟨W, rfl, HR.out, HR2.out, B2.out⟩
end Go.Proofs.Ytobnocioefchlaa
namespace Go.Proofs.Ytobnocioefchlaa
open Go.ChangeShapes Go.WideShapes Go.ChangeAt Go.RowKit
set_option linter.unusedVariables false
set_option maxRecDepth 20000 in
set_option maxHeartbeats 400000 in
theorem plain00_1 (v : Int) (x : Int) (hv : v % 1073741824 = x) (hc : x % 23 = 1) (w : World) : Calls Try.prog 15 #[.int .i64 v] w (PlW w) := by
  obtain ⟨hx0, hx1⟩ : 0 ≤ x ∧ x < 1073741824 := by omega
  have HP := hidden (fun u => place_any v 1073741824 (by omega) (by omega) u)
  rw [hv] at HP
  obtain ⟨s, hS, hs⟩ : ∃ s, x / 64 % 8 = s ∧ 0 ≤ s ∧ s < 32 := ⟨_, rfl, by omega, by omega⟩
  obtain ⟨t, hT, ht⟩ : ∃ t, x / 512 % 8 = t ∧ 0 ≤ t ∧ t < 32 := ⟨_, rfl, by omega, by omega⟩
  obtain ⟨d, hD, hd⟩ : ∃ d, x / 4096 % 8 = d ∧ 0 ≤ d ∧ d < 32 := ⟨_, rfl, by omega, by omega⟩
  obtain ⟨m, hM, hm0, hm1⟩ : ∃ m, bits .and .i64 (x / 32768) 63 = m ∧ 0 ≤ m ∧ m < 64 := by
    obtain ⟨k, rfl⟩ := Int.eq_ofNat_of_zero_le hx0
    refine ⟨_, rfl, ?_⟩
    rw [show ((k : Int) / 32768) = ((k / 32768 : Nat) : Int) from rfl, i64_and63 _ (by omega)]
    omega
  have HW := hidden (fun u => plain_68 2 s t d (by omega) (by omega) hs ht hd u)
  have HX : Hid (0 ≤ x ∧ x < 1073741824) := hidden ⟨hx0, hx1⟩
  have HM := hidden hM
  clear hM
  have hmw : m % 4294967296 = m := by omega
  go_enter Try.func15, Try.ntmps15
  go_upto_region 4 with (first | (go_at_call 18; refine (HP.out _).mono ?_; rintro e w1 ⟨rfl, hww⟩; rw [hww]; clear hww w1))
  rw [HM.out, hmw]
  clear HM
  go_wp2_with (first
    | (go_at_call 16; refine (HW.out _).mono ?_; rintro e w2 ⟨W, rfl, h1, h2, b2⟩; have HR := hidden h1; have HR2 := hidden h2; have B2 := hidden b2; clear h1 h2 b2))
  go_ret
  exact ⟨W, rfl, HR.out, HR2.out, B2.out⟩
end Go.Proofs.Ytobnocioefchlaa
namespace Go.Proofs.Ytobnocioefchlaa
open Go.ChangeShapes Go.WideShapes Go.ChangeAt Go.RowKit
set_option linter.unusedVariables false
set_option maxRecDepth 20000 in
set_option maxHeartbeats 400000 in
theorem plain00_2 (v : Int) (x : Int) (hv : v % 1073741824 = x) (hc : x % 23 = 2) (w : World) : Calls Try.prog 15 #[.int .i64 v] w (PlW w) := by
  obtain ⟨hx0, hx1⟩ : 0 ≤ x ∧ x < 1073741824 := by omega
  have HP := hidden (fun u => place_any v 1073741824 (by omega) (by omega) u)
  rw [hv] at HP
  obtain ⟨s, hS, hs⟩ : ∃ s, x / 64 % 8 = s ∧ 0 ≤ s ∧ s < 32 := ⟨_, rfl, by omega, by omega⟩
  obtain ⟨t, hT, ht⟩ : ∃ t, x / 512 % 8 = t ∧ 0 ≤ t ∧ t < 32 := ⟨_, rfl, by omega, by omega⟩
  obtain ⟨d, hD, hd⟩ : ∃ d, x / 4096 % 8 = d ∧ 0 ≤ d ∧ d < 32 := ⟨_, rfl, by omega, by omega⟩
  obtain ⟨m, hM, hm0, hm1⟩ : ∃ m, bits .and .i64 (x / 32768) 63 = m ∧ 0 ≤ m ∧ m < 64 := by
    obtain ⟨k, rfl⟩ := Int.eq_ofNat_of_zero_le hx0
    refine ⟨_, rfl, ?_⟩
    rw [show ((k : Int) / 32768) = ((k / 32768 : Nat) : Int) from rfl, i64_and63 _ (by omega)]
    omega
  have HW := hidden (fun u => plain_68 3 s t d (by omega) (by omega) hs ht hd u)
  have HX : Hid (0 ≤ x ∧ x < 1073741824) := hidden ⟨hx0, hx1⟩
  have HM := hidden hM
  clear hM
  have hmw : m % 4294967296 = m := by omega
  go_enter Try.func15, Try.ntmps15
  go_upto_region 4 with (first | (go_at_call 18; refine (HP.out _).mono ?_; rintro e w1 ⟨rfl, hww⟩; rw [hww]; clear hww w1))
  rw [HM.out, hmw]
  clear HM
  go_wp2_with (first
    | (go_at_call 16; refine (HW.out _).mono ?_; rintro e w2 ⟨W, rfl, h1, h2, b2⟩; have HR := hidden h1; have HR2 := hidden h2; have B2 := hidden b2; clear h1 h2 b2))
  go_ret
  exact ⟨W, rfl, HR.out, HR2.out, B2.out⟩
end Go.Proofs.Ytobnocioefchlaa
namespace Go.Proofs.Ytobnocioefchlaa
open Go.ChangeShapes Go.WideShapes Go.ChangeAt Go.RowKit
set_option linter.unusedVariables false
set_option maxRecDepth 20000 in
set_option maxHeartbeats 400000 in
theorem plain00_3 (v : Int) (x : Int) (hv : v % 1073741824 = x) (hc : x % 23 = 3) (w : World) : Calls Try.prog 15 #[.int .i64 v] w (PlW w) := by
  obtain ⟨hx0, hx1⟩ : 0 ≤ x ∧ x < 1073741824 := by omega
  have HP := hidden (fun u => place_any v 1073741824 (by omega) (by omega) u)
  rw [hv] at HP
  obtain ⟨s, hS, hs⟩ : ∃ s, x / 64 % 8 = s ∧ 0 ≤ s ∧ s < 32 := ⟨_, rfl, by omega, by omega⟩
  obtain ⟨t, hT, ht⟩ : ∃ t, x / 512 % 8 = t ∧ 0 ≤ t ∧ t < 32 := ⟨_, rfl, by omega, by omega⟩
  obtain ⟨d, hD, hd⟩ : ∃ d, x / 4096 % 8 = d ∧ 0 ≤ d ∧ d < 32 := ⟨_, rfl, by omega, by omega⟩
  obtain ⟨m, hM, hm0, hm1⟩ : ∃ m, bits .and .i64 (x / 32768) 63 = m ∧ 0 ≤ m ∧ m < 64 := by
    obtain ⟨k, rfl⟩ := Int.eq_ofNat_of_zero_le hx0
    refine ⟨_, rfl, ?_⟩
    rw [show ((k : Int) / 32768) = ((k / 32768 : Nat) : Int) from rfl, i64_and63 _ (by omega)]
    omega
  have HW := hidden (fun u => plain_68 4 s t d (by omega) (by omega) hs ht hd u)
  have HX : Hid (0 ≤ x ∧ x < 1073741824) := hidden ⟨hx0, hx1⟩
  have HM := hidden hM
  clear hM
  have hmw : m % 4294967296 = m := by omega
  go_enter Try.func15, Try.ntmps15
  go_upto_region 4 with (first | (go_at_call 18; refine (HP.out _).mono ?_; rintro e w1 ⟨rfl, hww⟩; rw [hww]; clear hww w1))
  rw [HM.out, hmw]
  clear HM
  go_wp2_with (first
    | (go_at_call 16; refine (HW.out _).mono ?_; rintro e w2 ⟨W, rfl, h1, h2, b2⟩; have HR := hidden h1; have HR2 := hidden h2; have B2 := hidden b2; clear h1 h2 b2))
  go_ret
  exact ⟨W, rfl, HR.out, HR2.out, B2.out⟩
end Go.Proofs.Ytobnocioefchlaa
namespace Go.Proofs.Ytobnocioefchlaa
open Go.ChangeShapes Go.WideShapes Go.ChangeAt Go.RowKit
set_option linter.unusedVariables false
set_option maxRecDepth 20000 in
set_option maxHeartbeats 400000 in
theorem plain00_4 (v : Int) (x : Int) (hv : v % 1073741824 = x) (hc : x % 23 = 4) (w : World) : Calls Try.prog 15 #[.int .i64 v] w (PlW w) := by
  obtain ⟨hx0, hx1⟩ : 0 ≤ x ∧ x < 1073741824 := by omega
  have HP := hidden (fun u => place_any v 1073741824 (by omega) (by omega) u)
  rw [hv] at HP
  obtain ⟨s, hS, hs⟩ : ∃ s, x / 64 % 8 = s ∧ 0 ≤ s ∧ s < 32 := ⟨_, rfl, by omega, by omega⟩
  obtain ⟨t, hT, ht⟩ : ∃ t, x / 512 % 8 = t ∧ 0 ≤ t ∧ t < 32 := ⟨_, rfl, by omega, by omega⟩
  obtain ⟨d, hD, hd⟩ : ∃ d, x / 4096 % 8 = d ∧ 0 ≤ d ∧ d < 32 := ⟨_, rfl, by omega, by omega⟩
  obtain ⟨m, hM, hm0, hm1⟩ : ∃ m, bits .and .i64 (x / 32768) 63 = m ∧ 0 ≤ m ∧ m < 64 := by
    obtain ⟨k, rfl⟩ := Int.eq_ofNat_of_zero_le hx0
    refine ⟨_, rfl, ?_⟩
    rw [show ((k : Int) / 32768) = ((k / 32768 : Nat) : Int) from rfl, i64_and63 _ (by omega)]
    omega
  have HW := hidden (fun u => plain_68 5 s t d (by omega) (by omega) hs ht hd u)
  have HX : Hid (0 ≤ x ∧ x < 1073741824) := hidden ⟨hx0, hx1⟩
  have HM := hidden hM
  clear hM
  have hmw : m % 4294967296 = m := by omega
  go_enter Try.func15, Try.ntmps15
  go_upto_region 4 with (first | (go_at_call 18; refine (HP.out _).mono ?_; rintro e w1 ⟨rfl, hww⟩; rw [hww]; clear hww w1))
  rw [HM.out, hmw]
  clear HM
  go_wp2_with (first
    | (go_at_call 16; refine (HW.out _).mono ?_; rintro e w2 ⟨W, rfl, h1, h2, b2⟩; have HR := hidden h1; have HR2 := hidden h2; have B2 := hidden b2; clear h1 h2 b2))
  go_ret
  exact ⟨W, rfl, HR.out, HR2.out, B2.out⟩
end Go.Proofs.Ytobnocioefchlaa
namespace Go.Proofs.Ytobnocioefchlaa
open Go.ChangeShapes Go.WideShapes Go.ChangeAt Go.RowKit
set_option linter.unusedVariables false
set_option maxRecDepth 20000 in
set_option maxHeartbeats 400000 in
theorem plain00_5 (v : Int) (x : Int) (hv : v % 1073741824 = x) (hc : x % 23 = 5) (w : World) : Calls Try.prog 15 #[.int .i64 v] w (PlW w) := by
  obtain ⟨hx0, hx1⟩ : 0 ≤ x ∧ x < 1073741824 := by omega
  have HP := hidden (fun u => place_any v 1073741824 (by omega) (by omega) u)
  rw [hv] at HP
  obtain ⟨s, hS, hs⟩ : ∃ s, x / 64 % 8 = s ∧ 0 ≤ s ∧ s < 32 := ⟨_, rfl, by omega, by omega⟩
  obtain ⟨t, hT, ht⟩ : ∃ t, x / 512 % 8 = t ∧ 0 ≤ t ∧ t < 32 := ⟨_, rfl, by omega, by omega⟩
  obtain ⟨d, hD, hd⟩ : ∃ d, x / 4096 % 8 = d ∧ 0 ≤ d ∧ d < 32 := ⟨_, rfl, by omega, by omega⟩
  obtain ⟨m, hM, hm0, hm1⟩ : ∃ m, bits .and .i64 (x / 32768) 63 = m ∧ 0 ≤ m ∧ m < 64 := by
    obtain ⟨k, rfl⟩ := Int.eq_ofNat_of_zero_le hx0
    refine ⟨_, rfl, ?_⟩
    rw [show ((k : Int) / 32768) = ((k / 32768 : Nat) : Int) from rfl, i64_and63 _ (by omega)]
    omega
  have HW := hidden (fun u => plain_68 6 s t d (by omega) (by omega) hs ht hd u)
  have HX : Hid (0 ≤ x ∧ x < 1073741824) := hidden ⟨hx0, hx1⟩
  have HM := hidden hM
  clear hM
  have hmw : m % 4294967296 = m := by omega
  go_enter Try.func15, Try.ntmps15
  go_upto_region 4 with (first | (go_at_call 18; refine (HP.out _).mono ?_; rintro e w1 ⟨rfl, hww⟩; rw [hww]; clear hww w1))
  rw [HM.out, hmw]
  clear HM
  go_wp2_with (first
    | (go_at_call 16; refine (HW.out _).mono ?_; rintro e w2 ⟨W, rfl, h1, h2, b2⟩; have HR := hidden h1; have HR2 := hidden h2; have B2 := hidden b2; clear h1 h2 b2))
  go_ret
  exact ⟨W, rfl, HR.out, HR2.out, B2.out⟩
end Go.Proofs.Ytobnocioefchlaa
namespace Go.Proofs.Ytobnocioefchlaa
open Go.ChangeShapes Go.WideShapes Go.ChangeAt Go.RowKit
set_option linter.unusedVariables false
set_option maxRecDepth 20000 in
set_option maxHeartbeats 400000 in
theorem plain00_6 (v : Int) (x : Int) (hv : v % 1073741824 = x) (hc : x % 23 = 6) (w : World) : Calls Try.prog 15 #[.int .i64 v] w (PlW w) := by
  obtain ⟨hx0, hx1⟩ : 0 ≤ x ∧ x < 1073741824 := by omega
  have HP := hidden (fun u => place_any v 1073741824 (by omega) (by omega) u)
  rw [hv] at HP
  obtain ⟨s, hS, hs⟩ : ∃ s, x / 64 % 8 = s ∧ 0 ≤ s ∧ s < 32 := ⟨_, rfl, by omega, by omega⟩
  obtain ⟨t, hT, ht⟩ : ∃ t, x / 512 % 8 = t ∧ 0 ≤ t ∧ t < 32 := ⟨_, rfl, by omega, by omega⟩
  obtain ⟨d, hD, hd⟩ : ∃ d, x / 4096 % 8 = d ∧ 0 ≤ d ∧ d < 32 := ⟨_, rfl, by omega, by omega⟩
  obtain ⟨m, hM, hm0, hm1⟩ : ∃ m, bits .and .i64 (x / 32768) 63 = m ∧ 0 ≤ m ∧ m < 64 := by
    obtain ⟨k, rfl⟩ := Int.eq_ofNat_of_zero_le hx0
    refine ⟨_, rfl, ?_⟩
    rw [show ((k : Int) / 32768) = ((k / 32768 : Nat) : Int) from rfl, i64_and63 _ (by omega)]
    omega
  have HW := hidden (fun u => plain_68 7 s t d (by omega) (by omega) hs ht hd u)
  have HX : Hid (0 ≤ x ∧ x < 1073741824) := hidden ⟨hx0, hx1⟩
  have HM := hidden hM
  clear hM
  have hmw : m % 4294967296 = m := by omega
  go_enter Try.func15, Try.ntmps15
  go_upto_region 4 with (first | (go_at_call 18; refine (HP.out _).mono ?_; rintro e w1 ⟨rfl, hww⟩; rw [hww]; clear hww w1))
  rw [HM.out, hmw]
  clear HM
  go_wp2_with (first
    | (go_at_call 16; refine (HW.out _).mono ?_; rintro e w2 ⟨W, rfl, h1, h2, b2⟩; have HR := hidden h1; have HR2 := hidden h2; have B2 := hidden b2; clear h1 h2 b2))
  go_ret
  exact ⟨W, rfl, HR.out, HR2.out, B2.out⟩
end Go.Proofs.Ytobnocioefchlaa
namespace Go.Proofs.Ytobnocioefchlaa
open Go.ChangeShapes Go.WideShapes Go.ChangeAt Go.RowKit
set_option linter.unusedVariables false
set_option maxRecDepth 20000 in
set_option maxHeartbeats 400000 in
theorem plain00_7 (v : Int) (x : Int) (hv : v % 1073741824 = x) (hc : x % 23 = 7) (w : World) : Calls Try.prog 15 #[.int .i64 v] w (PlW w) := by
  obtain ⟨hx0, hx1⟩ : 0 ≤ x ∧ x < 1073741824 := by omega
  have HP := hidden (fun u => place_any v 1073741824 (by omega) (by omega) u)
  rw [hv] at HP
  obtain ⟨s, hS, hs⟩ : ∃ s, x / 64 % 8 = s ∧ 0 ≤ s ∧ s < 32 := ⟨_, rfl, by omega, by omega⟩
  obtain ⟨t, hT, ht⟩ : ∃ t, x / 512 % 8 = t ∧ 0 ≤ t ∧ t < 32 := ⟨_, rfl, by omega, by omega⟩
  obtain ⟨d, hD, hd⟩ : ∃ d, x / 4096 % 8 = d ∧ 0 ≤ d ∧ d < 32 := ⟨_, rfl, by omega, by omega⟩
  obtain ⟨m, hM, hm0, hm1⟩ : ∃ m, bits .and .i64 (x / 32768) 63 = m ∧ 0 ≤ m ∧ m < 64 := by
    obtain ⟨k, rfl⟩ := Int.eq_ofNat_of_zero_le hx0
    refine ⟨_, rfl, ?_⟩
    rw [show ((k : Int) / 32768) = ((k / 32768 : Nat) : Int) from rfl, i64_and63 _ (by omega)]
    omega
  have HW := hidden (fun u => plain_68 8 s t d (by omega) (by omega) hs ht hd u)
  have HX : Hid (0 ≤ x ∧ x < 1073741824) := hidden ⟨hx0, hx1⟩
  have HM := hidden hM
  clear hM
  have hmw : m % 4294967296 = m := by omega
  go_enter Try.func15, Try.ntmps15
  go_upto_region 4 with (first | (go_at_call 18; refine (HP.out _).mono ?_; rintro e w1 ⟨rfl, hww⟩; rw [hww]; clear hww w1))
  rw [HM.out, hmw]
  clear HM
  go_wp2_with (first
    | (go_at_call 16; refine (HW.out _).mono ?_; rintro e w2 ⟨W, rfl, h1, h2, b2⟩; have HR := hidden h1; have HR2 := hidden h2; have B2 := hidden b2; clear h1 h2 b2))
  go_ret
  exact ⟨W, rfl, HR.out, HR2.out, B2.out⟩
end Go.Proofs.Ytobnocioefchlaa
namespace Go.Proofs.Ytobnocioefchlaa
open Go.ChangeShapes Go.WideShapes Go.ChangeAt Go.RowKit
set_option linter.unusedVariables false
set_option maxRecDepth 20000 in
set_option maxHeartbeats 400000 in
theorem plain00_8 (v : Int) (x : Int) (hv : v % 1073741824 = x) (hc : x % 23 = 8) (w : World) : Calls Try.prog 15 #[.int .i64 v] w (PlW w) := by
  obtain ⟨hx0, hx1⟩ : 0 ≤ x ∧ x < 1073741824 := by omega
  have HP := hidden (fun u => place_any v 1073741824 (by omega) (by omega) u)
  rw [hv] at HP
  obtain ⟨s, hS, hs⟩ : ∃ s, x / 64 % 8 = s ∧ 0 ≤ s ∧ s < 32 := ⟨_, rfl, by omega, by omega⟩
  obtain ⟨t, hT, ht⟩ : ∃ t, x / 512 % 8 = t ∧ 0 ≤ t ∧ t < 32 := ⟨_, rfl, by omega, by omega⟩
  obtain ⟨d, hD, hd⟩ : ∃ d, x / 4096 % 8 = d ∧ 0 ≤ d ∧ d < 32 := ⟨_, rfl, by omega, by omega⟩
  obtain ⟨m, hM, hm0, hm1⟩ : ∃ m, bits .and .i64 (x / 32768) 63 = m ∧ 0 ≤ m ∧ m < 64 := by
    obtain ⟨k, rfl⟩ := Int.eq_ofNat_of_zero_le hx0
    refine ⟨_, rfl, ?_⟩
    rw [show ((k : Int) / 32768) = ((k / 32768 : Nat) : Int) from rfl, i64_and63 _ (by omega)]
    omega
  have HW := hidden (fun u => plain_68 9 s t d (by omega) (by omega) hs ht hd u)
  have HX : Hid (0 ≤ x ∧ x < 1073741824) := hidden ⟨hx0, hx1⟩
  have HM := hidden hM
  clear hM
  have hmw : m % 4294967296 = m := by omega
  go_enter Try.func15, Try.ntmps15
  go_upto_region 4 with (first | (go_at_call 18; refine (HP.out _).mono ?_; rintro e w1 ⟨rfl, hww⟩; rw [hww]; clear hww w1))
  rw [HM.out, hmw]
  clear HM
  go_wp2_with (first
    | (go_at_call 16; refine (HW.out _).mono ?_; rintro e w2 ⟨W, rfl, h1, h2, b2⟩; have HR := hidden h1; have HR2 := hidden h2; have B2 := hidden b2; clear h1 h2 b2))
  go_ret
  exact ⟨W, rfl, HR.out, HR2.out, B2.out⟩
end Go.Proofs.Ytobnocioefchlaa
namespace Go.Proofs.Ytobnocioefchlaa
open Go.ChangeShapes Go.WideShapes Go.ChangeAt Go.RowKit
set_option linter.unusedVariables false
set_option maxRecDepth 20000 in
set_option maxHeartbeats 400000 in
theorem plain00_9 (v : Int) (x : Int) (hv : v % 1073741824 = x) (hc : x % 23 = 9) (w : World) : Calls Try.prog 15 #[.int .i64 v] w (PlW w) := by
  obtain ⟨hx0, hx1⟩ : 0 ≤ x ∧ x < 1073741824 := by omega
  have HP := hidden (fun u => place_any v 1073741824 (by omega) (by omega) u)
  rw [hv] at HP
  obtain ⟨s, hS, hs⟩ : ∃ s, x / 64 % 8 = s ∧ 0 ≤ s ∧ s < 32 := ⟨_, rfl, by omega, by omega⟩
  obtain ⟨t, hT, ht⟩ : ∃ t, x / 512 % 8 = t ∧ 0 ≤ t ∧ t < 32 := ⟨_, rfl, by omega, by omega⟩
  obtain ⟨d, hD, hd⟩ : ∃ d, x / 4096 % 8 = d ∧ 0 ≤ d ∧ d < 32 := ⟨_, rfl, by omega, by omega⟩
  obtain ⟨m, hM, hm0, hm1⟩ : ∃ m, bits .and .i64 (x / 32768) 63 = m ∧ 0 ≤ m ∧ m < 64 := by
    obtain ⟨k, rfl⟩ := Int.eq_ofNat_of_zero_le hx0
    refine ⟨_, rfl, ?_⟩
    rw [show ((k : Int) / 32768) = ((k / 32768 : Nat) : Int) from rfl, i64_and63 _ (by omega)]
    omega
  have HW := hidden (fun u => plain_68 10 s t d (by omega) (by omega) hs ht hd u)
  have HX : Hid (0 ≤ x ∧ x < 1073741824) := hidden ⟨hx0, hx1⟩
  have HM := hidden hM
  clear hM
  have hmw : m % 4294967296 = m := by omega
  go_enter Try.func15, Try.ntmps15
  go_upto_region 4 with (first | (go_at_call 18; refine (HP.out _).mono ?_; rintro e w1 ⟨rfl, hww⟩; rw [hww]; clear hww w1))
  rw [HM.out, hmw]
  clear HM
  go_wp2_with (first
    | (go_at_call 16; refine (HW.out _).mono ?_; rintro e w2 ⟨W, rfl, h1, h2, b2⟩; have HR := hidden h1; have HR2 := hidden h2; have B2 := hidden b2; clear h1 h2 b2))
  go_ret
  exact ⟨W, rfl, HR.out, HR2.out, B2.out⟩
end Go.Proofs.Ytobnocioefchlaa
namespace Go.Proofs.Ytobnocioefchlaa
open Go.ChangeShapes Go.WideShapes Go.ChangeAt Go.RowKit
set_option linter.unusedVariables false
set_option maxRecDepth 20000 in
set_option maxHeartbeats 400000 in
theorem plain00_10 (v : Int) (x : Int) (hv : v % 1073741824 = x) (hc : x % 23 = 10) (w : World) : Calls Try.prog 15 #[.int .i64 v] w (PlW w) := by
  obtain ⟨hx0, hx1⟩ : 0 ≤ x ∧ x < 1073741824 := by omega
  have HP := hidden (fun u => place_any v 1073741824 (by omega) (by omega) u)
  rw [hv] at HP
  obtain ⟨s, hS, hs⟩ : ∃ s, x / 64 % 8 = s ∧ 0 ≤ s ∧ s < 32 := ⟨_, rfl, by omega, by omega⟩
  obtain ⟨t, hT, ht⟩ : ∃ t, x / 512 % 8 = t ∧ 0 ≤ t ∧ t < 32 := ⟨_, rfl, by omega, by omega⟩
  obtain ⟨d, hD, hd⟩ : ∃ d, x / 4096 % 8 = d ∧ 0 ≤ d ∧ d < 32 := ⟨_, rfl, by omega, by omega⟩
  obtain ⟨m, hM, hm0, hm1⟩ : ∃ m, bits .and .i64 (x / 32768) 63 = m ∧ 0 ≤ m ∧ m < 64 := by
    obtain ⟨k, rfl⟩ := Int.eq_ofNat_of_zero_le hx0
    refine ⟨_, rfl, ?_⟩
    rw [show ((k : Int) / 32768) = ((k / 32768 : Nat) : Int) from rfl, i64_and63 _ (by omega)]
    omega
  obtain ⟨a31, hA, ha⟩ : ∃ z, bits .and .u32 m 31 = z ∧ 0 ≤ z ∧ z < 32 := by
    obtain ⟨k, rfl⟩ := Int.eq_ofNat_of_zero_le hm0
    have h : bits .and .u32 (k : Int) 31 = ((k &&& 31 : Nat) : Int) := u32_and_nat k 31 (by omega) (by omega)
    have h2 := Nat.and_le_right (n := k) (m := 31)
    exact ⟨_, h, by omega, by omega⟩
  have HW := hidden (fun u => plain_72 16 t d a31 (by omega) (by omega) ht hd ha u)
  have HX : Hid (0 ≤ x ∧ x < 1073741824) := hidden ⟨hx0, hx1⟩
  have HM := hidden hM
  clear hM
  have HA := hidden hA
  clear hA
  have ha0 : 0 ≤ a31 := ha.1
  have ha1 : a31 < 32 := ha.2
  have hmw : m % 4294967296 = m := by omega
  go_enter Try.func15, Try.ntmps15
  go_upto_region 4 with (first | (go_at_call 18; refine (HP.out _).mono ?_; rintro e w1 ⟨rfl, hww⟩; rw [hww]; clear hww w1))
  rw [HM.out, hmw]
  clear HM
  go_wp2_with (first
    | (refine wpList_and31 rfl _ _ rfl m a31 rfl rfl HA.out ?_)
    | (go_at_call 16; refine (HW.out _).mono ?_; rintro e w2 ⟨W, rfl, h1, h2, b2⟩; have HR := hidden h1; have HR2 := hidden h2; have B2 := hidden b2; clear h1 h2 b2))
  go_ret
  exact ⟨W, rfl, HR.out, HR2.out, B2.out⟩
end Go.Proofs.Ytobnocioefchlaa
namespace Go.Proofs.Ytobnocioefchlaa
open Go.ChangeShapes Go.WideShapes Go.ChangeAt Go.RowKit
set_option linter.unusedVariables false
set_option maxRecDepth 20000 in
set_option maxHeartbeats 400000 in
theorem plain00_11 (v : Int) (x : Int) (hv : v % 1073741824 = x) (hc : x % 23 = 11) (w : World) : Calls Try.prog 15 #[.int .i64 v] w (PlW w) := by
  obtain ⟨hx0, hx1⟩ : 0 ≤ x ∧ x < 1073741824 := by omega
  have HP := hidden (fun u => place_any v 1073741824 (by omega) (by omega) u)
  rw [hv] at HP
  obtain ⟨s, hS, hs⟩ : ∃ s, x / 64 % 8 = s ∧ 0 ≤ s ∧ s < 32 := ⟨_, rfl, by omega, by omega⟩
  obtain ⟨t, hT, ht⟩ : ∃ t, x / 512 % 8 = t ∧ 0 ≤ t ∧ t < 32 := ⟨_, rfl, by omega, by omega⟩
  obtain ⟨d, hD, hd⟩ : ∃ d, x / 4096 % 8 = d ∧ 0 ≤ d ∧ d < 32 := ⟨_, rfl, by omega, by omega⟩
  obtain ⟨m, hM, hm0, hm1⟩ : ∃ m, bits .and .i64 (x / 32768) 63 = m ∧ 0 ≤ m ∧ m < 64 := by
    obtain ⟨k, rfl⟩ := Int.eq_ofNat_of_zero_le hx0
    refine ⟨_, rfl, ?_⟩
    rw [show ((k : Int) / 32768) = ((k / 32768 : Nat) : Int) from rfl, i64_and63 _ (by omega)]
    omega
  obtain ⟨a31, hA, ha⟩ : ∃ z, bits .and .u32 m 31 = z ∧ 0 ≤ z ∧ z < 32 := by
    obtain ⟨k, rfl⟩ := Int.eq_ofNat_of_zero_le hm0
    have h : bits .and .u32 (k : Int) 31 = ((k &&& 31 : Nat) : Int) := u32_and_nat k 31 (by omega) (by omega)
    have h2 := Nat.and_le_right (n := k) (m := 31)
    exact ⟨_, h, by omega, by omega⟩
  have HW := hidden (fun u => plain_72 17 t d a31 (by omega) (by omega) ht hd ha u)
  have HX : Hid (0 ≤ x ∧ x < 1073741824) := hidden ⟨hx0, hx1⟩
  have HM := hidden hM
  clear hM
  have HA := hidden hA
  clear hA
  have ha0 : 0 ≤ a31 := ha.1
  have ha1 : a31 < 32 := ha.2
  have hmw : m % 4294967296 = m := by omega
  go_enter Try.func15, Try.ntmps15
  go_upto_region 4 with (first | (go_at_call 18; refine (HP.out _).mono ?_; rintro e w1 ⟨rfl, hww⟩; rw [hww]; clear hww w1))
  rw [HM.out, hmw]
  clear HM
  go_wp2_with (first
    | (refine wpList_and31 rfl _ _ rfl m a31 rfl rfl HA.out ?_)
    | (go_at_call 16; refine (HW.out _).mono ?_; rintro e w2 ⟨W, rfl, h1, h2, b2⟩; have HR := hidden h1; have HR2 := hidden h2; have B2 := hidden b2; clear h1 h2 b2))
  go_ret
  exact ⟨W, rfl, HR.out, HR2.out, B2.out⟩
end Go.Proofs.Ytobnocioefchlaa
namespace Go.Proofs.Ytobnocioefchlaa
open Go.ChangeShapes Go.WideShapes Go.ChangeAt Go.RowKit
set_option linter.unusedVariables false
set_option maxRecDepth 20000 in
set_option maxHeartbeats 400000 in
theorem plain00_12 (v : Int) (x : Int) (hv : v % 1073741824 = x) (hc : x % 23 = 12) (w : World) : Calls Try.prog 15 #[.int .i64 v] w (PlW w) := by
  obtain ⟨hx0, hx1⟩ : 0 ≤ x ∧ x < 1073741824 := by omega
  have HP := hidden (fun u => place_any v 1073741824 (by omega) (by omega) u)
  rw [hv] at HP
  obtain ⟨s, hS, hs⟩ : ∃ s, x / 64 % 8 = s ∧ 0 ≤ s ∧ s < 32 := ⟨_, rfl, by omega, by omega⟩
  obtain ⟨t, hT, ht⟩ : ∃ t, x / 512 % 8 = t ∧ 0 ≤ t ∧ t < 32 := ⟨_, rfl, by omega, by omega⟩
  obtain ⟨d, hD, hd⟩ : ∃ d, x / 4096 % 8 = d ∧ 0 ≤ d ∧ d < 32 := ⟨_, rfl, by omega, by omega⟩
  obtain ⟨m, hM, hm0, hm1⟩ : ∃ m, bits .and .i64 (x / 32768) 63 = m ∧ 0 ≤ m ∧ m < 64 := by
    obtain ⟨k, rfl⟩ := Int.eq_ofNat_of_zero_le hx0
    refine ⟨_, rfl, ?_⟩
    rw [show ((k : Int) / 32768) = ((k / 32768 : Nat) : Int) from rfl, i64_and63 _ (by omega)]
    omega
  obtain ⟨a31, hA, ha⟩ : ∃ z, bits .and .u32 m 31 = z ∧ 0 ≤ z ∧ z < 32 := by
    obtain ⟨k, rfl⟩ := Int.eq_ofNat_of_zero_le hm0
    have h : bits .and .u32 (k : Int) 31 = ((k &&& 31 : Nat) : Int) := u32_and_nat k 31 (by omega) (by omega)
    have h2 := Nat.and_le_right (n := k) (m := 31)
    exact ⟨_, h, by omega, by omega⟩
  have HW := hidden (fun u => plain_72 18 t d a31 (by omega) (by omega) ht hd ha u)
  have HX : Hid (0 ≤ x ∧ x < 1073741824) := hidden ⟨hx0, hx1⟩
  have HM := hidden hM
  clear hM
  have HA := hidden hA
  clear hA
  have ha0 : 0 ≤ a31 := ha.1
  have ha1 : a31 < 32 := ha.2
  have hmw : m % 4294967296 = m := by omega
  go_enter Try.func15, Try.ntmps15
  go_upto_region 4 with (first | (go_at_call 18; refine (HP.out _).mono ?_; rintro e w1 ⟨rfl, hww⟩; rw [hww]; clear hww w1))
  rw [HM.out, hmw]
  clear HM
  go_wp2_with (first
    | (refine wpList_and31 rfl _ _ rfl m a31 rfl rfl HA.out ?_)
    | (go_at_call 16; refine (HW.out _).mono ?_; rintro e w2 ⟨W, rfl, h1, h2, b2⟩; have HR := hidden h1; have HR2 := hidden h2; have B2 := hidden b2; clear h1 h2 b2))
  go_ret
  exact ⟨W, rfl, HR.out, HR2.out, B2.out⟩
end Go.Proofs.Ytobnocioefchlaa
namespace Go.Proofs.Ytobnocioefchlaa
open Go.ChangeShapes Go.WideShapes Go.ChangeAt Go.RowKit
set_option linter.unusedVariables false
set_option maxRecDepth 20000 in
set_option maxHeartbeats 400000 in
theorem plain00_13 (v : Int) (x : Int) (hv : v % 1073741824 = x) (hc : x % 23 = 13) (w : World) : Calls Try.prog 15 #[.int .i64 v] w (PlW w) := by
  obtain ⟨hx0, hx1⟩ : 0 ≤ x ∧ x < 1073741824 := by omega
  have HP := hidden (fun u => place_any v 1073741824 (by omega) (by omega) u)
  rw [hv] at HP
  obtain ⟨s, hS, hs⟩ : ∃ s, x / 64 % 8 = s ∧ 0 ≤ s ∧ s < 32 := ⟨_, rfl, by omega, by omega⟩
  obtain ⟨t, hT, ht⟩ : ∃ t, x / 512 % 8 = t ∧ 0 ≤ t ∧ t < 32 := ⟨_, rfl, by omega, by omega⟩
  obtain ⟨d, hD, hd⟩ : ∃ d, x / 4096 % 8 = d ∧ 0 ≤ d ∧ d < 32 := ⟨_, rfl, by omega, by omega⟩
  obtain ⟨m, hM, hm0, hm1⟩ : ∃ m, bits .and .i64 (x / 32768) 63 = m ∧ 0 ≤ m ∧ m < 64 := by
    obtain ⟨k, rfl⟩ := Int.eq_ofNat_of_zero_le hx0
    refine ⟨_, rfl, ?_⟩
    rw [show ((k : Int) / 32768) = ((k / 32768 : Nat) : Int) from rfl, i64_and63 _ (by omega)]
    omega
  have HW := hidden (fun u => plain_77 (19 + x / 2097152 % 4) s t (by omega) (by omega) hs ht u)
  have HX : Hid (0 ≤ x ∧ x < 1073741824) := hidden ⟨hx0, hx1⟩
  have HM := hidden hM
  clear hM
  have hmw : m % 4294967296 = m := by omega
  go_enter Try.func15, Try.ntmps15
  go_upto_region 4 with (first | (go_at_call 18; refine (HP.out _).mono ?_; rintro e w1 ⟨rfl, hww⟩; rw [hww]; clear hww w1))
  rw [HM.out, hmw]
  clear HM
  go_wp2_with (first
    | (go_at_call 16; refine (HW.out _).mono ?_; rintro e w2 ⟨W, rfl, h1, h2, b2⟩; have HR := hidden h1; have HR2 := hidden h2; have B2 := hidden b2; clear h1 h2 b2))
  go_ret
  exact ⟨W, rfl, HR.out, HR2.out, B2.out⟩
end Go.Proofs.Ytobnocioefchlaa
namespace Go.Proofs.Ytobnocioefchlaa
open Go.ChangeShapes Go.WideShapes Go.ChangeAt Go.RowKit
set_option linter.unusedVariables false
set_option maxRecDepth 20000 in
set_option maxHeartbeats 400000 in
theorem plain00_14 (v : Int) (x : Int) (hv : v % 1073741824 = x) (hc : x % 23 = 14) (w : World) : Calls Try.prog 15 #[.int .i64 v] w (PlW w) := by
  obtain ⟨hx0, hx1⟩ : 0 ≤ x ∧ x < 1073741824 := by omega
  have HP := hidden (fun u => place_any v 1073741824 (by omega) (by omega) u)
  rw [hv] at HP
  obtain ⟨s, hS, hs⟩ : ∃ s, x / 64 % 8 = s ∧ 0 ≤ s ∧ s < 32 := ⟨_, rfl, by omega, by omega⟩
  obtain ⟨t, hT, ht⟩ : ∃ t, x / 512 % 8 = t ∧ 0 ≤ t ∧ t < 32 := ⟨_, rfl, by omega, by omega⟩
  obtain ⟨d, hD, hd⟩ : ∃ d, x / 4096 % 8 = d ∧ 0 ≤ d ∧ d < 32 := ⟨_, rfl, by omega, by omega⟩
  obtain ⟨m, hM, hm0, hm1⟩ : ∃ m, bits .and .i64 (x / 32768) 63 = m ∧ 0 ≤ m ∧ m < 64 := by
    obtain ⟨k, rfl⟩ := Int.eq_ofNat_of_zero_le hx0
    refine ⟨_, rfl, ?_⟩
    rw [show ((k : Int) / 32768) = ((k / 32768 : Nat) : Int) from rfl, i64_and63 _ (by omega)]
    omega
  have HW := hidden (fun u => plain_70 (23 + x / 2097152 % 2) d (by omega) (by omega) hd u)
  have HX : Hid (0 ≤ x ∧ x < 1073741824) := hidden ⟨hx0, hx1⟩
  have HM := hidden hM
  clear hM
  have hmw : m % 4294967296 = m := by omega
  go_enter Try.func15, Try.ntmps15
  go_upto_region 4 with (first | (go_at_call 18; refine (HP.out _).mono ?_; rintro e w1 ⟨rfl, hww⟩; rw [hww]; clear hww w1))
  rw [HM.out, hmw]
  clear HM
  go_wp2_with (first
    | (go_at_call 16; refine (HW.out _).mono ?_; rintro e w2 ⟨W, rfl, h1, h2, b2⟩; have HR := hidden h1; have HR2 := hidden h2; have B2 := hidden b2; clear h1 h2 b2))
  go_ret
  exact ⟨W, rfl, HR.out, HR2.out, B2.out⟩
end Go.Proofs.Ytobnocioefchlaa
namespace Go.Proofs.Ytobnocioefchlaa
open Go.ChangeShapes Go.WideShapes Go.ChangeAt Go.RowKit
set_option linter.unusedVariables false
set_option maxRecDepth 20000 in
set_option maxHeartbeats 400000 in
theorem plain00_15 (v : Int) (x : Int) (hv : v % 1073741824 = x) (hc : x % 23 = 15) (w : World) : Calls Try.prog 15 #[.int .i64 v] w (PlW w) := by
  obtain ⟨hx0, hx1⟩ : 0 ≤ x ∧ x < 1073741824 := by omega
  have HP := hidden (fun u => place_any v 1073741824 (by omega) (by omega) u)
  rw [hv] at HP
  obtain ⟨s, hS, hs⟩ : ∃ s, x / 64 % 8 = s ∧ 0 ≤ s ∧ s < 32 := ⟨_, rfl, by omega, by omega⟩
  obtain ⟨t, hT, ht⟩ : ∃ t, x / 512 % 8 = t ∧ 0 ≤ t ∧ t < 32 := ⟨_, rfl, by omega, by omega⟩
  obtain ⟨d, hD, hd⟩ : ∃ d, x / 4096 % 8 = d ∧ 0 ≤ d ∧ d < 32 := ⟨_, rfl, by omega, by omega⟩
  obtain ⟨m, hM, hm0, hm1⟩ : ∃ m, bits .and .i64 (x / 32768) 63 = m ∧ 0 ≤ m ∧ m < 64 := by
    obtain ⟨k, rfl⟩ := Int.eq_ofNat_of_zero_le hx0
    refine ⟨_, rfl, ?_⟩
    rw [show ((k : Int) / 32768) = ((k / 32768 : Nat) : Int) from rfl, i64_and63 _ (by omega)]
    omega
  have HW := hidden (fun u => plain_73 (40 + x / 2097152 % 4) s t ((m - 20) % 4294967296) (by omega) (by omega) hs ht ⟨by omega, by omega⟩ u)
  have HX : Hid (0 ≤ x ∧ x < 1073741824) := hidden ⟨hx0, hx1⟩
  have HM := hidden hM
  clear hM
  have hmw : m % 4294967296 = m := by omega
  go_enter Try.func15, Try.ntmps15
  go_upto_region 4 with (first | (go_at_call 18; refine (HP.out _).mono ?_; rintro e w1 ⟨rfl, hww⟩; rw [hww]; clear hww w1))
  rw [HM.out, hmw]
  clear HM
  go_wp2_with (first
    | (go_at_call 16; refine (HW.out _).mono ?_; rintro e w2 ⟨W, rfl, h1, h2, b2⟩; have HR := hidden h1; have HR2 := hidden h2; have B2 := hidden b2; clear h1 h2 b2))
  go_ret
  exact ⟨W, rfl, HR.out, HR2.out, B2.out⟩
end Go.Proofs.Ytobnocioefchlaa
namespace Go.Proofs.Ytobnocioefchlaa
open Go.ChangeShapes Go.WideShapes Go.ChangeAt Go.RowKit
set_option linter.unusedVariables false
set_option maxRecDepth 20000 in
set_option maxHeartbeats 400000 in
theorem plain00_16 (v : Int) (x : Int) (hv : v % 1073741824 = x) (hc : x % 23 = 16) (w : World) : Calls Try.prog 15 #[.int .i64 v] w (PlW w) := by
  obtain ⟨hx0, hx1⟩ : 0 ≤ x ∧ x < 1073741824 := by omega
  have HP := hidden (fun u => place_any v 1073741824 (by omega) (by omega) u)
  rw [hv] at HP
  obtain ⟨s, hS, hs⟩ : ∃ s, x / 64 % 8 = s ∧ 0 ≤ s ∧ s < 32 := ⟨_, rfl, by omega, by omega⟩
  obtain ⟨t, hT, ht⟩ : ∃ t, x / 512 % 8 = t ∧ 0 ≤ t ∧ t < 32 := ⟨_, rfl, by omega, by omega⟩
  obtain ⟨d, hD, hd⟩ : ∃ d, x / 4096 % 8 = d ∧ 0 ≤ d ∧ d < 32 := ⟨_, rfl, by omega, by omega⟩
  obtain ⟨m, hM, hm0, hm1⟩ : ∃ m, bits .and .i64 (x / 32768) 63 = m ∧ 0 ≤ m ∧ m < 64 := by
    obtain ⟨k, rfl⟩ := Int.eq_ofNat_of_zero_le hx0
    refine ⟨_, rfl, ?_⟩
    rw [show ((k : Int) / 32768) = ((k / 32768 : Nat) : Int) from rfl, i64_and63 _ (by omega)]
    omega
  have HW := hidden (fun u => plain_85 (44 + x / 2097152 % 3) s t m (by omega) (by omega) hs ht ⟨by omega, by omega⟩ u)
  have HX : Hid (0 ≤ x ∧ x < 1073741824) := hidden ⟨hx0, hx1⟩
  have HM := hidden hM
  clear hM
  have hmw : m % 4294967296 = m := by omega
  go_enter Try.func15, Try.ntmps15
  go_upto_region 4 with (first | (go_at_call 18; refine (HP.out _).mono ?_; rintro e w1 ⟨rfl, hww⟩; rw [hww]; clear hww w1))
  rw [HM.out, hmw]
  clear HM
  go_wp2_with (first
    | (go_at_call 16; refine (HW.out _).mono ?_; rintro e w2 ⟨W, rfl, h1, h2, b2⟩; have HR := hidden h1; have HR2 := hidden h2; have B2 := hidden b2; clear h1 h2 b2))
  go_ret
  exact ⟨W, rfl, HR.out, HR2.out, B2.out⟩
end Go.Proofs.Ytobnocioefchlaa
namespace Go.Proofs.Ytobnocioefchlaa
open Go.ChangeShapes Go.WideShapes Go.ChangeAt Go.RowKit
set_option linter.unusedVariables false
set_option maxRecDepth 20000 in
set_option maxHeartbeats 400000 in
theorem plain00_17 (v : Int) (x : Int) (hv : v % 1073741824 = x) (hc : x % 23 = 17) (w : World) : Calls Try.prog 15 #[.int .i64 v] w (PlW w) := by
  obtain ⟨hx0, hx1⟩ : 0 ≤ x ∧ x < 1073741824 := by omega
  have HP := hidden (fun u => place_any v 1073741824 (by omega) (by omega) u)
  rw [hv] at HP
  obtain ⟨s, hS, hs⟩ : ∃ s, x / 64 % 8 = s ∧ 0 ≤ s ∧ s < 32 := ⟨_, rfl, by omega, by omega⟩
  obtain ⟨t, hT, ht⟩ : ∃ t, x / 512 % 8 = t ∧ 0 ≤ t ∧ t < 32 := ⟨_, rfl, by omega, by omega⟩
  obtain ⟨d, hD, hd⟩ : ∃ d, x / 4096 % 8 = d ∧ 0 ≤ d ∧ d < 32 := ⟨_, rfl, by omega, by omega⟩
  obtain ⟨m, hM, hm0, hm1⟩ : ∃ m, bits .and .i64 (x / 32768) 63 = m ∧ 0 ≤ m ∧ m < 64 := by
    obtain ⟨k, rfl⟩ := Int.eq_ofNat_of_zero_le hx0
    refine ⟨_, rfl, ?_⟩
    rw [show ((k : Int) / 32768) = ((k / 32768 : Nat) : Int) from rfl, i64_and63 _ (by omega)]
    omega
  have HW := hidden (fun u => plain_88 37 s t d (by omega) (by omega) hs ht hd u)
  have HX : Hid (0 ≤ x ∧ x < 1073741824) := hidden ⟨hx0, hx1⟩
  have HM := hidden hM
  clear hM
  have hmw : m % 4294967296 = m := by omega
  go_enter Try.func15, Try.ntmps15
  go_upto_region 4 with (first | (go_at_call 18; refine (HP.out _).mono ?_; rintro e w1 ⟨rfl, hww⟩; rw [hww]; clear hww w1))
  rw [HM.out, hmw]
  clear HM
  go_wp2_with (first
    | (go_at_call 16; refine (HW.out _).mono ?_; rintro e w2 ⟨W, rfl, h1, h2, b2⟩; have HR := hidden h1; have HR2 := hidden h2; have B2 := hidden b2; clear h1 h2 b2))
  go_ret
  exact ⟨W, rfl, HR.out, HR2.out, B2.out⟩
end Go.Proofs.Ytobnocioefchlaa
namespace Go.Proofs.Ytobnocioefchlaa
open Go.ChangeShapes Go.WideShapes Go.ChangeAt Go.RowKit
set_option linter.unusedVariables false
set_option maxRecDepth 20000 in
set_option maxHeartbeats 400000 in
theorem plain00_18 (v : Int) (x : Int) (hv : v % 1073741824 = x) (hc : x % 23 = 18) (w : World) : Calls Try.prog 15 #[.int .i64 v] w (PlW w) := by
  obtain ⟨hx0, hx1⟩ : 0 ≤ x ∧ x < 1073741824 := by omega
  have HP := hidden (fun u => place_any v 1073741824 (by omega) (by omega) u)
  rw [hv] at HP
  obtain ⟨s, hS, hs⟩ : ∃ s, x / 64 % 8 = s ∧ 0 ≤ s ∧ s < 32 := ⟨_, rfl, by omega, by omega⟩
  obtain ⟨t, hT, ht⟩ : ∃ t, x / 512 % 8 = t ∧ 0 ≤ t ∧ t < 32 := ⟨_, rfl, by omega, by omega⟩
  obtain ⟨d, hD, hd⟩ : ∃ d, x / 4096 % 8 = d ∧ 0 ≤ d ∧ d < 32 := ⟨_, rfl, by omega, by omega⟩
  obtain ⟨m, hM, hm0, hm1⟩ : ∃ m, bits .and .i64 (x / 32768) 63 = m ∧ 0 ≤ m ∧ m < 64 := by
    obtain ⟨k, rfl⟩ := Int.eq_ofNat_of_zero_le hx0
    refine ⟨_, rfl, ?_⟩
    rw [show ((k : Int) / 32768) = ((k / 32768 : Nat) : Int) from rfl, i64_and63 _ (by omega)]
    omega
  have HW := hidden (fun u => plain_68 (14 + x / 2097152 % 2) s t d (by omega) (by omega) hs ht hd u)
  have HX : Hid (0 ≤ x ∧ x < 1073741824) := hidden ⟨hx0, hx1⟩
  have HM := hidden hM
  clear hM
  have hmw : m % 4294967296 = m := by omega
  go_enter Try.func15, Try.ntmps15
  go_upto_region 4 with (first | (go_at_call 18; refine (HP.out _).mono ?_; rintro e w1 ⟨rfl, hww⟩; rw [hww]; clear hww w1))
  rw [HM.out, hmw]
  clear HM
  go_wp2_with (first
    | (go_at_call 16; refine (HW.out _).mono ?_; rintro e w2 ⟨W, rfl, h1, h2, b2⟩; have HR := hidden h1; have HR2 := hidden h2; have B2 := hidden b2; clear h1 h2 b2))
  go_ret
  exact ⟨W, rfl, HR.out, HR2.out, B2.out⟩
end Go.Proofs.Ytobnocioefchlaa
namespace Go.Proofs.Ytobnocioefchlaa
open Go.ChangeShapes Go.WideShapes Go.ChangeAt Go.RowKit
set_option linter.unusedVariables false
set_option maxRecDepth 20000 in
set_option maxHeartbeats 400000 in
theorem plain00_19 (v : Int) (x : Int) (hv : v % 1073741824 = x) (hc : x % 23 = 19) (w : World) : Calls Try.prog 15 #[.int .i64 v] w (PlW w) := by
  obtain ⟨hx0, hx1⟩ : 0 ≤ x ∧ x < 1073741824 := by omega
  have HP := hidden (fun u => place_any v 1073741824 (by omega) (by omega) u)
  rw [hv] at HP
  obtain ⟨s, hS, hs⟩ : ∃ s, x / 64 % 8 = s ∧ 0 ≤ s ∧ s < 32 := ⟨_, rfl, by omega, by omega⟩
  obtain ⟨t, hT, ht⟩ : ∃ t, x / 512 % 8 = t ∧ 0 ≤ t ∧ t < 32 := ⟨_, rfl, by omega, by omega⟩
  obtain ⟨d, hD, hd⟩ : ∃ d, x / 4096 % 8 = d ∧ 0 ≤ d ∧ d < 32 := ⟨_, rfl, by omega, by omega⟩
  obtain ⟨m, hM, hm0, hm1⟩ : ∃ m, bits .and .i64 (x / 32768) 63 = m ∧ 0 ≤ m ∧ m < 64 := by
    obtain ⟨k, rfl⟩ := Int.eq_ofNat_of_zero_le hx0
    refine ⟨_, rfl, ?_⟩
    rw [show ((k : Int) / 32768) = ((k / 32768 : Nat) : Int) from rfl, i64_and63 _ (by omega)]
    omega
  have HW := hidden (fun u => plain_80 (48 + x / 2097152 % 7) 28 t m (by omega) (by omega) ⟨by omega, by omega⟩ ht ⟨by omega, by omega⟩ u)
  have HX : Hid (0 ≤ x ∧ x < 1073741824) := hidden ⟨hx0, hx1⟩
  have HM := hidden hM
  clear hM
  have hmw : m % 4294967296 = m := by omega
  go_enter Try.func15, Try.ntmps15
  go_upto_region 4 with (first | (go_at_call 18; refine (HP.out _).mono ?_; rintro e w1 ⟨rfl, hww⟩; rw [hww]; clear hww w1))
  rw [HM.out, hmw]
  clear HM
  go_wp2_with (first
    | (go_at_call 16; refine (HW.out _).mono ?_; rintro e w2 ⟨W, rfl, h1, h2, b2⟩; have HR := hidden h1; have HR2 := hidden h2; have B2 := hidden b2; clear h1 h2 b2))
  go_ret
  exact ⟨W, rfl, HR.out, HR2.out, B2.out⟩
end Go.Proofs.Ytobnocioefchlaa
namespace Go.Proofs.Ytobnocioefchlaa
open Go.ChangeShapes Go.WideShapes Go.ChangeAt Go.RowKit
set_option linter.unusedVariables false
set_option maxRecDepth 20000 in
set_option maxHeartbeats 400000 in
theorem plain00_20 (v : Int) (x : Int) (hv : v % 1073741824 = x) (hc : x % 23 = 20) (w : World) : Calls Try.prog 15 #[.int .i64 v] w (PlW w) := by
  obtain ⟨hx0, hx1⟩ : 0 ≤ x ∧ x < 1073741824 := by omega
  have HP := hidden (fun u => place_any v 1073741824 (by omega) (by omega) u)
  rw [hv] at HP
  obtain ⟨s, hS, hs⟩ : ∃ s, x / 64 % 8 = s ∧ 0 ≤ s ∧ s < 32 := ⟨_, rfl, by omega, by omega⟩
  obtain ⟨t, hT, ht⟩ : ∃ t, x / 512 % 8 = t ∧ 0 ≤ t ∧ t < 32 := ⟨_, rfl, by omega, by omega⟩
  obtain ⟨d, hD, hd⟩ : ∃ d, x / 4096 % 8 = d ∧ 0 ≤ d ∧ d < 32 := ⟨_, rfl, by omega, by omega⟩
  obtain ⟨m, hM, hm0, hm1⟩ : ∃ m, bits .and .i64 (x / 32768) 63 = m ∧ 0 ≤ m ∧ m < 64 := by
    obtain ⟨k, rfl⟩ := Int.eq_ofNat_of_zero_le hx0
    refine ⟨_, rfl, ?_⟩
    rw [show ((k : Int) / 32768) = ((k / 32768 : Nat) : Int) from rfl, i64_and63 _ (by omega)]
    omega
  have HW := hidden (fun u => plain_80 (55 + x / 2097152 % 5) 28 t m (by omega) (by omega) ⟨by omega, by omega⟩ ht ⟨by omega, by omega⟩ u)
  have HX : Hid (0 ≤ x ∧ x < 1073741824) := hidden ⟨hx0, hx1⟩
  have HM := hidden hM
  clear hM
  have hmw : m % 4294967296 = m := by omega
  go_enter Try.func15, Try.ntmps15
  go_upto_region 4 with (first | (go_at_call 18; refine (HP.out _).mono ?_; rintro e w1 ⟨rfl, hww⟩; rw [hww]; clear hww w1))
  rw [HM.out, hmw]
  clear HM
  go_wp2_with (first
    | (go_at_call 16; refine (HW.out _).mono ?_; rintro e w2 ⟨W, rfl, h1, h2, b2⟩; have HR := hidden h1; have HR2 := hidden h2; have B2 := hidden b2; clear h1 h2 b2))
  go_ret
  exact ⟨W, rfl, HR.out, HR2.out, B2.out⟩
end Go.Proofs.Ytobnocioefchlaa
namespace Go.Proofs.Ytobnocioefchlaa
open Go.ChangeShapes Go.WideShapes Go.ChangeAt Go.RowKit
set_option linter.unusedVariables false
set_option maxRecDepth 20000 in
set_option maxHeartbeats 400000 in
theorem plain00_21 (v : Int) (x : Int) (hv : v % 1073741824 = x) (hc : x % 23 = 21) (w : World) : Calls Try.prog 15 #[.int .i64 v] w (PlW w) := by
  obtain ⟨hx0, hx1⟩ : 0 ≤ x ∧ x < 1073741824 := by omega
  have HP := hidden (fun u => place_any v 1073741824 (by omega) (by omega) u)
  rw [hv] at HP
  obtain ⟨s, hS, hs⟩ : ∃ s, x / 64 % 8 = s ∧ 0 ≤ s ∧ s < 32 := ⟨_, rfl, by omega, by omega⟩
  obtain ⟨t, hT, ht⟩ : ∃ t, x / 512 % 8 = t ∧ 0 ≤ t ∧ t < 32 := ⟨_, rfl, by omega, by omega⟩
  obtain ⟨d, hD, hd⟩ : ∃ d, x / 4096 % 8 = d ∧ 0 ≤ d ∧ d < 32 := ⟨_, rfl, by omega, by omega⟩
  obtain ⟨m, hM, hm0, hm1⟩ : ∃ m, bits .and .i64 (x / 32768) 63 = m ∧ 0 ≤ m ∧ m < 64 := by
    obtain ⟨k, rfl⟩ := Int.eq_ofNat_of_zero_le hx0
    refine ⟨_, rfl, ?_⟩
    rw [show ((k : Int) / 32768) = ((k / 32768 : Nat) : Int) from rfl, i64_and63 _ (by omega)]
    omega
  have HW := hidden (fun u => plain_84 (29 + x / 2097152 % 4) s t (by omega) (by omega) hs ht u)
  have HX : Hid (0 ≤ x ∧ x < 1073741824) := hidden ⟨hx0, hx1⟩
  have HM := hidden hM
  clear hM
  have hmw : m % 4294967296 = m := by omega
  go_enter Try.func15, Try.ntmps15
  go_upto_region 4 with (first | (go_at_call 18; refine (HP.out _).mono ?_; rintro e w1 ⟨rfl, hww⟩; rw [hww]; clear hww w1))
  rw [HM.out, hmw]
  clear HM
  go_wp2_with (first
    | (go_at_call 16; refine (HW.out _).mono ?_; rintro e w2 ⟨W, rfl, h1, h2, b2⟩; have HR := hidden h1; have HR2 := hidden h2; have B2 := hidden b2; clear h1 h2 b2))
  go_ret
  exact ⟨W, rfl, HR.out, HR2.out, B2.out⟩
end Go.Proofs.Ytobnocioefchlaa
namespace Go.Proofs.Ytobnocioefchlaa
open Go.ChangeShapes Go.WideShapes Go.ChangeAt Go.RowKit
set_option linter.unusedVariables false
set_option maxRecDepth 20000 in
set_option maxHeartbeats 400000 in
theorem plain00_22 (v : Int) (x : Int) (hv : v % 1073741824 = x) (hc : x % 23 = 22) (w : World) : Calls Try.prog 15 #[.int .i64 v] w (PlW w) := by
  obtain ⟨hx0, hx1⟩ : 0 ≤ x ∧ x < 1073741824 := by omega
  have HP := hidden (fun u => place_any v 1073741824 (by omega) (by omega) u)
  rw [hv] at HP
  obtain ⟨s, hS, hs⟩ : ∃ s, x / 64 % 8 = s ∧ 0 ≤ s ∧ s < 32 := ⟨_, rfl, by omega, by omega⟩
  obtain ⟨t, hT, ht⟩ : ∃ t, x / 512 % 8 = t ∧ 0 ≤ t ∧ t < 32 := ⟨_, rfl, by omega, by omega⟩
  obtain ⟨d, hD, hd⟩ : ∃ d, x / 4096 % 8 = d ∧ 0 ≤ d ∧ d < 32 := ⟨_, rfl, by omega, by omega⟩
  obtain ⟨m, hM, hm0, hm1⟩ : ∃ m, bits .and .i64 (x / 32768) 63 = m ∧ 0 ≤ m ∧ m < 64 := by
    obtain ⟨k, rfl⟩ := Int.eq_ofNat_of_zero_le hx0
    refine ⟨_, rfl, ?_⟩
    rw [show ((k : Int) / 32768) = ((k / 32768 : Nat) : Int) from rfl, i64_and63 _ (by omega)]
    omega
  have HW := hidden (fun u => plain_89 (38 + x / 2097152 % 2) s d (by omega) (by omega) hs hd u)
  have HX : Hid (0 ≤ x ∧ x < 1073741824) := hidden ⟨hx0, hx1⟩
  have HM := hidden hM
  clear hM
  have hmw : m % 4294967296 = m := by omega
  go_enter Try.func15, Try.ntmps15
  go_upto_region 4 with (first | (go_at_call 18; refine (HP.out _).mono ?_; rintro e w1 ⟨rfl, hww⟩; rw [hww]; clear hww w1))
  rw [HM.out, hmw]
  clear HM
  go_wp2_with (first
    | (go_at_call 16; refine (HW.out _).mono ?_; rintro e w2 ⟨W, rfl, h1, h2, b2⟩; have HR := hidden h1; have HR2 := hidden h2; have B2 := hidden b2; clear h1 h2 b2))
  go_ret
  exact ⟨W, rfl, HR.out, HR2.out, B2.out⟩
end Go.Proofs.Ytobnocioefchlaa
namespace Go.Proofs.Ytobnocioefchlaa
open Go.ChangeShapes Go.WideShapes Go.ChangeAt Go.RowKit
set_option linter.unusedVariables false
theorem plain00_any (v : Int) (w : World) : Calls Try.prog 15 #[.int .i64 v] w (PlW w) := by
  obtain ⟨x, hx⟩ : ∃ x, v % 1073741824 = x := ⟨_, rfl⟩
  have : x % 23 = 0 ∨ x % 23 = 1 ∨ x % 23 = 2 ∨ x % 23 = 3 ∨ x % 23 = 4 ∨ x % 23 = 5 ∨ x % 23 = 6 ∨ x % 23 = 7 ∨ x % 23 = 8 ∨ x % 23 = 9 ∨ x % 23 = 10 ∨ x % 23 = 11 ∨ x % 23 = 12 ∨ x % 23 = 13 ∨ x % 23 = 14 ∨ x % 23 = 15 ∨ x % 23 = 16 ∨ x % 23 = 17 ∨ x % 23 = 18 ∨ x % 23 = 19 ∨ x % 23 = 20 ∨ x % 23 = 21 ∨ x % 23 = 22 := by omega
  rcases this with h | h | h | h | h | h | h | h | h | h | h | h | h | h | h | h | h | h | h | h | h | h | h
  · exact plain00_0 v x hx h w
  · exact plain00_1 v x hx h w
  · exact plain00_2 v x hx h w
  · exact plain00_3 v x hx h w
  · exact plain00_4 v x hx h w
  · exact plain00_5 v x hx h w
  · exact plain00_6 v x hx h w
  · exact plain00_7 v x hx h w
  · exact plain00_8 v x hx h w
  · exact plain00_9 v x hx h w
  · exact plain00_10 v x hx h w
  · exact plain00_11 v x hx h w
  · exact plain00_12 v x hx h w
  · exact plain00_13 v x hx h w
  · exact plain00_14 v x hx h w
  · exact plain00_15 v x hx h w
  · exact plain00_16 v x hx h w
  · exact plain00_17 v x hx h w
  · exact plain00_18 v x hx h w
  · exact plain00_19 v x hx h w
  · exact plain00_20 v x hx h w
  · exact plain00_21 v x hx h w
  · exact plain00_22 v x hx h w
end Go.Proofs.Ytobnocioefchlaa
