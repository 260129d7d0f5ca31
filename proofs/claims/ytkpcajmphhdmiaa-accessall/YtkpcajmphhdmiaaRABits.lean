/- Fields, signs and bytes of numbers: the calls of chapter 1 that stage 10 meets. -/
import Derived.Test.YtkpcajmphhdmiaaRows
import Derived.Test.YtkpcajmphhdmiaaRMAA
import Derived.Test.YtkpcajmphhdmiaaRMAW
import Derived.WalkKit
import Derived.ProofKit
import Derived.OpenShut
import Derived.Deep.QuietTactic
import Derived.BigQuiet
namespace Go.Proofs.Ytkpcajmphhdmiaa
open Go.ChangeShapes Go.WideShapes Go.ChangeAt Go.RowKit
set_option linter.unusedVariables false
theorem ret_int2 {k l : IntKind} {a b c d : Int} (h : a = b) (h2 : c = d) : Ending.returned (.tuple #[.int k a, .int l c]) = .returned (.tuple #[.int k b, .int l d]) := by rw [h, h2]
theorem ret_intb {k : IntKind} {a b : Int} {c d : Bool} (h : a = b) (h2 : c = d) : Ending.returned (.tuple #[.int k a, .bool c]) = .returned (.tuple #[.int k b, .bool d]) := by rw [h, h2]

theorem cut_any (v lo hi : Int) (w : World) :
    Calls Try.prog 100 #[.int .i64 v, .int .i64 lo, .int .i64 hi] w fun e w' => e = .returned (.int .i64 (clip v lo hi)) ∧ w' = w := by
  by_cases a : v < lo
  · have e : clip v lo hi = lo := by unfold clip; simp [a]
    rw [e]
    go_enter Try.func100, Try.ntmps100
    go_wp2
    go_ret
    exact ⟨ret_int rfl, rfl⟩
  · by_cases b : hi < v
    · have e : clip v lo hi = hi := by unfold clip; simp [a, b]
      rw [e]
      go_enter Try.func100, Try.ntmps100
      go_wp2
      go_ret
      exact ⟨ret_int rfl, rfl⟩
    · have e : clip v lo hi = v := by unfold clip; simp [a, b]
      rw [e]
      go_enter Try.func100, Try.ntmps100
      go_wp2
      go_ret
      exact ⟨ret_int rfl, rfl⟩
theorem field_any (a at_ n : Int) (h1 : 0 ≤ a) (h2 : a < 4294967296) (w : World) :
    Calls Try.prog 93 #[.int .u32 a, .int .i64 at_, .int .i64 n] w fun e w' => e = .returned (.int .u32 (field32 a at_ n)) ∧ w' = w := by
  have hc := clip_range at_ 0 31 (by omega)
  have hd := clip_range n 0 (32 - clip at_ 0 31) (by omega)
  go_enter Try.func93, Try.ntmps93
  go_wp2_with (go_at_call 100; refine (cut_any _ _ _ _).mono ?_; rintro e w' ⟨rfl, rfl⟩)
  go_ret
  exact ⟨ret_int (field_eq a at_ n h1 h2), rfl⟩
theorem refSext_any (a n : Int) (h1 : 0 ≤ a) (h2 : a < 4294967296) (w : World) :
    Calls Try.prog 42 #[.int .u32 a, .int .i64 n] w fun e w' => e = .returned (.int .u32 (sext32 a n)) ∧ w' = w := by
  unfold sext32
  by_cases m1 : n < 1
  · have hw := wrap32_sg (v := a * 2147483648 % 4294967296) (by omega) (by omega)
    rw [show clip n 1 32 = 1 by unfold clip; simp [m1]]
    go_enter Try.func42, Try.ntmps42
    go_wp2
    go_ret
    exact ⟨ret_int (by simp), rfl⟩
  · by_cases m2 : 32 < n
    · have hw := wrap32_sg (v := a % 4294967296) (by omega) (by omega)
      rw [show clip n 1 32 = 32 by unfold clip; simp [m1, m2]]
      go_enter Try.func42, Try.ntmps42
      go_wp2
      go_ret
      exact ⟨ret_int (by rw [Int.emod_eq_of_lt h1 h2, wrap32_sg h1 h2]), rfl⟩
    · have hw := wrap32_sg (v := a * 2 ^ (32 - n).toNat % 4294967296) (by omega) (by omega)
      rw [show clip n 1 32 = n by unfold clip; simp [m1, m2]]
      go_enter Try.func42, Try.ntmps42
      go_wp2
      go_ret
      exact ⟨ret_int rfl, rfl⟩
theorem refPut_any (a : Int) (h1 : 0 ≤ a) (h2 : a < 4294967296) (w : World) :
    Calls Try.prog 45 #[.int .u32 a] w fun e w' => e = .returned (.slice (some ⟨w.heap.size, 0, none⟩) 4 4) ∧ w' = w.alloc (.cells #[.int .u8 (a / 16777216), .int .u8 (a / 65536 % 256), .int .u8 (a / 256 % 256), .int .u8 (a % 256)] 5) := by
  go_enter Try.func45, Try.ntmps45
  go_wp2
  go_ret
  exact ⟨rfl, rfl⟩
end Go.Proofs.Ytkpcajmphhdmiaa
