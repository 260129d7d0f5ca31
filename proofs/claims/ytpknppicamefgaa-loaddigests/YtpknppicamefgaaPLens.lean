/- How many bits a short length has: some number. -/
import Derived.Test.YtpknppicamefgaaPSorts
namespace Go.Proofs.Ytpknppicamefgaa
open Go.ChangeShapes Go.WideShapes Go.ChangeAt Go.RowKit
set_option linter.unusedVariables false
set_option maxRecDepth 20000 in
theorem len64_any (x : Nat) (h : x < 256) (w : World) : Calls Try.prog 99 #[.int .u64 (x : Int)] w fun e w' => ∃ k : Int, e = .returned (.int .i64 k) ∧ w' = w := by
  have h1 : ¬ (4294967296 : Int) ≤ (x : Int) := by omega
  have h2 : ¬ (65536 : Int) ≤ (x : Int) := by omega
  have h3 : ¬ (256 : Int) ≤ (x : Int) := by omega
  go_enter Try.func99, Try.ntmps99
  go_wp2
  go_ret
  exact ⟨_, rfl, rfl⟩
theorem len_any (x : Nat) (h : x < 256) (w : World) : Calls Try.prog 86 #[.int .u64 (x : Int)] w fun e w' => ∃ k : Int, e = .returned (.int .i64 k) ∧ w' = w := by
  have H := hidden (len64_any x h w)
  go_enter Try.func86, Try.ntmps86
  go_wp2_with (go_at_call 99; refine (Hid.out H).mono ?_; rintro e w1 ⟨k, rfl, hww⟩; rw [hww]; clear hww w1)
  go_ret
  exact ⟨k, rfl, rfl⟩
end Go.Proofs.Ytpknppicamefgaa
