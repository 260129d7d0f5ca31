/- What Put and Div answer, with the own answers of chapter 1. -/
import Derived.Test.YtocajlafdmfamaaRefs
import Derived.Test.YtocajlafdmfamaaWords
import Derived.Handy
namespace Go.Proofs.Ytocajlafdmfamaa
open Go.ChangeShapes Go.WideShapes Go.ChangeAt Go.RowKit
set_option linter.unusedVariables false
set_option maxHeartbeats 1000000 in
theorem put_any (a : Int) (h1 : 0 ≤ a) (h2 : a < 4294967296) (w : World) :
    Calls Try.prog 17 #[.int .u32 a] w fun e w' => e = .returned (.agg #[.int .u8 (a / 16777216), .int .u8 (a / 65536 % 256), .int .u8 (a / 256 % 256), .int .u8 (a % 256)]) ∧ Below w.heap.size w w' := by
  go_enter Try.func17, Try.ntmps17
  go_wp2
  go_rounds 5
  exact bodyPost_ret (v := .agg #[.int .u8 (a / 16777216), .int .u8 (a / 65536 % 256), .int .u8 (a / 256 % 256), .int .u8 (a % 256)]) (by simp [results, Try.results17, go_sem]) rfl ⟨rfl, ((Below.refl _ _).alloc (Nat.le_refl _) _).alloc (by simp) _⟩
theorem refPut_any (a : Int) (h1 : 0 ≤ a) (h2 : a < 4294967296) (w : World) :
    Calls Try.prog 30 #[.int .u32 a] w fun e w' => e = .returned (.slice (some ⟨w.heap.size, 0, none⟩) 4 4) ∧ w' = w.alloc (.cells #[.int .u8 (a / 16777216), .int .u8 (a / 65536 % 256), .int .u8 (a / 256 % 256), .int .u8 (a % 256)] 5) := by
  go_enter Try.func30, Try.ntmps30
  go_wp2
  go_ret
  exact ⟨rfl, rfl⟩
def quoS (s : Bool) (a b : Int) : Int := if b = 0 then 0 else match s with
  | true => quoT a b
  | false => a / b
def remS (s : Bool) (a b : Int) : Int := if b = 0 then 0 else match s with
  | true => remT a b
  | false => a % b
theorem div_any (a b : Int) (s : Bool) (h1 : 0 ≤ a) (h2 : a < 4294967296) (h3 : 0 ≤ b) (h4 : b < 4294967296) (w : World) :
    Calls Try.prog 15 #[.int .u32 a, .int .u32 b, .bool s] w fun e w' => e = .returned (.tuple #[.int .u32 (quoS s a b), .int .u32 (remS s a b)]) ∧ ∃ n, w' = w.drewN n := by
  unfold quoS remS
  by_cases hb : b = 0
  · subst hb
    exact (div0_any a s w).mono fun e w' ⟨he, hw⟩ => ⟨he, 0, hw⟩
  · rw [if_neg hb, if_neg hb]
    cases s
    · exact divF_any a b h1 h2 (by omega) h4 w
    · exact divT_any a b h1 h2 (by omega) h4 w
theorem refDiv_any (a b : Int) (s : Bool) (h1 : 0 ≤ a) (h2 : a < 4294967296) (h3 : 0 ≤ b) (h4 : b < 4294967296) (w : World) :
    Calls Try.prog 16 #[.int .u32 a, .int .u32 b, .bool s] w fun e w' => e = .returned (.tuple #[.int .u32 (quoS s a b), .int .u32 (remS s a b)]) ∧ ∃ n, w' = w.drewN n := by
  unfold quoS remS
  by_cases hb : b = 0
  · subst hb
    exact (refDiv0_any a s w).mono fun e w' ⟨he, hw⟩ => ⟨he, 0, hw⟩
  · rw [if_neg hb, if_neg hb]
    cases s
    · exact refDivF_any a b h1 h2 (by omega) h4 w
    · exact refDivT_any a b h1 h2 (by omega) h4 w
end Go.Proofs.Ytocajlafdmfamaa
