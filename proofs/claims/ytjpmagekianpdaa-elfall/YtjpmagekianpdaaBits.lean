/- What each call of layer 1 answers, walked over the text of the program. -/
import Derived.Test.YtjpmagekianpdaaRows
import Derived.Test.YtjpmagekianpdaaNums
import Derived.WalkKit
import Derived.ProofKit
import Derived.OpenShut
import Derived.Deep.QuietTactic
import Derived.BigQuiet
namespace Go.Proofs.Ytjpmagekianpdaa
open Go.ChangeShapes Go.WideShapes Go.ChangeAt Go.RowKit
set_option linter.unusedVariables false
theorem ret_int {k : IntKind} {a b : Int} (h : a = b) : Ending.returned (.int k a) = .returned (.int k b) := by rw [h]
theorem hidden {p : Prop} (h : p) : Hid p := h
theorem ret_bool {a b : Bool} (h : a = b) : Ending.returned (.bool a) = .returned (.bool b) := by rw [h]
theorem ret_int2 {k l : IntKind} {a b c d : Int} (h : a = b) (h2 : c = d) : Ending.returned (.tuple #[.int k a, .int l c]) = .returned (.tuple #[.int k b, .int l d]) := by rw [h, h2]
theorem ret_intb {k : IntKind} {a b : Int} {c d : Bool} (h : a = b) (h2 : c = d) : Ending.returned (.tuple #[.int k a, .bool c]) = .returned (.tuple #[.int k b, .bool d]) := by rw [h, h2]

theorem cut_any (v lo hi : Int) (w : World) :
    Calls Try.prog 49 #[.int .i64 v, .int .i64 lo, .int .i64 hi] w fun e w' => e = .returned (.int .i64 (clip v lo hi)) ∧ w' = w := by
  by_cases a : v < lo
  · have e : clip v lo hi = lo := by unfold clip; simp [a]
    rw [e]
    go_enter Try.func49, Try.ntmps49
    go_wp2
    go_ret
    exact ⟨ret_int rfl, rfl⟩
  · by_cases b : hi < v
    · have e : clip v lo hi = hi := by unfold clip; simp [a, b]
      rw [e]
      go_enter Try.func49, Try.ntmps49
      go_wp2
      go_ret
      exact ⟨ret_int rfl, rfl⟩
    · have e : clip v lo hi = v := by unfold clip; simp [a, b]
      rw [e]
      go_enter Try.func49, Try.ntmps49
      go_wp2
      go_ret
      exact ⟨ret_int rfl, rfl⟩
theorem field_any (a at_ n : Int) (h1 : 0 ≤ a) (h2 : a < 4294967296) (w : World) :
    Calls Try.prog 47 #[.int .u32 a, .int .i64 at_, .int .i64 n] w fun e w' => e = .returned (.int .u32 (field32 a at_ n)) ∧ w' = w := by
  have hc := clip_range at_ 0 31 (by omega)
  have hd := clip_range n 0 (32 - clip at_ 0 31) (by omega)
  go_enter Try.func47, Try.ntmps47
  go_wp2_with (go_at_call 49; refine (cut_any _ _ _ _).mono ?_; rintro e w' ⟨rfl, rfl⟩)
  go_ret
  exact ⟨ret_int (field_eq a at_ n h1 h2), rfl⟩
theorem place_any (v n : Int) (h : 0 < n) (h2 : n < 4294967296) (w : World) :
    Calls Try.prog 18 #[.int .i64 v, .int .i64 n] w fun e w' => e = .returned (.int .i64 (v % n)) ∧ w' = w := by
  have hz : (n == 0) = false := beq_eq_false_iff_ne.2 (by omega)
  have hb := tmod_range v n h
  by_cases hm : 0 ≤ v.tmod n
  · go_enter Try.func18, Try.ntmps18
    go_wp2
    go_ret
    exact ⟨ret_int (place_nonneg v n h hm), rfl⟩
  · have hm' : v.tmod n < 0 := by omega
    have e := place_neg v n h hm'
    go_enter Try.func18, Try.ntmps18
    go_wp2
    go_ret
    exact ⟨ret_int rfl, rfl⟩
end Go.Proofs.Ytjpmagekianpdaa
