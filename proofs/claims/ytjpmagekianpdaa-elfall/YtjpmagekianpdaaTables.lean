/- The rows of a file. -/
import Derived.Test.YtjpmagekianpdaaHeadErr
namespace Go.Proofs.Ytjpmagekianpdaa
open Go.ChangeShapes Go.WideShapes Go.ChangeAt Go.RowKit
set_option linter.unusedVariables false
def tableT (l : List UInt8) : List UInt8 := if tableE l = true then (l.drop (w32 l 28)).take (32 * w16 l 44) else []
set_option maxRecDepth 20000 in
set_option maxHeartbeats 1000000 in
theorem tableOf_any (w : World) (ao : Option Addr) (l : List UInt8) (cap : Nat) (h : Row w ao l cap) (hl : l.length ≤ 20000) (h52 : 52 ≤ l.length) : Calls Try.prog 21 #[.slice ao l.length cap] w fun e w' => ∃ ao', e = .returned (.tuple #[.slice ao' (tableT l).length (tableT l).length, .bool (tableE l)]) ∧ Row w' ao' (tableT l) (tableT l).length ∧ Below w.heap.size w w' := by
  have H38 : Hid (∀ w1 (k : Nat) (z : Int), z = (k : Int) → Below w.heap.size w w1 → k ≤ 48 → Calls Try.prog 38 #[.slice ao l.length cap, .int .i64 z] w1 fun e w' => e = .returned (.int .u32 (w16 l k : Int)) ∧ Below w1.heap.size w1 w') := fun w1 k z hz hb hk => by subst hz; exact half_any w1 _ l cap k (h.later hb) (by omega) hl
  have H23 : Hid (∀ w1, Below w.heap.size w w1 → Calls Try.prog 23 #[.slice ao l.length cap, .int .i64 28] w1 fun e w' => e = .returned (.int .u32 (w32 l 28 : Int)) ∧ Below w1.heap.size w1 w') := fun w1 hb => bword_any w1 _ l cap 28 (h.later hb) (by omega) hl
  have H44 := hidden (Hid.out H38 w 44 44 rfl (Below.refl _ _) (by omega))
  have c1 := w16_lt l 44
  have c2 := w32_lt l 28
  by_cases h1 : 8 < w16 l 44
  · have e1 : tableE l = false := by unfold tableE; rw [decide_eq_false (by omega)]; rfl
    have e2 : tableT l = [] := by unfold tableT; rw [if_neg (by rw [e1]; simp)]
    have HR : Hid (∀ w', Row w' none (tableT l) (tableT l).length) := fun w' => by rw [e2]; exact Row.none w'
    rw [e1, e2]
    have k1 : (8 : Int) < ((w16 l 44 : Nat) : Int) := by omega
    generalize w16 l 44 = x at H44 k1
    clear h e2 e1
    go_enter Try.func21, Try.ntmps21
    go_wp2_with (go_at_call 38; with_reducible refine (Hid.out H44).mono ?_; rintro e wa ⟨rfl, hb⟩; have HA := hidden hb; clear hb)
    go_ret2
    exact ⟨none, rfl, Row.none _, Hid.out HA⟩
  have k1 : ¬ (8 : Int) < ((w16 l 44 : Nat) : Int) := by omega
  by_cases h2 : w16 l 44 = 0
  · have e1 : tableE l = true := by unfold tableE; rw [decide_eq_true (show w16 l 44 ≤ 8 by omega), decide_eq_true h2]; rfl
    have e2 : tableT l = [] := by unfold tableT; rw [if_pos e1, h2, Nat.mul_zero, List.take_zero]
    rw [e1, e2]
    have k2 : ((w16 l 44 : Nat) : Int) = 0 := by omega
    generalize w16 l 44 = x at H44 k1 k2
    clear h e2 e1
    go_enter Try.func21, Try.ntmps21
    go_wp2_with (go_at_call 38; with_reducible refine (Hid.out H44).mono ?_; rintro e wa ⟨rfl, hb⟩; have HA := hidden hb; clear hb)
    go_ret2
    exact ⟨none, rfl, Row.none _, Hid.out HA⟩
  have k2 : ¬ ((w16 l 44 : Nat) : Int) = 0 := by omega
  by_cases h3 : w16 l 42 = 32
  case neg =>
    have e1 : tableE l = false := by unfold tableE; rw [decide_eq_false h2, decide_eq_false h3, Bool.false_and, Bool.or_false, Bool.and_false]
    have e2 : tableT l = [] := by unfold tableT; rw [if_neg (by rw [e1]; simp)]
    rw [e1, e2]
    have k3 : ¬ ((w16 l 42 : Nat) : Int) = 32 := by omega
    generalize w16 l 44 = x at H44 k1 k2
    clear h e2 e1
    go_enter Try.func21, Try.ntmps21
    go_wp2_with (go_at_call 38; first | (with_reducible refine (Hid.out H44).mono ?_; rintro e wa ⟨rfl, hb⟩; have H42 := hidden (Hid.out H38 wa 42 42 rfl hb (by omega)); have HA := hidden hb; clear hb H44) | (with_reducible refine (Hid.out H42).mono ?_; rintro e wb ⟨rfl, hb⟩; have HB := hidden (bthen (Hid.out HA) hb); clear hb H42))
    go_ret2
    exact ⟨none, rfl, Row.none _, Hid.out HB⟩
  have k3 : ((w16 l 42 : Nat) : Int) = 32 := by omega
  by_cases h4 : w32 l 28 + 32 * w16 l 44 ≤ l.length
  · have e1 : tableE l = true := by unfold tableE; rw [decide_eq_true (show w16 l 44 ≤ 8 by omega), decide_eq_true h3, decide_eq_true h4]; simp
    have e2 : tableT l = (l.drop (w32 l 28)).take (32 * w16 l 44) := by unfold tableT; rw [if_pos e1]
    have e3 : (tableT l).length = 32 * w16 l 44 := by rw [e2, List.length_take, List.length_drop]; omega
    rw [e1, e3]
    have H39 : Hid (∀ w1, Below w.heap.size w w1 → Calls Try.prog 39 #[.slice ao l.length cap, .int .u32 (w32 l 28 : Int), .int .u32 ((w16 l 44 : Int) * 32)] w1 fun e w' => w' = w1 ∧ ∃ ao', e = .returned (.tuple #[.slice ao' (32 * w16 l 44) (32 * w16 l 44), .bool true]) ∧ Row w1 ao' (tableT l) (32 * w16 l 44)) := by
      intro w1 hb
      have := ecut_yes w1 ao l cap (w32 l 28) (32 * w16 l 44) (h.later hb) hl c2 (by omega) h4
      rw [show ((32 * w16 l 44 : Nat) : Int) = (w16 l 44 : Int) * 32 by omega, ← e2] at this
      exact this
    have k4 : ((w16 l 44 : Nat) : Int) * 32 % 4294967296 = ((w16 l 44 : Nat) : Int) * 32 := by omega
    clear h e2 e1 e3
    generalize w16 l 44 = x at H44 k1 k2 k4 H39 h4 c1
    generalize w32 l 28 = y at H23 H39 h4 c2
    go_enter Try.func21, Try.ntmps21
    go_wp2_with (first | (go_at_call 38; first | (with_reducible refine (Hid.out H44).mono ?_; rintro e wa ⟨rfl, hb⟩; have H42 := hidden (Hid.out H38 wa 42 42 rfl hb (by omega)); have HA := hidden hb; clear hb H44) | (with_reducible refine (Hid.out H42).mono ?_; rintro e wb ⟨rfl, hb⟩; have HB := hidden (bthen (Hid.out HA) hb); clear hb H42)) | (go_at_call 23; with_reducible refine (Hid.out H23 wb (Hid.out HB)).mono ?_; rintro e wc ⟨rfl, hb⟩; have HC := hidden (bthen (Hid.out HB) hb); clear hb) | (go_at_call 39; with_reducible refine (Hid.out H39 wc (Hid.out HC)).mono ?_; rintro e wd ⟨hww, ap, rfl, hr⟩; rw [hww]; have HR := hidden hr; clear hww wd hr))
    go_ret2
    exact ⟨_, rfl, Hid.out HR, Hid.out HC⟩
  · have e1 : tableE l = false := by unfold tableE; rw [decide_eq_false h2, decide_eq_false h4, Bool.and_false, Bool.or_false, Bool.and_false]
    have e2 : tableT l = [] := by unfold tableT; rw [if_neg (by rw [e1]; simp)]
    rw [e1, e2]
    have H39 : Hid (∀ w1, Below w.heap.size w w1 → Calls Try.prog 39 #[.slice ao l.length cap, .int .u32 (w32 l 28 : Int), .int .u32 ((w16 l 44 : Int) * 32)] w1 fun e w' => w' = w1 ∧ e = .returned (.tuple #[.slice none 0 0, .bool false])) := by
      intro w1 hb
      have := ecut_no w1 ao l cap (w32 l 28) (32 * w16 l 44) (h.later hb) hl c2 (by omega) h4
      rw [show ((32 * w16 l 44 : Nat) : Int) = (w16 l 44 : Int) * 32 by omega] at this
      exact this
    have k4 : ((w16 l 44 : Nat) : Int) * 32 % 4294967296 = ((w16 l 44 : Nat) : Int) * 32 := by omega
    clear h e2 e1
    generalize w16 l 44 = x at H44 k1 k2 k4 H39 h4 c1
    generalize w32 l 28 = y at H23 H39 h4 c2
    go_enter Try.func21, Try.ntmps21
    go_wp2_with (first | (go_at_call 38; first | (with_reducible refine (Hid.out H44).mono ?_; rintro e wa ⟨rfl, hb⟩; have H42 := hidden (Hid.out H38 wa 42 42 rfl hb (by omega)); have HA := hidden hb; clear hb H44) | (with_reducible refine (Hid.out H42).mono ?_; rintro e wb ⟨rfl, hb⟩; have HB := hidden (bthen (Hid.out HA) hb); clear hb H42)) | (go_at_call 23; with_reducible refine (Hid.out H23 wb (Hid.out HB)).mono ?_; rintro e wc ⟨rfl, hb⟩; have HC := hidden (bthen (Hid.out HB) hb); clear hb) | (go_at_call 39; with_reducible refine (Hid.out H39 wc (Hid.out HC)).mono ?_; rintro e wd ⟨hww, rfl⟩; rw [hww]; clear hww wd))
    go_ret2
    exact ⟨none, rfl, Row.none _, Hid.out HC⟩
end Go.Proofs.Ytjpmagekianpdaa
