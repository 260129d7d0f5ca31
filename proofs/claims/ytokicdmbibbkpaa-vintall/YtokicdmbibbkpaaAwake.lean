/- The document's example, walked; any number as a place. -/
import Derived.Test.YtokicdmbibbkpaaTexts
namespace Go.Proofs.Ytokicdmbibbkpaa
open Go.ChangeShapes Go.WideShapes Go.ChangeAt Go.RowKit
set_option linter.unusedVariables false
theorem enc300 : enc 300 = [172, 2] := by decide +kernel
theorem enc1 : enc 1 = [1] := by decide +kernel
theorem put300 (w : World) : Calls Try.prog 8 #[.slice none 0 0, .int .u64 300] w fun e w' => ∃ ao' cap', e = .returned (.slice ao' 2 cap') ∧ (convert 22 9 (.slice ao' 2 cap')).run Try.prog w' = .ok (.string ⟨#[172, 2]⟩) w' ∧ Below w.heap.size w w' := by
  refine (put_any none 0 [] 300 (by omega) w (Row.none w) (by decide)).mono ?_
  rintro e w' ⟨ao', cap', rfl, hr, hb⟩
  rw [List.nil_append, enc300] at hr
  rw [enc300]
  exact ⟨ao', cap', rfl, run_str w' ao' [172, 2] cap' hr.lies, hb⟩
theorem putA (w : World) : Calls Try.prog 10 #[.slice none 0 0, .string ⟨#[97]⟩] w fun e w' => ∃ ao' cap', e = .returned (.slice ao' 2 cap') ∧ (convert 22 9 (.slice ao' 2 cap')).run Try.prog w' = .ok (.string ⟨#[1, 97]⟩) w' ∧ Below w.heap.size w w' := by
  refine (putText_any none 0 [] [97] w (Row.none w) (by decide)).mono ?_
  rintro e w' ⟨ao', cap', rfl, hr, hb⟩
  have e1 : enc (List.length [(97 : UInt8)]) = [1] := enc1
  rw [List.nil_append, e1] at hr
  rw [e1]
  exact ⟨ao', cap', rfl, run_str w' ao' [1, 97] cap' hr.lies, hb⟩
set_option maxRecDepth 20000 in
set_option maxHeartbeats 1000000 in
theorem awake_any (w : World) : Calls Try.prog 7 #[] w fun e w' => e = .returned (.bool true) ∧ Below w.heap.size w w' := by
  go_enter Try.func7, Try.ntmps7
  go_wp2_with (first | (go_at_call 8; refine (put300 _).mono ?_; rintro e w1 ⟨a1, c1, rfl, hcv1, hb1⟩; have HB1 := hidden hb1; clear hb1) | (go_at_call 10; refine (putA _).mono ?_; rintro e w2 ⟨a2, c2, rfl, hcv2, hb2⟩; have HB2 := hidden hb2; clear hb2))
  go_ret
  exact ⟨rfl, Below.trans (Hid.out HB1) (Below.mono (Hid.out HB2) (Hid.out HB1).size)⟩
theorem emod_tmod (v n : Int) (h1 : 0 < n) : v % n = if v.tmod n < 0 then v.tmod n + n else v.tmod n := by
  have hne : ¬ n = 0 := by omega
  rcases Int.le_total 0 v with hv | hv
  · rw [Int.tmod_eq_emod_of_nonneg hv, if_neg (by have := Int.emod_nonneg v hne; omega)]
  · obtain ⟨u, rfl⟩ : ∃ u, v = -u := ⟨-v, by omega⟩
    have hu : 0 ≤ u := by omega
    rw [Int.neg_tmod, Int.tmod_eq_emod_of_nonneg hu]
    have h5 := Int.emod_nonneg u hne
    have h6 := Int.emod_lt_of_pos u h1
    by_cases hd : u % n = 0
    · rw [if_neg (by omega), hd]
      exact Int.emod_eq_zero_of_dvd (Int.dvd_neg.2 (Int.dvd_of_emod_eq_zero hd))
    · rw [if_pos (by omega)]
      have h7 : (-u) % n = (-(u % n) + n) % n := by
        have h8 : -u = -(u % n) + n * (-(u / n)) := by
          have := Int.emod_add_mul_ediv u n
          rw [Int.mul_neg]
          omega
        rw [h8, Int.add_mul_emod_self_left, Int.add_emod_right]
      rw [h7]
      exact Int.emod_eq_of_lt (by omega) (by omega)
theorem place_any (v n : Int) (h1 : 0 < n) (h2 : n ≤ 9223372036854775807) (h3 : -9223372036854775808 ≤ v) (h4 : v ≤ 9223372036854775807) (w : World) :
    Calls Try.prog 15 #[.int .i64 v, .int .i64 n] w fun e w' => e = .returned (.int .i64 (v % n)) ∧ w' = w := by
  have hz : (n == 0) = false := beq_eq_false_iff_ne.2 (by omega)
  have ht1 : v.tmod n < n := Int.tmod_lt_of_pos v h1
  have ht2 : -n < v.tmod n := by have := Int.tmod_lt_of_pos (-v) h1; rw [Int.neg_tmod] at this; omega
  have he := hidden (emod_tmod v n h1)
  go_enter Try.func15, Try.ntmps15
  go_wp2
  · go_ret
    exact ⟨ret_int (by rw [Hid.out he, if_pos (by assumption)]), rfl⟩
  · go_ret
    exact ⟨ret_int (by rw [Hid.out he, if_neg (by omega)]), rfl⟩
end Go.Proofs.Ytokicdmbibbkpaa
