/- AluLongs, walked. -/
import Derived.Test.YtlheilpaafjeiaaPAluLg
import Derived.Test.YtlheilpaafjeiaaPAluAwake
namespace Go.Proofs.Ytlheilpaafjeiaa
open Go.ChangeShapes Go.WideShapes Go.ChangeAt Go.RowKit
set_option linter.unusedVariables false
theorem halves_u (a b : Int) : IntKind.u64.wrap (IntKind.u64.wrap (IntKind.u64.wrap (mulHi a b) * 4294967296) + IntKind.u64.wrap (mulLo a b)) = IntKind.u64.wrap (a * b) := by
  unfold mulHi mulLo
  simp only [IntKind.wrap_u64]
  generalize a * b = p
  omega
theorem halves_i (s t : Int) (h1 : 0 ≤ s) (h2 : s < 4294967296) (h3 : 0 ≤ t) (h4 : t < 4294967296) : wrap64 (IntKind.u64.wrap (IntKind.u64.wrap (IntKind.u64.wrap (mulHi (sg s) (sg t)) * 4294967296) + IntKind.u64.wrap (mulLo (sg s) (sg t)))) = wrap64 (wrap64 (wrap32 s) * wrap64 (wrap32 t)) := by
  rw [halves_u, wrap32_sg h1 h2, wrap32_sg h3 h4, wrap64_sg h1 h2, wrap64_sg h3 h4, IntKind.wrap_u64]
  generalize sg s * sg t = p
  unfold wrap64; omega
theorem mulLo_ne (s t : Int) : (mulLo (sg s) (sg t) != mulLo s t) = false := by rw [← muls3]; simp
theorem left_sum (s t : Int) (h1 : 0 ≤ s) (h2 : s < 4294967296) : (s / t * t + s % t) % 4294967296 = s := by
  have := Int.mul_ediv_add_emod s t
  rw [Int.mul_comm] at this
  omega
theorem sar00 (w : World) : Calls Try.prog 20 #[.int .u32 0, .int .u32 0] w fun e w' => e = .returned (.int .u32 0) ∧ w' = w := by
  have e1 : sar32 0 0 = 0 := by decide
  have h := refSar_any 0 0 (by omega) (by omega) (by omega) (by omega) w
  rw [e1] at h
  exact h
theorem long_22e (S T D A m s t hi lo : Int) (h1 : 0 ≤ s) (h2 : s < 4294967296) (h3 : 0 ≤ t) (h4 : t < 4294967296) (h5 : 0 ≤ hi) (h6 : hi < 4294967296) (h7 : 0 ≤ lo) (h8 : lo < 4294967296) (ht : Hid (t = 0)) (w : World) :
    Calls Try.prog 10 #[.agg (insC 22 S T D A m), .int .u32 s, .int .u32 t, .int .u32 hi, .int .u32 lo] w fun e w' => e = .returned (.tuple #[.int .u32 0, .int .u32 0]) ∧ Below w.heap.size w w' := by
  have := ht.out
  subst this
  exact long_22z S T D A m s 0 hi lo h1 h2 h3 h4 h5 h6 h7 h8 w
set_option maxHeartbeats 4000000 in
set_option maxRecDepth 20000 in
theorem longs_pos (s t : Int) (h1 : 0 ≤ s) (h2 : s < 4294967296) (h3 : 0 ≤ t) (h4 : t < 4294967296) (ht : 0 < t) (w : World) :
    Calls Try.prog 6 #[.int .u32 s, .int .u32 t] w fun e w' => e = .returned (.bool true) ∧ Below w.heap.size w w' := by
  have hz : (0 : Int) ≤ 1 := by omega
  have hz1 : (1 : Int) < 4294967296 := by omega
  have hz2 : (0 : Int) ≤ 2 := by omega
  have hz3 : (2 : Int) < 4294967296 := by omega
  have hz0 : (0 : Int) < 4294967296 := by omega
  have fA := halves_u s t
  have fB := halves_i s t h1 h2 h3 h4
  have fC := mulLo_ne s t
  have fD := left_sum s t h1 h2
  have fE : s % t < t := Int.emod_lt_of_pos s ht
  have f0 : (t == 0) = false := beq_eq_false_iff_ne.2 (by omega)
  have f1 : (t != 0) = true := by simp; omega
  have F1 := hidden f1
  clear f1
  go_enter Try.func6, Try.ntmps6
  go_wp2_with (first
    | (go_at_call 10; (with_reducible refine (long_20 0 0 0 0 0 s t 1 2 h1 h2 h3 h4 hz hz1 hz2 hz3 _).mono ?_); rintro e w1 ⟨rfl, b1⟩)
    | (go_at_call 10; (with_reducible refine (long_19 0 0 0 0 0 s t 1 2 h1 h2 h3 h4 hz hz1 hz2 hz3 _).mono ?_); rintro e w2 ⟨rfl, b2⟩)
    | (go_at_call 10; (with_reducible refine (long_22 0 0 0 0 0 s t 1 2 h1 h2 h3 h4 hz hz1 hz2 hz3 ht _).mono ?_); rintro e w3 ⟨rfl, b3⟩)
    | (go_at_call 10; (with_reducible refine (long_25 0 0 0 0 0 s t 1 2 h1 h2 h3 h4 hz hz1 hz2 hz3 _).mono ?_); rintro e w4 ⟨rfl, b4⟩)
    | (go_at_call 10; (with_reducible refine (long_26 0 0 0 0 0 s t 1 2 h1 h2 h3 h4 hz hz1 hz2 hz3 _).mono ?_); rintro e w5 ⟨rfl, b5⟩)
    | (go_at_call 8; (with_reducible refine (reckon_37 0 0 0 0 0 s t h1 h2 h3 h4 (Int.le_refl 0) hz0 _).mono ?_); rintro e w6 ⟨rfl, b6⟩)
    | (go_at_call 20; refine (sar00 _).mono ?_; rintro e w7 ⟨rfl, rfl⟩)
    | (go_at_call 18; refine (awake9_any _).mono ?_; rintro e w8 ⟨rfl, b8⟩))
  go_ret
  exact ⟨ret_bool F1.out, bthen (bthen (bthen (bthen (bthen (bthen b1 b2) b3) b4) b5) b6) b8⟩
set_option maxHeartbeats 4000000 in
set_option maxRecDepth 20000 in
theorem longs_zero (s t : Int) (h1 : 0 ≤ s) (h2 : s < 4294967296) (h3 : 0 ≤ t) (h4 : t < 4294967296) (ht : Hid (t = 0)) (w : World) :
    Calls Try.prog 6 #[.int .u32 s, .int .u32 t] w fun e w' => e = .returned (.bool true) ∧ Below w.heap.size w w' := by
  have hz : (0 : Int) ≤ 1 := by omega
  have hz1 : (1 : Int) < 4294967296 := by omega
  have hz2 : (0 : Int) ≤ 2 := by omega
  have hz3 : (2 : Int) < 4294967296 := by omega
  have hz0 : (0 : Int) < 4294967296 := by omega
  have fA := halves_u s t
  have fB := halves_i s t h1 h2 h3 h4
  have fC := mulLo_ne s t
  have f0 : (t == 0) = true := beq_iff_eq.2 ht.out
  go_enter Try.func6, Try.ntmps6
  go_wp2_with (first
    | (go_at_call 10; (with_reducible refine (long_20 0 0 0 0 0 s t 1 2 h1 h2 h3 h4 hz hz1 hz2 hz3 _).mono ?_); rintro e w1 ⟨rfl, b1⟩)
    | (go_at_call 10; (with_reducible refine (long_19 0 0 0 0 0 s t 1 2 h1 h2 h3 h4 hz hz1 hz2 hz3 _).mono ?_); rintro e w2 ⟨rfl, b2⟩)
    | (go_at_call 10; (with_reducible refine (long_22e 0 0 0 0 0 s t 1 2 h1 h2 h3 h4 hz hz1 hz2 hz3 ht _).mono ?_); rintro e w3 ⟨rfl, b3⟩)
    | (go_at_call 10; (with_reducible refine (long_25 0 0 0 0 0 s t 1 2 h1 h2 h3 h4 hz hz1 hz2 hz3 _).mono ?_); rintro e w4 ⟨rfl, b4⟩)
    | (go_at_call 10; (with_reducible refine (long_26 0 0 0 0 0 s t 1 2 h1 h2 h3 h4 hz hz1 hz2 hz3 _).mono ?_); rintro e w5 ⟨rfl, b5⟩)
    | (go_at_call 8; (with_reducible refine (reckon_37 0 0 0 0 0 s t h1 h2 h3 h4 (Int.le_refl 0) hz0 _).mono ?_); rintro e w6 ⟨rfl, b6⟩)
    | (go_at_call 20; refine (sar00 _).mono ?_; rintro e w7 ⟨rfl, rfl⟩)
    | (go_at_call 18; refine (awake9_any _).mono ?_; rintro e w8 ⟨rfl, b8⟩))
  go_ret
  exact ⟨rfl, bthen (bthen (bthen (bthen (bthen (bthen b1 b2) b3) b4) b5) b6) b8⟩
theorem longs_walk (s t : Int) (h1 : 0 ≤ s) (h2 : s < 4294967296) (h3 : 0 ≤ t) (h4 : t < 4294967296) (w : World) :
    Calls Try.prog 6 #[.int .u32 s, .int .u32 t] w fun e w' => e = .returned (.bool true) ∧ Below w.heap.size w w' := by
  by_cases ht : t = 0
  · exact longs_zero s t h1 h2 h3 h4 (hidden ht) w
  · exact longs_pos s t h1 h2 h3 h4 (by omega) w
end Go.Proofs.Ytlheilpaafjeiaa
