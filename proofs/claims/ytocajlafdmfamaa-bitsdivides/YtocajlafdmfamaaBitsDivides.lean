/- For any two numbers of 32 bits the Go function BitsDivides answers true: quotient times divisor and what is left is the number, what is left is nearer to 0 than the divisor and has the sign of the number; no condition. -/
import Derived.Test.YtocajlafdmfamaaRows
import Derived.Test.YtocajlafdmfamaaBits
import Derived.Test.YtocajlafdmfamaaDivLaws
import Derived.WalkKit
import Derived.ProofKit
import Derived.OpenShut
namespace Go.Proofs.Ytocajlafdmfamaa.bitsDivides
open Go.ChangeShapes Go.WideShapes Go.ChangeAt Go.RowKit
open Go.Proofs.Ytocajlafdmfamaa
set_option linter.unusedVariables false

theorem own : ownKnob Try.prog.godebug = none := by kernel_rfl

theorem Grown_drewN {W w' : World} (h : Grown W w') (n : Nat) : Grown W (w'.drewN n) := h
set_option maxHeartbeats 4000000 in
theorem core (a b : Int) (h1 : 0 ≤ a) (h2 : a < 4294967296) (h3 : 0 < b) (h4 : b < 4294967296) (w : World) :
    Calls Try.prog 4 #[.int .u32 a, .int .u32 b] w fun e w' => e = .returned (.bool true) ∧ Grown w w' := by
  have hz : (b == 0) = false := beq_eq_false_iff_ne.2 (by omega)
  have r1 := quo_range a b h1 h2 h3
  have r2 := quoT_range a b
  have r3 := remT_range a b
  have f1 := div_f1 a b h1 h2
  have f2 := div_f2 a b h1 h2
  have hT := sgsT
  have hF := sgsF
  have hr := Int.emod_lt_of_pos a h3
  have hr0 := Int.emod_nonneg a (show b ≠ 0 by omega)
  have g1 := wrap32_sg h1 h2
  have g2 := wrap32_sg (v := b) (by omega) h4
  have g3 := wrap64_sg (v := b) (by omega) h4
  have g4 := wrap64_neg_sg (v := b) (by omega) h4
  obtain ⟨X, x1, x2, x3, c⟩ := left_cases a b h1 h2 h3 h4
  rcases c with ⟨z, y1, y2⟩ | ⟨z, y1, y2⟩ | ⟨z, y1, y2, y3⟩ | ⟨z, y1, y2, y3⟩ | ⟨z, y1, y2, y3⟩ | ⟨z, y1, y2, y3⟩
  all_goals
    first | (have zz : (remT a b == 0) = true := by simp [z]) | (have zz : (remT a b == 0) = false := by simp [z])
    clear z
    first | (have y1c : 0 < X := y1) | (have y1c : X < 0 := y1) | (have y1a : 0 ≤ X ∧ X ≤ 0 := by omega)
    clear y1
    go_enter Try.func4, Try.ntmps4
    go_wp2_with fail
    refine (divF_any _ _ h1 h2 h3 h4 _).mono ?_
    rintro e w' ⟨rfl, n, rfl⟩
    go_wp2_with fail
    refine (mul_any _ _ _ r1.1 r1.2 (by omega) h4 _).mono ?_
    rintro e w' ⟨rfl, rfl⟩
    go_wp2_with fail
    refine (divT_any _ _ h1 h2 h3 h4 _).mono ?_
    rintro e w' ⟨rfl, m, rfl⟩
    go_wp2_with fail
    refine (mul_any _ _ _ r2.1 r2.2 (by omega) h4 _).mono ?_
    rintro e w' ⟨rfl, rfl⟩
    go_wp2_with fail
    refine (awake_any _).mono ?_
    rintro e w' ⟨rfl, rfl⟩
    go_wp2
    go_ret
    exact ⟨rfl, Grown_drewN (Grown.refl _) _⟩

set_option maxHeartbeats 2000000 in
theorem walk (a0 : Int) (a1 : Int) (w0 : (Lit.int .u32 a0).wf = true) (w1 : (Lit.int .u32 a1).wf = true) (w : World) :
    Calls Try.prog 4 #[.int .u32 a0, .int .u32 a1] w fun e w' => e = .returned (.bool true) ∧ Grown w w' := by
  obtain ⟨h1, h2⟩ := u32_of_wf w0
  obtain ⟨h3, h4⟩ := u32_of_wf w1
  by_cases hb : a1 = 0
  · subst hb
    go_enter Try.func4, Try.ntmps4
    go_wp2_with (first | (go_at_call 15; refine (div0_any _ _ _).mono ?_; rintro e w' ⟨rfl, rfl⟩) | (go_at_call 33; refine (awake_any _).mono ?_; rintro e w' ⟨rfl, rfl⟩))
    go_ret
    exact ⟨rfl, Grown.refl _⟩
  · exact core a0 a1 h1 h2 (by omega) h4 w

set_option maxRecDepth 100000 in
theorem lifted (os : Os) (started : os.Started) (H : Type) (enc : TypeId × Value → H) :
    ReturnsInHanded {} Try.checked os 4 .any (Rows.bitsDividesSpec.pre6 enc Try.prog Try.f4 Rows.bitsDividesRow.domain false) (Rows.bitsDividesSpec.post enc Try.prog Try.f4 false true false false) := by
  refine returnsInHanded_of_change (C := Try.checked) own started (by kernel_rfl) Try.func4
    (ChangeSpec.witness6 (enc := enc) (C := Try.checked) false ⟨#[], #[.int .u32 0, .int .u32 0], []⟩ 8 (by kernel_rfl) (by kernel_rfl) (by kernel_rfl) (by kernel_rfl)) ?_
  intro W base args ds gs before hval0 hW hcnd _
  have hval : ∀ (j : Nat) t v, Try.f4.params[j]? = some t → args[j]? = some v → Value.okWide Try.prog W .any base t v := hval0
  have hW' := hW
  obtain ⟨p, q, hA0, hV, rfl, hfz, hnd⟩ := hW
  have hA : DataW.TrodAll enc Try.prog W 0 (fun _ => true) true Try.f4.params.toList args.toList ds p := hA0
  rw [Try.params4] at hA hval
  obtain ⟨v0, vs0, d0, ds0, p0, q0, hargs, rfl, rfl, h0, r0⟩ := trodAll_cons hA
  obtain ⟨v1, vs1, d1, ds1, p1, q1, rfl, rfl, rfl, h1, r1⟩ := trodAll_cons r0
  obtain ⟨rfl, rfl, rfl⟩ := trodAll_nil r1
  obtain rfl : args = #[v0, v1] := by cases args; simp_all
  obtain ⟨rfl, rfl⟩ := trodVars_none hV
  obtain ⟨a0, rfl, rfl, rfl, w0⟩ := open_int Try.underlying22 (hval 0 22 v0 rfl rfl) h0
  obtain ⟨a1, rfl, rfl, rfl, w1⟩ := open_int Try.underlying22 (hval 1 22 v1 rfl rfl) h1
  clear hA0 hval0
  simp only [List.append_nil] at hW'
  refine (walk a0 a1 w0 w1 W).mono fun e W' ⟨he, hg⟩ => ?_
  subst he
  exact ⟨_, rfl, post_of_same (pa := []) (pv := []) hW' (fun _ _ _ => (trodAll_cons_mk (shut_bool Try.underlying4 _) trodAll_mk0)) (fun sp _ => (trodAll_cons_mk (shut_int Try.underlying22 w0) (trodAll_cons_mk (shut_int Try.underlying22 w1) trodAll_mk0))) (fun _ _ => rfl) rfl
    (hg.frame _) hg.2.1 (ok_one (by kernel_rfl) rfl (okWide_bool_mk Try.underlying4 _))⟩

theorem over : Rows.bitsDividesRow.holds Try.pinned (OpenSpec.ofChange Rows.bitsDividesSpec) :=
  OpenClaim.holds_of_wide 4 Try.f4 rfl rfl rfl rfl rfl rfl rfl ⟨rfl, rfl, rfl, rfl, rfl⟩ rfl rfl rfl rfl rfl (by kernel_rfl) Try.func4 (by kernel_rfl)
    (of_decide_eq_true (by kernel_rfl)) (by unfold Func.isWrapper; first | (rw [if_pos (by decide +kernel)]; kernel_rfl) | (rw [if_neg (by decide +kernel)]; exact ⟨rfl, rfl⟩))
    (fun os started H enc _ => lifted os started H enc)

theorem proved : Rows.BitsDividesSaid :=
  over
end Go.Proofs.Ytocajlafdmfamaa.bitsDivides
namespace Go.Proofs.Ytocajlafdmfamaa
theorem bitsDivides_holds : Rows.BitsDividesSaid := bitsDivides.proved
#print axioms bitsDivides_holds
end Go.Proofs.Ytocajlafdmfamaa
