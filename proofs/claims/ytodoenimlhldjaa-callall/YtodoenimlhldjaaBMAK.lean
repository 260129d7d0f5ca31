/- The library's heap, walked. -/
import Derived.Test.YtodoenimlhldjaaBMAJ
namespace Go.Proofs.Ytodoenimlhldjaa
open Go.ChangeShapes Go.WideShapes Go.ChangeAt Go.RowKit
set_option linter.unusedVariables false
set_option maxRecDepth 20000 in
set_option maxHeartbeats 4000000 in
theorem sift_any (w : World) (g cap lo hi f : Nat) (d : List Nat) (tl : List Value) (h : Srow w g d tl) (hlo : lo ≤ hi) (hb : f + hi ≤ d.length) (hlen : d.length ≤ 1152921504606846976) (hH : Heap d f (lo + 1) hi) :
    Calls Try.prog 96 #[.slice (some ⟨g, 0, none⟩) d.length cap, .int .i64 (lo : Int), .int .i64 (hi : Int), .int .i64 (f : Int)] w fun e w' => e = .returned (.tuple #[]) ∧ ∃ m, Srow w' g m tl ∧ Turned d m f (f + hi) ∧ Heap m f lo hi ∧ Only g w w' := by
  have H := hidden h
  have HH := hidden hH
  clear h hH
  go_enter Try.func96, Try.ntmps96
  go_wp2
  go_loopw [8] (fun x8 wr => ∃ (r : Nat) (k : List Nat), r ≤ hi ∧ x8 = .int .i64 (r : Int) ∧ k.length = d.length ∧ Srow wr g k tl ∧ Turned d k f (f + hi) ∧ Sift k f lo hi r ∧ Only g w wr) (fun x8 _ => hi + 1 - (intOf x8).toNat)
  case atStart => exact ⟨lo, d, hlo, rfl, rfl, Hid.out H, Turned.refl _ _ _, Sift.start (Hid.out HH), Only.refl _ _⟩
  case round =>
    obtain ⟨r, k, hr, rfl, hkl, hS, hT, hI, hW⟩ := hrel
    have hle := hI.le
    have HS := hidden hS
    have HT := hidden hT
    have HI := hidden hI
    have HW := hidden hW
    by_cases hc : hi ≤ 2 * r + 1
    · have hc2 : (hi : Int) ≤ 2 * (r : Int) + 1 := by omega
      have HEND : Hid (Heap k f lo hi) := hI.leaf hc
      clear hS hT hI hW
      go_wp2
      go_end0
      exact ⟨rfl, k, Hid.out HS, Hid.out HT, Hid.out HEND, Hid.out HW⟩
    · have hc2 : ¬ (hi : Int) ≤ 2 * (r : Int) + 1 := by omega
      have hwr : IntKind.i64.wrap ((f : Int) + (r : Int)) = (f : Int) + (r : Int) := by rw [IntKind.wrap_i64]; omega
      have hcr := hS.cell (j := f + r) (by omega)
      have hzr := hS.thaw (f + r)
      have hc1 := hS.cell (j := f + (2 * r + 1)) (by omega)
      have hz1 := hS.thaw (f + (2 * r + 1))
      by_cases hd : 2 * r + 1 + 1 < hi
      · have hd2 : 2 * (r : Int) + 1 + 1 < (hi : Int) := by omega
        have hcc := hS.cell (j := f + (2 * r + 1) + 1) (by omega)
        have hzc := hS.thaw (f + (2 * r + 1) + 1)
        clear hS hT hI hW
        have HL1 := hidden (fun u => less_any (k.getD (f + (2 * r + 1)) 0) (k.getD (f + (2 * r + 1) + 1) 0) u)
        cases hdec : decide (k.getD (f + (2 * r + 1)) 0 < k.getD (f + (2 * r + 1) + 1) 0) with
        | true =>
          rw [hdec] at HL1
          have HLT1 := hidden (of_decide_eq_true hdec)
          clear hdec
          have HL2 := hidden (fun u => less_any (k.getD (f + r) 0) (k.getD (f + (2 * r + 1 + 1)) 0) u)
          have HBIG : Hid (∀ c, c < hi → (c = 2 * r + 1 ∨ c = 2 * r + 2) → k.getD (f + c) 0 ≤ k.getD (f + (2 * r + 1 + 1)) 0) := fun c h1 h2 => by
            have h3 := Hid.out HLT1
            rcases h2 with rfl | rfl
            · exact Nat.le_of_lt h3
            · exact Nat.le_refl _
          cases hdec2 : decide (k.getD (f + r) 0 < k.getD (f + (2 * r + 1 + 1)) 0) with
          | true =>
            rw [hdec2] at HL2
            have HLT2 := hidden (of_decide_eq_true hdec2)
            clear hdec2
            have HN : Hid (∀ w1 n, Srow w1 g k tl → Srow (((w1.drewN n).setCell ⟨g, f + r, none⟩ (.int .u32 ((k.getD (f + (2 * r + 1 + 1)) 0 : Nat) : Int))).setCell ⟨g, f + (2 * r + 1 + 1), none⟩ (.int .u32 ((k.getD (f + r) 0 : Nat) : Int))) g (swp k (f + r) (f + (2 * r + 1 + 1))) tl) := fun w1 n h0 => by
              have h1 := (h0.drewN n).set (j := f + r) (by omega) (k.getD (f + (2 * r + 1 + 1)) 0)
              have h2 := h1.set (j := f + (2 * r + 1 + 1)) (by rw [List.length_set]; omega) (k.getD (f + r) 0)
              exact h2
            have HNI : Hid (Sift (swp k (f + r) (f + (2 * r + 1 + 1))) f lo hi (2 * r + 1 + 1)) := (Hid.out HI).step (x := 2 * r + 1 + 1) (by omega) (by omega) (by omega) (Hid.out HLT2) (Hid.out HBIG)
            have HF : Hid (∀ w1 n, w1 = wr.drewN n → w1.cell? ⟨g, f + r, none⟩ = some (.int .u32 ((k.getD (f + r) 0 : Nat) : Int)) ∧ w1.cell? ⟨g, f + (2 * r + 1 + 1), none⟩ = some (.int .u32 ((k.getD (f + (2 * r + 1 + 1)) 0 : Nat) : Int)) ∧ w1.frozen? ⟨g, f + r, none⟩ = false ∧ w1.frozen? ⟨g, f + (2 * r + 1 + 1), none⟩ = false ∧ Srow w1 g k tl ∧ Only g w w1) := fun w1 n e => by
              subst e
              have h1 := (Hid.out HS).drewN n
              exact ⟨h1.cell (by omega), h1.cell (by omega), h1.thaw _, h1.thaw _, h1, (Hid.out HW).drewN n⟩
            generalize hx0 : k.getD (f + r) 0 = x0 at *
            generalize hx1 : k.getD (f + (2 * r + 1)) 0 = x1 at *
            generalize hx2 : k.getD (f + (2 * r + 1) + 1) 0 = x2 at HL1 hcc
            generalize hx3 : k.getD (f + (2 * r + 1 + 1)) 0 = x3 at HL2 HF HN
            clear hx0 hx1 hx2 hx3
            go_wp2
            go_quiet ((go_at_call 91; exact Calls.quiet_of_same (Hid.out HL1 _)))
            go_wp2
            generalize hwn : wr.drewN nq = w1
            have hwn2 := Hid.out HF _ _ hwn.symm
            clear hwn hcr hzr hc1 hz1 hcc hzc
            obtain ⟨hcr, hcx, hzr, hzx, hS1, hW1⟩ := hwn2
            have HS1 := hidden hS1
            have HW1 := hidden hW1
            clear hS1 hW1
            go_quiet ((go_at_call 91; exact Calls.quiet_of_same (Hid.out HL2 _)))
            go_wp2
            go_region
            all_goals go_wp2
            go_roundw
            case rel => exact ⟨2 * r + 1 + 1, swp k (f + r) (f + (2 * r + 1 + 1)), by omega, by simp, by rw [swp_len]; exact hkl, Hid.out HN _ _ (Hid.out HS1), (Hid.out HT).swp ⟨by omega, by omega⟩ ⟨by omega, by omega⟩ (by omega), Hid.out HNI, ((((Hid.out HW1).drewN _).setCell _ _).setCell _ _)⟩
            case measure => simp [intOf]; omega
          | false =>
            rw [hdec2] at HL2
            have HLT2 := hidden (of_decide_eq_false hdec2)
            clear hdec2
            have HEND : Hid (Heap k f lo hi) := (Hid.out HI).stop fun c h1 h2 => Nat.le_trans (Hid.out HBIG c h1 h2) (Nat.le_of_not_lt (Hid.out HLT2))
            have HF : Hid (∀ w1 n, w1 = wr.drewN n → w1.cell? ⟨g, f + r, none⟩ = some (.int .u32 ((k.getD (f + r) 0 : Nat) : Int)) ∧ w1.cell? ⟨g, f + (2 * r + 1 + 1), none⟩ = some (.int .u32 ((k.getD (f + (2 * r + 1 + 1)) 0 : Nat) : Int)) ∧ w1.frozen? ⟨g, f + r, none⟩ = false ∧ w1.frozen? ⟨g, f + (2 * r + 1 + 1), none⟩ = false ∧ Srow w1 g k tl ∧ Only g w w1) := fun w1 n e => by
              subst e
              have h1 := (Hid.out HS).drewN n
              exact ⟨h1.cell (by omega), h1.cell (by omega), h1.thaw _, h1.thaw _, h1, (Hid.out HW).drewN n⟩
            generalize hx0 : k.getD (f + r) 0 = x0 at *
            generalize hx1 : k.getD (f + (2 * r + 1)) 0 = x1 at *
            generalize hx2 : k.getD (f + (2 * r + 1) + 1) 0 = x2 at HL1 hcc
            generalize hx3 : k.getD (f + (2 * r + 1 + 1)) 0 = x3 at HL2 HF
            clear hx0 hx1 hx2 hx3
            go_wp2
            go_quiet ((go_at_call 91; exact Calls.quiet_of_same (Hid.out HL1 _)))
            go_wp2
            generalize hwn : wr.drewN nq = w1
            have hwn2 := Hid.out HF _ _ hwn.symm
            clear hwn hcr hzr hc1 hz1 hcc hzc
            obtain ⟨hcr, hcx, hzr, hzx, hS1, hW1⟩ := hwn2
            have HS1 := hidden hS1
            have HW1 := hidden hW1
            clear hS1 hW1
            go_quiet ((go_at_call 91; exact Calls.quiet_of_same (Hid.out HL2 _)))
            go_wp2
            first | go_end0 | refine bodyPost_ret (results_none rfl _ _ _) rfl ?_
            exact ⟨rfl, k, (Hid.out HS1).drewN _, Hid.out HT, Hid.out HEND, (Hid.out HW1).drewN _⟩
        | false =>
          rw [hdec] at HL1
          have HLT1 := hidden (of_decide_eq_false hdec)
          clear hdec
          have HL2 := hidden (fun u => less_any (k.getD (f + r) 0) (k.getD (f + (2 * r + 1)) 0) u)
          have HBIG : Hid (∀ c, c < hi → (c = 2 * r + 1 ∨ c = 2 * r + 2) → k.getD (f + c) 0 ≤ k.getD (f + (2 * r + 1)) 0) := fun c h1 h2 => by
            have h3 := Hid.out HLT1
            rcases h2 with rfl | rfl
            · exact Nat.le_refl _
            · exact Nat.le_of_not_lt h3
          cases hdec2 : decide (k.getD (f + r) 0 < k.getD (f + (2 * r + 1)) 0) with
          | true =>
            rw [hdec2] at HL2
            have HLT2 := hidden (of_decide_eq_true hdec2)
            clear hdec2
            have HN : Hid (∀ w1 n, Srow w1 g k tl → Srow (((w1.drewN n).setCell ⟨g, f + r, none⟩ (.int .u32 ((k.getD (f + (2 * r + 1)) 0 : Nat) : Int))).setCell ⟨g, f + (2 * r + 1), none⟩ (.int .u32 ((k.getD (f + r) 0 : Nat) : Int))) g (swp k (f + r) (f + (2 * r + 1))) tl) := fun w1 n h0 => by
              have h1 := (h0.drewN n).set (j := f + r) (by omega) (k.getD (f + (2 * r + 1)) 0)
              have h2 := h1.set (j := f + (2 * r + 1)) (by rw [List.length_set]; omega) (k.getD (f + r) 0)
              exact h2
            have HNI : Hid (Sift (swp k (f + r) (f + (2 * r + 1))) f lo hi (2 * r + 1)) := (Hid.out HI).step (x := 2 * r + 1) (by omega) (by omega) (by omega) (Hid.out HLT2) (Hid.out HBIG)
            have HF : Hid (∀ w1 n, w1 = wr.drewN n → w1.cell? ⟨g, f + r, none⟩ = some (.int .u32 ((k.getD (f + r) 0 : Nat) : Int)) ∧ w1.cell? ⟨g, f + (2 * r + 1), none⟩ = some (.int .u32 ((k.getD (f + (2 * r + 1)) 0 : Nat) : Int)) ∧ w1.frozen? ⟨g, f + r, none⟩ = false ∧ w1.frozen? ⟨g, f + (2 * r + 1), none⟩ = false ∧ Srow w1 g k tl ∧ Only g w w1) := fun w1 n e => by
              subst e
              have h1 := (Hid.out HS).drewN n
              exact ⟨h1.cell (by omega), h1.cell (by omega), h1.thaw _, h1.thaw _, h1, (Hid.out HW).drewN n⟩
            generalize hx0 : k.getD (f + r) 0 = x0 at *
            generalize hx1 : k.getD (f + (2 * r + 1)) 0 = x1 at *
            generalize hx2 : k.getD (f + (2 * r + 1) + 1) 0 = x2 at *
            clear hx0 hx1 hx2
            go_wp2
            go_quiet ((go_at_call 91; exact Calls.quiet_of_same (Hid.out HL1 _)))
            go_wp2
            generalize hwn : wr.drewN nq = w1
            have hwn2 := Hid.out HF _ _ hwn.symm
            clear hwn hcr hzr hc1 hz1 hcc hzc
            obtain ⟨hcr, hcx, hzr, hzx, hS1, hW1⟩ := hwn2
            have HS1 := hidden hS1
            have HW1 := hidden hW1
            clear hS1 hW1
            go_quiet ((go_at_call 91; exact Calls.quiet_of_same (Hid.out HL2 _)))
            go_wp2
            go_region
            all_goals go_wp2
            go_roundw
            case rel => exact ⟨2 * r + 1, swp k (f + r) (f + (2 * r + 1)), by omega, by simp, by rw [swp_len]; exact hkl, Hid.out HN _ _ (Hid.out HS1), (Hid.out HT).swp ⟨by omega, by omega⟩ ⟨by omega, by omega⟩ (by omega), Hid.out HNI, ((((Hid.out HW1).drewN _).setCell _ _).setCell _ _)⟩
            case measure => simp [intOf]; omega
          | false =>
            rw [hdec2] at HL2
            have HLT2 := hidden (of_decide_eq_false hdec2)
            clear hdec2
            have HEND : Hid (Heap k f lo hi) := (Hid.out HI).stop fun c h1 h2 => Nat.le_trans (Hid.out HBIG c h1 h2) (Nat.le_of_not_lt (Hid.out HLT2))
            have HF : Hid (∀ w1 n, w1 = wr.drewN n → w1.cell? ⟨g, f + r, none⟩ = some (.int .u32 ((k.getD (f + r) 0 : Nat) : Int)) ∧ w1.cell? ⟨g, f + (2 * r + 1), none⟩ = some (.int .u32 ((k.getD (f + (2 * r + 1)) 0 : Nat) : Int)) ∧ w1.frozen? ⟨g, f + r, none⟩ = false ∧ w1.frozen? ⟨g, f + (2 * r + 1), none⟩ = false ∧ Srow w1 g k tl ∧ Only g w w1) := fun w1 n e => by
              subst e
              have h1 := (Hid.out HS).drewN n
              exact ⟨h1.cell (by omega), h1.cell (by omega), h1.thaw _, h1.thaw _, h1, (Hid.out HW).drewN n⟩
            generalize hx0 : k.getD (f + r) 0 = x0 at *
            generalize hx1 : k.getD (f + (2 * r + 1)) 0 = x1 at *
            generalize hx2 : k.getD (f + (2 * r + 1) + 1) 0 = x2 at *
            clear hx0 hx1 hx2
            go_wp2
            go_quiet ((go_at_call 91; exact Calls.quiet_of_same (Hid.out HL1 _)))
            go_wp2
            generalize hwn : wr.drewN nq = w1
            have hwn2 := Hid.out HF _ _ hwn.symm
            clear hwn hcr hzr hc1 hz1 hcc hzc
            obtain ⟨hcr, hcx, hzr, hzx, hS1, hW1⟩ := hwn2
            have HS1 := hidden hS1
            have HW1 := hidden hW1
            clear hS1 hW1
            go_quiet ((go_at_call 91; exact Calls.quiet_of_same (Hid.out HL2 _)))
            go_wp2
            first | go_end0 | refine bodyPost_ret (results_none rfl _ _ _) rfl ?_
            exact ⟨rfl, k, (Hid.out HS1).drewN _, Hid.out HT, Hid.out HEND, (Hid.out HW1).drewN _⟩
      · have hd2 : decide (2 * (r : Int) + 1 + 1 < (hi : Int)) = false := by simp; omega
        clear hS hT hI hW
        have HL2 := hidden (fun u => less_any (k.getD (f + r) 0) (k.getD (f + (2 * r + 1)) 0) u)
        have HBIG : Hid (∀ c, c < hi → (c = 2 * r + 1 ∨ c = 2 * r + 2) → k.getD (f + c) 0 ≤ k.getD (f + (2 * r + 1)) 0) := fun c h1 h2 => by
          have e : c = 2 * r + 1 := by omega
          rw [e]
          exact Nat.le_refl _
        cases hdec2 : decide (k.getD (f + r) 0 < k.getD (f + (2 * r + 1)) 0) with
        | true =>
          rw [hdec2] at HL2
          have HLT2 := hidden (of_decide_eq_true hdec2)
          clear hdec2
          have HN : Hid (∀ w1 n, Srow w1 g k tl → Srow (((w1.drewN n).setCell ⟨g, f + r, none⟩ (.int .u32 ((k.getD (f + (2 * r + 1)) 0 : Nat) : Int))).setCell ⟨g, f + (2 * r + 1), none⟩ (.int .u32 ((k.getD (f + r) 0 : Nat) : Int))) g (swp k (f + r) (f + (2 * r + 1))) tl) := fun w1 n h0 => by
            have h1 := (h0.drewN n).set (j := f + r) (by omega) (k.getD (f + (2 * r + 1)) 0)
            have h2 := h1.set (j := f + (2 * r + 1)) (by rw [List.length_set]; omega) (k.getD (f + r) 0)
            exact h2
          have HNI : Hid (Sift (swp k (f + r) (f + (2 * r + 1))) f lo hi (2 * r + 1)) := (Hid.out HI).step (x := 2 * r + 1) (by omega) (by omega) (by omega) (Hid.out HLT2) (Hid.out HBIG)
          have HF : Hid (∀ w1 n, w1 = wr.drewN n → w1.cell? ⟨g, f + r, none⟩ = some (.int .u32 ((k.getD (f + r) 0 : Nat) : Int)) ∧ w1.cell? ⟨g, f + (2 * r + 1), none⟩ = some (.int .u32 ((k.getD (f + (2 * r + 1)) 0 : Nat) : Int)) ∧ w1.frozen? ⟨g, f + r, none⟩ = false ∧ w1.frozen? ⟨g, f + (2 * r + 1), none⟩ = false ∧ Srow w1 g k tl ∧ Only g w w1) := fun w1 n e => by
            subst e
            have h1 := (Hid.out HS).drewN n
            exact ⟨h1.cell (by omega), h1.cell (by omega), h1.thaw _, h1.thaw _, h1, (Hid.out HW).drewN n⟩
          generalize hx0 : k.getD (f + r) 0 = x0 at *
          generalize hx1 : k.getD (f + (2 * r + 1)) 0 = x1 at *
          clear hx0 hx1
          go_wp2
          go_quiet (fail)
          go_wp2
          generalize hwn : wr.drewN nq = w1
          have hwn2 := Hid.out HF _ _ hwn.symm
          clear hwn hcr hzr hc1 hz1
          obtain ⟨hcr, hcx, hzr, hzx, hS1, hW1⟩ := hwn2
          have HS1 := hidden hS1
          have HW1 := hidden hW1
          clear hS1 hW1
          go_quiet ((go_at_call 91; exact Calls.quiet_of_same (Hid.out HL2 _)))
          go_wp2
          go_region
          all_goals go_wp2
          go_roundw
          case rel => exact ⟨2 * r + 1, swp k (f + r) (f + (2 * r + 1)), by omega, by simp, by rw [swp_len]; exact hkl, Hid.out HN _ _ (Hid.out HS1), (Hid.out HT).swp ⟨by omega, by omega⟩ ⟨by omega, by omega⟩ (by omega), Hid.out HNI, ((((Hid.out HW1).drewN _).setCell _ _).setCell _ _)⟩
          case measure => simp [intOf]; omega
        | false =>
          rw [hdec2] at HL2
          have HLT2 := hidden (of_decide_eq_false hdec2)
          clear hdec2
          have HEND : Hid (Heap k f lo hi) := (Hid.out HI).stop fun c h1 h2 => Nat.le_trans (Hid.out HBIG c h1 h2) (Nat.le_of_not_lt (Hid.out HLT2))
          have HF : Hid (∀ w1 n, w1 = wr.drewN n → w1.cell? ⟨g, f + r, none⟩ = some (.int .u32 ((k.getD (f + r) 0 : Nat) : Int)) ∧ w1.cell? ⟨g, f + (2 * r + 1), none⟩ = some (.int .u32 ((k.getD (f + (2 * r + 1)) 0 : Nat) : Int)) ∧ w1.frozen? ⟨g, f + r, none⟩ = false ∧ w1.frozen? ⟨g, f + (2 * r + 1), none⟩ = false ∧ Srow w1 g k tl ∧ Only g w w1) := fun w1 n e => by
            subst e
            have h1 := (Hid.out HS).drewN n
            exact ⟨h1.cell (by omega), h1.cell (by omega), h1.thaw _, h1.thaw _, h1, (Hid.out HW).drewN n⟩
          generalize hx0 : k.getD (f + r) 0 = x0 at *
          generalize hx1 : k.getD (f + (2 * r + 1)) 0 = x1 at *
          clear hx0 hx1
          go_wp2
          go_quiet (fail)
          go_wp2
          generalize hwn : wr.drewN nq = w1
          have hwn2 := Hid.out HF _ _ hwn.symm
          clear hwn hcr hzr hc1 hz1
          obtain ⟨hcr, hcx, hzr, hzx, hS1, hW1⟩ := hwn2
          have HS1 := hidden hS1
          have HW1 := hidden hW1
          clear hS1 hW1
          go_quiet ((go_at_call 91; exact Calls.quiet_of_same (Hid.out HL2 _)))
          go_wp2
          first | go_end0 | refine bodyPost_ret (results_none rfl _ _ _) rfl ?_
          exact ⟨rfl, k, (Hid.out HS1).drewN _, Hid.out HT, Hid.out HEND, (Hid.out HW1).drewN _⟩
end Go.Proofs.Ytodoenimlhldjaa
namespace Go.Proofs.Ytodoenimlhldjaa
open Go.ChangeShapes Go.WideShapes Go.ChangeAt Go.RowKit
set_option linter.unusedVariables false
set_option maxRecDepth 20000 in
set_option maxHeartbeats 4000000 in
theorem heapsort_any (w : World) (g cap a b : Nat) (d : List Nat) (tl : List Value) (h : Srow w g d tl) (hab : a < b) (hb : b ≤ d.length) (hlen : d.length ≤ 1152921504606846976) :
    Calls Try.prog 86 #[.slice (some ⟨g, 0, none⟩) d.length cap, .int .i64 (a : Int), .int .i64 (b : Int)] w fun e w' => e = .returned (.tuple #[]) ∧ ∃ m, Srow w' g m tl ∧ Turned d m a b ∧ SortedOn m a b ∧ Only g w w' := by
  have H := hidden h
  clear h
  obtain ⟨n, hn⟩ : ∃ n, b = a + n := ⟨b - a, by omega⟩
  have hsub : (b : Int) - (a : Int) = (n : Int) := by omega
  have hquo : ((n : Int) - 1).tdiv 2 = (((n - 1) / 2 : Nat) : Int) := by
    rw [Int.tdiv_eq_ediv_of_nonneg (by omega)]; omega
  have hquo2 : IntKind.i64.wrap ((((n - 1) / 2 : Nat) : Int)) = (((n - 1) / 2 : Nat) : Int) := by rw [IntKind.wrap_i64]; omega
  obtain ⟨q, hq⟩ : ∃ q, q = (n - 1) / 2 := ⟨_, rfl⟩
  rw [← hq] at hquo hquo2
  have HQ := hidden hq
  have HB := hidden hn
  have hnb : a + n ≤ b ∧ b ≤ a + n := by omega
  clear hq hn
  go_enter Try.func86, Try.ntmps86
  go_wp2
  go_loopw [9] (fun x9 wr => ∃ (z : Int) (i : Nat) (m : List Nat), z = (i : Int) - 1 ∧ i ≤ n ∧ x9 = .int .i64 z ∧ m.length = d.length ∧ Srow wr g m tl ∧ Turned d m a b ∧ Heap m a i n ∧ Only g w wr) (fun x9 _ => ((intOf x9) + 1).toNat)
  case atStart => exact ⟨q, q + 1, d, by omega, by have := Hid.out HQ; omega, rfl, rfl, Hid.out H, Turned.refl _ _ _, fun p c h1 h2 h3 => by have := Hid.out HQ; omega, Only.refl _ _⟩
  case round =>
    obtain ⟨z, i, m, hz, hi, rfl, hml, hS, hT, hI, hW⟩ := hrel
    have HS := hidden hS
    have HT := hidden hT
    have HI := hidden hI
    have HW := hidden hW
    clear hS hT hI hW
    cases i with
    | succ j =>
      obtain rfl : z = (j : Int) := by omega
      clear hz
      have hge : (0 : Int) ≤ (j : Int) := by omega
      have HC := hidden (sift_any wr g cap j n a m tl (Hid.out HS) (by omega) (by omega) (by omega) (Hid.out HI))
      rw [hml] at HC
      go_wp2_with (go_at_call 96; refine (Hid.out HC).mono ?_; rintro e w1 ⟨rfl, k, hS2, hT2, hI2, hW2⟩; have HS2 := hidden hS2; have HT2 := hidden hT2; have HI2 := hidden hI2; have HW2 := hidden hW2; clear hS2 hT2 hI2 hW2)
      go_roundw
      case rel => exact ⟨(j : Int) - 1, j, k, rfl, by omega, by simp, by rw [(Hid.out HT2).len]; exact hml, Hid.out HS2, (Hid.out HT).trans ((Hid.out HT2).wide (Nat.le_refl _) (by omega)), Hid.out HI2, (Hid.out HW).trans (Hid.out HW2)⟩
      case measure => simp [intOf]; try omega
    | zero =>
      obtain rfl : z = -1 := by omega
      clear hz
      have HP : Hid (Pop m a n n) := ⟨Hid.out HI, fun p q h1 h2 h3 => by omega, fun p q h1 h2 h3 h4 => by omega⟩
      go_wp2
      go_loopw [10] (fun x10 wr2 => ∃ (z : Int) (i : Nat) (m : List Nat), z = (i : Int) - 1 ∧ i ≤ n ∧ x10 = .int .i64 z ∧ m.length = d.length ∧ Srow wr2 g m tl ∧ Turned d m a b ∧ Pop m a n i ∧ Only g w wr2) (fun x10 _ => ((intOf x10) + 1).toNat)
      case atStart => exact ⟨_, n, m, rfl, by omega, by simp, hml, Hid.out HS, Hid.out HT, Hid.out HP, Hid.out HW⟩
      case round =>
        obtain ⟨z, i, m2, hz, hi2, rfl, hml2, hS, hT, hI, hW⟩ := hrel
        have HS2 := hidden hS
        have HT2 := hidden hT
        have HI2 := hidden hI
        have HW2 := hidden hW
        cases i with
        | succ j =>
          obtain rfl : z = (j : Int) := by omega
          clear hz
          by_cases hj0 : j = 0
          · subst hj0
            have hca := hS.cell (j := a) (by omega)
            have hza := hS.thaw a
            clear hS hT hI hW
            have HN : Hid (∀ u n, Srow u g m2 tl → Srow (((u.drewN n).setCell ⟨g, a, none⟩ (.int .u32 ((m2.getD (a) 0 : Nat) : Int))).setCell ⟨g, a, none⟩ (.int .u32 ((m2.getD a 0 : Nat) : Int))) g (swp m2 a (a)) tl) := fun u n h0 => by
              have h1 := (h0.drewN n).set (j := a) (by omega) (m2.getD (a) 0)
              exact h1.set (j := a) (by rw [List.length_set]; omega) (m2.getD a 0)
            have HC : Hid (∀ u, Srow u g (swp m2 a (a)) tl → Calls Try.prog 96 #[.slice (some ⟨g, 0, none⟩) d.length cap, .int .i64 0, .int .i64 0, .int .i64 (a : Int)] u fun e w' => e = .returned (.tuple #[]) ∧ ∃ m, Srow w' g m tl ∧ Turned (swp m2 a (a)) m a (a) ∧ Heap m a 0 0 ∧ Only g u w') := fun u h0 => by
              have := sift_any u g cap 0 0 a (swp m2 a (a)) tl h0 (by omega) (by rw [swp_len]; omega) (by rw [swp_len]; omega) ((Hid.out HI2).sift (by omega) (by omega))
              rw [swp_len, hml2] at this
              exact this
            generalize hxa : m2.getD a 0 = xa at hca HN
            clear hxa
            go_wp2
            go_region
            all_goals go_wp2_with (go_at_call 96; refine (Hid.out HC _ (Hid.out HN _ _ (Hid.out HS2))).mono ?_; rintro e w1 ⟨rfl, k, hS3, hT3, hI3, hW3⟩; have HS3 := hidden hS3; have HT3 := hidden hT3; have HI3 := hidden hI3; have HW3 := hidden hW3; clear hS3 hT3 hI3 hW3)
            go_roundw
            case rel => exact ⟨(0 : Int) - 1, 0, k, rfl, by omega, by simp, by rw [(Hid.out HT3).len, swp_len]; exact hml2, Hid.out HS3, ((Hid.out HT2).swp ⟨by omega, by omega⟩ ⟨by omega, by omega⟩ (by omega)).trans ((Hid.out HT3).wide (Nat.le_refl _) (by omega)), (Hid.out HI2).step (by omega) (by omega) (Hid.out HT3) (Hid.out HI3), ((((Hid.out HW2).drewN _).setCell _ _).setCell _ _).trans (Hid.out HW3)⟩
            case measure => simp [intOf]; try omega
          · have hge : (0 : Int) ≤ (j : Int) := by omega
            have hj1 : ¬ a + j = a := by omega
            have hj2 : ¬ a = a + j := by omega
            have hca := hS.cell (j := a) (by omega)
            have hza := hS.thaw a
            have hcj := hS.cell (j := a + j) (by omega)
            have hzj := hS.thaw (a + j)
            clear hS hT hI hW
            have HN : Hid (∀ u n, Srow u g m2 tl → Srow (((u.drewN n).setCell ⟨g, a, none⟩ (.int .u32 ((m2.getD (a + j) 0 : Nat) : Int))).setCell ⟨g, a + j, none⟩ (.int .u32 ((m2.getD a 0 : Nat) : Int))) g (swp m2 a (a + j)) tl) := fun u n h0 => by
              have h1 := (h0.drewN n).set (j := a) (by omega) (m2.getD (a + j) 0)
              exact h1.set (j := a + j) (by rw [List.length_set]; omega) (m2.getD a 0)
            have HC : Hid (∀ u, Srow u g (swp m2 a (a + j)) tl → Calls Try.prog 96 #[.slice (some ⟨g, 0, none⟩) d.length cap, .int .i64 0, .int .i64 (j : Int), .int .i64 (a : Int)] u fun e w' => e = .returned (.tuple #[]) ∧ ∃ m, Srow w' g m tl ∧ Turned (swp m2 a (a + j)) m a (a + j) ∧ Heap m a 0 j ∧ Only g u w') := fun u h0 => by
              have := sift_any u g cap 0 j a (swp m2 a (a + j)) tl h0 (by omega) (by rw [swp_len]; omega) (by rw [swp_len]; omega) ((Hid.out HI2).sift (by omega) (by omega))
              rw [swp_len, hml2] at this
              exact this
            generalize hxa : m2.getD a 0 = xa at hca HN
            generalize hxj : m2.getD (a + j) 0 = xj at hcj HN
            clear hxa hxj
            go_wp2
            go_region
            all_goals go_wp2_with (go_at_call 96; refine (Hid.out HC _ (Hid.out HN _ _ (Hid.out HS2))).mono ?_; rintro e w1 ⟨rfl, k, hS3, hT3, hI3, hW3⟩; have HS3 := hidden hS3; have HT3 := hidden hT3; have HI3 := hidden hI3; have HW3 := hidden hW3; clear hS3 hT3 hI3 hW3)
            go_roundw
            case rel => exact ⟨(j : Int) - 1, j, k, rfl, by omega, by simp, by rw [(Hid.out HT3).len, swp_len]; exact hml2, Hid.out HS3, ((Hid.out HT2).swp ⟨by omega, by omega⟩ ⟨by omega, by omega⟩ (by omega)).trans ((Hid.out HT3).wide (Nat.le_refl _) (by omega)), (Hid.out HI2).step (by omega) (by omega) (Hid.out HT3) (Hid.out HI3), ((((Hid.out HW2).drewN _).setCell _ _).setCell _ _).trans (Hid.out HW3)⟩
            case measure => simp [intOf]; try omega
        | zero =>
          obtain rfl : z = -1 := by omega
          clear hz
          clear hS hT hI hW
          go_wp2
          go_end0
          exact ⟨rfl, m2, Hid.out HS2, Hid.out HT2, by rw [Hid.out HB]; exact (Hid.out HI2).sorted, Hid.out HW2⟩
end Go.Proofs.Ytodoenimlhldjaa
namespace Go.Proofs.Ytodoenimlhldjaa
open Go.ChangeShapes Go.WideShapes Go.ChangeAt Go.RowKit
set_option linter.unusedVariables false
set_option maxRecDepth 20000 in
set_option maxHeartbeats 4000000 in
theorem reverse_any (w : World) (g cap a b : Nat) (d : List Nat) (tl : List Value) (h : Srow w g d tl) (hab : a < b) (hb : b ≤ d.length) (hlen : d.length ≤ 1152921504606846976) :
    Calls Try.prog 89 #[.slice (some ⟨g, 0, none⟩) d.length cap, .int .i64 (a : Int), .int .i64 (b : Int)] w fun e w' => e = .returned (.tuple #[]) ∧ ∃ m, Srow w' g m tl ∧ Turned d m a b ∧ Only g w w' := by
  have H := hidden h
  clear h
  obtain ⟨c, hc⟩ : ∃ c, c + 1 = b := ⟨b - 1, by omega⟩
  have hsub : (b : Int) - 1 = (c : Int) := by omega
  have hcb : c < b := by omega
  have HB := hidden hc
  clear hc
  go_enter Try.func89, Try.ntmps89
  go_wp2
  go_loopw [6, 7] (fun x6 x7 wr => ∃ (i j : Nat) (m : List Nat), a ≤ i ∧ i ≤ b ∧ a ≤ j ∧ j < b ∧ x6 = .int .i64 (i : Int) ∧ x7 = .int .i64 (j : Int) ∧ m.length = d.length ∧ Srow wr g m tl ∧ Turned d m a b ∧ Only g w wr) (fun x6 x7 _ => b - (intOf x6).toNat)
  case atStart => exact ⟨a, c, d, by omega, by omega, by have := Hid.out HB; omega, by omega, rfl, rfl, rfl, Hid.out H, Turned.refl _ _ _, Only.refl _ _⟩
  case round =>
    obtain ⟨i, j, m, hi1, hi2, hj1, hj2, rfl, rfl, hml, hS, hT, hW⟩ := hrel
    have HS := hidden hS
    have HT := hidden hT
    have HW := hidden hW
    by_cases hij : i < j
    · obtain ⟨k, rfl⟩ : ∃ k, j = k + 1 := ⟨j - 1, by omega⟩
      have hij2 : (i : Int) < (k : Int) + 1 := by omega
      have hci := hS.cell (j := i) (by omega)
      have hzi := hS.thaw i
      have hcj := hS.cell (j := k + 1) (by omega)
      have hzj := hS.thaw (k + 1)
      have hne : ¬ k + 1 = i := by omega
      have hne2 : ¬ i = k + 1 := by omega
      clear hS hT hW
      have HN : Hid (∀ u n, Srow u g m tl → Srow (((u.drewN n).setCell ⟨g, i, none⟩ (.int .u32 ((m.getD (k + 1) 0 : Nat) : Int))).setCell ⟨g, k + 1, none⟩ (.int .u32 ((m.getD i 0 : Nat) : Int))) g (swp m i (k + 1)) tl) := fun u n h0 => by
        have h1 := (h0.drewN n).set (j := i) (by omega) (m.getD (k + 1) 0)
        exact h1.set (j := k + 1) (by rw [List.length_set]; omega) (m.getD i 0)
      generalize hxa : m.getD i 0 = xa at hci HN
      generalize hxj : m.getD (k + 1) 0 = xj at hcj HN
      clear hxa hxj
      go_wp2
      go_region
      all_goals go_wp2
      go_roundw
      case rel => exact ⟨i + 1, k, swp m i (k + 1), by omega, by omega, by omega, by omega, by simp, by simp, by rw [swp_len]; exact hml, Hid.out HN _ _ (Hid.out HS), (Hid.out HT).swp ⟨by omega, by omega⟩ ⟨by omega, by omega⟩ (by omega), ((((Hid.out HW).drewN _).setCell _ _).setCell _ _)⟩
      case measure => simp [intOf]; try omega
    · have hij2 : ¬ (i : Int) < (j : Int) := by omega
      clear hS hT hW
      go_wp2
      go_end0
      exact ⟨rfl, m, Hid.out HS, Hid.out HT, Hid.out HW⟩
end Go.Proofs.Ytodoenimlhldjaa
namespace Go.Proofs.Ytodoenimlhldjaa
open Go.ChangeShapes Go.WideShapes Go.ChangeAt Go.RowKit
set_option linter.unusedVariables false
/-- Not above the first, from a on, ahead of i; above it behind j. -/
structure PEq (m : List Nat) (a b i j : Nat) : Prop where
  low : ∀ p, a ≤ p → p < i → m.getD p 0 ≤ m.getD a 0
  high : ∀ q, j < q → q < b → m.getD a 0 < m.getD q 0
theorem PEq.up {m : List Nat} {a b i j : Nat} (h : PEq m a b i j) (hs : ¬ m.getD a 0 < m.getD i 0) : PEq m a b (i + 1) j := ⟨fun p h1 h2 => by
  by_cases e : p = i
  · rw [e]; omega
  · exact h.low p h1 (by omega), h.high⟩
theorem PEq.down {m : List Nat} {a b i j : Nat} (h : PEq m a b i (j + 1)) (hs : m.getD a 0 < m.getD (j + 1) 0) : PEq m a b i j := ⟨h.low, fun q h1 h2 => by
  by_cases e : q = j + 1
  · rw [e]; exact hs
  · exact h.high q (by omega) h2⟩
theorem PEq.swp {m : List Nat} {a b i j : Nat} (h : PEq m a b i (j + 1)) (hai : a < i) (hij : i < j + 1) (hj : j + 1 < b) (hl : b ≤ m.length) (h1 : m.getD a 0 < m.getD i 0) (h2 : ¬ m.getD a 0 < m.getD (j + 1) 0) : PEq (swp m i (j + 1)) a b (i + 1) j := by
  have hg := fun k => swp_get m (i := i) (j := j + 1) (by omega) (by omega) k
  have ha : (Ytodoenimlhldjaa.swp m i (j + 1)).getD a 0 = m.getD a 0 := by rw [hg a, if_neg (by omega), if_neg (by omega)]
  refine ⟨fun p g1 g2 => ?_, fun q g1 g2 => ?_⟩
  · rw [ha, hg p, if_neg (by omega)]
    by_cases e : p = i
    · rw [if_pos e]; omega
    · rw [if_neg e]; exact h.low p g1 (by omega)
  · rw [ha, hg q]
    by_cases e : q = j + 1
    · rw [if_pos e]; exact h1
    · rw [if_neg e, if_neg (by omega)]; exact h.high q (by omega) g2
set_option maxRecDepth 20000 in
set_option maxHeartbeats 8000000 in
theorem parteq_any (w : World) (g cap a b pv : Nat) (d : List Nat) (tl : List Value) (h : Srow w g d tl) (hpa : a ≤ pv) (hpb : pv < b) (hb : b ≤ d.length) (hlen : d.length ≤ 1152921504606846976) :
    Calls Try.prog 92 #[.slice (some ⟨g, 0, none⟩) d.length cap, .int .i64 (a : Int), .int .i64 (b : Int), .int .i64 (pv : Int)] w fun e w' => ∃ (i j : Nat) (m : List Nat), e = .returned (.int .i64 (i : Int)) ∧ a < i ∧ i ≤ b ∧ i = j + 1 ∧ Srow w' g m tl ∧ Turned d m a b ∧ PEq m a b i j ∧ m.getD a 0 = d.getD pv 0 ∧ Only g w w' := by
  have H := hidden h
  obtain ⟨c, hc⟩ : ∃ c, c + 1 = b := ⟨b - 1, by omega⟩
  have hsub : (b : Int) - 1 = (c : Int) := by omega
  have hcb : c < b ∧ b ≤ c + 1 := by omega
  clear hc
  have hca := h.cell (j := a) (by omega)
  have hza := h.thaw a
  obtain ⟨v, hv⟩ : ∃ v, v = d.getD pv 0 := ⟨_, rfl⟩
  have HV := hidden hv
  by_cases hap : pv = a
  · subst hap
    clear h hv
    have HN : Hid (∀ u n, Srow u g d tl → Srow (((u.drewN n).setCell ⟨g, pv, none⟩ (.int .u32 ((d.getD pv 0 : Nat) : Int))).setCell ⟨g, pv, none⟩ (.int .u32 ((d.getD pv 0 : Nat) : Int))) g (swp d pv pv) tl) := fun u n h0 => by
      have h1 := (h0.drewN n).set (j := pv) (by omega) (d.getD pv 0)
      exact h1.set (j := pv) (by rw [List.length_set]; omega) (d.getD pv 0)
    have HGA : Hid ((swp d pv pv).getD pv 0 = v) := by
      show _ = _
      rw [swp_get d (by omega) (by omega), if_pos rfl]; exact (Hid.out HV).symm
    have HT0 : Hid (Turned d (swp d pv pv) pv b) := (Turned.refl d pv b).swp ⟨by omega, by omega⟩ ⟨by omega, by omega⟩ (by omega)
    have hml0 : (swp d pv pv).length = d.length := swp_len _ _ _
    generalize hx0 : d.getD pv 0 = x0 at hca HN HV
    generalize hm0 : swp d pv pv = m0 at HN HGA HT0 hml0
    clear hx0 hm0
    go_enter Try.func92, Try.ntmps92
    go_wp2
    go_region
    all_goals go_wp2
    clear hca hza
    go_loopw [9, 10] (fun x9 x10 wr => ∃ (i j : Nat) (m : List Nat), pv < i ∧ i ≤ j + 1 ∧ pv ≤ j ∧ j < b ∧ x9 = .int .i64 (i : Int) ∧ x10 = .int .i64 (j : Int) ∧ m.length = d.length ∧ Srow wr g m tl ∧ Turned d m pv b ∧ PEq m pv b i j ∧ m.getD pv 0 = v ∧ Only g w wr) (fun x9 x10 _ => b - (intOf x9).toNat)
    case atStart => exact ⟨pv + 1, c, m0, by omega, by omega, by omega, by omega, by simp, rfl, hml0, Hid.out HN _ _ (Hid.out H), Hid.out HT0, ⟨fun p h1 h2 => by rw [show p = pv from by omega]; exact Nat.le_refl _, fun q h1 h2 => by omega⟩, Hid.out HGA, ((((Only.refl g w).drewN _).setCell _ _).setCell _ _)⟩
    case round =>
      obtain ⟨i, j, m, hai, hij, haj, hjb, rfl, rfl, hml, hS, hT, hP, hGA, hW⟩ := hrel
      have HS := hidden hS
      have HT := hidden hT
      have HP := hidden hP
      have HG2 := hidden hGA
      have HW := hidden hW
      clear hS hT hP hGA hW
      go_wp2
      go_loopw [9] (fun x9 wr2 => ∃ (k : Nat), i ≤ k ∧ k ≤ j + 1 ∧ x9 = .int .i64 (k : Int) ∧ Srow wr2 g m tl ∧ PEq m pv b k j ∧ Only g w wr2) (fun x9 _ => b - (intOf x9).toNat)
      case atStart => exact ⟨i, by omega, hij, rfl, Hid.out HS, Hid.out HP, Hid.out HW⟩
      case round =>
        obtain ⟨k, hik, hkj, rfl, hS, hP, hW⟩ := hrel
        have HS2 := hidden hS
        have HP2 := hidden hP
        have HW2 := hidden hW
        by_cases hkj2 : k ≤ j
        · have hkj3 : (k : Int) ≤ (j : Int) := by omega
          have hck := hS.cell (j := k) (by omega)
          have hcA := hS.cell (j := pv) (by omega)
          clear hS hP hW
          have HL := hidden (fun u => less_any (m.getD pv 0) (m.getD k 0) u)
          cases hdec : decide (m.getD pv 0 < m.getD k 0) with
          | false =>
            rw [hdec] at HL
            have HP3 : Hid (PEq m pv b (k + 1) j) := (Hid.out HP2).up (of_decide_eq_false hdec)
            clear hdec
            generalize hx3 : m.getD pv 0 = x3 at hcA HL
            generalize hx4 : m.getD k 0 = x4 at hck HL
            clear hx3 hx4
            go_wp2
            go_quiet ((go_at_call 91; exact Calls.quiet_of_same (Hid.out HL _)))
            go_wp2
            go_roundw
            case rel => exact ⟨k + 1, by omega, by omega, by simp, (Hid.out HS2).drewN _, Hid.out HP3, (Hid.out HW2).drewN _⟩
            case measure => simp [intOf]; try omega
          | true =>
            rw [hdec] at HL
            have HLT := hidden (of_decide_eq_true hdec)
            clear hdec
            generalize hx3 : m.getD pv 0 = x3 at hcA HL
            generalize hx4 : m.getD k 0 = x4 at hck HL
            clear hx3 hx4
            go_wp2
            go_quiet ((go_at_call 91; exact Calls.quiet_of_same (Hid.out HL _)))
            go_wp2
            clear hck hcA HL
            go_loopw [10] (fun x10 wr3 => ∃ (l : Nat), k ≤ l + 1 ∧ l ≤ j ∧ x10 = .int .i64 (l : Int) ∧ Srow wr3 g m tl ∧ PEq m pv b k l ∧ Only g w wr3) (fun x10 _ => (intOf x10).toNat)
            case atStart => exact ⟨j, by omega, by omega, rfl, (Hid.out HS2).drewN _, Hid.out HP2, (Hid.out HW2).drewN _⟩
            case round =>
              obtain ⟨l, hkl, hlj, rfl, hS, hP, hW⟩ := hrel
              have HS4 := hidden hS
              have HP4 := hidden hP
              have HW4 := hidden hW
              by_cases hkl2 : k ≤ l
              · obtain ⟨l, rfl⟩ : ∃ l', l = l' + 1 := ⟨l - 1, by omega⟩
                have hkl3 : (k : Int) ≤ (l : Int) + 1 := by omega
                have hkl4 : ¬ (l : Int) + 1 < (k : Int) := by omega
                have hck := hS.cell (j := k) (by omega)
                have hzk := hS.thaw k
                have hcl := hS.cell (j := l + 1) (by omega)
                have hzl := hS.thaw (l + 1)
                have hcA := hS.cell (j := pv) (by omega)
                clear hS hP hW
                have HL := hidden (fun u => less_any (m.getD pv 0) (m.getD (l + 1) 0) u)
                cases hdec : decide (m.getD pv 0 < m.getD (l + 1) 0) with
                | true =>
                  rw [hdec] at HL
                  have HP5 : Hid (PEq m pv b k l) := (Hid.out HP4).down (of_decide_eq_true hdec)
                  clear hdec
                  generalize hx3 : m.getD pv 0 = x3 at hcA HL
                  generalize hx4 : m.getD (l + 1) 0 = x4 at hcl HL
                  generalize hx5 : m.getD k 0 = x5 at hck
                  clear hx3 hx4 hx5
                  go_wp2
                  go_quiet ((go_at_call 91; exact Calls.quiet_of_same (Hid.out HL _)))
                  go_wp2
                  go_roundw
                  case rel => exact ⟨l, by omega, by omega, by simp, (Hid.out HS4).drewN _, Hid.out HP5, (Hid.out HW4).drewN _⟩
                  case measure => simp [intOf]
                | false =>
                  rw [hdec] at HL
                  have HNLT := hidden (of_decide_eq_false hdec)
                  clear hdec
                  have hne : ¬ k = l + 1 := fun e => by
                    have h1 := Hid.out HLT
                    have h2 := Hid.out HNLT
                    rw [e] at h1
                    exact h2 h1
                  have hne2 : ¬ l + 1 = k := fun e => hne e.symm
                  have HP5 : Hid (PEq (swp m k (l + 1)) pv b (k + 1) l) := (Hid.out HP4).swp (by omega) (by omega) (by omega) (by omega) (Hid.out HLT) (Hid.out HNLT)
                  have HG5 : Hid ((swp m k (l + 1)).getD pv 0 = v) := by
                    show _ = _
                    rw [swp_get m (by omega) (by omega), if_neg (by omega), if_neg (by omega)]
                    exact Hid.out HG2
                  have HN2 : Hid (∀ u n, Srow u g m tl → Srow (((u.drewN n).setCell ⟨g, k, none⟩ (.int .u32 ((m.getD (l + 1) 0 : Nat) : Int))).setCell ⟨g, l + 1, none⟩ (.int .u32 ((m.getD k 0 : Nat) : Int))) g (swp m k (l + 1)) tl) := fun u n h0 => by
                    have h1 := (h0.drewN n).set (j := k) (by omega) (m.getD (l + 1) 0)
                    exact h1.set (j := l + 1) (by rw [List.length_set]; omega) (m.getD k 0)
                  clear HLT HNLT
                  generalize hx3 : m.getD pv 0 = x3 at hcA HL
                  generalize hx4 : m.getD (l + 1) 0 = x4 at hcl HL HN2
                  generalize hx5 : m.getD k 0 = x5 at hck HN2
                  clear hx3 hx4 hx5
                  go_wp2
                  go_quiet ((go_at_call 91; exact Calls.quiet_of_same (Hid.out HL _)))
                  go_wp2
                  go_region
                  all_goals go_wp2
                  go_roundw
                  case rel => exact ⟨k + 1, l, swp m k (l + 1), by omega, by omega, by omega, by omega, by simp, by simp, by rw [swp_len]; exact hml, Hid.out HN2 _ _ (Hid.out HS4), (Hid.out HT).swp ⟨by omega, by omega⟩ ⟨by omega, by omega⟩ (by omega), Hid.out HP5, Hid.out HG5, ((((Hid.out HW4).drewN _).setCell _ _).setCell _ _)⟩
                  case measure => simp [intOf]; try omega
              · have hkl3 : decide ((k : Int) ≤ (l : Int)) = false := by simp; omega
                have hkl4 : (l : Int) < (k : Int) := by omega
                clear hS hP hW
                go_wp2
                go_quiet (fail)
                go_wp2
                go_ret
                exact ⟨k, l, m, rfl, by omega, by omega, by omega, (Hid.out HS4).drewN _, Hid.out HT, Hid.out HP4, (Hid.out HG2).trans (Hid.out HV), (Hid.out HW4).drewN _⟩
        · have hkj3 : decide ((k : Int) ≤ (j : Int)) = false := by simp; omega
          have hkj4 : (j : Int) < (k : Int) := by omega
          clear hS hP hW
          go_wp2
          go_quiet (fail)
          go_wp2
          go_loopw [10] (fun x10 wr3 => x10 = .int .i64 (j : Int) ∧ Srow wr3 g m tl ∧ Only g w wr3) (fun x10 _ => 0)
          case atStart => exact ⟨rfl, (Hid.out HS2).drewN _, (Hid.out HW2).drewN _⟩
          case round =>
            obtain ⟨rfl, hS, hW⟩ := hrel
            have HS4 := hidden hS
            have HW4 := hidden hW
            clear hS hW
            go_wp2
            go_quiet (fail)
            go_wp2
            go_ret
            exact ⟨k, j, m, rfl, by omega, by omega, by omega, (Hid.out HS4).drewN _, Hid.out HT, Hid.out HP2, (Hid.out HG2).trans (Hid.out HV), (Hid.out HW4).drewN _⟩
  · have hap2 : ¬ a = pv := fun e => hap e.symm
    have hcp := h.cell (j := pv) (by omega)
    have hzp := h.thaw pv
    clear h hv
    have HN : Hid (∀ u n, Srow u g d tl → Srow (((u.drewN n).setCell ⟨g, a, none⟩ (.int .u32 ((d.getD pv 0 : Nat) : Int))).setCell ⟨g, pv, none⟩ (.int .u32 ((d.getD a 0 : Nat) : Int))) g (swp d a pv) tl) := fun u n h0 => by
      have h1 := (h0.drewN n).set (j := a) (by omega) (d.getD pv 0)
      exact h1.set (j := pv) (by rw [List.length_set]; omega) (d.getD a 0)
    have HGA : Hid ((swp d a pv).getD a 0 = v) := by
      show _ = _
      rw [swp_get d (by omega) (by omega), if_neg hap2, if_pos rfl]; exact (Hid.out HV).symm
    have HT0 : Hid (Turned d (swp d a pv) a b) := (Turned.refl d a b).swp ⟨by omega, by omega⟩ ⟨by omega, by omega⟩ (by omega)
    have hml0 : (swp d a pv).length = d.length := swp_len _ _ _
    generalize hx0 : d.getD pv 0 = x0 at hcp HN HV
    generalize hx1 : d.getD a 0 = x1 at hca HN
    generalize hm0 : swp d a pv = m0 at HN HGA HT0 hml0
    clear hx0 hx1 hm0
    go_enter Try.func92, Try.ntmps92
    go_wp2
    go_region
    all_goals go_wp2
    clear hca hza hcp hzp
    go_loopw [9, 10] (fun x9 x10 wr => ∃ (i j : Nat) (m : List Nat), a < i ∧ i ≤ j + 1 ∧ a ≤ j ∧ j < b ∧ x9 = .int .i64 (i : Int) ∧ x10 = .int .i64 (j : Int) ∧ m.length = d.length ∧ Srow wr g m tl ∧ Turned d m a b ∧ PEq m a b i j ∧ m.getD a 0 = v ∧ Only g w wr) (fun x9 x10 _ => b - (intOf x9).toNat)
    case atStart => exact ⟨a + 1, c, m0, by omega, by omega, by omega, by omega, by simp, rfl, hml0, Hid.out HN _ _ (Hid.out H), Hid.out HT0, ⟨fun p h1 h2 => by rw [show p = a from by omega]; exact Nat.le_refl _, fun q h1 h2 => by omega⟩, Hid.out HGA, ((((Only.refl g w).drewN _).setCell _ _).setCell _ _)⟩
    case round =>
      obtain ⟨i, j, m, hai, hij, haj, hjb, rfl, rfl, hml, hS, hT, hP, hGA, hW⟩ := hrel
      have HS := hidden hS
      have HT := hidden hT
      have HP := hidden hP
      have HG2 := hidden hGA
      have HW := hidden hW
      clear hS hT hP hGA hW
      go_wp2
      go_loopw [9] (fun x9 wr2 => ∃ (k : Nat), i ≤ k ∧ k ≤ j + 1 ∧ x9 = .int .i64 (k : Int) ∧ Srow wr2 g m tl ∧ PEq m a b k j ∧ Only g w wr2) (fun x9 _ => b - (intOf x9).toNat)
      case atStart => exact ⟨i, by omega, hij, rfl, Hid.out HS, Hid.out HP, Hid.out HW⟩
      case round =>
        obtain ⟨k, hik, hkj, rfl, hS, hP, hW⟩ := hrel
        have HS2 := hidden hS
        have HP2 := hidden hP
        have HW2 := hidden hW
        by_cases hkj2 : k ≤ j
        · have hkj3 : (k : Int) ≤ (j : Int) := by omega
          have hck := hS.cell (j := k) (by omega)
          have hcA := hS.cell (j := a) (by omega)
          clear hS hP hW
          have HL := hidden (fun u => less_any (m.getD a 0) (m.getD k 0) u)
          cases hdec : decide (m.getD a 0 < m.getD k 0) with
          | false =>
            rw [hdec] at HL
            have HP3 : Hid (PEq m a b (k + 1) j) := (Hid.out HP2).up (of_decide_eq_false hdec)
            clear hdec
            generalize hx3 : m.getD a 0 = x3 at hcA HL
            generalize hx4 : m.getD k 0 = x4 at hck HL
            clear hx3 hx4
            go_wp2
            go_quiet ((go_at_call 91; exact Calls.quiet_of_same (Hid.out HL _)))
            go_wp2
            go_roundw
            case rel => exact ⟨k + 1, by omega, by omega, by simp, (Hid.out HS2).drewN _, Hid.out HP3, (Hid.out HW2).drewN _⟩
            case measure => simp [intOf]; try omega
          | true =>
            rw [hdec] at HL
            have HLT := hidden (of_decide_eq_true hdec)
            clear hdec
            generalize hx3 : m.getD a 0 = x3 at hcA HL
            generalize hx4 : m.getD k 0 = x4 at hck HL
            clear hx3 hx4
            go_wp2
            go_quiet ((go_at_call 91; exact Calls.quiet_of_same (Hid.out HL _)))
            go_wp2
            clear hck hcA HL
            go_loopw [10] (fun x10 wr3 => ∃ (l : Nat), k ≤ l + 1 ∧ l ≤ j ∧ x10 = .int .i64 (l : Int) ∧ Srow wr3 g m tl ∧ PEq m a b k l ∧ Only g w wr3) (fun x10 _ => (intOf x10).toNat)
            case atStart => exact ⟨j, by omega, by omega, rfl, (Hid.out HS2).drewN _, Hid.out HP2, (Hid.out HW2).drewN _⟩
            case round =>
              obtain ⟨l, hkl, hlj, rfl, hS, hP, hW⟩ := hrel
              have HS4 := hidden hS
              have HP4 := hidden hP
              have HW4 := hidden hW
              by_cases hkl2 : k ≤ l
              · obtain ⟨l, rfl⟩ : ∃ l', l = l' + 1 := ⟨l - 1, by omega⟩
                have hkl3 : (k : Int) ≤ (l : Int) + 1 := by omega
                have hkl4 : ¬ (l : Int) + 1 < (k : Int) := by omega
                have hck := hS.cell (j := k) (by omega)
                have hzk := hS.thaw k
                have hcl := hS.cell (j := l + 1) (by omega)
                have hzl := hS.thaw (l + 1)
                have hcA := hS.cell (j := a) (by omega)
                clear hS hP hW
                have HL := hidden (fun u => less_any (m.getD a 0) (m.getD (l + 1) 0) u)
                cases hdec : decide (m.getD a 0 < m.getD (l + 1) 0) with
                | true =>
                  rw [hdec] at HL
                  have HP5 : Hid (PEq m a b k l) := (Hid.out HP4).down (of_decide_eq_true hdec)
                  clear hdec
                  generalize hx3 : m.getD a 0 = x3 at hcA HL
                  generalize hx4 : m.getD (l + 1) 0 = x4 at hcl HL
                  generalize hx5 : m.getD k 0 = x5 at hck
                  clear hx3 hx4 hx5
                  go_wp2
                  go_quiet ((go_at_call 91; exact Calls.quiet_of_same (Hid.out HL _)))
                  go_wp2
                  go_roundw
                  case rel => exact ⟨l, by omega, by omega, by simp, (Hid.out HS4).drewN _, Hid.out HP5, (Hid.out HW4).drewN _⟩
                  case measure => simp [intOf]
                | false =>
                  rw [hdec] at HL
                  have HNLT := hidden (of_decide_eq_false hdec)
                  clear hdec
                  have hne : ¬ k = l + 1 := fun e => by
                    have h1 := Hid.out HLT
                    have h2 := Hid.out HNLT
                    rw [e] at h1
                    exact h2 h1
                  have hne2 : ¬ l + 1 = k := fun e => hne e.symm
                  have HP5 : Hid (PEq (swp m k (l + 1)) a b (k + 1) l) := (Hid.out HP4).swp (by omega) (by omega) (by omega) (by omega) (Hid.out HLT) (Hid.out HNLT)
                  have HG5 : Hid ((swp m k (l + 1)).getD a 0 = v) := by
                    show _ = _
                    rw [swp_get m (by omega) (by omega), if_neg (by omega), if_neg (by omega)]
                    exact Hid.out HG2
                  have HN2 : Hid (∀ u n, Srow u g m tl → Srow (((u.drewN n).setCell ⟨g, k, none⟩ (.int .u32 ((m.getD (l + 1) 0 : Nat) : Int))).setCell ⟨g, l + 1, none⟩ (.int .u32 ((m.getD k 0 : Nat) : Int))) g (swp m k (l + 1)) tl) := fun u n h0 => by
                    have h1 := (h0.drewN n).set (j := k) (by omega) (m.getD (l + 1) 0)
                    exact h1.set (j := l + 1) (by rw [List.length_set]; omega) (m.getD k 0)
                  clear HLT HNLT
                  generalize hx3 : m.getD a 0 = x3 at hcA HL
                  generalize hx4 : m.getD (l + 1) 0 = x4 at hcl HL HN2
                  generalize hx5 : m.getD k 0 = x5 at hck HN2
                  clear hx3 hx4 hx5
                  go_wp2
                  go_quiet ((go_at_call 91; exact Calls.quiet_of_same (Hid.out HL _)))
                  go_wp2
                  go_region
                  all_goals go_wp2
                  go_roundw
                  case rel => exact ⟨k + 1, l, swp m k (l + 1), by omega, by omega, by omega, by omega, by simp, by simp, by rw [swp_len]; exact hml, Hid.out HN2 _ _ (Hid.out HS4), (Hid.out HT).swp ⟨by omega, by omega⟩ ⟨by omega, by omega⟩ (by omega), Hid.out HP5, Hid.out HG5, ((((Hid.out HW4).drewN _).setCell _ _).setCell _ _)⟩
                  case measure => simp [intOf]; try omega
              · have hkl3 : decide ((k : Int) ≤ (l : Int)) = false := by simp; omega
                have hkl4 : (l : Int) < (k : Int) := by omega
                clear hS hP hW
                go_wp2
                go_quiet (fail)
                go_wp2
                go_ret
                exact ⟨k, l, m, rfl, by omega, by omega, by omega, (Hid.out HS4).drewN _, Hid.out HT, Hid.out HP4, (Hid.out HG2).trans (Hid.out HV), (Hid.out HW4).drewN _⟩
        · have hkj3 : decide ((k : Int) ≤ (j : Int)) = false := by simp; omega
          have hkj4 : (j : Int) < (k : Int) := by omega
          clear hS hP hW
          go_wp2
          go_quiet (fail)
          go_wp2
          go_loopw [10] (fun x10 wr3 => x10 = .int .i64 (j : Int) ∧ Srow wr3 g m tl ∧ Only g w wr3) (fun x10 _ => 0)
          case atStart => exact ⟨rfl, (Hid.out HS2).drewN _, (Hid.out HW2).drewN _⟩
          case round =>
            obtain ⟨rfl, hS, hW⟩ := hrel
            have HS4 := hidden hS
            have HW4 := hidden hW
            clear hS hW
            go_wp2
            go_quiet (fail)
            go_wp2
            go_ret
            exact ⟨k, j, m, rfl, by omega, by omega, by omega, (Hid.out HS4).drewN _, Hid.out HT, Hid.out HP2, (Hid.out HG2).trans (Hid.out HV), (Hid.out HW4).drewN _⟩
end Go.Proofs.Ytodoenimlhldjaa
