/- The library's heap, walked. -/
import Derived.Test.YtodoenimlhldjaaQHeaps
namespace Go.Proofs.Ytodoenimlhldjaa
open Go.ChangeShapes Go.WideShapes Go.ChangeAt Go.RowKit
set_option linter.unusedVariables false
set_option maxRecDepth 20000 in
set_option maxHeartbeats 4000000 in
theorem sift_any (w : World) (g cap lo hi f : Nat) (d : List Nat) (tl : List Value) (h : Srow w g d tl) (hlo : lo ≤ hi) (hb : f + hi ≤ d.length) (hlen : d.length ≤ 1152921504606846976) (hH : Heap d f (lo + 1) hi) :
    Calls Try.prog 96 #[.slice (some ⟨g, 0, none⟩) d.length cap, .int .i64 (lo : Int), .int .i64 (hi : Int), .int .i64 (f : Int)] w fun e w' => e = .returned (.tuple #[]) ∧ ∃ m, Srow w' g m tl ∧ Turned d m f (f + hi) ∧ Heap m f lo hi ∧ Only g w w' := by
  have H := hidden h
  have HH := hidden hH
  clear h hH
  go_enter Try.func96, Try.ntmps96
  go_wp2
  go_loopw [8] (fun x8 wr => ∃ (r : Nat) (k : List Nat), r ≤ hi ∧ x8 = .int .i64 (r : Int) ∧ k.length = d.length ∧ Srow wr g k tl ∧ Turned d k f (f + hi) ∧ Sift k f lo hi r ∧ Only g w wr) (fun x8 _ => hi + 1 - (intOf x8).toNat)
  case atStart => exact ⟨lo, d, hlo, rfl, rfl, Hid.out H, Turned.refl _ _ _, Sift.start (Hid.out HH), Only.refl _ _⟩
  case round =>
    obtain ⟨r, k, hr, rfl, hkl, hS, hT, hI, hW⟩ := hrel
    have hle := hI.le
    have HS := hidden hS
    have HT := hidden hT
    have HI := hidden hI
    have HW := hidden hW
    by_cases hc : hi ≤ 2 * r + 1
    · have hc2 : (hi : Int) ≤ 2 * (r : Int) + 1 := by omega
      have HEND : Hid (Heap k f lo hi) := hI.leaf hc
      clear hS hT hI hW
      go_wp2
      go_end0
      exact ⟨rfl, k, Hid.out HS, Hid.out HT, Hid.out HEND, Hid.out HW⟩
    · have hc2 : ¬ (hi : Int) ≤ 2 * (r : Int) + 1 := by omega
      have hwr : IntKind.i64.wrap ((f : Int) + (r : Int)) = (f : Int) + (r : Int) := by rw [IntKind.wrap_i64]; omega
      have hcr := hS.cell (j := f + r) (by omega)
      have hzr := hS.thaw (f + r)
      have hc1 := hS.cell (j := f + (2 * r + 1)) (by omega)
      have hz1 := hS.thaw (f + (2 * r + 1))
      by_cases hd : 2 * r + 1 + 1 < hi
      · have hd2 : 2 * (r : Int) + 1 + 1 < (hi : Int) := by omega
        have hcc := hS.cell (j := f + (2 * r + 1) + 1) (by omega)
        have hzc := hS.thaw (f + (2 * r + 1) + 1)
        clear hS hT hI hW
        have HL1 := hidden (fun u => less_any (k.getD (f + (2 * r + 1)) 0) (k.getD (f + (2 * r + 1) + 1) 0) u)
        cases hdec : decide (k.getD (f + (2 * r + 1)) 0 < k.getD (f + (2 * r + 1) + 1) 0) with
        | true =>
          rw [hdec] at HL1
          have HLT1 := hidden (of_decide_eq_true hdec)
          clear hdec
          have HL2 := hidden (fun u => less_any (k.getD (f + r) 0) (k.getD (f + (2 * r + 1 + 1)) 0) u)
          have HBIG : Hid (∀ c, c < hi → (c = 2 * r + 1 ∨ c = 2 * r + 2) → k.getD (f + c) 0 ≤ k.getD (f + (2 * r + 1 + 1)) 0) := fun c h1 h2 => by
            have h3 := Hid.out HLT1
            rcases h2 with rfl | rfl
            · exact Nat.le_of_lt h3
            · exact Nat.le_refl _
          cases hdec2 : decide (k.getD (f + r) 0 < k.getD (f + (2 * r + 1 + 1)) 0) with
          | true =>
            rw [hdec2] at HL2
            have HLT2 := hidden (of_decide_eq_true hdec2)
            clear hdec2
            have HN : Hid (∀ w1 n, Srow w1 g k tl → Srow (((w1.drewN n).setCell ⟨g, f + r, none⟩ (.int .u32 ((k.getD (f + (2 * r + 1 + 1)) 0 : Nat) : Int))).setCell ⟨g, f + (2 * r + 1 + 1), none⟩ (.int .u32 ((k.getD (f + r) 0 : Nat) : Int))) g (swp k (f + r) (f + (2 * r + 1 + 1))) tl) := fun w1 n h0 => by
              have h1 := (h0.drewN n).set (j := f + r) (by omega) (k.getD (f + (2 * r + 1 + 1)) 0)
              have h2 := h1.set (j := f + (2 * r + 1 + 1)) (by rw [List.length_set]; omega) (k.getD (f + r) 0)
              exact h2
            have HNI : Hid (Sift (swp k (f + r) (f + (2 * r + 1 + 1))) f lo hi (2 * r + 1 + 1)) := (Hid.out HI).step (x := 2 * r + 1 + 1) (by omega) (by omega) (by omega) (Hid.out HLT2) (Hid.out HBIG)
            have HF : Hid (∀ w1 n, w1 = wr.drewN n → w1.cell? ⟨g, f + r, none⟩ = some (.int .u32 ((k.getD (f + r) 0 : Nat) : Int)) ∧ w1.cell? ⟨g, f + (2 * r + 1 + 1), none⟩ = some (.int .u32 ((k.getD (f + (2 * r + 1 + 1)) 0 : Nat) : Int)) ∧ w1.frozen? ⟨g, f + r, none⟩ = false ∧ w1.frozen? ⟨g, f + (2 * r + 1 + 1), none⟩ = false ∧ Srow w1 g k tl ∧ Only g w w1) := fun w1 n e => by
              subst e
              have h1 := (Hid.out HS).drewN n
              exact ⟨h1.cell (by omega), h1.cell (by omega), h1.thaw _, h1.thaw _, h1, (Hid.out HW).drewN n⟩
            generalize hx0 : k.getD (f + r) 0 = x0 at *
            generalize hx1 : k.getD (f + (2 * r + 1)) 0 = x1 at *
            generalize hx2 : k.getD (f + (2 * r + 1) + 1) 0 = x2 at HL1 hcc
            generalize hx3 : k.getD (f + (2 * r + 1 + 1)) 0 = x3 at HL2 HF HN
            clear hx0 hx1 hx2 hx3
            go_wp2
            go_quiet ((go_at_call 91; exact Calls.quiet_of_same (Hid.out HL1 _)))
            go_wp2
            generalize hwn : wr.drewN nq = w1
            have hwn2 := Hid.out HF _ _ hwn.symm
            clear hwn hcr hzr hc1 hz1 hcc hzc
            obtain ⟨hcr, hcx, hzr, hzx, hS1, hW1⟩ := hwn2
            have HS1 := hidden hS1
            have HW1 := hidden hW1
            clear hS1 hW1
            go_quiet ((go_at_call 91; exact Calls.quiet_of_same (Hid.out HL2 _)))
            go_wp2
            go_region
            all_goals go_wp2
            go_roundw
            case rel => exact ⟨2 * r + 1 + 1, swp k (f + r) (f + (2 * r + 1 + 1)), by omega, by simp, by rw [swp_len]; exact hkl, Hid.out HN _ _ (Hid.out HS1), (Hid.out HT).swp ⟨by omega, by omega⟩ ⟨by omega, by omega⟩ (by omega), Hid.out HNI, ((((Hid.out HW1).drewN _).setCell _ _).setCell _ _)⟩
            case measure => simp [intOf]; omega
          | false =>
            rw [hdec2] at HL2
            have HLT2 := hidden (of_decide_eq_false hdec2)
            clear hdec2
            have HEND : Hid (Heap k f lo hi) := (Hid.out HI).stop fun c h1 h2 => Nat.le_trans (Hid.out HBIG c h1 h2) (Nat.le_of_not_lt (Hid.out HLT2))
            have HF : Hid (∀ w1 n, w1 = wr.drewN n → w1.cell? ⟨g, f + r, none⟩ = some (.int .u32 ((k.getD (f + r) 0 : Nat) : Int)) ∧ w1.cell? ⟨g, f + (2 * r + 1 + 1), none⟩ = some (.int .u32 ((k.getD (f + (2 * r + 1 + 1)) 0 : Nat) : Int)) ∧ w1.frozen? ⟨g, f + r, none⟩ = false ∧ w1.frozen? ⟨g, f + (2 * r + 1 + 1), none⟩ = false ∧ Srow w1 g k tl ∧ Only g w w1) := fun w1 n e => by
              subst e
              have h1 := (Hid.out HS).drewN n
              exact ⟨h1.cell (by omega), h1.cell (by omega), h1.thaw _, h1.thaw _, h1, (Hid.out HW).drewN n⟩
            generalize hx0 : k.getD (f + r) 0 = x0 at *
            generalize hx1 : k.getD (f + (2 * r + 1)) 0 = x1 at *
            generalize hx2 : k.getD (f + (2 * r + 1) + 1) 0 = x2 at HL1 hcc
            generalize hx3 : k.getD (f + (2 * r + 1 + 1)) 0 = x3 at HL2 HF
            clear hx0 hx1 hx2 hx3
            go_wp2
            go_quiet ((go_at_call 91; exact Calls.quiet_of_same (Hid.out HL1 _)))
            go_wp2
            generalize hwn : wr.drewN nq = w1
            have hwn2 := Hid.out HF _ _ hwn.symm
            clear hwn hcr hzr hc1 hz1 hcc hzc
            obtain ⟨hcr, hcx, hzr, hzx, hS1, hW1⟩ := hwn2
            have HS1 := hidden hS1
            have HW1 := hidden hW1
            clear hS1 hW1
            go_quiet ((go_at_call 91; exact Calls.quiet_of_same (Hid.out HL2 _)))
            go_wp2
            first | go_end0 | refine bodyPost_ret (results_none rfl _ _ _) rfl ?_
            exact ⟨rfl, k, (Hid.out HS1).drewN _, Hid.out HT, Hid.out HEND, (Hid.out HW1).drewN _⟩
        | false =>
          rw [hdec] at HL1
          have HLT1 := hidden (of_decide_eq_false hdec)
          clear hdec
          have HL2 := hidden (fun u => less_any (k.getD (f + r) 0) (k.getD (f + (2 * r + 1)) 0) u)
          have HBIG : Hid (∀ c, c < hi → (c = 2 * r + 1 ∨ c = 2 * r + 2) → k.getD (f + c) 0 ≤ k.getD (f + (2 * r + 1)) 0) := fun c h1 h2 => by
            have h3 := Hid.out HLT1
            rcases h2 with rfl | rfl
            · exact Nat.le_refl _
            · exact Nat.le_of_not_lt h3
          cases hdec2 : decide (k.getD (f + r) 0 < k.getD (f + (2 * r + 1)) 0) with
          | true =>
            rw [hdec2] at HL2
            have HLT2 := hidden (of_decide_eq_true hdec2)
            clear hdec2
            have HN : Hid (∀ w1 n, Srow w1 g k tl → Srow (((w1.drewN n).setCell ⟨g, f + r, none⟩ (.int .u32 ((k.getD (f + (2 * r + 1)) 0 : Nat) : Int))).setCell ⟨g, f + (2 * r + 1), none⟩ (.int .u32 ((k.getD (f + r) 0 : Nat) : Int))) g (swp k (f + r) (f + (2 * r + 1))) tl) := fun w1 n h0 => by
              have h1 := (h0.drewN n).set (j := f + r) (by omega) (k.getD (f + (2 * r + 1)) 0)
              have h2 := h1.set (j := f + (2 * r + 1)) (by rw [List.length_set]; omega) (k.getD (f + r) 0)
              exact h2
            have HNI : Hid (Sift (swp k (f + r) (f + (2 * r + 1))) f lo hi (2 * r + 1)) := (Hid.out HI).step (x := 2 * r + 1) (by omega) (by omega) (by omega) (Hid.out HLT2) (Hid.out HBIG)
            have HF : Hid (∀ w1 n, w1 = wr.drewN n → w1.cell? ⟨g, f + r, none⟩ = some (.int .u32 ((k.getD (f + r) 0 : Nat) : Int)) ∧ w1.cell? ⟨g, f + (2 * r + 1), none⟩ = some (.int .u32 ((k.getD (f + (2 * r + 1)) 0 : Nat) : Int)) ∧ w1.frozen? ⟨g, f + r, none⟩ = false ∧ w1.frozen? ⟨g, f + (2 * r + 1), none⟩ = false ∧ Srow w1 g k tl ∧ Only g w w1) := fun w1 n e => by
              subst e
              have h1 := (Hid.out HS).drewN n
              exact ⟨h1.cell (by omega), h1.cell (by omega), h1.thaw _, h1.thaw _, h1, (Hid.out HW).drewN n⟩
            generalize hx0 : k.getD (f + r) 0 = x0 at *
            generalize hx1 : k.getD (f + (2 * r + 1)) 0 = x1 at *
            generalize hx2 : k.getD (f + (2 * r + 1) + 1) 0 = x2 at *
            clear hx0 hx1 hx2
            go_wp2
            go_quiet ((go_at_call 91; exact Calls.quiet_of_same (Hid.out HL1 _)))
            go_wp2
            generalize hwn : wr.drewN nq = w1
            have hwn2 := Hid.out HF _ _ hwn.symm
            clear hwn hcr hzr hc1 hz1 hcc hzc
            obtain ⟨hcr, hcx, hzr, hzx, hS1, hW1⟩ := hwn2
            have HS1 := hidden hS1
            have HW1 := hidden hW1
            clear hS1 hW1
            go_quiet ((go_at_call 91; exact Calls.quiet_of_same (Hid.out HL2 _)))
            go_wp2
            go_region
            all_goals go_wp2
            go_roundw
            case rel => exact ⟨2 * r + 1, swp k (f + r) (f + (2 * r + 1)), by omega, by simp, by rw [swp_len]; exact hkl, Hid.out HN _ _ (Hid.out HS1), (Hid.out HT).swp ⟨by omega, by omega⟩ ⟨by omega, by omega⟩ (by omega), Hid.out HNI, ((((Hid.out HW1).drewN _).setCell _ _).setCell _ _)⟩
            case measure => simp [intOf]; omega
          | false =>
            rw [hdec2] at HL2
            have HLT2 := hidden (of_decide_eq_false hdec2)
            clear hdec2
            have HEND : Hid (Heap k f lo hi) := (Hid.out HI).stop fun c h1 h2 => Nat.le_trans (Hid.out HBIG c h1 h2) (Nat.le_of_not_lt (Hid.out HLT2))
            have HF : Hid (∀ w1 n, w1 = wr.drewN n → w1.cell? ⟨g, f + r, none⟩ = some (.int .u32 ((k.getD (f + r) 0 : Nat) : Int)) ∧ w1.cell? ⟨g, f + (2 * r + 1), none⟩ = some (.int .u32 ((k.getD (f + (2 * r + 1)) 0 : Nat) : Int)) ∧ w1.frozen? ⟨g, f + r, none⟩ = false ∧ w1.frozen? ⟨g, f + (2 * r + 1), none⟩ = false ∧ Srow w1 g k tl ∧ Only g w w1) := fun w1 n e => by
              subst e
              have h1 := (Hid.out HS).drewN n
              exact ⟨h1.cell (by omega), h1.cell (by omega), h1.thaw _, h1.thaw _, h1, (Hid.out HW).drewN n⟩
            generalize hx0 : k.getD (f + r) 0 = x0 at *
            generalize hx1 : k.getD (f + (2 * r + 1)) 0 = x1 at *
            generalize hx2 : k.getD (f + (2 * r + 1) + 1) 0 = x2 at *
            clear hx0 hx1 hx2
            go_wp2
            go_quiet ((go_at_call 91; exact Calls.quiet_of_same (Hid.out HL1 _)))
            go_wp2
            generalize hwn : wr.drewN nq = w1
            have hwn2 := Hid.out HF _ _ hwn.symm
            clear hwn hcr hzr hc1 hz1 hcc hzc
            obtain ⟨hcr, hcx, hzr, hzx, hS1, hW1⟩ := hwn2
            have HS1 := hidden hS1
            have HW1 := hidden hW1
            clear hS1 hW1
            go_quiet ((go_at_call 91; exact Calls.quiet_of_same (Hid.out HL2 _)))
            go_wp2
            first | go_end0 | refine bodyPost_ret (results_none rfl _ _ _) rfl ?_
            exact ⟨rfl, k, (Hid.out HS1).drewN _, Hid.out HT, Hid.out HEND, (Hid.out HW1).drewN _⟩
      · have hd2 : decide (2 * (r : Int) + 1 + 1 < (hi : Int)) = false := by simp; omega
        clear hS hT hI hW
        have HL2 := hidden (fun u => less_any (k.getD (f + r) 0) (k.getD (f + (2 * r + 1)) 0) u)
        have HBIG : Hid (∀ c, c < hi → (c = 2 * r + 1 ∨ c = 2 * r + 2) → k.getD (f + c) 0 ≤ k.getD (f + (2 * r + 1)) 0) := fun c h1 h2 => by
          have e : c = 2 * r + 1 := by omega
          rw [e]
          exact Nat.le_refl _
        cases hdec2 : decide (k.getD (f + r) 0 < k.getD (f + (2 * r + 1)) 0) with
        | true =>
          rw [hdec2] at HL2
          have HLT2 := hidden (of_decide_eq_true hdec2)
          clear hdec2
          have HN : Hid (∀ w1 n, Srow w1 g k tl → Srow (((w1.drewN n).setCell ⟨g, f + r, none⟩ (.int .u32 ((k.getD (f + (2 * r + 1)) 0 : Nat) : Int))).setCell ⟨g, f + (2 * r + 1), none⟩ (.int .u32 ((k.getD (f + r) 0 : Nat) : Int))) g (swp k (f + r) (f + (2 * r + 1))) tl) := fun w1 n h0 => by
            have h1 := (h0.drewN n).set (j := f + r) (by omega) (k.getD (f + (2 * r + 1)) 0)
            have h2 := h1.set (j := f + (2 * r + 1)) (by rw [List.length_set]; omega) (k.getD (f + r) 0)
            exact h2
          have HNI : Hid (Sift (swp k (f + r) (f + (2 * r + 1))) f lo hi (2 * r + 1)) := (Hid.out HI).step (x := 2 * r + 1) (by omega) (by omega) (by omega) (Hid.out HLT2) (Hid.out HBIG)
          have HF : Hid (∀ w1 n, w1 = wr.drewN n → w1.cell? ⟨g, f + r, none⟩ = some (.int .u32 ((k.getD (f + r) 0 : Nat) : Int)) ∧ w1.cell? ⟨g, f + (2 * r + 1), none⟩ = some (.int .u32 ((k.getD (f + (2 * r + 1)) 0 : Nat) : Int)) ∧ w1.frozen? ⟨g, f + r, none⟩ = false ∧ w1.frozen? ⟨g, f + (2 * r + 1), none⟩ = false ∧ Srow w1 g k tl ∧ Only g w w1) := fun w1 n e => by
            subst e
            have h1 := (Hid.out HS).drewN n
            exact ⟨h1.cell (by omega), h1.cell (by omega), h1.thaw _, h1.thaw _, h1, (Hid.out HW).drewN n⟩
          generalize hx0 : k.getD (f + r) 0 = x0 at *
          generalize hx1 : k.getD (f + (2 * r + 1)) 0 = x1 at *
          clear hx0 hx1
          go_wp2
          go_quiet (fail)
          go_wp2
          generalize hwn : wr.drewN nq = w1
          have hwn2 := Hid.out HF _ _ hwn.symm
          clear hwn hcr hzr hc1 hz1
          obtain ⟨hcr, hcx, hzr, hzx, hS1, hW1⟩ := hwn2
          have HS1 := hidden hS1
          have HW1 := hidden hW1
          clear hS1 hW1
          go_quiet ((go_at_call 91; exact Calls.quiet_of_same (Hid.out HL2 _)))
          go_wp2
          go_region
          all_goals go_wp2
          go_roundw
          case rel => exact ⟨2 * r + 1, swp k (f + r) (f + (2 * r + 1)), by omega, by simp, by rw [swp_len]; exact hkl, Hid.out HN _ _ (Hid.out HS1), (Hid.out HT).swp ⟨by omega, by omega⟩ ⟨by omega, by omega⟩ (by omega), Hid.out HNI, ((((Hid.out HW1).drewN _).setCell _ _).setCell _ _)⟩
          case measure => simp [intOf]; omega
        | false =>
          rw [hdec2] at HL2
          have HLT2 := hidden (of_decide_eq_false hdec2)
          clear hdec2
          have HEND : Hid (Heap k f lo hi) := (Hid.out HI).stop fun c h1 h2 => Nat.le_trans (Hid.out HBIG c h1 h2) (Nat.le_of_not_lt (Hid.out HLT2))
          have HF : Hid (∀ w1 n, w1 = wr.drewN n → w1.cell? ⟨g, f + r, none⟩ = some (.int .u32 ((k.getD (f + r) 0 : Nat) : Int)) ∧ w1.cell? ⟨g, f + (2 * r + 1), none⟩ = some (.int .u32 ((k.getD (f + (2 * r + 1)) 0 : Nat) : Int)) ∧ w1.frozen? ⟨g, f + r, none⟩ = false ∧ w1.frozen? ⟨g, f + (2 * r + 1), none⟩ = false ∧ Srow w1 g k tl ∧ Only g w w1) := fun w1 n e => by
            subst e
            have h1 := (Hid.out HS).drewN n
            exact ⟨h1.cell (by omega), h1.cell (by omega), h1.thaw _, h1.thaw _, h1, (Hid.out HW).drewN n⟩
          generalize hx0 : k.getD (f + r) 0 = x0 at *
          generalize hx1 : k.getD (f + (2 * r + 1)) 0 = x1 at *
          clear hx0 hx1
          go_wp2
          go_quiet (fail)
          go_wp2
          generalize hwn : wr.drewN nq = w1
          have hwn2 := Hid.out HF _ _ hwn.symm
          clear hwn hcr hzr hc1 hz1
          obtain ⟨hcr, hcx, hzr, hzx, hS1, hW1⟩ := hwn2
          have HS1 := hidden hS1
          have HW1 := hidden hW1
          clear hS1 hW1
          go_quiet ((go_at_call 91; exact Calls.quiet_of_same (Hid.out HL2 _)))
          go_wp2
          first | go_end0 | refine bodyPost_ret (results_none rfl _ _ _) rfl ?_
          exact ⟨rfl, k, (Hid.out HS1).drewN _, Hid.out HT, Hid.out HEND, (Hid.out HW1).drewN _⟩
end Go.Proofs.Ytodoenimlhldjaa
