/- The library's sort of words, up to 64 of them. -/
import Derived.Test.YtfbmkgdpejgjpaaPME
import Derived.Deep.Cut
import Derived.Deep.CutRange
namespace Go.Proofs.Ytfbmkgdpejgjpaa
open Go.ChangeShapes Go.WideShapes Go.ChangeAt Go.RowKit
set_option linter.unusedVariables false
def PdqSays (w : World) (g : Nat) (d : List Nat) (tl : List Value) (A B : Nat) (e : Ending) (w' : World) : Prop :=
  e = .returned (.tuple #[]) ∧ ∃ m, Srow w' g m tl ∧ Turned d m A B ∧ SortedOn m A B ∧ Keep (· = g) w w'
set_option maxRecDepth 20000 in
set_option maxHeartbeats 8000000 in
theorem pdq_any (g cap : Nat) (tl : List Value) (N : Nat) : ∀ (w : World) (A B : Nat) (d : List Nat) (lim : Int), B - A = N → Srow w g d tl → A ≤ B → B ≤ d.length → d.length ≤ 64 → Low d A B →
    Calls Try.prog 70 #[.slice (some ⟨g, 0, none⟩) d.length cap, .int .i64 (A : Int), .int .i64 (B : Int), .int .i64 lim] w (PdqSays w g d tl A B) := by
  induction N using Nat.strongRecOn with
  | ind N ih =>
  intro w A B d lim0 hN h hAB hB hlen hlow
  have IH : Hid (∀ (w1 : World) (a b : Nat) (m : List Nat) (lim : Int), b - a < N → Srow w1 g m tl → a ≤ b → b ≤ m.length → m.length = d.length → Low m a b → Calls Try.prog 70 #[.slice (some ⟨g, 0, none⟩) d.length cap, .int .i64 (a : Int), .int .i64 (b : Int), .int .i64 lim] w1 (PdqSays w1 g m tl a b)) := fun w1 a b m lim h1 h2 h3 h4 h5 h6 => by
    have := ih (b - a) h1 w1 a b m lim rfl h2 h3 h4 (by omega) h6
    rw [h5] at this
    exact this
  have HP0 : Hid (Pq w w g d d tl A B A B) := ⟨h, Turned.refl _ _ _, fun p q h1 h2 h3 h4 => by omega, hlow, Keep.refl _ _⟩
  clear ih h hlow
  go_enter Try.func70, Try.ntmps70
  go_wp2
  go_loopw [1, 2, 3, 8, 9] (fun x1 x2 x3 x8 x9 wr => ∃ (a b : Nat) (lim : Int) (bb bp : Bool) (m : List Nat), x1 = .int .i64 (a : Int) ∧ x2 = .int .i64 (b : Int) ∧ x3 = .int .i64 lim ∧ x8 = .bool bb ∧ x9 = .bool bp ∧ A ≤ a ∧ a ≤ b ∧ b ≤ B ∧ Pq w wr g d m tl A B a b) (fun x1 x2 _ _ _ _ => (intOf x2).toNat - (intOf x1).toNat)
  case atStart => exact ⟨A, B, lim0, true, true, d, rfl, rfl, rfl, rfl, rfl, Nat.le_refl _, hAB, Nat.le_refl _, Hid.out HP0⟩
  case round =>
    obtain ⟨a, b, lim, bb, bp, m, rfl, rfl, rfl, rfl, rfl, hAa, hab, hbB, hP⟩ := hrel
    have hml := hP.len
    have hbd : b ≤ d.length := by omega
    obtain ⟨n, hn⟩ : ∃ n : Nat, (b : Int) - (a : Int) = (n : Int) := ⟨b - a, by omega⟩
    by_cases h12 : n ≤ 12
    · have h122 : (n : Int) ≤ 12 := by omega
      have H89 : Hid (Calls Try.prog 72 #[.slice (some ⟨g, 0, none⟩) d.length cap, .int .i64 (a : Int), .int .i64 (b : Int)] wr fun e w' => e = .returned (.tuple #[]) ∧ ∃ k, Srow w' g k tl ∧ Turned d k A B ∧ SortedOn k A B ∧ Keep (· = g) w w') := by
        have := insertion_any wr g cap a b m tl hP.row hab (by omega) (by omega)
        rw [hml] at this
        refine this.mono ?_
        rintro e w' ⟨he, k, h1, h2, h3, h4⟩
        have hP2 := hP.turned h1 h2 (Keep.of_only h4) hAa hab hbB hB
        exact ⟨he, k, h1, hP2.tur, hP2.done h3, hP2.keep⟩
      clear hP IH HP0 hml
      go_wp2_with (go_at_call 72; refine (Hid.out H89).mono ?_; rintro e w1 ⟨rfl, hk⟩; have HK := hidden hk; clear hk)
      first | go_end0 | refine bodyPost_ret (results_none rfl _ _ _) rfl ?_
      exact ⟨rfl, Hid.out HK⟩
    · have h122 : ¬ (n : Int) ≤ 12 := by omega
      by_cases hl0 : lim = 0
      · subst hl0
        have H90 : Hid (Calls Try.prog 73 #[.slice (some ⟨g, 0, none⟩) d.length cap, .int .i64 (a : Int), .int .i64 (b : Int)] wr fun e w' => e = .returned (.tuple #[]) ∧ ∃ k, Srow w' g k tl ∧ Turned d k A B ∧ SortedOn k A B ∧ Keep (· = g) w w') := by
          have := heapsort_any wr g cap a b m tl hP.row (by omega) (by omega) (by omega)
          rw [hml] at this
          refine this.mono ?_
          rintro e w' ⟨he, k, h1, h2, h3, h4⟩
          have hP2 := hP.turned h1 h2 (Keep.of_only h4) hAa hab hbB hB
          exact ⟨he, k, h1, hP2.tur, hP2.done h3, hP2.keep⟩
        clear hP IH HP0 hml
        go_wp2_with (go_at_call 73; refine (Hid.out H90).mono ?_; rintro e w1 ⟨rfl, hk⟩; have HK := hidden hk; clear hk)
        first | go_end0 | refine bodyPost_ret (results_none rfl _ _ _) rfl ?_
        exact ⟨rfl, Hid.out HK⟩
      · have HPQ := hidden hP
        have hn13 : a + 12 < b := by omega
        clear hP
        go_upto_if 35 with (fail)
        go_cut [3] from 19 to 133 (fun x3 wx => ∃ (lim : Int) (m : List Nat), x3 = .int .i64 lim ∧ Pq w wx g d m tl A B a b)
        case first =>
          have H91 : Hid (Calls Try.prog 74 #[.slice (some ⟨g, 0, none⟩) d.length cap, .int .i64 (a : Int), .int .i64 (b : Int)] wr fun e w' => e = .returned (.tuple #[]) ∧ ∃ k, Pq w w' g d k tl A B a b) := by
            have hP := Hid.out HPQ
            have := breaks_any wr g cap a b m tl hP.row hn13 (by omega) (by omega)
            rw [hml] at this
            refine this.mono ?_
            rintro e w' ⟨he, k, h1, h2, h3⟩
            exact ⟨he, k, hP.turned h1 h2 h3 hAa hab hbB hB⟩
          cases bb
          · go_wp2_with (go_at_call 74; refine (Hid.out H91).mono ?_; rintro e w1 ⟨rfl, k, hk⟩; have HK := hidden hk; clear hk)
            go_meet
            case rel => exact ⟨_, k, rfl, Hid.out HK⟩
          · go_wp2
            go_meet
            case rel => exact ⟨lim, m, rfl, Hid.out HPQ⟩
        case rest =>
          obtain ⟨lim2, m2, rfl, hP2⟩ := hcut
          have hml2 := hP2.len
          have HPA := hidden hP2
          have H92 : Hid (Calls Try.prog 75 #[.slice (some ⟨g, 0, none⟩) d.length cap, .int .i64 (a : Int), .int .i64 (b : Int)] wc fun e w' => ∃ (x : Nat) (hint : Int), e = .returned (.tuple #[.int .i64 (x : Int), .int .i64 hint]) ∧ a ≤ x ∧ x < b ∧ Pq w w' g d m2 tl A B a b) := by
            have := pivot_any wc g cap a b m2 tl hP2.row hn13 (by omega) (by omega)
            rw [hml2] at this
            refine this.mono ?_
            rintro e w' ⟨x, hint, he, h1, h2, h3⟩
            exact ⟨x, hint, he, h1.1, h1.2, hP2.turned h2 (Turned.refl _ _ _) (Keep.of_below h3) hAa hab hbB hB⟩
          clear hP2 HPQ hml hl0 m
          go_upto_if 50 with (go_at_call 75; refine (Hid.out H92).mono ?_; rintro e w1 ⟨pv, hint, rfl, hv1, hv2, hP3⟩; have HPB := hidden hP3; clear hP3)
          go_cut [11, 12] from 19 to 133 (fun x11 x12 wx => ∃ (pv : Nat) (hint : Int) (m : List Nat), x11 = .int .i64 (pv : Int) ∧ x12 = .int .i64 hint ∧ a ≤ pv ∧ pv < b ∧ Pq w wx g d m tl A B a b)
          case first =>
            by_cases hh : hint = 2
            · subst hh
              have hpv : (b : Int) - 1 - ((pv : Int) - (a : Int)) = ((b - 1 - (pv - a) : Nat) : Int) := by omega
              have H93 : Hid (Calls Try.prog 76 #[.slice (some ⟨g, 0, none⟩) d.length cap, .int .i64 (a : Int), .int .i64 (b : Int)] w1 fun e w' => e = .returned (.tuple #[]) ∧ ∃ k, Pq w w' g d k tl A B a b) := by
                have hP := Hid.out HPB
                have := reverse_any w1 g cap a b m2 tl hP.row (by omega) (by omega) (by omega)
                rw [hml2] at this
                refine this.mono ?_
                rintro e w' ⟨he, k, h1, h2, h3⟩
                exact ⟨he, k, hP.turned h1 h2 (Keep.of_only h3) hAa hab hbB hB⟩
              go_wp2_with (go_at_call 76; refine (Hid.out H93).mono ?_; rintro e w2 ⟨rfl, k, hk⟩; have HK := hidden hk; clear hk)
              go_meet
              case rel => first | exact ⟨b - 1 - (pv - a), 1, k, by simp; omega, rfl, by omega, by omega, Hid.out HK⟩ | exact ⟨b - 1 - (pv - a), 1, k, rfl, rfl, by omega, by omega, Hid.out HK⟩
            · go_wp2
              go_meet
              case rel => exact ⟨pv, hint, m2, rfl, rfl, hv1, hv2, Hid.out HPB⟩
          case rest =>
            clear HPA HPB H92 hv1 hv2 hml2 pv hint m2
            obtain ⟨pv, hint, m, rfl, rfl, hv1, hv2, hP⟩ := hcut
            have hml := hP.len
            have HPC := hidden hP
            clear hP
            generalize wc = W2 at HPC ⊢
            go_upto_region 15 with (fail)
            go_cut [68] from 19 to 133 (fun x68 wx => ∃ t : Bool, x68 = .bool t ∧ wx = W2)
            case first =>
              clear HPC IH HP0
              cases bb <;> cases bp <;> by_cases hh : hint = 1
              all_goals
                go_wp2
                go_meet
                case rel => exact ⟨_, rfl, rfl⟩
            case rest =>
              obtain ⟨t, rfl, rfl⟩ := hcut
              go_upto_if 68 with (fail)
              go_cut [] from 19 to 133 (fun wx => ∃ m : List Nat, Pq w wx g d m tl A B a b)
              case first =>
                have H94 : Hid (Calls Try.prog 77 #[.slice (some ⟨g, 0, none⟩) d.length cap, .int .i64 (a : Int), .int .i64 (b : Int)] wc fun e w' => ∃ (f : Bool) (k : List Nat), e = .returned (.bool f) ∧ Pq w w' g d k tl A B a b ∧ (f = true → SortedOn k a b)) := by
                  have hP := Hid.out HPC
                  have := partins_any wc g cap a b m tl hP.row (by omega) (by omega) (by omega) hP.low
                  rw [hml] at this
                  refine this.mono ?_
                  rintro e w' ⟨f, k, he, h1, h2, h3, h4⟩
                  exact ⟨f, k, he, hP.turned h1 h2 (Keep.of_only h4) hAa hab hbB hB, h3⟩
                cases t
                · go_wp2
                  go_meet
                  case rel => exact ⟨m, Hid.out HPC⟩
                · go_wp2_with (go_at_call 77; refine (Hid.out H94).mono ?_; rintro e w2 ⟨f, k, rfl, hk, hs⟩; have HK := hidden hk; have HS := hidden hs; clear hk hs; cases f)
                  · go_meet
                    case rel => exact ⟨k, Hid.out HK⟩
                  · first | go_end0 | refine bodyPost_ret (results_none rfl _ _ _) rfl ?_
                    exact ⟨rfl, k, (Hid.out HK).row, (Hid.out HK).tur, (Hid.out HK).done (Hid.out HS (by first | rfl | trivial)), (Hid.out HK).keep⟩
              case rest =>
                clear HPC hml m
                obtain ⟨m, hP⟩ := hcut
                have hml := hP.len
                have HPD := hidden hP
                have hca := hP.row.cell (j := a - 1) (by omega)
                have hcv := hP.row.cell (j := pv) (by omega)
                clear hP
                generalize wc = W3 at HPD hca hcv ⊢
                go_upto_region 17 with (fail)
                go_cut [87] from 19 to 133 (fun x87 wx => ∃ t : Bool, x87 = .bool t ∧ (t = true → 0 < a ∧ m.getD pv 0 ≤ m.getD (a - 1) 0) ∧ ∃ nd, wx = W3.drewN nd)
                case first =>
                  have HX : Hid (∀ x y, x = m.getD (a - 1) 0 → y = m.getD pv 0 → (!decide (x < y)) = true → m.getD pv 0 ≤ m.getD (a - 1) 0) := fun x y h1 h2 h3 => by
                    subst h1 h2
                    simp only [Bool.not_eq_true', decide_eq_false_iff_not] at h3
                    omega
                  obtain ⟨xa, hxa⟩ : ∃ xa, xa = m.getD (a - 1) 0 := ⟨_, rfl⟩
                  obtain ⟨xv, hxv⟩ : ∃ xv, xv = m.getD pv 0 := ⟨_, rfl⟩
                  rw [← hxa] at hca
                  rw [← hxv] at hcv
                  have HXA := hidden hxa
                  have HXV := hidden hxv
                  have hpd : pv < d.length := by omega
                  clear HPD IH HP0 hxa hxv
                  by_cases ha0 : a = 0
                  · have ha1 : decide ((0 : Int) < (a : Int)) = false := by simp; omega
                    have ha3 : decide (0 < a) = false := by simp; omega
                    clear ha0
                    go_quiet (fail)
                    go_wp2
                    go_meet
                    case rel => exact ⟨false, rfl, (fun h => by cases h), _, rfl⟩
                  · have ha1 : (0 : Int) < (a : Int) := by omega
                    have hta : ((a : Int) - 1).toNat = a - 1 := by omega
                    have had : (a : Int) - 1 < (d.length : Int) := by omega
                    have ha2 : 0 < a := by omega
                    go_quiet ((go_at_call 78; exact Calls.quiet_of_same (less_any xa xv _)))
                    go_wp2
                    go_meet
                    case rel => exact ⟨_, rfl, fun h => ⟨ha2, Hid.out HX xa xv (Hid.out HXA) (Hid.out HXV) h⟩, _, rfl⟩
                case rest =>
                  obtain ⟨t, rfl, ht, nd, rfl⟩ := hcut
                  have hP := Hid.out HPD
                  have hPn : Pq w (W3.drewN nd) g d m tl A B a b := ⟨hP.row, hP.tur, hP.ord, hP.low, hP.keep.drewN nd⟩
                  clear hP HPD hca hcv
                  generalize W3.drewN nd = W4 at hPn ⊢
                  have HPE := hidden hPn
                  cases t
                  · clear ht
                    have H97 : Hid (Calls Try.prog 80 #[.slice (some ⟨g, 0, none⟩) d.length cap, .int .i64 (a : Int), .int .i64 (b : Int), .int .i64 (pv : Int)] W4 fun e w' => ∃ (j : Nat) (f : Bool) (k : List Nat), e = .returned (.tuple #[.int .i64 (j : Int), .bool f]) ∧ a ≤ j ∧ j < b ∧ Mid k a b j ∧ Pq w w' g d k tl A B a b ∧ ((j : Int) - (a : Int) < (b : Int) - (j : Int) ∨ ¬ (j : Int) - (a : Int) < (b : Int) - (j : Int))) := by
                      have := part_any W4 g cap a b pv m tl hPn.row hv1 hv2 (by omega) (by omega)
                      rw [hml] at this
                      refine this.mono ?_
                      rintro e w' ⟨j, f, k, he, h1, h2, h3, h4, h5, h6⟩
                      exact ⟨j, f, k, he, h1, h2, h5, hPn.turned h3 h4 (Keep.of_only h6) hAa hab hbB hB, by omega⟩
                    clear hPn HPE
                    have HIL : Hid (∀ (w2 : World) (j : Nat) (k : List Nat), a ≤ j → j < b → Mid k a b j → Pq w w2 g d k tl A B a b → Calls Try.prog 70 #[.slice (some ⟨g, 0, none⟩) d.length cap, .int .i64 (a : Int), .int .i64 (j : Int), .int .i64 lim2] w2 fun e w' => e = .returned (.tuple #[]) ∧ ∃ k2, Pq w w' g d k2 tl A B (j + 1) b) := fun w2 j k h1 h2 h3 h4 => by
                      have hl := h4.len
                      refine (Hid.out IH w2 a j k lim2 (by omega) h4.row h1 (by omega) hl (fun ha p p1 p2 => h4.low ha p p1 (by omega))).mono ?_
                      rintro e w' ⟨he, k2, r1, r2, r3, r4⟩
                      exact ⟨he, k2, h4.left h3 r1 r2 r3 r4 hAa h1 h2 hbB hB⟩
                    have HIR : Hid (∀ (w2 : World) (j : Nat) (k : List Nat), a ≤ j → j < b → Mid k a b j → Pq w w2 g d k tl A B a b → Calls Try.prog 70 #[.slice (some ⟨g, 0, none⟩) d.length cap, .int .i64 ((j : Int) + 1), .int .i64 (b : Int), .int .i64 lim2] w2 fun e w' => e = .returned (.tuple #[]) ∧ ∃ k2, Pq w w' g d k2 tl A B a j) := fun w2 j k h1 h2 h3 h4 => by
                      have hl := h4.len
                      have := Hid.out IH w2 (j + 1) b k lim2 (by omega) h4.row (by omega) (by omega) hl (fun ha p p1 p2 => by rw [Nat.add_sub_cancel]; exact h3.high p (by omega) p2)
                      rw [show ((j + 1 : Nat) : Int) = (j : Int) + 1 by omega] at this
                      refine this.mono ?_
                      rintro e w' ⟨he, k2, r1, r2, r3, r4⟩
                      exact ⟨he, k2, h4.right h3 r1 r2 r3 r4 hAa h1 h2 hbB hB⟩
                    clear IH HP0
                    go_wp2_with (first
                      | (go_at_call 80; refine (Hid.out H97).mono ?_; rintro e w2 ⟨j, f, k, rfl, hj1, hj2, hm3, hk3, hor⟩; have HL := hidden (Hid.out HIL w2 j k hj1 hj2 hm3 hk3); have HR := hidden (Hid.out HIR w2 j k hj1 hj2 hm3 hk3); clear hm3 hk3; rcases hor with hor | hor)
                      | (go_at_call 70; (first | (with_reducible refine (Hid.out HL).mono ?_) | (with_reducible refine (Hid.out HR).mono ?_)); rintro e w3 ⟨rfl, k2, hk⟩; have HK := hidden hk; clear hk))
                    · go_roundw
                      case rel => exact ⟨j + 1, b, lim2, _, f, k2, by simp, rfl, rfl, rfl, rfl, by omega, by omega, hbB, Hid.out HK⟩
                      case measure => simp [intOf]; omega
                    · go_roundw
                      case rel => exact ⟨a, j, lim2, _, f, k2, rfl, rfl, rfl, rfl, rfl, hAa, by omega, by omega, Hid.out HK⟩
                      case measure => simp [intOf]; omega
                  · obtain ⟨ha0, hle⟩ := ht rfl
                    have H96 : Hid (Calls Try.prog 79 #[.slice (some ⟨g, 0, none⟩) d.length cap, .int .i64 (a : Int), .int .i64 (b : Int), .int .i64 (pv : Int)] W4 fun e w' => ∃ (i : Nat) (k : List Nat), e = .returned (.int .i64 (i : Int)) ∧ a < i ∧ i ≤ b ∧ Pq w w' g d k tl A B i b) := by
                      have := parteq_any W4 g cap a b pv m tl hPn.row hv1 hv2 (by omega) (by omega)
                      rw [hml] at this
                      refine this.mono ?_
                      rintro e w' ⟨i, j, k, he, h1, h2, h3, h4, h5, h6, h7, h8⟩
                      have hP2 := hPn.turned h4 h5 (Keep.of_only h8) hAa hab hbB hB
                      exact ⟨i, k, he, h1, h2, hP2.equal ha0 (by rw [h7, h5.out (a - 1) (by omega)]; exact hle) h6 hAa h1 h2 hbB⟩
                    clear hPn HPE IH HP0 hle ht
                    go_wp2_with (go_at_call 79; refine (Hid.out H96).mono ?_; rintro e w2 ⟨i, k, rfl, hi1, hi2, hk⟩; have HK := hidden hk; clear hk)
                    go_roundw
                    case rel => exact ⟨i, b, lim2, bb, bp, k, rfl, rfl, rfl, rfl, rfl, by omega, hi2, hbB, Hid.out HK⟩
                    case measure => simp [intOf]; omega
end Go.Proofs.Ytfbmkgdpejgjpaa
