/- The library's sort of words, up to 64 of them. -/
import Derived.Test.YtkpcajmphhdmiaaRMAN
import Derived.Deep.Cut
import Derived.Deep.CutRange
import Derived.Test.YtkpcajmphhdmiaaRMAH
import Derived.Laws.OwnMore
namespace Go.Proofs.Ytkpcajmphhdmiaa
open Go.ChangeShapes Go.WideShapes Go.ChangeAt Go.RowKit
set_option linter.unusedVariables false
def PdqSays (w : World) (g : Nat) (d : List Nat) (tl : List Value) (A B : Nat) (e : Ending) (w' : World) : Prop :=
  e = .returned (.tuple #[]) ∧ ∃ m, Srow w' g m tl ∧ Turned d m A B ∧ SortedOn m A B ∧ Keep (· = g) w w'
set_option maxRecDepth 20000 in
set_option maxHeartbeats 8000000 in
theorem pdq_any (g cap : Nat) (tl : List Value) (N : Nat) : ∀ (w : World) (A B : Nat) (d : List Nat) (lim : Int), B - A = N → Srow w g d tl → A ≤ B → B ≤ d.length → d.length ≤ 64 → Low d A B →
    Calls Try.prog 79 #[.slice (some ⟨g, 0, none⟩) d.length cap, .int .i64 (A : Int), .int .i64 (B : Int), .int .i64 lim] w (PdqSays w g d tl A B) := by
  induction N using Nat.strongRecOn with
  | ind N ih =>
  intro w A B d lim0 hN h hAB hB hlen hlow
  have IH : Hid (∀ (w1 : World) (a b : Nat) (m : List Nat) (lim : Int), b - a < N → Srow w1 g m tl → a ≤ b → b ≤ m.length → m.length = d.length → Low m a b → Calls Try.prog 79 #[.slice (some ⟨g, 0, none⟩) d.length cap, .int .i64 (a : Int), .int .i64 (b : Int), .int .i64 lim] w1 (PdqSays w1 g m tl a b)) := fun w1 a b m lim h1 h2 h3 h4 h5 h6 => by
    have := ih (b - a) h1 w1 a b m lim rfl h2 h3 h4 (by omega) h6
    rw [h5] at this
    exact this
  have HP0 : Hid (Pq w w g d d tl A B A B) := ⟨h, Turned.refl _ _ _, fun p q h1 h2 h3 h4 => by omega, hlow, Keep.refl _ _⟩
  clear ih h hlow
  go_enter Try.func79, Try.ntmps79
  go_wp2
  go_loopw [1, 2, 3, 8, 9] (fun x1 x2 x3 x8 x9 wr => ∃ (a b : Nat) (lim : Int) (bb bp : Bool) (m : List Nat), x1 = .int .i64 (a : Int) ∧ x2 = .int .i64 (b : Int) ∧ x3 = .int .i64 lim ∧ x8 = .bool bb ∧ x9 = .bool bp ∧ A ≤ a ∧ a ≤ b ∧ b ≤ B ∧ Pq w wr g d m tl A B a b) (fun x1 x2 _ _ _ _ => (intOf x2).toNat - (intOf x1).toNat)
  case atStart => exact ⟨A, B, lim0, true, true, d, rfl, rfl, rfl, rfl, rfl, Nat.le_refl _, hAB, Nat.le_refl _, Hid.out HP0⟩
  case round =>
    obtain ⟨a, b, lim, bb, bp, m, rfl, rfl, rfl, rfl, rfl, hAa, hab, hbB, hP⟩ := hrel
    have hml := hP.len
    have hbd : b ≤ d.length := by omega
    obtain ⟨n, hn⟩ : ∃ n : Nat, (b : Int) - (a : Int) = (n : Int) := ⟨b - a, by omega⟩
    by_cases h12 : n ≤ 12
    · have h122 : (n : Int) ≤ 12 := by omega
      have H89 : Hid (Calls Try.prog 82 #[.slice (some ⟨g, 0, none⟩) d.length cap, .int .i64 (a : Int), .int .i64 (b : Int)] wr fun e w' => e = .returned (.tuple #[]) ∧ ∃ k, Srow w' g k tl ∧ Turned d k A B ∧ SortedOn k A B ∧ Keep (· = g) w w') := by
        have := insertion_any wr g cap a b m tl hP.row hab (by omega) (by omega)
        rw [hml] at this
        refine this.mono ?_
        rintro e w' ⟨he, k, h1, h2, h3, h4⟩
        have hP2 := hP.turned h1 h2 (Keep.of_only h4) hAa hab hbB hB
        exact ⟨he, k, h1, hP2.tur, hP2.done h3, hP2.keep⟩
      clear hP IH HP0 hml
      go_wp2_with (go_at_call 82; refine (Hid.out H89).mono ?_; rintro e w1 ⟨rfl, hk⟩; have HK := hidden hk; clear hk)
      first | go_end0 | refine bodyPost_ret (results_none rfl _ _ _) rfl ?_
      exact ⟨rfl, Hid.out HK⟩
    · have h122 : ¬ (n : Int) ≤ 12 := by omega
      by_cases hl0 : lim = 0
      · subst hl0
        have H90 : Hid (Calls Try.prog 83 #[.slice (some ⟨g, 0, none⟩) d.length cap, .int .i64 (a : Int), .int .i64 (b : Int)] wr fun e w' => e = .returned (.tuple #[]) ∧ ∃ k, Srow w' g k tl ∧ Turned d k A B ∧ SortedOn k A B ∧ Keep (· = g) w w') := by
          have := heapsort_any wr g cap a b m tl hP.row (by omega) (by omega) (by omega)
          rw [hml] at this
          refine this.mono ?_
          rintro e w' ⟨he, k, h1, h2, h3, h4⟩
          have hP2 := hP.turned h1 h2 (Keep.of_only h4) hAa hab hbB hB
          exact ⟨he, k, h1, hP2.tur, hP2.done h3, hP2.keep⟩
        clear hP IH HP0 hml
        go_wp2_with (go_at_call 83; refine (Hid.out H90).mono ?_; rintro e w1 ⟨rfl, hk⟩; have HK := hidden hk; clear hk)
        first | go_end0 | refine bodyPost_ret (results_none rfl _ _ _) rfl ?_
        exact ⟨rfl, Hid.out HK⟩
      · have HPQ := hidden hP
        have hn13 : a + 12 < b := by omega
        clear hP
        go_upto_if 35 with (fail)
        go_cut [3] from 19 to 133 (fun x3 wx => ∃ (lim : Int) (m : List Nat), x3 = .int .i64 lim ∧ Pq w wx g d m tl A B a b)
        case first =>
          have H91 : Hid (Calls Try.prog 84 #[.slice (some ⟨g, 0, none⟩) d.length cap, .int .i64 (a : Int), .int .i64 (b : Int)] wr fun e w' => e = .returned (.tuple #[]) ∧ ∃ k, Pq w w' g d k tl A B a b) := by
            have hP := Hid.out HPQ
            have := breaks_any wr g cap a b m tl hP.row hn13 (by omega) (by omega)
            rw [hml] at this
            refine this.mono ?_
            rintro e w' ⟨he, k, h1, h2, h3⟩
            exact ⟨he, k, hP.turned h1 h2 h3 hAa hab hbB hB⟩
          cases bb
          · go_wp2_with (go_at_call 84; refine (Hid.out H91).mono ?_; rintro e w1 ⟨rfl, k, hk⟩; have HK := hidden hk; clear hk)
            go_meet
            case rel => exact ⟨_, k, rfl, Hid.out HK⟩
          · go_wp2
            go_meet
            case rel => exact ⟨lim, m, rfl, Hid.out HPQ⟩
        case rest =>
          obtain ⟨lim2, m2, rfl, hP2⟩ := hcut
          have hml2 := hP2.len
          have HPA := hidden hP2
          have H92 : Hid (Calls Try.prog 85 #[.slice (some ⟨g, 0, none⟩) d.length cap, .int .i64 (a : Int), .int .i64 (b : Int)] wc fun e w' => ∃ (x : Nat) (hint : Int), e = .returned (.tuple #[.int .i64 (x : Int), .int .i64 hint]) ∧ a ≤ x ∧ x < b ∧ Pq w w' g d m2 tl A B a b) := by
            have := pivot_any wc g cap a b m2 tl hP2.row hn13 (by omega) (by omega)
            rw [hml2] at this
            refine this.mono ?_
            rintro e w' ⟨x, hint, he, h1, h2, h3⟩
            exact ⟨x, hint, he, h1.1, h1.2, hP2.turned h2 (Turned.refl _ _ _) (Keep.of_below h3) hAa hab hbB hB⟩
          clear hP2 HPQ hml hl0 m
          go_upto_if 50 with (go_at_call 85; refine (Hid.out H92).mono ?_; rintro e w1 ⟨pv, hint, rfl, hv1, hv2, hP3⟩; have HPB := hidden hP3; clear hP3)
          go_cut [11, 12] from 19 to 133 (fun x11 x12 wx => ∃ (pv : Nat) (hint : Int) (m : List Nat), x11 = .int .i64 (pv : Int) ∧ x12 = .int .i64 hint ∧ a ≤ pv ∧ pv < b ∧ Pq w wx g d m tl A B a b)
          case first =>
            by_cases hh : hint = 2
            · subst hh
              have hpv : (b : Int) - 1 - ((pv : Int) - (a : Int)) = ((b - 1 - (pv - a) : Nat) : Int) := by omega
              have H93 : Hid (Calls Try.prog 86 #[.slice (some ⟨g, 0, none⟩) d.length cap, .int .i64 (a : Int), .int .i64 (b : Int)] w1 fun e w' => e = .returned (.tuple #[]) ∧ ∃ k, Pq w w' g d k tl A B a b) := by
                have hP := Hid.out HPB
                have := reverse_any w1 g cap a b m2 tl hP.row (by omega) (by omega) (by omega)
                rw [hml2] at this
                refine this.mono ?_
                rintro e w' ⟨he, k, h1, h2, h3⟩
                exact ⟨he, k, hP.turned h1 h2 (Keep.of_only h3) hAa hab hbB hB⟩
              go_wp2_with (go_at_call 86; refine (Hid.out H93).mono ?_; rintro e w2 ⟨rfl, k, hk⟩; have HK := hidden hk; clear hk)
              go_meet
              case rel => first | exact ⟨b - 1 - (pv - a), 1, k, by simp; omega, rfl, by omega, by omega, Hid.out HK⟩ | exact ⟨b - 1 - (pv - a), 1, k, rfl, rfl, by omega, by omega, Hid.out HK⟩
            · go_wp2
              go_meet
              case rel => exact ⟨pv, hint, m2, rfl, rfl, hv1, hv2, Hid.out HPB⟩
          case rest =>
            clear HPA HPB H92 hv1 hv2 hml2 pv hint m2
            obtain ⟨pv, hint, m, rfl, rfl, hv1, hv2, hP⟩ := hcut
            have hml := hP.len
            have HPC := hidden hP
            clear hP
            generalize wc = W2 at HPC ⊢
            go_upto_region 15 with (fail)
            go_cut [68] from 19 to 133 (fun x68 wx => ∃ t : Bool, x68 = .bool t ∧ wx = W2)
            case first =>
              clear HPC IH HP0
              cases bb <;> cases bp <;> by_cases hh : hint = 1
              all_goals
                go_wp2
                go_meet
                case rel => exact ⟨_, rfl, rfl⟩
            case rest =>
              obtain ⟨t, rfl, rfl⟩ := hcut
              go_upto_if 68 with (fail)
              go_cut [] from 19 to 133 (fun wx => ∃ m : List Nat, Pq w wx g d m tl A B a b)
              case first =>
                have H94 : Hid (Calls Try.prog 87 #[.slice (some ⟨g, 0, none⟩) d.length cap, .int .i64 (a : Int), .int .i64 (b : Int)] wc fun e w' => ∃ (f : Bool) (k : List Nat), e = .returned (.bool f) ∧ Pq w w' g d k tl A B a b ∧ (f = true → SortedOn k a b)) := by
                  have hP := Hid.out HPC
                  have := partins_any wc g cap a b m tl hP.row (by omega) (by omega) (by omega) hP.low
                  rw [hml] at this
                  refine this.mono ?_
                  rintro e w' ⟨f, k, he, h1, h2, h3, h4⟩
                  exact ⟨f, k, he, hP.turned h1 h2 (Keep.of_only h4) hAa hab hbB hB, h3⟩
                cases t
                · go_wp2
                  go_meet
                  case rel => exact ⟨m, Hid.out HPC⟩
                · go_wp2_with (go_at_call 87; refine (Hid.out H94).mono ?_; rintro e w2 ⟨f, k, rfl, hk, hs⟩; have HK := hidden hk; have HS := hidden hs; clear hk hs; cases f)
                  · go_meet
                    case rel => exact ⟨k, Hid.out HK⟩
                  · first | go_end0 | refine bodyPost_ret (results_none rfl _ _ _) rfl ?_
                    exact ⟨rfl, k, (Hid.out HK).row, (Hid.out HK).tur, (Hid.out HK).done (Hid.out HS (by first | rfl | trivial)), (Hid.out HK).keep⟩
              case rest =>
                clear HPC hml m
                obtain ⟨m, hP⟩ := hcut
                have hml := hP.len
                have HPD := hidden hP
                have hca := hP.row.cell (j := a - 1) (by omega)
                have hcv := hP.row.cell (j := pv) (by omega)
                clear hP
                generalize wc = W3 at HPD hca hcv ⊢
                go_upto_region 17 with (fail)
                go_cut [87] from 19 to 133 (fun x87 wx => ∃ t : Bool, x87 = .bool t ∧ (t = true → 0 < a ∧ m.getD pv 0 ≤ m.getD (a - 1) 0) ∧ ∃ nd, wx = W3.drewN nd)
                case first =>
                  have HX : Hid (∀ x y, x = m.getD (a - 1) 0 → y = m.getD pv 0 → (!decide (x < y)) = true → m.getD pv 0 ≤ m.getD (a - 1) 0) := fun x y h1 h2 h3 => by
                    subst h1 h2
                    simp only [Bool.not_eq_true', decide_eq_false_iff_not] at h3
                    omega
                  obtain ⟨xa, hxa⟩ : ∃ xa, xa = m.getD (a - 1) 0 := ⟨_, rfl⟩
                  obtain ⟨xv, hxv⟩ : ∃ xv, xv = m.getD pv 0 := ⟨_, rfl⟩
                  rw [← hxa] at hca
                  rw [← hxv] at hcv
                  have HXA := hidden hxa
                  have HXV := hidden hxv
                  have hpd : pv < d.length := by omega
                  clear HPD IH HP0 hxa hxv
                  by_cases ha0 : a = 0
                  · have ha1 : decide ((0 : Int) < (a : Int)) = false := by simp; omega
                    have ha3 : decide (0 < a) = false := by simp; omega
                    clear ha0
                    go_quiet (fail)
                    go_wp2
                    go_meet
                    case rel => exact ⟨false, rfl, (fun h => by cases h), _, rfl⟩
                  · have ha1 : (0 : Int) < (a : Int) := by omega
                    have hta : ((a : Int) - 1).toNat = a - 1 := by omega
                    have had : (a : Int) - 1 < (d.length : Int) := by omega
                    have ha2 : 0 < a := by omega
                    go_quiet ((go_at_call 88; exact Calls.quiet_of_same (less_any xa xv _)))
                    go_wp2
                    go_meet
                    case rel => exact ⟨_, rfl, fun h => ⟨ha2, Hid.out HX xa xv (Hid.out HXA) (Hid.out HXV) h⟩, _, rfl⟩
                case rest =>
                  obtain ⟨t, rfl, ht, nd, rfl⟩ := hcut
                  have hP := Hid.out HPD
                  have hPn : Pq w (W3.drewN nd) g d m tl A B a b := ⟨hP.row, hP.tur, hP.ord, hP.low, hP.keep.drewN nd⟩
                  clear hP HPD hca hcv
                  generalize W3.drewN nd = W4 at hPn ⊢
                  have HPE := hidden hPn
                  cases t
                  · clear ht
                    have H97 : Hid (Calls Try.prog 90 #[.slice (some ⟨g, 0, none⟩) d.length cap, .int .i64 (a : Int), .int .i64 (b : Int), .int .i64 (pv : Int)] W4 fun e w' => ∃ (j : Nat) (f : Bool) (k : List Nat), e = .returned (.tuple #[.int .i64 (j : Int), .bool f]) ∧ a ≤ j ∧ j < b ∧ Mid k a b j ∧ Pq w w' g d k tl A B a b ∧ ((j : Int) - (a : Int) < (b : Int) - (j : Int) ∨ ¬ (j : Int) - (a : Int) < (b : Int) - (j : Int))) := by
                      have := part_any W4 g cap a b pv m tl hPn.row hv1 hv2 (by omega) (by omega)
                      rw [hml] at this
                      refine this.mono ?_
                      rintro e w' ⟨j, f, k, he, h1, h2, h3, h4, h5, h6⟩
                      exact ⟨j, f, k, he, h1, h2, h5, hPn.turned h3 h4 (Keep.of_only h6) hAa hab hbB hB, by omega⟩
                    clear hPn HPE
                    have HIL : Hid (∀ (w2 : World) (j : Nat) (k : List Nat), a ≤ j → j < b → Mid k a b j → Pq w w2 g d k tl A B a b → Calls Try.prog 79 #[.slice (some ⟨g, 0, none⟩) d.length cap, .int .i64 (a : Int), .int .i64 (j : Int), .int .i64 lim2] w2 fun e w' => e = .returned (.tuple #[]) ∧ ∃ k2, Pq w w' g d k2 tl A B (j + 1) b) := fun w2 j k h1 h2 h3 h4 => by
                      have hl := h4.len
                      refine (Hid.out IH w2 a j k lim2 (by omega) h4.row h1 (by omega) hl (fun ha p p1 p2 => h4.low ha p p1 (by omega))).mono ?_
                      rintro e w' ⟨he, k2, r1, r2, r3, r4⟩
                      exact ⟨he, k2, h4.left h3 r1 r2 r3 r4 hAa h1 h2 hbB hB⟩
                    have HIR : Hid (∀ (w2 : World) (j : Nat) (k : List Nat), a ≤ j → j < b → Mid k a b j → Pq w w2 g d k tl A B a b → Calls Try.prog 79 #[.slice (some ⟨g, 0, none⟩) d.length cap, .int .i64 ((j : Int) + 1), .int .i64 (b : Int), .int .i64 lim2] w2 fun e w' => e = .returned (.tuple #[]) ∧ ∃ k2, Pq w w' g d k2 tl A B a j) := fun w2 j k h1 h2 h3 h4 => by
                      have hl := h4.len
                      have := Hid.out IH w2 (j + 1) b k lim2 (by omega) h4.row (by omega) (by omega) hl (fun ha p p1 p2 => by rw [Nat.add_sub_cancel]; exact h3.high p (by omega) p2)
                      rw [show ((j + 1 : Nat) : Int) = (j : Int) + 1 by omega] at this
                      refine this.mono ?_
                      rintro e w' ⟨he, k2, r1, r2, r3, r4⟩
                      exact ⟨he, k2, h4.right h3 r1 r2 r3 r4 hAa h1 h2 hbB hB⟩
                    clear IH HP0
                    go_wp2_with (first
                      | (go_at_call 90; refine (Hid.out H97).mono ?_; rintro e w2 ⟨j, f, k, rfl, hj1, hj2, hm3, hk3, hor⟩; have HL := hidden (Hid.out HIL w2 j k hj1 hj2 hm3 hk3); have HR := hidden (Hid.out HIR w2 j k hj1 hj2 hm3 hk3); clear hm3 hk3; rcases hor with hor | hor)
                      | (go_at_call 79; (first | (with_reducible refine (Hid.out HL).mono ?_) | (with_reducible refine (Hid.out HR).mono ?_)); rintro e w3 ⟨rfl, k2, hk⟩; have HK := hidden hk; clear hk))
                    · go_roundw
                      case rel => exact ⟨j + 1, b, lim2, _, f, k2, by simp, rfl, rfl, rfl, rfl, by omega, by omega, hbB, Hid.out HK⟩
                      case measure => simp [intOf]; omega
                    · go_roundw
                      case rel => exact ⟨a, j, lim2, _, f, k2, rfl, rfl, rfl, rfl, rfl, hAa, by omega, by omega, Hid.out HK⟩
                      case measure => simp [intOf]; omega
                  · obtain ⟨ha0, hle⟩ := ht rfl
                    have H96 : Hid (Calls Try.prog 89 #[.slice (some ⟨g, 0, none⟩) d.length cap, .int .i64 (a : Int), .int .i64 (b : Int), .int .i64 (pv : Int)] W4 fun e w' => ∃ (i : Nat) (k : List Nat), e = .returned (.int .i64 (i : Int)) ∧ a < i ∧ i ≤ b ∧ Pq w w' g d k tl A B i b) := by
                      have := parteq_any W4 g cap a b pv m tl hPn.row hv1 hv2 (by omega) (by omega)
                      rw [hml] at this
                      refine this.mono ?_
                      rintro e w' ⟨i, j, k, he, h1, h2, h3, h4, h5, h6, h7, h8⟩
                      have hP2 := hPn.turned h4 h5 (Keep.of_only h8) hAa hab hbB hB
                      exact ⟨i, k, he, h1, h2, hP2.equal ha0 (by rw [h7, h5.out (a - 1) (by omega)]; exact hle) h6 hAa h1 h2 hbB⟩
                    clear hPn HPE IH HP0 hle ht
                    go_wp2_with (go_at_call 89; refine (Hid.out H96).mono ?_; rintro e w2 ⟨i, k, rfl, hi1, hi2, hk⟩; have HK := hidden hk; clear hk)
                    go_roundw
                    case rel => exact ⟨i, b, lim2, bb, bp, k, rfl, rfl, rfl, rfl, rfl, by omega, hi2, hbB, Hid.out HK⟩
                    case measure => simp [intOf]; omega
end Go.Proofs.Ytkpcajmphhdmiaa
namespace Go.Proofs.Ytkpcajmphhdmiaa
open Go.ChangeShapes Go.WideShapes Go.ChangeAt Go.RowKit
set_option linter.unusedVariables false
theorem keep_grown {g : Nat} {w w' : World} (h : Keep (· = g) w w') : w.grownBy w' (some g) := ⟨h.os, h.tape, h.output, h.size, fun k hk hne => h.block k hk fun e => hne (by rw [e])⟩
theorem pdq_top (w : World) (g cap : Nat) (d : List Nat) (tl : List Value) (k : Int) (h : Srow w g d tl) (hlen : d.length ≤ 64) :
    Calls Try.prog 79 #[.slice (some ⟨g, 0, none⟩) d.length cap, .int .i64 0, .int .i64 (d.length : Int), .int .i64 k] w fun e w' => e = .returned (.tuple #[]) ∧ ∃ m, Srow w' g m tl ∧ m.Perm d ∧ SortedOn m 0 d.length ∧ Keep (· = g) w w' := by
  have hp := pdq_any g cap tl d.length w 0 d.length d k (Nat.sub_zero _) h (Nat.zero_le _) (Nat.le_refl _) hlen (fun h0 => absurd h0 (Nat.lt_irrefl 0))
  refine Calls.mono hp ?_
  rintro e w' ⟨he, m, h1, h2, h3, h4⟩
  exact ⟨he, m, h1, h2.perm, h3, h4⟩
set_option maxRecDepth 20000 in
theorem sort_any (w : World) (v : Value) (d : List Nat) (base : Nat) (hrow : w.ownsRow base 23 1 v d.length (words d)) (hlen : d.length ≤ 64) :
    Calls Try.prog 73 #[v] w fun e w' => e = .returned (.tuple #[]) ∧ ∃ m, m.Perm d ∧ SortedOn m 0 m.length ∧ w'.ownsRow base 23 1 v m.length (words m) ∧ w.grownBy w' v.ownBlock := by
  rcases hrow.2 with ⟨rfl, h0⟩ | ⟨g, cap, cur, rfl, hb, hg, hnc, hcm, hcs, htk⟩
  · have hd : d = [] := List.eq_nil_of_length_eq_zero h0
    subst hd
    have HL := hidden (len_any 0 (by omega) w)
    rw [show ((0 : Nat) : Int) = 0 from rfl] at HL
    have HP := fun k => hidden (pdq_nil w k)
    clear hrow h0 hlen
    go_enter Try.func73, Try.ntmps73
    go_wp2_with (first | (go_at_call 80; refine (Hid.out HL).mono ?_; rintro e w1 ⟨k, rfl, hww⟩; rw [hww]; clear hww w1) | (go_at_call 79; refine (Hid.out (HP _)).mono ?_; rintro e w1 ⟨rfl, hww⟩; rw [hww]; clear hww w1))
    go_end0
    exact ⟨rfl, [], List.Perm.refl _, fun p q h1 h2 h3 => by simp at h3, World.ownsRow_nil _ _ _ _, ⟨rfl, rfl, rfl, Nat.le_refl _, fun _ _ _ => rfl⟩⟩
  · have hS : Srow w g d (cur.toList.drop d.length) := by
      unfold Srow
      rw [hg]
      congr 2
      have e : cur.toList = words d ++ cur.toList.drop d.length := by
        rw [← htk, Nat.mul_one, List.take_append_drop]
      apply Array.ext'
      simp
      exact e
    have hcap : d.length ≤ cap := hnc
    have HL := hidden (len_any d.length (by omega) w)
    have HP := fun k => hidden (pdq_top w g cap d (cur.toList.drop d.length) k hS hlen)
    have hcl : (cur.toList.drop d.length).length = cap - d.length := by
      rw [List.length_drop, Array.length_toList, hcs, Nat.mul_one]
    generalize cur.toList.drop d.length = tl at HP hcl
    clear hrow hS hg htk hcs
    go_enter Try.func73, Try.ntmps73
    go_wp2_with (first | (go_at_call 80; refine (Hid.out HL).mono ?_; rintro e w1 ⟨k, rfl, hww⟩; rw [hww]; clear hww w1) | (go_at_call 79; refine (Hid.out (HP _)).mono ?_; rintro e w1 ⟨rfl, m, h1, h2, h3, h4⟩; have H1 := hidden h1; have H2 := hidden h2; have H3 := hidden h3; have H4 := hidden h4; clear h1 h2 h3 h4))
    go_end0
    have hml := (Hid.out H2).length_eq
    refine ⟨rfl, m, Hid.out H2, by rw [hml]; exact Hid.out H3, ⟨by rw [words_len, Nat.mul_one], .inr ⟨g, cap, _, by rw [hml], hb, Hid.out H1, by rw [hml]; exact hcap, hcm, ?_, ?_⟩⟩, ?_⟩
    · simp [words_len, hcl, hml]
      omega
    · simp [words_len]
    · exact keep_grown (Hid.out H4)
set_option maxRecDepth 20000 in
theorem pages_all (w : World) (s : MS) (h : MemW w s) : Calls Try.prog 47 #[.pointer (some ⟨s.mb, 0, none⟩)] w fun e w' => ∃ ao cap l, e = .returned (.slice ao l.length cap) ∧ l.Perm s.ks ∧ Rising l ∧ Wds w' (.slice ao l.length cap) l ∧ Below w.heap.size w w' := by
  have hlen : s.ks.length ≤ 64 := Nat.le_trans h.room h.great
  have hc := h.cell0
  have hnd := h.nodup
  have H56 := hidden (keysOf_any s.bm w)
  have hb0 : Below w.heap.size w (w.alloc (.cells #[.map (some s.bm)] 78)) := (Below.refl _ w).alloc (Nat.le_refl _) _
  have H64 := hidden (collect_any w.heap.size s.bm s.hb s.ks (by omega) (w.alloc (.cells #[.map (some s.bm)] 78)) (by simp) (by rw [cell_of_row _ _ _ _ _ _ (heap_alloc_new w _)]; rfl) ((hb0.block s.bm (h.lt (.inr (.inl rfl)))).trans h.map) hnd)
  have HB0 := hidden hb0
  have H55 : Hid (Calls Try.prog 63 #[.func (.func 74) #[] #[.pointer (some ⟨w.heap.size, 0, none⟩)]] (w.alloc (.cells #[.map (some s.bm)] 78)) fun e w' => ∃ ao cap l, e = .returned (.slice ao l.length cap) ∧ l.Perm s.ks ∧ Rising l ∧ Wds w' (.slice ao l.length cap) l ∧ Below w.heap.size w w') := by
    show Calls Try.prog 63 #[.func (.func 74) #[] #[.pointer (some ⟨w.heap.size, 0, none⟩)]] (w.alloc (.cells #[.map (some s.bm)] 78)) fun e w' => ∃ ao cap l, e = .returned (.slice ao l.length cap) ∧ l.Perm s.ks ∧ Rising l ∧ Wds w' (.slice ao l.length cap) l ∧ Below w.heap.size w w'
    have H65 : Hid (∀ u v ss, ss.Perm s.ks → u.ownsRow (w.alloc (.cells #[.map (some s.bm)] 78)).heap.size 23 1 v ss.length (words ss) → Calls Try.prog 73 #[v] u fun e w' => e = .returned (.tuple #[]) ∧ ∃ m, m.Perm ss ∧ SortedOn m 0 m.length ∧ w'.ownsRow (w.alloc (.cells #[.map (some s.bm)] 78)).heap.size 23 1 v m.length (words m) ∧ u.grownBy w' v.ownBlock) := fun u v ss hp hr => sort_any u v ss _ hr (by rw [hp.length_eq]; exact hlen)
    have HND := hidden hnd
    clear h hc H56 hnd hb0
    go_enter Try.func63, Try.ntmps63
    go_wp2_with (first | (go_at_call 72; refine (Hid.out H64).mono ?_; rintro e w2 ⟨v, ss, rfl, hp, hr, hn, hb⟩; obtain ⟨va, vn, vc, rfl⟩ := row_slice hr; have HP := hidden hp; have HR := hidden hr; have HB := hidden hb; clear hp hr hn hb H64) | (go_at_call 73; refine (Hid.out H65 _ _ _ (Hid.out HP) (Hid.out HR)).mono ?_; rintro e w3 ⟨rfl, m, hm1, hm2, hm3, hm4⟩; have HM1 := hidden hm1; have HM2 := hidden hm2; have HM3 := hidden hm3; have HM4 := hidden hm4; clear hm1 hm2 hm3 hm4))
    go_ret
    have hperm := (Hid.out HM1).trans (Hid.out HP)
    obtain ⟨ao, cap, e, hwd⟩ := wds_of_row (Hid.out HM3)
    simp only [Value.slice.injEq] at e
    obtain ⟨rfl, rfl, rfl⟩ := e
    refine ⟨_, _, m, rfl, hperm, rising_of (Hid.out HM2) (hperm.nodup_iff.2 (Hid.out HND)), ⟨_, _, rfl, hwd⟩, ?_⟩
    have hbb := (Hid.out HB0).trans ((Hid.out HB).mono (Hid.out HB0).size)
    exact hbb.grown (Hid.out HM4) hbb.size fun g hg => Nat.le_trans (Hid.out HB0).size (row_base (Hid.out HM3) g hg)
  clear h hnd H64 hb0 HB0
  go_enter Try.func47, Try.ntmps47
  go_wp2_with (first | (go_at_call 64; refine (Hid.out H56).mono ?_; rintro e w1 ⟨rfl, hww⟩; rw [hww]; clear hww w1) | (go_at_call 63; refine (Hid.out H55).mono ?_; rintro e w2 ⟨ao, cap, l, rfl, h1, h2, h3, h4⟩; have H1 := hidden h1; have H2 := hidden h2; have H3 := hidden h3; have H4 := hidden h4; clear h1 h2 h3 h4))
  go_ret
  exact ⟨ao, cap, l, rfl, Hid.out H1, Hid.out H2, Hid.out H3, Hid.out H4⟩
end Go.Proofs.Ytkpcajmphhdmiaa
namespace Go.Proofs.Ytkpcajmphhdmiaa
open Go.ChangeShapes Go.WideShapes Go.ChangeAt Go.RowKit
set_option linter.unusedVariables false
/-- The bytes from a place on. -/
def MS.span (s : MS) (a n : Nat) : List UInt8 := (List.range n).map fun i => s.get (wrapAt a i)
theorem span_len (s : MS) (a n : Nat) : (s.span a n).length = n := by simp [MS.span]
theorem span_get (s : MS) (a n j : Nat) (h : j < n) : (s.span a n).getD j 0 = s.get (wrapAt a j) := by simp [MS.span, List.getD_eq_getElem?_getD, h]
/-- So much of a word. -/
def preW (s : MS) (a : Nat) : Nat → Nat
  | 0 => 0
  | k + 1 => preW s a k * 256 + (s.get (wrapAt a k)).toNat
theorem preW_lt (s : MS) (a : Nat) : ∀ k, preW s a k < 256 ^ k
  | 0 => by simp [preW]
  | k + 1 => by
    have h1 := preW_lt s a k
    have h2 := UInt8.toNat_lt (s.get (wrapAt a k))
    rw [preW, Nat.pow_succ]
    have : (preW s a k + 1) * 256 ≤ 256 ^ k * 256 := Nat.mul_le_mul_right _ h1
    omega
theorem u32_or_low (x y : Nat) (hx : x < 16777216) (hy : y < 256) : bits .or .u32 ((x : Int) * 256) (y : Int) = (x : Int) * 256 + (y : Int) := by
  have e0 : (x : Int) * 256 = ((2 ^ 8 * x : Nat) : Int) := by omega
  have e1 : (BitVec.ofInt 32 ((2 ^ 8 * x : Nat) : Int)).toNat = 2 ^ 8 * x := by
    rw [BitVec.toNat_ofInt]
    omega
  have e2 : (BitVec.ofInt 32 (y : Int)).toNat = y := by
    rw [BitVec.toNat_ofInt]
    omega
  rw [e0]
  show IntKind.u32.wrap ((BitVec.ofInt 32 ((2 ^ 8 * x : Nat) : Int) ||| BitVec.ofInt 32 (y : Int)).toNat : Nat) = _
  rw [BitVec.toNat_or, e1, e2, ← Nat.two_pow_add_eq_or_of_lt (by omega)]
  simp only [IntKind.wrap_u32]
  omega
set_option maxRecDepth 20000 in
theorem word_any (w : World) (s : MS) (a : Nat) (h : MemW w s) (ha : a < 4294967296) : Calls Try.prog 23 #[.pointer (some ⟨s.mb, 0, none⟩), .int .u32 (a : Int)] w fun e w' => e = .returned (.int .u32 (preW s a 4 : Int)) ∧ ∃ n, w' = w.drewN n := by
  have H := hidden h
  clear h
  go_enter Try.func23, Try.ntmps23
  go_wp2
  go_loopw [5, 6, 7] (fun x5 x6 x7 wr => ∃ (k : Nat), k ≤ 4 ∧ x7 = .int .u32 (k : Int) ∧ x5 = .int .u32 (preW s a k : Int) ∧ ∃ n, wr = w.drewN n) (fun x5 x6 x7 _ => 4 - (intOf x7).toNat)
  case atStart => exact ⟨0, by omega, rfl, rfl, 0, rfl⟩
  case round =>
    obtain ⟨k, hk, rfl, rfl, n, rfl⟩ := hrel
    by_cases hk4 : k < 4
    · have H28 := hidden (peek_any (w.drewN n) s (wrapAt a k) ((Hid.out H).drewN n) (wrapAt_lt _ _))
      rw [show ((wrapAt a k : Nat) : Int) = ((a : Int) + (k : Int)) % 4294967296 by unfold wrapAt; omega] at H28
      have hb := UInt8.toNat_lt (s.get (wrapAt a k))
      have hp : preW s a k < 16777216 := Nat.lt_of_lt_of_le (preW_lt s a k) (by
        have : 256 ^ k ≤ 256 ^ 3 := Nat.pow_le_pow_right (by omega) (by omega)
        simpa using this)
      have hor := u32_or_low _ _ hp hb
      have HP : Hid (preW s a (k + 1) = preW s a k * 256 + (s.get (wrapAt a k)).toNat) := rfl
      generalize hgx : (s.get (wrapAt a k)).toNat = x at hb hor HP
      rw [hgx] at H28
      clear hgx
      generalize hgp : preW s a k = y at hor HP hp
      clear hgp
      go_wp2_with (go_at_call 39; with_reducible refine (Hid.out H28).mono ?_; rintro e w1 ⟨rfl, m, hww⟩; rw [hww]; clear hww w1)
      go_roundw
      case rel => exact ⟨k + 1, by omega, by simp, by rw [Hid.out HP]; simp, _, rfl⟩
      case measure => simp [intOf]; omega
    · obtain rfl : k = 4 := by omega
      go_wp2
      go_ret
      exact ⟨rfl, _, rfl⟩
def cutLen (n : Int) : Nat := (min (max n 0) 16384).toNat
theorem make45 (M : Nat) (h : M ≤ 16384) (w : World) : (Instr.makeSlice 46 (.int .i64 (M : Int)) (.int .i64 (M : Int))).run Try.prog w = .ok (.slice (some ⟨w.heap.size, 0, none⟩) M M) (w.alloc (.cells (madeCells #[.int .u8 0] M) 5)) := by
  obtain ⟨i0, hi, hz0, hz1, hz2⟩ := info_parts info5
  have h := run_make (P := Try.prog) w 46 5 i0 (.int .u8 0) Try.underlying46 hi hz0 .i64 .i64 (M : Int) (M : Int) (by omega) (Int.le_refl _) (by rw [hz2]; omega) (by omega)
  rw [hz1, Nat.mul_one, Int.toNat_natCast] at h
  exact h
/-- A row of bytes on the way. -/
def Brow (w : World) (g : Nat) (d : List UInt8) : Prop := w.heap[g]? = some (.cells (cellsU d).toArray 5 (0, 0))
theorem Brow.set {w : World} {g : Nat} {d : List UInt8} (h : Brow w g d) {j : Nat} (hj : j < d.length) (v : UInt8) : Brow (w.setCell ⟨g, j, none⟩ (.int .u8 (v.toNat : Int))) g (d.set j v) := by
  unfold Brow
  rw [heap_setCell_same _ _ _ _ _ _ h, List.setIfInBounds_toArray, cellsU_set]
theorem Brow.cell {w : World} {g : Nat} {d : List UInt8} (h : Brow w g d) {j : Nat} (hj : j < d.length) : w.cell? ⟨g, j, none⟩ = some (.int .u8 ((d.getD j 0).toNat : Int)) := by
  rw [cell_of_row _ _ _ _ _ _ h, List.getElem?_toArray, cellsU_get d j hj]
theorem Brow.row {w : World} {g : Nat} {d : List UInt8} (h : Brow w g d) (hm : d.length ≤ 16384) : Row w (some ⟨g, 0, none⟩) d d.length :=
  ⟨Nat.le_refl _, by unfold maxLen; omega, by simp, .inr ⟨g, 0, rfl, fun j hj => by rw [Nat.zero_add]; exact h.cell hj⟩⟩
theorem made_cells (M : Nat) : madeCells #[.int .u8 0] M = (cellsU (List.replicate M 0)).toArray := by
  apply Array.ext'
  rw [toList_madeCells_one, cellsU, List.map_replicate]
  rfl
theorem span_set (s : MS) (a k M : Nat) (h : k < M) : (s.span a k ++ List.replicate (M - k) 0).set k (s.get (wrapAt a k)) = s.span a (k + 1) ++ List.replicate (M - (k + 1)) 0 := by
  rw [List.set_append_right _ _ (by rw [span_len]; exact Nat.le_refl _), span_len, Nat.sub_self, show M - k = (M - (k + 1)) + 1 by omega, List.replicate_succ, List.set_cons_zero]
  unfold MS.span
  rw [List.range_succ, List.map_append, List.append_assoc]
  rfl
set_option maxRecDepth 20000 in
set_option maxHeartbeats 1000000 in
theorem mbytes_any (w : World) (s : MS) (a : Nat) (n : Int) (h : MemW w s) (ha : a < 4294967296) : Calls Try.prog 48 #[.pointer (some ⟨s.mb, 0, none⟩), .int .u32 (a : Int), .int .i64 n] w fun e w' => ∃ ao, e = .returned (.slice ao (s.span a (cutLen n)).length (cutLen n)) ∧ Row w' ao (s.span a (cutLen n)) (cutLen n) ∧ Below w.heap.size w w' := by
  obtain ⟨M, hM⟩ : ∃ M, M = cutLen n := ⟨_, rfl⟩
  rw [← hM, span_len]
  have hM2 : M ≤ 16384 := by rw [hM]; unfold cutLen; omega
  have hmk := make45 M hM2 w
  have hMz : (M : Int) = min (max n 0) 16384 := by rw [hM]; unfold cutLen; omega
  have H := hidden h
  have HB : Hid (Brow (w.alloc (.cells (madeCells #[.int .u8 0] M) 5)) w.heap.size (List.replicate M 0)) := by
    show _ = _
    rw [heap_alloc_new w _, made_cells]
  clear h hM
  by_cases hn0 : n < 0
  · have hM0 : (M : Int) = 0 := by omega
    rw [hM0] at hmk
    clear hMz hM0
    go_enter Try.func48, Try.ntmps48
    go_wp2
    go_loopw [8, 15] (fun x8 x15 wr => ∃ (k : Nat), k ≤ M ∧ x15 = .int .i64 (k : Int) ∧ Brow wr w.heap.size (s.span a k ++ List.replicate (M - k) 0) ∧ Below w.heap.size w wr) (fun x8 x15 _ => M - (intOf x15).toNat)
    case atStart => exact ⟨0, by omega, rfl, Hid.out HB, (Below.refl _ w).alloc (Nat.le_refl _) _⟩
    case round =>
      obtain ⟨k, hk, rfl, hbr, hbel⟩ := hrel
      have HBR := hidden hbr
      have HBL := hidden hbel
      by_cases hkM : k < M
      · have hkM2 : (k : Int) < (M : Int) := by omega
        have H28 := hidden (peek_any wr s (wrapAt a k) ((Hid.out H).later hbel) (wrapAt_lt _ _))
        rw [show ((wrapAt a k : Nat) : Int) = ((a : Int) + (k : Int)) % 4294967296 by unfold wrapAt; omega] at H28
        have hcl : k < (s.span a k ++ List.replicate (M - k) 0).length := by rw [List.length_append, span_len, List.length_replicate]; omega
        have HC : Hid (∀ m, ∃ y, (wr.drewN m).cell? ⟨w.heap.size, k, none⟩ = some (.int .u8 y) ∧ (wr.drewN m).frozen? ⟨w.heap.size, k, none⟩ = false) := fun m => ⟨_, hbr.cell hcl, frozen_of_row _ _ _ _ _ hbr⟩
        have HN : Hid (∀ m, Brow ((wr.drewN m).setCell ⟨w.heap.size, k, none⟩ (.int .u8 ((s.get (wrapAt a k)).toNat : Int))) w.heap.size (s.span a (k + 1) ++ List.replicate (M - (k + 1)) 0)) := fun m => by
          have := Brow.set (w := wr.drewN m) hbr hcl (s.get (wrapAt a k))
          rw [span_set s a k M hkM] at this
          exact this
        clear hbr hbel
        generalize (s.get (wrapAt a k)).toNat = x at H28 HN
        go_wp2_with (go_at_call 39; with_reducible refine (Hid.out H28).mono ?_; rintro e w1 ⟨rfl, m, hww⟩; rw [hww]; obtain ⟨y, hc1, hc2⟩ := Hid.out HC m; clear hww w1)
        go_roundw
        case rel => exact ⟨k + 1, by omega, by simp, Hid.out HN _, (below_drewN (Hid.out HBL) _).setCell (p := ⟨w.heap.size, k, none⟩) (Nat.le_refl _) _⟩
        case measure => simp [intOf]; omega
      · have hkM2 : ¬ (k : Int) < (M : Int) := by omega
        obtain rfl : k = M := by omega
        clear hbr hbel
        go_wp2
        go_ret
        have hb2 := Hid.out HBR
        rw [Nat.sub_self, List.replicate_zero, List.append_nil] at hb2
        refine ⟨_, rfl, ?_, Hid.out HBL⟩
        have := hb2.row (by rw [span_len]; exact hM2)
        rw [span_len] at this
        exact this
  · by_cases hn1 : 16384 < n
    · have hM0 : (M : Int) = 16384 := by omega
      rw [hM0] at hmk
      clear hMz hM0
      go_enter Try.func48, Try.ntmps48
      go_wp2
      go_loopw [8, 15] (fun x8 x15 wr => ∃ (k : Nat), k ≤ M ∧ x15 = .int .i64 (k : Int) ∧ Brow wr w.heap.size (s.span a k ++ List.replicate (M - k) 0) ∧ Below w.heap.size w wr) (fun x8 x15 _ => M - (intOf x15).toNat)
      case atStart => exact ⟨0, by omega, rfl, Hid.out HB, (Below.refl _ w).alloc (Nat.le_refl _) _⟩
      case round =>
        obtain ⟨k, hk, rfl, hbr, hbel⟩ := hrel
        have HBR := hidden hbr
        have HBL := hidden hbel
        by_cases hkM : k < M
        · have hkM2 : (k : Int) < (M : Int) := by omega
          have H28 := hidden (peek_any wr s (wrapAt a k) ((Hid.out H).later hbel) (wrapAt_lt _ _))
          rw [show ((wrapAt a k : Nat) : Int) = ((a : Int) + (k : Int)) % 4294967296 by unfold wrapAt; omega] at H28
          have hcl : k < (s.span a k ++ List.replicate (M - k) 0).length := by rw [List.length_append, span_len, List.length_replicate]; omega
          have HC : Hid (∀ m, ∃ y, (wr.drewN m).cell? ⟨w.heap.size, k, none⟩ = some (.int .u8 y) ∧ (wr.drewN m).frozen? ⟨w.heap.size, k, none⟩ = false) := fun m => ⟨_, hbr.cell hcl, frozen_of_row _ _ _ _ _ hbr⟩
          have HN : Hid (∀ m, Brow ((wr.drewN m).setCell ⟨w.heap.size, k, none⟩ (.int .u8 ((s.get (wrapAt a k)).toNat : Int))) w.heap.size (s.span a (k + 1) ++ List.replicate (M - (k + 1)) 0)) := fun m => by
            have := Brow.set (w := wr.drewN m) hbr hcl (s.get (wrapAt a k))
            rw [span_set s a k M hkM] at this
            exact this
          clear hbr hbel
          generalize (s.get (wrapAt a k)).toNat = x at H28 HN
          go_wp2_with (go_at_call 39; with_reducible refine (Hid.out H28).mono ?_; rintro e w1 ⟨rfl, m, hww⟩; rw [hww]; obtain ⟨y, hc1, hc2⟩ := Hid.out HC m; clear hww w1)
          go_roundw
          case rel => exact ⟨k + 1, by omega, by simp, Hid.out HN _, (below_drewN (Hid.out HBL) _).setCell (p := ⟨w.heap.size, k, none⟩) (Nat.le_refl _) _⟩
          case measure => simp [intOf]; omega
        · have hkM2 : ¬ (k : Int) < (M : Int) := by omega
          obtain rfl : k = M := by omega
          clear hbr hbel
          go_wp2
          go_ret
          have hb2 := Hid.out HBR
          rw [Nat.sub_self, List.replicate_zero, List.append_nil] at hb2
          refine ⟨_, rfl, ?_, Hid.out HBL⟩
          have := hb2.row (by rw [span_len]; exact hM2)
          rw [span_len] at this
          exact this
    · have hMn : (M : Int) = n := by omega
      rw [hMn] at hmk
      subst hMn
      clear hMz
      go_enter Try.func48, Try.ntmps48
      go_wp2
      go_loopw [8, 15] (fun x8 x15 wr => ∃ (k : Nat), k ≤ M ∧ x15 = .int .i64 (k : Int) ∧ Brow wr w.heap.size (s.span a k ++ List.replicate (M - k) 0) ∧ Below w.heap.size w wr) (fun x8 x15 _ => M - (intOf x15).toNat)
      case atStart => exact ⟨0, by omega, rfl, Hid.out HB, (Below.refl _ w).alloc (Nat.le_refl _) _⟩
      case round =>
        obtain ⟨k, hk, rfl, hbr, hbel⟩ := hrel
        have HBR := hidden hbr
        have HBL := hidden hbel
        by_cases hkM : k < M
        · have hkM2 : (k : Int) < (M : Int) := by omega
          have H28 := hidden (peek_any wr s (wrapAt a k) ((Hid.out H).later hbel) (wrapAt_lt _ _))
          rw [show ((wrapAt a k : Nat) : Int) = ((a : Int) + (k : Int)) % 4294967296 by unfold wrapAt; omega] at H28
          have hcl : k < (s.span a k ++ List.replicate (M - k) 0).length := by rw [List.length_append, span_len, List.length_replicate]; omega
          have HC : Hid (∀ m, ∃ y, (wr.drewN m).cell? ⟨w.heap.size, k, none⟩ = some (.int .u8 y) ∧ (wr.drewN m).frozen? ⟨w.heap.size, k, none⟩ = false) := fun m => ⟨_, hbr.cell hcl, frozen_of_row _ _ _ _ _ hbr⟩
          have HN : Hid (∀ m, Brow ((wr.drewN m).setCell ⟨w.heap.size, k, none⟩ (.int .u8 ((s.get (wrapAt a k)).toNat : Int))) w.heap.size (s.span a (k + 1) ++ List.replicate (M - (k + 1)) 0)) := fun m => by
            have := Brow.set (w := wr.drewN m) hbr hcl (s.get (wrapAt a k))
            rw [span_set s a k M hkM] at this
            exact this
          clear hbr hbel
          generalize (s.get (wrapAt a k)).toNat = x at H28 HN
          go_wp2_with (go_at_call 39; with_reducible refine (Hid.out H28).mono ?_; rintro e w1 ⟨rfl, m, hww⟩; rw [hww]; obtain ⟨y, hc1, hc2⟩ := Hid.out HC m; clear hww w1)
          go_roundw
          case rel => exact ⟨k + 1, by omega, by simp, Hid.out HN _, (below_drewN (Hid.out HBL) _).setCell (p := ⟨w.heap.size, k, none⟩) (Nat.le_refl _) _⟩
          case measure => simp [intOf]; omega
        · have hkM2 : ¬ (k : Int) < (M : Int) := by omega
          obtain rfl : k = M := by omega
          clear hbr hbel
          go_wp2
          go_ret
          have hb2 := Hid.out HBR
          rw [Nat.sub_self, List.replicate_zero, List.append_nil] at hb2
          refine ⟨_, rfl, ?_, Hid.out HBL⟩
          have := hb2.row (by rw [span_len]; exact hM2)
          rw [span_len] at this
          exact this
end Go.Proofs.Ytkpcajmphhdmiaa
