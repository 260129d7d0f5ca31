/- The library's attempt at a row that is nearly in order, walked. -/
import Derived.Test.YtkpcajmphhdmiaaRMAJ
namespace Go.Proofs.Ytkpcajmphhdmiaa
open Go.ChangeShapes Go.WideShapes Go.ChangeAt Go.RowKit
set_option linter.unusedVariables false
theorem SortedOn.up {m : List Nat} {a i : Nat} (h : SortedOn m a (i + 1)) (ha : a ≤ i) (hs : m.getD i 0 ≤ m.getD (i + 1) 0) : SortedOn m a (i + 1 + 1) := by
  intro p q h1 h2 h3
  by_cases e : q = i + 1
  · rw [e]
    by_cases e2 : p = i
    · rw [e2]; exact hs
    · exact Nat.le_trans (h p i h1 (by omega) (by omega)) hs
  · exact h p q h1 h2 (by omega)
set_option maxRecDepth 20000 in
set_option maxHeartbeats 16000000 in
theorem partins_any (w : World) (g cap a b : Nat) (d : List Nat) (tl : List Value) (h : Srow w g d tl) (hab : a < b) (hb : b ≤ d.length) (hlen : d.length ≤ 1152921504606846976) (hlow : 0 < a → ∀ p, a ≤ p → p < b → d.getD (a - 1) 0 ≤ d.getD p 0) :
    Calls Try.prog 87 #[.slice (some ⟨g, 0, none⟩) d.length cap, .int .i64 (a : Int), .int .i64 (b : Int)] w fun e w' => ∃ (f : Bool) (m : List Nat), e = .returned (.bool f) ∧ Srow w' g m tl ∧ Turned d m a b ∧ (f = true → SortedOn m a b) ∧ Only g w w' := by
  have H := hidden h
  have HLOW : Hid (∀ k, Turned d k a b → 0 < a → ∀ p, a ≤ p → p < b → k.getD (a - 1) 0 ≤ k.getD p 0) := fun k hk h0 p h1 h2 => by
    rw [hk.out (a - 1) (Or.inl (by omega))]
    exact hk.all (by omega) hb (fun x => d.getD (a - 1) 0 ≤ x) (hlow h0) p h1 h2
  clear h hlow
  go_enter Try.func87, Try.ntmps87
  go_wp2
  go_loopw [7, 8] (fun x7 x8 wr => ∃ (jj i : Nat) (m : List Nat), jj ≤ 5 ∧ a < i ∧ i ≤ b ∧ x7 = .int .i64 (i : Int) ∧ x8 = .int .i64 (jj : Int) ∧ m.length = d.length ∧ Srow wr g m tl ∧ Turned d m a b ∧ SortedOn m a i ∧ Only g w wr) (fun x7 x8 _ => 5 - (intOf x8).toNat)
  case atStart => exact ⟨0, a + 1, d, by omega, by omega, by omega, by simp, by simp, rfl, Hid.out H, Turned.refl _ _ _, fun p q h1 h2 h3 => by omega, Only.refl _ _⟩
  case round =>
    obtain ⟨jj, i, m, hjj, hai, hib, rfl, rfl, hml, hS, hT, hO, hW⟩ := hrel
    have HS := hidden hS
    have HT := hidden hT
    have HO := hidden hO
    have HW := hidden hW
    clear hS hT hO hW
    by_cases hj5 : jj < 5
    · have hj52 : (jj : Int) < 5 := by omega
      go_wp2
      go_loopw [7] (fun x7 wr2 => ∃ (i : Nat), a < i ∧ i ≤ b ∧ x7 = .int .i64 (i : Int) ∧ Srow wr2 g m tl ∧ SortedOn m a i ∧ Only g w wr2) (fun x7 _ => b - (intOf x7).toNat)
      case atStart => exact ⟨i, hai, hib, rfl, Hid.out HS, Hid.out HO, Hid.out HW⟩
      case round =>
        clear HS HO HW hai hib
        obtain ⟨i, hai, hib, rfl, hS, hO, hW⟩ := hrel
        have HS1 := hidden hS
        have HO1 := hidden hO
        have HW1 := hidden hW
        obtain ⟨i, rfl⟩ : ∃ i', i = i' + 1 := ⟨i - 1, by omega⟩
        by_cases hib2 : i + 1 < b
        · have hib3 : (i : Int) + 1 < (b : Int) := by omega
          have hib4 : ¬ (i : Int) + 1 = (b : Int) := by omega
          have hc1 := hS.cell (j := i + 1) (by omega)
          have hc0 := hS.cell (j := i) (by omega)
          have hz1 := hS.thaw (i + 1)
          have hz0 := hS.thaw i
          clear hS hO hW
          have HL := hidden (fun u => less_any (m.getD (i + 1) 0) (m.getD i 0) u)
          cases hdec : decide (m.getD (i + 1) 0 < m.getD i 0) with
          | false =>
            rw [hdec] at HL
            have HO2 : Hid (SortedOn m a (i + 1 + 1)) := (Hid.out HO1).up (by omega) (Nat.le_of_not_lt (of_decide_eq_false hdec))
            clear hdec
            generalize hx1 : m.getD (i + 1) 0 = x1 at hc1 HL
            generalize hx0 : m.getD i 0 = x0 at hc0 HL
            clear hx1 hx0
            go_wp2
            go_quiet ((go_at_call 88; exact Calls.quiet_of_same (Hid.out HL _)))
            go_wp2
            go_roundw
            case rel => exact ⟨i + 1 + 1, by omega, by omega, by simp, (Hid.out HS1).drewN _, Hid.out HO2, (Hid.out HW1).drewN _⟩
            case measure => simp [intOf]; try omega
          | true =>
            rw [hdec] at HL
            clear hdec
            by_cases h50 : b - a < 50
            · have h502 : (b : Int) - (a : Int) < 50 := by omega
              generalize hx1 : m.getD (i + 1) 0 = x1 at hc1 HL
              generalize hx0 : m.getD i 0 = x0 at hc0 HL
              clear hx1 hx0
              go_wp2
              go_quiet ((go_at_call 88; exact Calls.quiet_of_same (Hid.out HL _)))
              go_wp2
              go_ret
              exact ⟨false, m, rfl, (Hid.out HS1).drewN _, Hid.out HT, (fun e => by cases e), (Hid.out HW1).drewN _⟩
            · have h502 : ¬ (b : Int) - (a : Int) < 50 := by omega
              have HN : Hid (∀ u n, Srow u g m tl → Srow (((u.drewN n).setCell ⟨g, i + 1, none⟩ (.int .u32 ((m.getD (i) 0 : Nat) : Int))).setCell ⟨g, i, none⟩ (.int .u32 ((m.getD (i + 1) 0 : Nat) : Int))) g (swp m (i + 1) (i)) tl) := fun u n h0 => by
                have h1 := (h0.drewN n).set (j := i + 1) (by omega) (m.getD (i) 0)
                exact h1.set (j := i) (by rw [List.length_set]; omega) (m.getD (i + 1) 0)
              have HT2 : Hid (Turned d (swp m (i + 1) i) a b) := (Hid.out HT).swp ⟨by omega, by omega⟩ ⟨by omega, by omega⟩ (by omega)
              have HI2 : Hid (Ins (swp m (i + 1) i) a i i) := Ins.start (fun p q h1 h2 h3 => by
                rw [swp_get m (by omega) (by omega), swp_get m (by omega) (by omega), if_neg (by omega), if_neg (by omega), if_neg (by omega), if_neg (by omega)]
                exact Hid.out HO1 p q h1 h2 (by omega)) (by omega)
              have hml2 : (swp m (i + 1) i).length = d.length := by rw [swp_len]; exact hml
              generalize hm2 : swp m (i + 1) i = m2 at HN HT2 HI2 hml2
              generalize hx1 : m.getD (i + 1) 0 = x1 at hc1 HL HN
              generalize hx0 : m.getD i 0 = x0 at hc0 HL HN
              clear hx1 hx0 hm2
              go_wp2
              go_quiet ((go_at_call 88; exact Calls.quiet_of_same (Hid.out HL _)))
              go_wp2
              go_region
              all_goals clear hc1 hc0 hz1 hz0 HL
              by_cases hl2 : 2 ≤ i + 1 - a
              · have hl3 : (2 : Int) ≤ (i : Int) + 1 - (a : Int) := by omega
                go_wp2
                go_loopw [9] (fun x9 wr4 => ∃ (j : Nat) (k : List Nat), j ≤ i ∧ x9 = .int .i64 (j : Int) ∧ k.length = d.length ∧ Srow wr4 g k tl ∧ Turned d k a b ∧ Ins k a i j ∧ Only g w wr4) (fun x9 _ => (intOf x9).toNat)
                case atStart => exact ⟨i, m2, by omega, by simp, hml2, Hid.out HN _ _ (Hid.out HS1), Hid.out HT2, Hid.out HI2, ((((Hid.out HW1).drewN _).setCell _ _).setCell _ _)⟩
                case round =>
                  obtain ⟨j, k, hji, rfl, hkl, hS4, hT4, hI4, hW4⟩ := hrel
                  have hle := hI4.le
                  have HS4 := hidden hS4
                  have HT4 := hidden hT4
                  have HI4 := hidden hI4
                  have HW4 := hidden hW4
                  by_cases hj1 : 1 ≤ j
                  · obtain ⟨j, rfl⟩ : ∃ j', j = j' + 1 := ⟨j - 1, by omega⟩
                    have hj2 : (1 : Int) ≤ (j : Int) + 1 := by omega
                    have hc1 := hS4.cell (j := j + 1) (by omega)
                    have hc0 := hS4.cell (j := j) (by omega)
                    have hz1 := hS4.thaw (j + 1)
                    have hz0 := hS4.thaw j
                    clear hS4 hT4 hI4 hW4
                    have HL := hidden (fun u => less_any (k.getD (j + 1) 0) (k.getD j 0) u)
                    cases hdec : decide (k.getD (j + 1) 0 < k.getD j 0) with
                    | true =>
                      rw [hdec] at HL
                      have HLT := hidden (of_decide_eq_true hdec)
                      clear hdec
                      have haj : a ≤ j := by
                        have h1 := Hid.out HLT
                        by_cases e : a ≤ j
                        · exact e
                        · exfalso
                          have h2 := Hid.out HLOW k (Hid.out HT4) (by omega) (j + 1) (by omega) (by omega)
                          rw [show a - 1 = j from by omega] at h2
                          omega
                      have HN4 : Hid (∀ u n, Srow u g k tl → Srow (((u.drewN n).setCell ⟨g, j + 1, none⟩ (.int .u32 ((k.getD (j) 0 : Nat) : Int))).setCell ⟨g, j, none⟩ (.int .u32 ((k.getD (j + 1) 0 : Nat) : Int))) g (swp k (j + 1) (j)) tl) := fun u n h0 => by
                        have h1 := (h0.drewN n).set (j := j + 1) (by omega) (k.getD (j) 0)
                        exact h1.set (j := j) (by rw [List.length_set]; omega) (k.getD (j + 1) 0)
                      have HI5 : Hid (Ins (swp k (j + 1) j) a i j) := (Hid.out HI4).step haj (by omega) (Hid.out HLT)
                      generalize hx1 : k.getD (j + 1) 0 = x1 at hc1 HL HN4
                      generalize hx0 : k.getD j 0 = x0 at hc0 HL HN4
                      clear hx1 hx0 HLT
                      go_wp2
                      go_quiet ((go_at_call 88; exact Calls.quiet_of_same (Hid.out HL _)))
                      go_wp2
                      go_region
                      all_goals go_wp2
                      go_roundw
                      case rel => exact ⟨j, swp k (j + 1) j, by omega, by simp, by rw [swp_len]; exact hkl, Hid.out HN4 _ _ (Hid.out HS4), (Hid.out HT4).swp ⟨by omega, by omega⟩ ⟨by omega, by omega⟩ (by omega), Hid.out HI5, ((((Hid.out HW4).drewN _).setCell _ _).setCell _ _)⟩
                      case measure => simp [intOf]
                    | false =>
                      rw [hdec] at HL
                      have HLT := hidden (of_decide_eq_false hdec)
                      clear hdec
                      have HO3 : Hid (SortedOn k a (i + 1)) := by
                        show SortedOn k a (i + 1)
                        by_cases e : a ≤ j
                        · exact (Hid.out HI4).stop e (Nat.le_of_not_lt (Hid.out HLT))
                        · exact (Hid.out HI4).low (by omega)
                      generalize hx1 : k.getD (j + 1) 0 = x1 at hc1 HL
                      generalize hx0 : k.getD j 0 = x0 at hc0 HL
                      clear hx1 hx0 HLT
                      go_wp2
                      go_quiet ((go_at_call 88; exact Calls.quiet_of_same (Hid.out HL _)))
                      clear hc1 hc0 hz1 hz0 HL hj2
                      have HT3 := HT4
                      have hml3 := hkl
                      generalize hk3 : k = m3 at HT3 HO3 hml3 HS4
                      clear hk3
                      by_cases hr : 2 ≤ b - (i + 1)
                      · have hr2 : (2 : Int) ≤ (b : Int) - ((i : Int) + 1) := by omega
                        go_wp2
                        go_loopw [10] (fun x10 wr5 => ∃ (r : Nat) (m5 : List Nat), i + 1 < r ∧ r ≤ b ∧ x10 = .int .i64 (r : Int) ∧ m5.length = d.length ∧ Srow wr5 g m5 tl ∧ Turned d m5 a b ∧ SortedOn m5 a (i + 1) ∧ Only g w wr5) (fun x10 _ => b - (intOf x10).toNat)
                        case atStart => exact ⟨i + 1 + 1, m3, by omega, by omega, by simp, hml3, (Hid.out HS4).drewN _, Hid.out HT3, Hid.out HO3, (Hid.out HW4).drewN _⟩
                        case round =>
                          obtain ⟨r, m5, hr3, hr4, rfl, hml5, hS5, hT5, hO5, hW5⟩ := hrel
                          have HS5 := hidden hS5
                          have HT5 := hidden hT5
                          have HO5 := hidden hO5
                          have HW5 := hidden hW5
                          by_cases hrb : r < b
                          · obtain ⟨r, rfl⟩ : ∃ r', r = r' + 1 := ⟨r - 1, by omega⟩
                            have hrb2 : (r : Int) + 1 < (b : Int) := by omega
                            have hc1 := hS5.cell (j := r + 1) (by omega)
                            have hc0 := hS5.cell (j := r) (by omega)
                            have hz1 := hS5.thaw (r + 1)
                            have hz0 := hS5.thaw r
                            clear hS5 hT5 hO5 hW5
                            have HL := hidden (fun u => less_any (m5.getD (r + 1) 0) (m5.getD r 0) u)
                            have HN5 : Hid (∀ u n, Srow u g m5 tl → Srow (((u.drewN n).setCell ⟨g, r + 1, none⟩ (.int .u32 ((m5.getD (r) 0 : Nat) : Int))).setCell ⟨g, r, none⟩ (.int .u32 ((m5.getD (r + 1) 0 : Nat) : Int))) g (swp m5 (r + 1) (r)) tl) := fun u n h0 => by
                              have h1 := (h0.drewN n).set (j := r + 1) (by omega) (m5.getD (r) 0)
                              exact h1.set (j := r) (by rw [List.length_set]; omega) (m5.getD (r + 1) 0)
                            have HO6 : Hid (SortedOn (swp m5 (r + 1) r) a (i + 1)) := fun p q h1 h2 h3 => by
                              rw [swp_get m5 (by omega) (by omega), swp_get m5 (by omega) (by omega), if_neg (by omega), if_neg (by omega), if_neg (by omega), if_neg (by omega)]
                              exact Hid.out HO5 p q h1 h2 h3
                            cases hdec : decide (m5.getD (r + 1) 0 < m5.getD r 0) with
                            | true =>
                              rw [hdec] at HL
                              clear hdec
                              generalize hx1 : m5.getD (r + 1) 0 = x1 at hc1 HL HN5
                              generalize hx0 : m5.getD r 0 = x0 at hc0 HL HN5
                              clear hx1 hx0
                              go_wp2
                              go_quiet ((go_at_call 88; exact Calls.quiet_of_same (Hid.out HL _)))
                              go_wp2
                              go_region
                              all_goals go_wp2
                              go_roundw
                              case rel => exact ⟨r + 1 + 1, swp m5 (r + 1) r, by omega, by omega, by simp, by rw [swp_len]; exact hml5, Hid.out HN5 _ _ (Hid.out HS5), (Hid.out HT5).swp ⟨by omega, by omega⟩ ⟨by omega, by omega⟩ (by omega), Hid.out HO6, ((((Hid.out HW5).drewN _).setCell _ _).setCell _ _)⟩
                              case measure => simp [intOf]; try omega
                            | false =>
                              rw [hdec] at HL
                              clear hdec HN5
                              generalize hx1 : m5.getD (r + 1) 0 = x1 at hc1 HL
                              generalize hx0 : m5.getD r 0 = x0 at hc0 HL
                              clear hx1 hx0
                              go_wp2
                              go_quiet ((go_at_call 88; exact Calls.quiet_of_same (Hid.out HL _)))
                              go_wp2
                              go_roundw
                              case rel => exact ⟨jj + 1, i + 1, m5, by omega, by omega, by omega, by simp, by simp, hml5, (Hid.out HS5).drewN _, Hid.out HT5, Hid.out HO5, (Hid.out HW5).drewN _⟩
                              case measure => simp [intOf]; try omega
                          · have hrb2 : ¬ (r : Int) < (b : Int) := by omega
                            clear hS5 hT5 hO5 hW5
                            go_wp2
                            go_roundw
                            case rel => exact ⟨jj + 1, i + 1, m5, by omega, by omega, by omega, by simp, by simp, hml5, Hid.out HS5, Hid.out HT5, Hid.out HO5, Hid.out HW5⟩
                            case measure => simp [intOf]; try omega
                      · have hr2 : ¬ (2 : Int) ≤ (b : Int) - ((i : Int) + 1) := by omega
                        go_wp2
                        go_roundw
                        case rel => exact ⟨jj + 1, i + 1, m3, by omega, by omega, by omega, by simp, by simp, hml3, (Hid.out HS4).drewN _, Hid.out HT3, Hid.out HO3, (Hid.out HW4).drewN _⟩
                        case measure => simp [intOf]; try omega
                  · have hj2 : ¬ (1 : Int) ≤ (j : Int) := by omega
                    have HO3 : Hid (SortedOn k a (i + 1)) := hI4.low (by omega)
                    clear hS4 hT4 hI4 hW4
                    have HT3 := HT4
                    have hml3 := hkl
                    generalize hk3 : k = m3 at HT3 HO3 hml3 HS4
                    clear hk3
                    by_cases hr : 2 ≤ b - (i + 1)
                    · have hr2 : (2 : Int) ≤ (b : Int) - ((i : Int) + 1) := by omega
                      go_wp2
                      go_loopw [10] (fun x10 wr5 => ∃ (r : Nat) (m5 : List Nat), i + 1 < r ∧ r ≤ b ∧ x10 = .int .i64 (r : Int) ∧ m5.length = d.length ∧ Srow wr5 g m5 tl ∧ Turned d m5 a b ∧ SortedOn m5 a (i + 1) ∧ Only g w wr5) (fun x10 _ => b - (intOf x10).toNat)
                      case atStart => exact ⟨i + 1 + 1, m3, by omega, by omega, by simp, hml3, Hid.out HS4, Hid.out HT3, Hid.out HO3, Hid.out HW4⟩
                      case round =>
                        obtain ⟨r, m5, hr3, hr4, rfl, hml5, hS5, hT5, hO5, hW5⟩ := hrel
                        have HS5 := hidden hS5
                        have HT5 := hidden hT5
                        have HO5 := hidden hO5
                        have HW5 := hidden hW5
                        by_cases hrb : r < b
                        · obtain ⟨r, rfl⟩ : ∃ r', r = r' + 1 := ⟨r - 1, by omega⟩
                          have hrb2 : (r : Int) + 1 < (b : Int) := by omega
                          have hc1 := hS5.cell (j := r + 1) (by omega)
                          have hc0 := hS5.cell (j := r) (by omega)
                          have hz1 := hS5.thaw (r + 1)
                          have hz0 := hS5.thaw r
                          clear hS5 hT5 hO5 hW5
                          have HL := hidden (fun u => less_any (m5.getD (r + 1) 0) (m5.getD r 0) u)
                          have HN5 : Hid (∀ u n, Srow u g m5 tl → Srow (((u.drewN n).setCell ⟨g, r + 1, none⟩ (.int .u32 ((m5.getD (r) 0 : Nat) : Int))).setCell ⟨g, r, none⟩ (.int .u32 ((m5.getD (r + 1) 0 : Nat) : Int))) g (swp m5 (r + 1) (r)) tl) := fun u n h0 => by
                            have h1 := (h0.drewN n).set (j := r + 1) (by omega) (m5.getD (r) 0)
                            exact h1.set (j := r) (by rw [List.length_set]; omega) (m5.getD (r + 1) 0)
                          have HO6 : Hid (SortedOn (swp m5 (r + 1) r) a (i + 1)) := fun p q h1 h2 h3 => by
                            rw [swp_get m5 (by omega) (by omega), swp_get m5 (by omega) (by omega), if_neg (by omega), if_neg (by omega), if_neg (by omega), if_neg (by omega)]
                            exact Hid.out HO5 p q h1 h2 h3
                          cases hdec : decide (m5.getD (r + 1) 0 < m5.getD r 0) with
                          | true =>
                            rw [hdec] at HL
                            clear hdec
                            generalize hx1 : m5.getD (r + 1) 0 = x1 at hc1 HL HN5
                            generalize hx0 : m5.getD r 0 = x0 at hc0 HL HN5
                            clear hx1 hx0
                            go_wp2
                            go_quiet ((go_at_call 88; exact Calls.quiet_of_same (Hid.out HL _)))
                            go_wp2
                            go_region
                            all_goals go_wp2
                            go_roundw
                            case rel => exact ⟨r + 1 + 1, swp m5 (r + 1) r, by omega, by omega, by simp, by rw [swp_len]; exact hml5, Hid.out HN5 _ _ (Hid.out HS5), (Hid.out HT5).swp ⟨by omega, by omega⟩ ⟨by omega, by omega⟩ (by omega), Hid.out HO6, ((((Hid.out HW5).drewN _).setCell _ _).setCell _ _)⟩
                            case measure => simp [intOf]; try omega
                          | false =>
                            rw [hdec] at HL
                            clear hdec HN5
                            generalize hx1 : m5.getD (r + 1) 0 = x1 at hc1 HL
                            generalize hx0 : m5.getD r 0 = x0 at hc0 HL
                            clear hx1 hx0
                            go_wp2
                            go_quiet ((go_at_call 88; exact Calls.quiet_of_same (Hid.out HL _)))
                            go_wp2
                            go_roundw
                            case rel => exact ⟨jj + 1, i + 1, m5, by omega, by omega, by omega, by simp, by simp, hml5, (Hid.out HS5).drewN _, Hid.out HT5, Hid.out HO5, (Hid.out HW5).drewN _⟩
                            case measure => simp [intOf]; try omega
                        · have hrb2 : ¬ (r : Int) < (b : Int) := by omega
                          clear hS5 hT5 hO5 hW5
                          go_wp2
                          go_roundw
                          case rel => exact ⟨jj + 1, i + 1, m5, by omega, by omega, by omega, by simp, by simp, hml5, Hid.out HS5, Hid.out HT5, Hid.out HO5, Hid.out HW5⟩
                          case measure => simp [intOf]; try omega
                    · have hr2 : ¬ (2 : Int) ≤ (b : Int) - ((i : Int) + 1) := by omega
                      go_wp2
                      go_roundw
                      case rel => exact ⟨jj + 1, i + 1, m3, by omega, by omega, by omega, by simp, by simp, hml3, Hid.out HS4, Hid.out HT3, Hid.out HO3, Hid.out HW4⟩
                      case measure => simp [intOf]; try omega
              · have hl3 : ¬ (2 : Int) ≤ (i : Int) + 1 - (a : Int) := by omega
                have HO3 : Hid (SortedOn m2 a (i + 1)) := (Hid.out HI2).low (by omega)
                have HT3 := HT2
                have hml3 := hml2
                generalize hk3 : m2 = m3 at HT3 HO3 hml3 HN
                clear hk3
                by_cases hr : 2 ≤ b - (i + 1)
                · have hr2 : (2 : Int) ≤ (b : Int) - ((i : Int) + 1) := by omega
                  go_wp2
                  go_loopw [10] (fun x10 wr5 => ∃ (r : Nat) (m5 : List Nat), i + 1 < r ∧ r ≤ b ∧ x10 = .int .i64 (r : Int) ∧ m5.length = d.length ∧ Srow wr5 g m5 tl ∧ Turned d m5 a b ∧ SortedOn m5 a (i + 1) ∧ Only g w wr5) (fun x10 _ => b - (intOf x10).toNat)
                  case atStart => exact ⟨i + 1 + 1, m3, by omega, by omega, by simp, hml3, Hid.out HN _ _ (Hid.out HS1), Hid.out HT3, Hid.out HO3, ((((Hid.out HW1).drewN _).setCell _ _).setCell _ _)⟩
                  case round =>
                    obtain ⟨r, m5, hr3, hr4, rfl, hml5, hS5, hT5, hO5, hW5⟩ := hrel
                    have HS5 := hidden hS5
                    have HT5 := hidden hT5
                    have HO5 := hidden hO5
                    have HW5 := hidden hW5
                    by_cases hrb : r < b
                    · obtain ⟨r, rfl⟩ : ∃ r', r = r' + 1 := ⟨r - 1, by omega⟩
                      have hrb2 : (r : Int) + 1 < (b : Int) := by omega
                      have hc1 := hS5.cell (j := r + 1) (by omega)
                      have hc0 := hS5.cell (j := r) (by omega)
                      have hz1 := hS5.thaw (r + 1)
                      have hz0 := hS5.thaw r
                      clear hS5 hT5 hO5 hW5
                      have HL := hidden (fun u => less_any (m5.getD (r + 1) 0) (m5.getD r 0) u)
                      have HN5 : Hid (∀ u n, Srow u g m5 tl → Srow (((u.drewN n).setCell ⟨g, r + 1, none⟩ (.int .u32 ((m5.getD (r) 0 : Nat) : Int))).setCell ⟨g, r, none⟩ (.int .u32 ((m5.getD (r + 1) 0 : Nat) : Int))) g (swp m5 (r + 1) (r)) tl) := fun u n h0 => by
                        have h1 := (h0.drewN n).set (j := r + 1) (by omega) (m5.getD (r) 0)
                        exact h1.set (j := r) (by rw [List.length_set]; omega) (m5.getD (r + 1) 0)
                      have HO6 : Hid (SortedOn (swp m5 (r + 1) r) a (i + 1)) := fun p q h1 h2 h3 => by
                        rw [swp_get m5 (by omega) (by omega), swp_get m5 (by omega) (by omega), if_neg (by omega), if_neg (by omega), if_neg (by omega), if_neg (by omega)]
                        exact Hid.out HO5 p q h1 h2 h3
                      cases hdec : decide (m5.getD (r + 1) 0 < m5.getD r 0) with
                      | true =>
                        rw [hdec] at HL
                        clear hdec
                        generalize hx1 : m5.getD (r + 1) 0 = x1 at hc1 HL HN5
                        generalize hx0 : m5.getD r 0 = x0 at hc0 HL HN5
                        clear hx1 hx0
                        go_wp2
                        go_quiet ((go_at_call 88; exact Calls.quiet_of_same (Hid.out HL _)))
                        go_wp2
                        go_region
                        all_goals go_wp2
                        go_roundw
                        case rel => exact ⟨r + 1 + 1, swp m5 (r + 1) r, by omega, by omega, by simp, by rw [swp_len]; exact hml5, Hid.out HN5 _ _ (Hid.out HS5), (Hid.out HT5).swp ⟨by omega, by omega⟩ ⟨by omega, by omega⟩ (by omega), Hid.out HO6, ((((Hid.out HW5).drewN _).setCell _ _).setCell _ _)⟩
                        case measure => simp [intOf]; try omega
                      | false =>
                        rw [hdec] at HL
                        clear hdec HN5
                        generalize hx1 : m5.getD (r + 1) 0 = x1 at hc1 HL
                        generalize hx0 : m5.getD r 0 = x0 at hc0 HL
                        clear hx1 hx0
                        go_wp2
                        go_quiet ((go_at_call 88; exact Calls.quiet_of_same (Hid.out HL _)))
                        go_wp2
                        go_roundw
                        case rel => exact ⟨jj + 1, i + 1, m5, by omega, by omega, by omega, by simp, by simp, hml5, (Hid.out HS5).drewN _, Hid.out HT5, Hid.out HO5, (Hid.out HW5).drewN _⟩
                        case measure => simp [intOf]; try omega
                    · have hrb2 : ¬ (r : Int) < (b : Int) := by omega
                      clear hS5 hT5 hO5 hW5
                      go_wp2
                      go_roundw
                      case rel => exact ⟨jj + 1, i + 1, m5, by omega, by omega, by omega, by simp, by simp, hml5, Hid.out HS5, Hid.out HT5, Hid.out HO5, Hid.out HW5⟩
                      case measure => simp [intOf]; try omega
                · have hr2 : ¬ (2 : Int) ≤ (b : Int) - ((i : Int) + 1) := by omega
                  go_wp2
                  go_roundw
                  case rel => exact ⟨jj + 1, i + 1, m3, by omega, by omega, by omega, by simp, by simp, hml3, Hid.out HN _ _ (Hid.out HS1), Hid.out HT3, Hid.out HO3, ((((Hid.out HW1).drewN _).setCell _ _).setCell _ _)⟩
                  case measure => simp [intOf]; try omega
        · have hib3 : decide ((i : Int) + 1 < (b : Int)) = false := by simp; omega
          obtain rfl : b = i + 1 := by omega
          clear hS hO hW
          go_wp2
          go_quiet (fail)
          go_wp2
          go_ret
          exact ⟨true, m, rfl, (Hid.out HS1).drewN _, Hid.out HT, fun _ => Hid.out HO1, (Hid.out HW1).drewN _⟩
    · have hj52 : ¬ (jj : Int) < 5 := by omega
      go_wp2
      go_ret
      exact Or.inl ⟨rfl, m, Hid.out HS, Hid.out HT, Hid.out HW⟩
end Go.Proofs.Ytkpcajmphhdmiaa
namespace Go.Proofs.Ytkpcajmphhdmiaa
open Go.ChangeShapes Go.WideShapes Go.ChangeAt Go.RowKit
set_option linter.unusedVariables false
set_option maxRecDepth 20000 in
theorem len64_any (x : Nat) (h : x < 256) (w : World) : Calls Try.prog 92 #[.int .u64 (x : Int)] w fun e w' => ∃ k : Int, e = .returned (.int .i64 k) ∧ w' = w := by
  have h1 : ¬ (4294967296 : Int) ≤ (x : Int) := by omega
  have h2 : ¬ (65536 : Int) ≤ (x : Int) := by omega
  have h3 : ¬ (256 : Int) ≤ (x : Int) := by omega
  go_enter Try.func92, Try.ntmps92
  go_wp2
  go_ret
  exact ⟨_, rfl, rfl⟩
theorem len_any (x : Nat) (h : x < 256) (w : World) : Calls Try.prog 80 #[.int .u64 (x : Int)] w fun e w' => ∃ k : Int, e = .returned (.int .i64 k) ∧ w' = w := by
  have H := hidden (len64_any x h w)
  go_enter Try.func80, Try.ntmps80
  go_wp2_with (go_at_call 92; refine (Hid.out H).mono ?_; rintro e w1 ⟨k, rfl, hww⟩; rw [hww]; clear hww w1)
  go_ret
  exact ⟨k, rfl, rfl⟩
end Go.Proofs.Ytkpcajmphhdmiaa
namespace Go.Proofs.Ytkpcajmphhdmiaa
open Go.ChangeShapes Go.WideShapes Go.ChangeAt Go.RowKit
set_option linter.unusedVariables false
theorem insertion_nil (w : World) : Calls Try.prog 82 #[.slice none 0 0, .int .i64 0, .int .i64 0] w fun e w' => e = .returned (.tuple #[]) ∧ w' = w := by
  go_enter Try.func82, Try.ntmps82
  go_wp2
  go_loopg [6, 7] 1 (fun q x6 x7 wr => x6 = .int .i64 1 ∧ wr = w)
  case atStart => exact ⟨rfl, rfl⟩
  case round =>
    obtain ⟨rfl, rfl⟩ := hrel
    go_wp2
    go_end0
    exact ⟨rfl, rfl⟩
set_option maxRecDepth 20000 in
theorem pdq_nil (w : World) (k : Int) : Calls Try.prog 79 #[.slice none 0 0, .int .i64 0, .int .i64 0, .int .i64 k] w fun e w' => e = .returned (.tuple #[]) ∧ w' = w := by
  have H := hidden (insertion_nil w)
  go_enter Try.func79, Try.ntmps79
  go_wp2
  go_loopg [1, 2, 3] 1 (fun q x1 x2 x3 wr => x1 = .int .i64 0 ∧ x2 = .int .i64 0 ∧ wr = w)
  case atStart => exact ⟨rfl, rfl, rfl⟩
  case round =>
    obtain ⟨rfl, rfl, rfl⟩ := hrel
    go_wp2_with (go_at_call 82; refine (Hid.out H).mono ?_; rintro e w1 ⟨rfl, hww⟩; rw [hww]; clear hww w1)
    first | go_end0 | refine bodyPost_ret (results_none rfl _ _ _) rfl ?_
    exact ⟨rfl, rfl⟩
set_option maxRecDepth 20000 in
theorem pdq_small (w : World) (g cap : Nat) (d : List Nat) (tl : List Value) (k : Int) (h : Srow w g d tl) (hlen : d.length ≤ 12) :
    Calls Try.prog 79 #[.slice (some ⟨g, 0, none⟩) d.length cap, .int .i64 0, .int .i64 (d.length : Int), .int .i64 k] w fun e w' => e = .returned (.tuple #[]) ∧ ∃ m, Srow w' g m tl ∧ m.Perm d ∧ SortedOn m 0 d.length ∧ Only g w w' := by
  have H := hidden (insertion_any w g cap 0 d.length d tl h (Nat.zero_le _) (Nat.le_refl _) (by omega))
  rw [show ((0 : Nat) : Int) = 0 from rfl] at H
  have hl : (d.length : Int) ≤ 12 := by omega
  clear h
  go_enter Try.func79, Try.ntmps79
  go_wp2
  go_loopg [1, 2, 3] 1 (fun q x1 x2 x3 wr => x1 = .int .i64 0 ∧ x2 = .int .i64 (d.length : Int) ∧ wr = w)
  case atStart => exact ⟨rfl, rfl, rfl⟩
  case round =>
    obtain ⟨rfl, rfl, rfl⟩ := hrel
    go_wp2_with (go_at_call 82; refine (Hid.out H).mono ?_; rintro e w1 ⟨rfl, m, h1, h2, h3, h4⟩; have H1 := hidden h1; have H2 := hidden h2; have H3 := hidden h3; have H4 := hidden h4; clear h1 h2 h3 h4)
    first | go_end0 | refine bodyPost_ret (results_none rfl _ _ _) rfl ?_
    exact ⟨rfl, m, Hid.out H1, (Hid.out H2).perm, Hid.out H3, Hid.out H4⟩
/-- Rising, each once. -/
def Rising (l : List Nat) : Prop := ∀ p q, p < q → q < l.length → l.getD p 0 < l.getD q 0
theorem rising_of {l : List Nat} (h : SortedOn l 0 l.length) (hn : l.Nodup) : Rising l := by
  intro p q hpq hq
  have h1 := h p q (Nat.zero_le _) hpq hq
  have h2 : l.getD p 0 ≠ l.getD q 0 := by
    rw [List.getD_eq_getElem?_getD, List.getD_eq_getElem?_getD, List.getElem?_eq_getElem hq, List.getElem?_eq_getElem (by omega)]
    exact List.pairwise_iff_getElem.1 hn p q (by omega) hq hpq
  omega
theorem sort_small (w : World) (v : Value) (d : List Nat) (base : Nat) (hrow : w.ownsRow base 23 1 v d.length (words d)) (hlen : d.length ≤ 12) :
    Calls Try.prog 73 #[v] w fun e w' => e = .returned (.tuple #[]) ∧ ∃ m, m.Perm d ∧ SortedOn m 0 m.length ∧ w'.ownsRow base 23 1 v m.length (words m) ∧ w.grownBy w' v.ownBlock := by
  rcases hrow.2 with ⟨rfl, h0⟩ | ⟨g, cap, cur, rfl, hb, hg, hnc, hcm, hcs, htk⟩
  · have hd : d = [] := List.eq_nil_of_length_eq_zero h0
    subst hd
    have HL := hidden (len_any 0 (by omega) w)
    rw [show ((0 : Nat) : Int) = 0 from rfl] at HL
    have HP := fun k => hidden (pdq_nil w k)
    clear hrow h0 hlen
    go_enter Try.func73, Try.ntmps73
    go_wp2_with (first | (go_at_call 80; refine (Hid.out HL).mono ?_; rintro e w1 ⟨k, rfl, hww⟩; rw [hww]; clear hww w1) | (go_at_call 79; refine (Hid.out (HP _)).mono ?_; rintro e w1 ⟨rfl, hww⟩; rw [hww]; clear hww w1))
    go_end0
    exact ⟨rfl, [], List.Perm.refl _, fun p q h1 h2 h3 => by simp at h3, World.ownsRow_nil _ _ _ _, ⟨rfl, rfl, rfl, Nat.le_refl _, fun _ _ _ => rfl⟩⟩
  · have hS : Srow w g d (cur.toList.drop d.length) := by
      unfold Srow
      rw [hg]
      congr 2
      have e : cur.toList = words d ++ cur.toList.drop d.length := by
        rw [← htk, Nat.mul_one, List.take_append_drop]
      apply Array.ext'
      simp
      exact e
    have hcap : d.length ≤ cap := hnc
    have HL := hidden (len_any d.length (by omega) w)
    have HP := fun k => hidden (pdq_small w g cap d (cur.toList.drop d.length) k hS hlen)
    have hcl : (cur.toList.drop d.length).length = cap - d.length := by
      rw [List.length_drop, Array.length_toList, hcs, Nat.mul_one]
    generalize cur.toList.drop d.length = tl at HP hcl
    clear hrow hS hg htk hcs
    go_enter Try.func73, Try.ntmps73
    go_wp2_with (first | (go_at_call 80; refine (Hid.out HL).mono ?_; rintro e w1 ⟨k, rfl, hww⟩; rw [hww]; clear hww w1) | (go_at_call 79; refine (Hid.out (HP _)).mono ?_; rintro e w1 ⟨rfl, m, h1, h2, h3, h4⟩; have H1 := hidden h1; have H2 := hidden h2; have H3 := hidden h3; have H4 := hidden h4; clear h1 h2 h3 h4))
    go_end0
    have hml := (Hid.out H2).length_eq
    refine ⟨rfl, m, Hid.out H2, by rw [hml]; exact Hid.out H3, ⟨by rw [words_len, Nat.mul_one], .inr ⟨g, cap, _, by rw [hml], hb, Hid.out H1, by rw [hml]; exact hcap, hcm, ?_, ?_⟩⟩, ?_⟩
    · simp [words_len, hcl, hml]
      omega
    · simp [words_len]
    · exact only_grown (Hid.out H4)
theorem pages_small (w : World) (s : MS) (h : MemW w s) (hlen : s.ks.length ≤ 12) : Calls Try.prog 47 #[.pointer (some ⟨s.mb, 0, none⟩)] w fun e w' => ∃ ao cap l, e = .returned (.slice ao l.length cap) ∧ l.Perm s.ks ∧ Rising l ∧ Wds w' (.slice ao l.length cap) l ∧ Below w.heap.size w w' := by
  have hc := h.cell0
  have hnd := h.nodup
  have H56 := hidden (keysOf_any s.bm w)
  have hb0 : Below w.heap.size w (w.alloc (.cells #[.map (some s.bm)] 78)) := (Below.refl _ w).alloc (Nat.le_refl _) _
  have H64 := hidden (collect_any w.heap.size s.bm s.hb s.ks (by omega) (w.alloc (.cells #[.map (some s.bm)] 78)) (by simp) (by rw [cell_of_row _ _ _ _ _ _ (heap_alloc_new w _)]; rfl) ((hb0.block s.bm (h.lt (.inr (.inl rfl)))).trans h.map) hnd)
  have HB0 := hidden hb0
  have H55 : Hid (Calls Try.prog 63 #[.func (.func 74) #[] #[.pointer (some ⟨w.heap.size, 0, none⟩)]] (w.alloc (.cells #[.map (some s.bm)] 78)) fun e w' => ∃ ao cap l, e = .returned (.slice ao l.length cap) ∧ l.Perm s.ks ∧ Rising l ∧ Wds w' (.slice ao l.length cap) l ∧ Below w.heap.size w w') := by
    show Calls Try.prog 63 #[.func (.func 74) #[] #[.pointer (some ⟨w.heap.size, 0, none⟩)]] (w.alloc (.cells #[.map (some s.bm)] 78)) fun e w' => ∃ ao cap l, e = .returned (.slice ao l.length cap) ∧ l.Perm s.ks ∧ Rising l ∧ Wds w' (.slice ao l.length cap) l ∧ Below w.heap.size w w'
    have H65 : Hid (∀ u v ss, ss.Perm s.ks → u.ownsRow (w.alloc (.cells #[.map (some s.bm)] 78)).heap.size 23 1 v ss.length (words ss) → Calls Try.prog 73 #[v] u fun e w' => e = .returned (.tuple #[]) ∧ ∃ m, m.Perm ss ∧ SortedOn m 0 m.length ∧ w'.ownsRow (w.alloc (.cells #[.map (some s.bm)] 78)).heap.size 23 1 v m.length (words m) ∧ u.grownBy w' v.ownBlock) := fun u v ss hp hr => sort_small u v ss _ hr (by rw [hp.length_eq]; exact hlen)
    have HND := hidden hnd
    clear h hc H56 hnd hb0
    go_enter Try.func63, Try.ntmps63
    go_wp2_with (first | (go_at_call 72; refine (Hid.out H64).mono ?_; rintro e w2 ⟨v, ss, rfl, hp, hr, hn, hb⟩; obtain ⟨va, vn, vc, rfl⟩ := row_slice hr; have HP := hidden hp; have HR := hidden hr; have HB := hidden hb; clear hp hr hn hb H64) | (go_at_call 73; refine (Hid.out H65 _ _ _ (Hid.out HP) (Hid.out HR)).mono ?_; rintro e w3 ⟨rfl, m, hm1, hm2, hm3, hm4⟩; have HM1 := hidden hm1; have HM2 := hidden hm2; have HM3 := hidden hm3; have HM4 := hidden hm4; clear hm1 hm2 hm3 hm4))
    go_ret
    have hperm := (Hid.out HM1).trans (Hid.out HP)
    obtain ⟨ao, cap, e, hwd⟩ := wds_of_row (Hid.out HM3)
    simp only [Value.slice.injEq] at e
    obtain ⟨rfl, rfl, rfl⟩ := e
    refine ⟨_, _, m, rfl, hperm, rising_of (Hid.out HM2) (hperm.nodup_iff.2 (Hid.out HND)), ⟨_, _, rfl, hwd⟩, ?_⟩
    have hbb := (Hid.out HB0).trans ((Hid.out HB).mono (Hid.out HB0).size)
    exact hbb.grown (Hid.out HM4) hbb.size fun g hg => Nat.le_trans (Hid.out HB0).size (row_base (Hid.out HM3) g hg)
  clear h hnd H64 hb0 HB0
  go_enter Try.func47, Try.ntmps47
  go_wp2_with (first | (go_at_call 64; refine (Hid.out H56).mono ?_; rintro e w1 ⟨rfl, hww⟩; rw [hww]; clear hww w1) | (go_at_call 63; refine (Hid.out H55).mono ?_; rintro e w2 ⟨ao, cap, l, rfl, h1, h2, h3, h4⟩; have H1 := hidden h1; have H2 := hidden h2; have H3 := hidden h3; have H4 := hidden h4; clear h1 h2 h3 h4))
  go_ret
  exact ⟨ao, cap, l, rfl, Hid.out H1, Hid.out H2, Hid.out H3, Hid.out H4⟩
end Go.Proofs.Ytkpcajmphhdmiaa
