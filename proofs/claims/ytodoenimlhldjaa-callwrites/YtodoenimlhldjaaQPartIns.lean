/- The library's attempt at a row that is nearly in order, walked. -/
import Derived.Test.YtodoenimlhldjaaQHeaps
namespace Go.Proofs.Ytodoenimlhldjaa
open Go.ChangeShapes Go.WideShapes Go.ChangeAt Go.RowKit
set_option linter.unusedVariables false
theorem SortedOn.up {m : List Nat} {a i : Nat} (h : SortedOn m a (i + 1)) (ha : a ≤ i) (hs : m.getD i 0 ≤ m.getD (i + 1) 0) : SortedOn m a (i + 1 + 1) := by
  intro p q h1 h2 h3
  by_cases e : q = i + 1
  · rw [e]
    by_cases e2 : p = i
    · rw [e2]; exact hs
    · exact Nat.le_trans (h p i h1 (by omega) (by omega)) hs
  · exact h p q h1 h2 (by omega)
set_option maxRecDepth 20000 in
set_option maxHeartbeats 16000000 in
theorem partins_any (w : World) (g cap a b : Nat) (d : List Nat) (tl : List Value) (h : Srow w g d tl) (hab : a < b) (hb : b ≤ d.length) (hlen : d.length ≤ 1152921504606846976) (hlow : 0 < a → ∀ p, a ≤ p → p < b → d.getD (a - 1) 0 ≤ d.getD p 0) :
    Calls Try.prog 90 #[.slice (some ⟨g, 0, none⟩) d.length cap, .int .i64 (a : Int), .int .i64 (b : Int)] w fun e w' => ∃ (f : Bool) (m : List Nat), e = .returned (.bool f) ∧ Srow w' g m tl ∧ Turned d m a b ∧ (f = true → SortedOn m a b) ∧ Only g w w' := by
  have H := hidden h
  have HLOW : Hid (∀ k, Turned d k a b → 0 < a → ∀ p, a ≤ p → p < b → k.getD (a - 1) 0 ≤ k.getD p 0) := fun k hk h0 p h1 h2 => by
    rw [hk.out (a - 1) (Or.inl (by omega))]
    exact hk.all (by omega) hb (fun x => d.getD (a - 1) 0 ≤ x) (hlow h0) p h1 h2
  clear h hlow
  go_enter Try.func90, Try.ntmps90
  go_wp2
  go_loopw [7, 8] (fun x7 x8 wr => ∃ (jj i : Nat) (m : List Nat), jj ≤ 5 ∧ a < i ∧ i ≤ b ∧ x7 = .int .i64 (i : Int) ∧ x8 = .int .i64 (jj : Int) ∧ m.length = d.length ∧ Srow wr g m tl ∧ Turned d m a b ∧ SortedOn m a i ∧ Only g w wr) (fun x7 x8 _ => 5 - (intOf x8).toNat)
  case atStart => exact ⟨0, a + 1, d, by omega, by omega, by omega, by simp, by simp, rfl, Hid.out H, Turned.refl _ _ _, fun p q h1 h2 h3 => by omega, Only.refl _ _⟩
  case round =>
    obtain ⟨jj, i, m, hjj, hai, hib, rfl, rfl, hml, hS, hT, hO, hW⟩ := hrel
    have HS := hidden hS
    have HT := hidden hT
    have HO := hidden hO
    have HW := hidden hW
    clear hS hT hO hW
    by_cases hj5 : jj < 5
    · have hj52 : (jj : Int) < 5 := by omega
      go_wp2
      go_loopw [7] (fun x7 wr2 => ∃ (i : Nat), a < i ∧ i ≤ b ∧ x7 = .int .i64 (i : Int) ∧ Srow wr2 g m tl ∧ SortedOn m a i ∧ Only g w wr2) (fun x7 _ => b - (intOf x7).toNat)
      case atStart => exact ⟨i, hai, hib, rfl, Hid.out HS, Hid.out HO, Hid.out HW⟩
      case round =>
        clear HS HO HW hai hib
        obtain ⟨i, hai, hib, rfl, hS, hO, hW⟩ := hrel
        have HS1 := hidden hS
        have HO1 := hidden hO
        have HW1 := hidden hW
        obtain ⟨i, rfl⟩ : ∃ i', i = i' + 1 := ⟨i - 1, by omega⟩
        by_cases hib2 : i + 1 < b
        · have hib3 : (i : Int) + 1 < (b : Int) := by omega
          have hib4 : ¬ (i : Int) + 1 = (b : Int) := by omega
          have hc1 := hS.cell (j := i + 1) (by omega)
          have hc0 := hS.cell (j := i) (by omega)
          have hz1 := hS.thaw (i + 1)
          have hz0 := hS.thaw i
          clear hS hO hW
          have HL := hidden (fun u => less_any (m.getD (i + 1) 0) (m.getD i 0) u)
          cases hdec : decide (m.getD (i + 1) 0 < m.getD i 0) with
          | false =>
            rw [hdec] at HL
            have HO2 : Hid (SortedOn m a (i + 1 + 1)) := (Hid.out HO1).up (by omega) (Nat.le_of_not_lt (of_decide_eq_false hdec))
            clear hdec
            generalize hx1 : m.getD (i + 1) 0 = x1 at hc1 HL
            generalize hx0 : m.getD i 0 = x0 at hc0 HL
            clear hx1 hx0
            go_wp2
            go_quiet ((go_at_call 91; exact Calls.quiet_of_same (Hid.out HL _)))
            go_wp2
            go_roundw
            case rel => exact ⟨i + 1 + 1, by omega, by omega, by simp, (Hid.out HS1).drewN _, Hid.out HO2, (Hid.out HW1).drewN _⟩
            case measure => simp [intOf]; try omega
          | true =>
            rw [hdec] at HL
            clear hdec
            by_cases h50 : b - a < 50
            · have h502 : (b : Int) - (a : Int) < 50 := by omega
              generalize hx1 : m.getD (i + 1) 0 = x1 at hc1 HL
              generalize hx0 : m.getD i 0 = x0 at hc0 HL
              clear hx1 hx0
              go_wp2
              go_quiet ((go_at_call 91; exact Calls.quiet_of_same (Hid.out HL _)))
              go_wp2
              go_ret
              exact ⟨false, m, rfl, (Hid.out HS1).drewN _, Hid.out HT, (fun e => by cases e), (Hid.out HW1).drewN _⟩
            · have h502 : ¬ (b : Int) - (a : Int) < 50 := by omega
              have HN : Hid (∀ u n, Srow u g m tl → Srow (((u.drewN n).setCell ⟨g, i + 1, none⟩ (.int .u32 ((m.getD (i) 0 : Nat) : Int))).setCell ⟨g, i, none⟩ (.int .u32 ((m.getD (i + 1) 0 : Nat) : Int))) g (swp m (i + 1) (i)) tl) := fun u n h0 => by
                have h1 := (h0.drewN n).set (j := i + 1) (by omega) (m.getD (i) 0)
                exact h1.set (j := i) (by rw [List.length_set]; omega) (m.getD (i + 1) 0)
              have HT2 : Hid (Turned d (swp m (i + 1) i) a b) := (Hid.out HT).swp ⟨by omega, by omega⟩ ⟨by omega, by omega⟩ (by omega)
              have HI2 : Hid (Ins (swp m (i + 1) i) a i i) := Ins.start (fun p q h1 h2 h3 => by
                rw [swp_get m (by omega) (by omega), swp_get m (by omega) (by omega), if_neg (by omega), if_neg (by omega), if_neg (by omega), if_neg (by omega)]
                exact Hid.out HO1 p q h1 h2 (by omega)) (by omega)
              have hml2 : (swp m (i + 1) i).length = d.length := by rw [swp_len]; exact hml
              generalize hm2 : swp m (i + 1) i = m2 at HN HT2 HI2 hml2
              generalize hx1 : m.getD (i + 1) 0 = x1 at hc1 HL HN
              generalize hx0 : m.getD i 0 = x0 at hc0 HL HN
              clear hx1 hx0 hm2
              go_wp2
              go_quiet ((go_at_call 91; exact Calls.quiet_of_same (Hid.out HL _)))
              go_wp2
              go_region
              all_goals clear hc1 hc0 hz1 hz0 HL
              by_cases hl2 : 2 ≤ i + 1 - a
              · have hl3 : (2 : Int) ≤ (i : Int) + 1 - (a : Int) := by omega
                go_wp2
                go_loopw [9] (fun x9 wr4 => ∃ (j : Nat) (k : List Nat), j ≤ i ∧ x9 = .int .i64 (j : Int) ∧ k.length = d.length ∧ Srow wr4 g k tl ∧ Turned d k a b ∧ Ins k a i j ∧ Only g w wr4) (fun x9 _ => (intOf x9).toNat)
                case atStart => exact ⟨i, m2, by omega, by simp, hml2, Hid.out HN _ _ (Hid.out HS1), Hid.out HT2, Hid.out HI2, ((((Hid.out HW1).drewN _).setCell _ _).setCell _ _)⟩
                case round =>
                  obtain ⟨j, k, hji, rfl, hkl, hS4, hT4, hI4, hW4⟩ := hrel
                  have hle := hI4.le
                  have HS4 := hidden hS4
                  have HT4 := hidden hT4
                  have HI4 := hidden hI4
                  have HW4 := hidden hW4
                  by_cases hj1 : 1 ≤ j
                  · obtain ⟨j, rfl⟩ : ∃ j', j = j' + 1 := ⟨j - 1, by omega⟩
                    have hj2 : (1 : Int) ≤ (j : Int) + 1 := by omega
                    have hc1 := hS4.cell (j := j + 1) (by omega)
                    have hc0 := hS4.cell (j := j) (by omega)
                    have hz1 := hS4.thaw (j + 1)
                    have hz0 := hS4.thaw j
                    clear hS4 hT4 hI4 hW4
                    have HL := hidden (fun u => less_any (k.getD (j + 1) 0) (k.getD j 0) u)
                    cases hdec : decide (k.getD (j + 1) 0 < k.getD j 0) with
                    | true =>
                      rw [hdec] at HL
                      have HLT := hidden (of_decide_eq_true hdec)
                      clear hdec
                      have haj : a ≤ j := by
                        have h1 := Hid.out HLT
                        by_cases e : a ≤ j
                        · exact e
                        · exfalso
                          have h2 := Hid.out HLOW k (Hid.out HT4) (by omega) (j + 1) (by omega) (by omega)
                          rw [show a - 1 = j from by omega] at h2
                          omega
                      have HN4 : Hid (∀ u n, Srow u g k tl → Srow (((u.drewN n).setCell ⟨g, j + 1, none⟩ (.int .u32 ((k.getD (j) 0 : Nat) : Int))).setCell ⟨g, j, none⟩ (.int .u32 ((k.getD (j + 1) 0 : Nat) : Int))) g (swp k (j + 1) (j)) tl) := fun u n h0 => by
                        have h1 := (h0.drewN n).set (j := j + 1) (by omega) (k.getD (j) 0)
                        exact h1.set (j := j) (by rw [List.length_set]; omega) (k.getD (j + 1) 0)
                      have HI5 : Hid (Ins (swp k (j + 1) j) a i j) := (Hid.out HI4).step haj (by omega) (Hid.out HLT)
                      generalize hx1 : k.getD (j + 1) 0 = x1 at hc1 HL HN4
                      generalize hx0 : k.getD j 0 = x0 at hc0 HL HN4
                      clear hx1 hx0 HLT
                      go_wp2
                      go_quiet ((go_at_call 91; exact Calls.quiet_of_same (Hid.out HL _)))
                      go_wp2
                      go_region
                      all_goals go_wp2
                      go_roundw
                      case rel => exact ⟨j, swp k (j + 1) j, by omega, by simp, by rw [swp_len]; exact hkl, Hid.out HN4 _ _ (Hid.out HS4), (Hid.out HT4).swp ⟨by omega, by omega⟩ ⟨by omega, by omega⟩ (by omega), Hid.out HI5, ((((Hid.out HW4).drewN _).setCell _ _).setCell _ _)⟩
                      case measure => simp [intOf]
                    | false =>
                      rw [hdec] at HL
                      have HLT := hidden (of_decide_eq_false hdec)
                      clear hdec
                      have HO3 : Hid (SortedOn k a (i + 1)) := by
                        show SortedOn k a (i + 1)
                        by_cases e : a ≤ j
                        · exact (Hid.out HI4).stop e (Nat.le_of_not_lt (Hid.out HLT))
                        · exact (Hid.out HI4).low (by omega)
                      generalize hx1 : k.getD (j + 1) 0 = x1 at hc1 HL
                      generalize hx0 : k.getD j 0 = x0 at hc0 HL
                      clear hx1 hx0 HLT
                      go_wp2
                      go_quiet ((go_at_call 91; exact Calls.quiet_of_same (Hid.out HL _)))
                      clear hc1 hc0 hz1 hz0 HL hj2
                      have HT3 := HT4
                      have hml3 := hkl
                      generalize hk3 : k = m3 at HT3 HO3 hml3 HS4
                      clear hk3
                      by_cases hr : 2 ≤ b - (i + 1)
                      · have hr2 : (2 : Int) ≤ (b : Int) - ((i : Int) + 1) := by omega
                        go_wp2
                        go_loopw [10] (fun x10 wr5 => ∃ (r : Nat) (m5 : List Nat), i + 1 < r ∧ r ≤ b ∧ x10 = .int .i64 (r : Int) ∧ m5.length = d.length ∧ Srow wr5 g m5 tl ∧ Turned d m5 a b ∧ SortedOn m5 a (i + 1) ∧ Only g w wr5) (fun x10 _ => b - (intOf x10).toNat)
                        case atStart => exact ⟨i + 1 + 1, m3, by omega, by omega, by simp, hml3, (Hid.out HS4).drewN _, Hid.out HT3, Hid.out HO3, (Hid.out HW4).drewN _⟩
                        case round =>
                          obtain ⟨r, m5, hr3, hr4, rfl, hml5, hS5, hT5, hO5, hW5⟩ := hrel
                          have HS5 := hidden hS5
                          have HT5 := hidden hT5
                          have HO5 := hidden hO5
                          have HW5 := hidden hW5
                          by_cases hrb : r < b
                          · obtain ⟨r, rfl⟩ : ∃ r', r = r' + 1 := ⟨r - 1, by omega⟩
                            have hrb2 : (r : Int) + 1 < (b : Int) := by omega
                            have hc1 := hS5.cell (j := r + 1) (by omega)
                            have hc0 := hS5.cell (j := r) (by omega)
                            have hz1 := hS5.thaw (r + 1)
                            have hz0 := hS5.thaw r
                            clear hS5 hT5 hO5 hW5
                            have HL := hidden (fun u => less_any (m5.getD (r + 1) 0) (m5.getD r 0) u)
                            have HN5 : Hid (∀ u n, Srow u g m5 tl → Srow (((u.drewN n).setCell ⟨g, r + 1, none⟩ (.int .u32 ((m5.getD (r) 0 : Nat) : Int))).setCell ⟨g, r, none⟩ (.int .u32 ((m5.getD (r + 1) 0 : Nat) : Int))) g (swp m5 (r + 1) (r)) tl) := fun u n h0 => by
                              have h1 := (h0.drewN n).set (j := r + 1) (by omega) (m5.getD (r) 0)
                              exact h1.set (j := r) (by rw [List.length_set]; omega) (m5.getD (r + 1) 0)
                            have HO6 : Hid (SortedOn (swp m5 (r + 1) r) a (i + 1)) := fun p q h1 h2 h3 => by
                              rw [swp_get m5 (by omega) (by omega), swp_get m5 (by omega) (by omega), if_neg (by omega), if_neg (by omega), if_neg (by omega), if_neg (by omega)]
                              exact Hid.out HO5 p q h1 h2 h3
                            cases hdec : decide (m5.getD (r + 1) 0 < m5.getD r 0) with
                            | true =>
                              rw [hdec] at HL
                              clear hdec
                              generalize hx1 : m5.getD (r + 1) 0 = x1 at hc1 HL HN5
                              generalize hx0 : m5.getD r 0 = x0 at hc0 HL HN5
                              clear hx1 hx0
                              go_wp2
                              go_quiet ((go_at_call 91; exact Calls.quiet_of_same (Hid.out HL _)))
                              go_wp2
                              go_region
                              all_goals go_wp2
                              go_roundw
                              case rel => exact ⟨r + 1 + 1, swp m5 (r + 1) r, by omega, by omega, by simp, by rw [swp_len]; exact hml5, Hid.out HN5 _ _ (Hid.out HS5), (Hid.out HT5).swp ⟨by omega, by omega⟩ ⟨by omega, by omega⟩ (by omega), Hid.out HO6, ((((Hid.out HW5).drewN _).setCell _ _).setCell _ _)⟩
                              case measure => simp [intOf]; try omega
                            | false =>
                              rw [hdec] at HL
                              clear hdec HN5
                              generalize hx1 : m5.getD (r + 1) 0 = x1 at hc1 HL
                              generalize hx0 : m5.getD r 0 = x0 at hc0 HL
                              clear hx1 hx0
                              go_wp2
                              go_quiet ((go_at_call 91; exact Calls.quiet_of_same (Hid.out HL _)))
                              go_wp2
                              go_roundw
                              case rel => exact ⟨jj + 1, i + 1, m5, by omega, by omega, by omega, by simp, by simp, hml5, (Hid.out HS5).drewN _, Hid.out HT5, Hid.out HO5, (Hid.out HW5).drewN _⟩
                              case measure => simp [intOf]; try omega
                          · have hrb2 : ¬ (r : Int) < (b : Int) := by omega
                            clear hS5 hT5 hO5 hW5
                            go_wp2
                            go_roundw
                            case rel => exact ⟨jj + 1, i + 1, m5, by omega, by omega, by omega, by simp, by simp, hml5, Hid.out HS5, Hid.out HT5, Hid.out HO5, Hid.out HW5⟩
                            case measure => simp [intOf]; try omega
                      · have hr2 : ¬ (2 : Int) ≤ (b : Int) - ((i : Int) + 1) := by omega
                        go_wp2
                        go_roundw
                        case rel => exact ⟨jj + 1, i + 1, m3, by omega, by omega, by omega, by simp, by simp, hml3, (Hid.out HS4).drewN _, Hid.out HT3, Hid.out HO3, (Hid.out HW4).drewN _⟩
                        case measure => simp [intOf]; try omega
                  · have hj2 : ¬ (1 : Int) ≤ (j : Int) := by omega
                    have HO3 : Hid (SortedOn k a (i + 1)) := hI4.low (by omega)
                    clear hS4 hT4 hI4 hW4
                    have HT3 := HT4
                    have hml3 := hkl
                    generalize hk3 : k = m3 at HT3 HO3 hml3 HS4
                    clear hk3
                    by_cases hr : 2 ≤ b - (i + 1)
                    · have hr2 : (2 : Int) ≤ (b : Int) - ((i : Int) + 1) := by omega
                      go_wp2
                      go_loopw [10] (fun x10 wr5 => ∃ (r : Nat) (m5 : List Nat), i + 1 < r ∧ r ≤ b ∧ x10 = .int .i64 (r : Int) ∧ m5.length = d.length ∧ Srow wr5 g m5 tl ∧ Turned d m5 a b ∧ SortedOn m5 a (i + 1) ∧ Only g w wr5) (fun x10 _ => b - (intOf x10).toNat)
                      case atStart => exact ⟨i + 1 + 1, m3, by omega, by omega, by simp, hml3, Hid.out HS4, Hid.out HT3, Hid.out HO3, Hid.out HW4⟩
                      case round =>
                        obtain ⟨r, m5, hr3, hr4, rfl, hml5, hS5, hT5, hO5, hW5⟩ := hrel
                        have HS5 := hidden hS5
                        have HT5 := hidden hT5
                        have HO5 := hidden hO5
                        have HW5 := hidden hW5
                        by_cases hrb : r < b
                        · obtain ⟨r, rfl⟩ : ∃ r', r = r' + 1 := ⟨r - 1, by omega⟩
                          have hrb2 : (r : Int) + 1 < (b : Int) := by omega
                          have hc1 := hS5.cell (j := r + 1) (by omega)
                          have hc0 := hS5.cell (j := r) (by omega)
                          have hz1 := hS5.thaw (r + 1)
                          have hz0 := hS5.thaw r
                          clear hS5 hT5 hO5 hW5
                          have HL := hidden (fun u => less_any (m5.getD (r + 1) 0) (m5.getD r 0) u)
                          have HN5 : Hid (∀ u n, Srow u g m5 tl → Srow (((u.drewN n).setCell ⟨g, r + 1, none⟩ (.int .u32 ((m5.getD (r) 0 : Nat) : Int))).setCell ⟨g, r, none⟩ (.int .u32 ((m5.getD (r + 1) 0 : Nat) : Int))) g (swp m5 (r + 1) (r)) tl) := fun u n h0 => by
                            have h1 := (h0.drewN n).set (j := r + 1) (by omega) (m5.getD (r) 0)
                            exact h1.set (j := r) (by rw [List.length_set]; omega) (m5.getD (r + 1) 0)
                          have HO6 : Hid (SortedOn (swp m5 (r + 1) r) a (i + 1)) := fun p q h1 h2 h3 => by
                            rw [swp_get m5 (by omega) (by omega), swp_get m5 (by omega) (by omega), if_neg (by omega), if_neg (by omega), if_neg (by omega), if_neg (by omega)]
                            exact Hid.out HO5 p q h1 h2 h3
                          cases hdec : decide (m5.getD (r + 1) 0 < m5.getD r 0) with
                          | true =>
                            rw [hdec] at HL
                            clear hdec
                            generalize hx1 : m5.getD (r + 1) 0 = x1 at hc1 HL HN5
                            generalize hx0 : m5.getD r 0 = x0 at hc0 HL HN5
                            clear hx1 hx0
                            go_wp2
                            go_quiet ((go_at_call 91; exact Calls.quiet_of_same (Hid.out HL _)))
                            go_wp2
                            go_region
                            all_goals go_wp2
                            go_roundw
                            case rel => exact ⟨r + 1 + 1, swp m5 (r + 1) r, by omega, by omega, by simp, by rw [swp_len]; exact hml5, Hid.out HN5 _ _ (Hid.out HS5), (Hid.out HT5).swp ⟨by omega, by omega⟩ ⟨by omega, by omega⟩ (by omega), Hid.out HO6, ((((Hid.out HW5).drewN _).setCell _ _).setCell _ _)⟩
                            case measure => simp [intOf]; try omega
                          | false =>
                            rw [hdec] at HL
                            clear hdec HN5
                            generalize hx1 : m5.getD (r + 1) 0 = x1 at hc1 HL
                            generalize hx0 : m5.getD r 0 = x0 at hc0 HL
                            clear hx1 hx0
                            go_wp2
                            go_quiet ((go_at_call 91; exact Calls.quiet_of_same (Hid.out HL _)))
                            go_wp2
                            go_roundw
                            case rel => exact ⟨jj + 1, i + 1, m5, by omega, by omega, by omega, by simp, by simp, hml5, (Hid.out HS5).drewN _, Hid.out HT5, Hid.out HO5, (Hid.out HW5).drewN _⟩
                            case measure => simp [intOf]; try omega
                        · have hrb2 : ¬ (r : Int) < (b : Int) := by omega
                          clear hS5 hT5 hO5 hW5
                          go_wp2
                          go_roundw
                          case rel => exact ⟨jj + 1, i + 1, m5, by omega, by omega, by omega, by simp, by simp, hml5, Hid.out HS5, Hid.out HT5, Hid.out HO5, Hid.out HW5⟩
                          case measure => simp [intOf]; try omega
                    · have hr2 : ¬ (2 : Int) ≤ (b : Int) - ((i : Int) + 1) := by omega
                      go_wp2
                      go_roundw
                      case rel => exact ⟨jj + 1, i + 1, m3, by omega, by omega, by omega, by simp, by simp, hml3, Hid.out HS4, Hid.out HT3, Hid.out HO3, Hid.out HW4⟩
                      case measure => simp [intOf]; try omega
              · have hl3 : ¬ (2 : Int) ≤ (i : Int) + 1 - (a : Int) := by omega
                have HO3 : Hid (SortedOn m2 a (i + 1)) := (Hid.out HI2).low (by omega)
                have HT3 := HT2
                have hml3 := hml2
                generalize hk3 : m2 = m3 at HT3 HO3 hml3 HN
                clear hk3
                by_cases hr : 2 ≤ b - (i + 1)
                · have hr2 : (2 : Int) ≤ (b : Int) - ((i : Int) + 1) := by omega
                  go_wp2
                  go_loopw [10] (fun x10 wr5 => ∃ (r : Nat) (m5 : List Nat), i + 1 < r ∧ r ≤ b ∧ x10 = .int .i64 (r : Int) ∧ m5.length = d.length ∧ Srow wr5 g m5 tl ∧ Turned d m5 a b ∧ SortedOn m5 a (i + 1) ∧ Only g w wr5) (fun x10 _ => b - (intOf x10).toNat)
                  case atStart => exact ⟨i + 1 + 1, m3, by omega, by omega, by simp, hml3, Hid.out HN _ _ (Hid.out HS1), Hid.out HT3, Hid.out HO3, ((((Hid.out HW1).drewN _).setCell _ _).setCell _ _)⟩
                  case round =>
                    obtain ⟨r, m5, hr3, hr4, rfl, hml5, hS5, hT5, hO5, hW5⟩ := hrel
                    have HS5 := hidden hS5
                    have HT5 := hidden hT5
                    have HO5 := hidden hO5
                    have HW5 := hidden hW5
                    by_cases hrb : r < b
                    · obtain ⟨r, rfl⟩ : ∃ r', r = r' + 1 := ⟨r - 1, by omega⟩
                      have hrb2 : (r : Int) + 1 < (b : Int) := by omega
                      have hc1 := hS5.cell (j := r + 1) (by omega)
                      have hc0 := hS5.cell (j := r) (by omega)
                      have hz1 := hS5.thaw (r + 1)
                      have hz0 := hS5.thaw r
                      clear hS5 hT5 hO5 hW5
                      have HL := hidden (fun u => less_any (m5.getD (r + 1) 0) (m5.getD r 0) u)
                      have HN5 : Hid (∀ u n, Srow u g m5 tl → Srow (((u.drewN n).setCell ⟨g, r + 1, none⟩ (.int .u32 ((m5.getD (r) 0 : Nat) : Int))).setCell ⟨g, r, none⟩ (.int .u32 ((m5.getD (r + 1) 0 : Nat) : Int))) g (swp m5 (r + 1) (r)) tl) := fun u n h0 => by
                        have h1 := (h0.drewN n).set (j := r + 1) (by omega) (m5.getD (r) 0)
                        exact h1.set (j := r) (by rw [List.length_set]; omega) (m5.getD (r + 1) 0)
                      have HO6 : Hid (SortedOn (swp m5 (r + 1) r) a (i + 1)) := fun p q h1 h2 h3 => by
                        rw [swp_get m5 (by omega) (by omega), swp_get m5 (by omega) (by omega), if_neg (by omega), if_neg (by omega), if_neg (by omega), if_neg (by omega)]
                        exact Hid.out HO5 p q h1 h2 h3
                      cases hdec : decide (m5.getD (r + 1) 0 < m5.getD r 0) with
                      | true =>
                        rw [hdec] at HL
                        clear hdec
                        generalize hx1 : m5.getD (r + 1) 0 = x1 at hc1 HL HN5
                        generalize hx0 : m5.getD r 0 = x0 at hc0 HL HN5
                        clear hx1 hx0
                        go_wp2
                        go_quiet ((go_at_call 91; exact Calls.quiet_of_same (Hid.out HL _)))
                        go_wp2
                        go_region
                        all_goals go_wp2
                        go_roundw
                        case rel => exact ⟨r + 1 + 1, swp m5 (r + 1) r, by omega, by omega, by simp, by rw [swp_len]; exact hml5, Hid.out HN5 _ _ (Hid.out HS5), (Hid.out HT5).swp ⟨by omega, by omega⟩ ⟨by omega, by omega⟩ (by omega), Hid.out HO6, ((((Hid.out HW5).drewN _).setCell _ _).setCell _ _)⟩
                        case measure => simp [intOf]; try omega
                      | false =>
                        rw [hdec] at HL
                        clear hdec HN5
                        generalize hx1 : m5.getD (r + 1) 0 = x1 at hc1 HL
                        generalize hx0 : m5.getD r 0 = x0 at hc0 HL
                        clear hx1 hx0
                        go_wp2
                        go_quiet ((go_at_call 91; exact Calls.quiet_of_same (Hid.out HL _)))
                        go_wp2
                        go_roundw
                        case rel => exact ⟨jj + 1, i + 1, m5, by omega, by omega, by omega, by simp, by simp, hml5, (Hid.out HS5).drewN _, Hid.out HT5, Hid.out HO5, (Hid.out HW5).drewN _⟩
                        case measure => simp [intOf]; try omega
                    · have hrb2 : ¬ (r : Int) < (b : Int) := by omega
                      clear hS5 hT5 hO5 hW5
                      go_wp2
                      go_roundw
                      case rel => exact ⟨jj + 1, i + 1, m5, by omega, by omega, by omega, by simp, by simp, hml5, Hid.out HS5, Hid.out HT5, Hid.out HO5, Hid.out HW5⟩
                      case measure => simp [intOf]; try omega
                · have hr2 : ¬ (2 : Int) ≤ (b : Int) - ((i : Int) + 1) := by omega
                  go_wp2
                  go_roundw
                  case rel => exact ⟨jj + 1, i + 1, m3, by omega, by omega, by omega, by simp, by simp, hml3, Hid.out HN _ _ (Hid.out HS1), Hid.out HT3, Hid.out HO3, ((((Hid.out HW1).drewN _).setCell _ _).setCell _ _)⟩
                  case measure => simp [intOf]; try omega
        · have hib3 : decide ((i : Int) + 1 < (b : Int)) = false := by simp; omega
          obtain rfl : b = i + 1 := by omega
          clear hS hO hW
          go_wp2
          go_quiet (fail)
          go_wp2
          go_ret
          exact ⟨true, m, rfl, (Hid.out HS1).drewN _, Hid.out HT, fun _ => Hid.out HO1, (Hid.out HW1).drewN _⟩
    · have hj52 : ¬ (jj : Int) < 5 := by omega
      go_wp2
      go_ret
      exact Or.inl ⟨rfl, m, Hid.out HS, Hid.out HT, Hid.out HW⟩
end Go.Proofs.Ytodoenimlhldjaa
