/- The library's partition, walked. -/
import Derived.Test.YtodoenimlhldjaaBMAJ
namespace Go.Proofs.Ytodoenimlhldjaa
open Go.ChangeShapes Go.WideShapes Go.ChangeAt Go.RowKit
set_option linter.unusedVariables false
/-- Below the first, behind a, ahead of i; not below it behind j. -/
structure Pt (m : List Nat) (a b i j : Nat) : Prop where
  low : ∀ p, a < p → p < i → m.getD p 0 < m.getD a 0
  high : ∀ q, j < q → q < b → m.getD a 0 ≤ m.getD q 0
theorem Pt.up {m : List Nat} {a b i j : Nat} (h : Pt m a b i j) (hs : m.getD i 0 < m.getD a 0) : Pt m a b (i + 1) j := ⟨fun p h1 h2 => by
  by_cases e : p = i
  · rw [e]; exact hs
  · exact h.low p h1 (by omega), h.high⟩
theorem Pt.down {m : List Nat} {a b i j : Nat} (h : Pt m a b i (j + 1)) (hs : ¬ m.getD (j + 1) 0 < m.getD a 0) : Pt m a b i j := ⟨h.low, fun q h1 h2 => by
  by_cases e : q = j + 1
  · rw [e]; omega
  · exact h.high q (by omega) h2⟩
theorem Pt.swp {m : List Nat} {a b i j : Nat} (h : Pt m a b i (j + 1)) (hai : a < i) (hij : i < j + 1) (hj : j + 1 < b) (hl : b ≤ m.length) (h1 : ¬ m.getD i 0 < m.getD a 0) (h2 : m.getD (j + 1) 0 < m.getD a 0) : Pt (swp m i (j + 1)) a b (i + 1) j := by
  have hg := fun k => swp_get m (i := i) (j := j + 1) (by omega) (by omega) k
  have ha : (Ytodoenimlhldjaa.swp m i (j + 1)).getD a 0 = m.getD a 0 := by rw [hg a, if_neg (by omega), if_neg (by omega)]
  refine ⟨fun p g1 g2 => ?_, fun q g1 g2 => ?_⟩
  · rw [ha, hg p, if_neg (by omega)]
    by_cases e : p = i
    · rw [if_pos e]; exact h2
    · rw [if_neg e]; exact h.low p g1 (by omega)
  · rw [ha, hg q]
    by_cases e : q = j + 1
    · rw [if_pos e]; omega
    · rw [if_neg e, if_neg (by omega)]; exact h.high q (by omega) g2
/-- The pivot stands at j. -/
structure Mid (m : List Nat) (a b j : Nat) : Prop where
  low : ∀ p, a ≤ p → p < j → m.getD p 0 ≤ m.getD j 0
  high : ∀ q, j < q → q < b → m.getD j 0 ≤ m.getD q 0
theorem Pt.done {m : List Nat} {a b i j : Nat} (h : Pt m a b i j) (hi : i = j + 1) (ha : a ≤ j) (hj : j < b) (hl : b ≤ m.length) : Mid (Ytodoenimlhldjaa.swp m j a) a b j := by
  subst hi
  have hg := fun k => swp_get m (i := j) (j := a) (by omega) (by omega) k
  have hjj : (Ytodoenimlhldjaa.swp m j a).getD j 0 = m.getD a 0 := by
    rw [hg j]
    by_cases e : j = a
    · rw [if_pos e, e]
    · rw [if_neg e, if_pos rfl]
  refine ⟨fun p g1 g2 => ?_, fun q g1 g2 => ?_⟩
  · rw [hjj, hg p]
    by_cases e : p = a
    · rw [if_pos e]; exact Nat.le_of_lt (h.low j (by omega) (by omega))
    · rw [if_neg e, if_neg (by omega)]; exact Nat.le_of_lt (h.low p (by omega) (by omega))
  · rw [hjj, hg q, if_neg (by omega), if_neg (by omega)]; exact h.high q g1 g2
set_option maxRecDepth 20000 in
set_option maxHeartbeats 16000000 in
theorem part_any (w : World) (g cap a b pv : Nat) (d : List Nat) (tl : List Value) (h : Srow w g d tl) (hpa : a ≤ pv) (hpb : pv < b) (hb : b ≤ d.length) (hlen : d.length ≤ 1152921504606846976) :
    Calls Try.prog 93 #[.slice (some ⟨g, 0, none⟩) d.length cap, .int .i64 (a : Int), .int .i64 (b : Int), .int .i64 (pv : Int)] w fun e w' => ∃ (j : Nat) (f : Bool) (m : List Nat), e = .returned (.tuple #[.int .i64 (j : Int), .bool f]) ∧ a ≤ j ∧ j < b ∧ Srow w' g m tl ∧ Turned d m a b ∧ Mid m a b j ∧ Only g w w' := by
  have H := hidden h
  obtain ⟨c, hc⟩ : ∃ c, c + 1 = b := ⟨b - 1, by omega⟩
  have hsub : (b : Int) - 1 = (c : Int) := by omega
  have hcb : c < b ∧ b ≤ c + 1 := by omega
  clear hc
  have hca := h.cell (j := a) (by omega)
  have hza := h.thaw a
  by_cases hap : pv = a
  · subst hap
    clear h
    have HN : Hid (∀ u n, Srow u g d tl → Srow (((u.drewN n).setCell ⟨g, pv, none⟩ (.int .u32 ((d.getD pv 0 : Nat) : Int))).setCell ⟨g, pv, none⟩ (.int .u32 ((d.getD pv 0 : Nat) : Int))) g (swp d pv pv) tl) := fun u n h0 => by
      have h1 := (h0.drewN n).set (j := pv) (by omega) (d.getD pv 0)
      exact h1.set (j := pv) (by rw [List.length_set]; omega) (d.getD pv 0)
    have HT0 : Hid (Turned d (swp d pv pv) pv b) := (Turned.refl d pv b).swp ⟨by omega, by omega⟩ ⟨by omega, by omega⟩ (by omega)
    have hml0 : (swp d pv pv).length = d.length := swp_len _ _ _
    generalize hx0 : d.getD pv 0 = x0 at hca HN
    generalize hm0 : swp d pv pv = m0 at HN HT0 hml0
    clear hx0 hm0
    go_enter Try.func93, Try.ntmps93
    go_wp2
    go_region
    all_goals go_wp2
    clear hca hza
    have hml := hml0
    have HT := HT0
    have hai : pv < pv + 1 := by omega
    have hij : pv + 1 ≤ c + 1 := by omega
    have haj : pv ≤ c := by omega
    have hjb : c < b := by omega
    have HP : Hid (Pt m0 pv b (pv + 1) c) := ⟨fun p h1 h2 => by omega, fun q h1 h2 => by omega⟩
    clear hml0 HT0
    go_wp2
    go_loopw [10] (fun x10 wr2 => ∃ (k : Nat), pv + 1 ≤ k ∧ k ≤ c + 1 ∧ x10 = .int .i64 (k : Int) ∧ Srow wr2 g m0 tl ∧ Pt m0 pv b k c ∧ Only g w wr2) (fun x10 _ => b - (intOf x10).toNat)
    case atStart => exact ⟨pv + 1, by omega, by omega, by simp, Hid.out HN _ _ (Hid.out H), Hid.out HP, ((((Only.refl g w).drewN _).setCell _ _).setCell _ _)⟩
    case round =>
      obtain ⟨k, hik, hkj, rfl, hS, hP, hW⟩ := hrel
      have HS2 := hidden hS
      have HP2 := hidden hP
      have HW2 := hidden hW
      by_cases hkj2 : k ≤ c
      · have hkj3 : (k : Int) ≤ (c : Int) := by omega
        have hck := hS.cell (j := k) (by omega)
        have hcA := hS.cell (j := pv) (by omega)
        clear hS hP hW
        have HL := hidden (fun u => less_any (m0.getD k 0) (m0.getD pv 0) u)
        cases hdec : decide (m0.getD k 0 < m0.getD pv 0) with
        | true =>
          rw [hdec] at HL
          have HP3 : Hid (Pt m0 pv b (k + 1) c) := (Hid.out HP2).up (of_decide_eq_true hdec)
          clear hdec
          generalize hx3 : m0.getD pv 0 = x3 at hcA HL
          generalize hx4 : m0.getD k 0 = x4 at hck HL
          clear hx3 hx4
          go_wp2
          go_quiet ((go_at_call 91; exact Calls.quiet_of_same (Hid.out HL _)))
          go_wp2
          go_roundw
          case rel => exact ⟨k + 1, by omega, by omega, by simp, (Hid.out HS2).drewN _, Hid.out HP3, (Hid.out HW2).drewN _⟩
          case measure => simp [intOf]; try omega
        | false =>
          rw [hdec] at HL
          have HLT := hidden (of_decide_eq_false hdec)
          clear hdec
          generalize hx3 : m0.getD pv 0 = x3 at hcA HL
          generalize hx4 : m0.getD k 0 = x4 at hck HL
          clear hx3 hx4
          go_wp2
          go_quiet ((go_at_call 91; exact Calls.quiet_of_same (Hid.out HL _)))
          go_wp2
          clear hck hcA HL
          go_loopw [11] (fun x11 wr3 => ∃ (l : Nat), k ≤ l + 1 ∧ l ≤ c ∧ x11 = .int .i64 (l : Int) ∧ Srow wr3 g m0 tl ∧ Pt m0 pv b k l ∧ Only g w wr3) (fun x11 _ => (intOf x11).toNat)
          case atStart => exact ⟨c, by omega, by omega, rfl, (Hid.out HS2).drewN _, Hid.out HP2, (Hid.out HW2).drewN _⟩
          case round =>
            obtain ⟨l, hkl, hlj, rfl, hS, hP, hW⟩ := hrel
            have HS4 := hidden hS
            have HP4 := hidden hP
            have HW4 := hidden hW
            by_cases hkl2 : k ≤ l
            · obtain ⟨l, rfl⟩ : ∃ l', l = l' + 1 := ⟨l - 1, by omega⟩
              have hkl3 : (k : Int) ≤ (l : Int) + 1 := by omega
              have hkl4 : ¬ (l : Int) + 1 < (k : Int) := by omega
              have hck := hS.cell (j := k) (by omega)
              have hzk := hS.thaw k
              have hcl := hS.cell (j := l + 1) (by omega)
              have hzl := hS.thaw (l + 1)
              have hcA := hS.cell (j := pv) (by omega)
              clear hS hP hW
              have HL := hidden (fun u => less_any (m0.getD (l + 1) 0) (m0.getD pv 0) u)
              cases hdec : decide (m0.getD (l + 1) 0 < m0.getD pv 0) with
              | false =>
                rw [hdec] at HL
                have HP5 : Hid (Pt m0 pv b k l) := (Hid.out HP4).down (of_decide_eq_false hdec)
                clear hdec
                generalize hx3 : m0.getD pv 0 = x3 at hcA HL
                generalize hx4 : m0.getD (l + 1) 0 = x4 at hcl HL
                generalize hx5 : m0.getD k 0 = x5 at hck
                clear hx3 hx4 hx5
                go_wp2
                go_quiet ((go_at_call 91; exact Calls.quiet_of_same (Hid.out HL _)))
                go_wp2
                go_roundw
                case rel => exact ⟨l, by omega, by omega, by simp, (Hid.out HS4).drewN _, Hid.out HP5, (Hid.out HW4).drewN _⟩
                case measure => simp [intOf]
              | true =>
                rw [hdec] at HL
                have HNLT := hidden (of_decide_eq_true hdec)
                clear hdec
                have hne : ¬ k = l + 1 := fun e => by
                  have h1 := Hid.out HLT
                  have h2 := Hid.out HNLT
                  rw [e] at h1
                  exact h1 h2
                have hne2 : ¬ l + 1 = k := fun e => hne e.symm
                have HP5 : Hid (Pt (swp m0 k (l + 1)) pv b (k + 1) l) := (Hid.out HP4).swp (by omega) (by omega) (by omega) (by omega) (Hid.out HLT) (Hid.out HNLT)
                have HT5 : Hid (Turned d (swp m0 k (l + 1)) pv b) := (Hid.out HT).swp ⟨by omega, by omega⟩ ⟨by omega, by omega⟩ (by omega)
                have HN2 : Hid (∀ u n, Srow u g m0 tl → Srow (((u.drewN n).setCell ⟨g, k, none⟩ (.int .u32 ((m0.getD (l + 1) 0 : Nat) : Int))).setCell ⟨g, l + 1, none⟩ (.int .u32 ((m0.getD k 0 : Nat) : Int))) g (swp m0 k (l + 1)) tl) := fun u n h0 => by
                  have h1 := (h0.drewN n).set (j := k) (by omega) (m0.getD (l + 1) 0)
                  exact h1.set (j := l + 1) (by rw [List.length_set]; omega) (m0.getD k 0)
                clear HLT HNLT
                generalize hx3 : m0.getD pv 0 = x3 at hcA HL
                generalize hx4 : m0.getD (l + 1) 0 = x4 at hcl HL HN2
                generalize hx5 : m0.getD k 0 = x5 at hck HN2
                clear hx3 hx4 hx5
                go_wp2
                go_quiet ((go_at_call 91; exact Calls.quiet_of_same (Hid.out HL _)))
                go_wp2
                go_region
                all_goals go_wp2
                clear hck hzk hcl hzl hcA HL
                have hml5 : (swp m0 k (l + 1)).length = d.length := by rw [swp_len]; exact hml
                generalize hm5 : swp m0 k (l + 1) = m5 at HP5 HT5 HN2 hml5
                clear hm5
                go_loopw [10, 11] (fun x10 x11 wr => ∃ (i j : Nat) (m : List Nat), pv < i ∧ i ≤ j + 1 ∧ pv ≤ j ∧ j < b ∧ x10 = .int .i64 (i : Int) ∧ x11 = .int .i64 (j : Int) ∧ m.length = d.length ∧ Srow wr g m tl ∧ Turned d m pv b ∧ Pt m pv b i j ∧ Only g w wr) (fun x10 x11 _ => b - (intOf x10).toNat)
                case atStart => exact ⟨k + 1, l, m5, by omega, by omega, by omega, by omega, by simp, by simp, hml5, Hid.out HN2 _ _ (Hid.out HS4), Hid.out HT5, Hid.out HP5, ((((Hid.out HW4).drewN _).setCell _ _).setCell _ _)⟩
                case round =>
                  clear HN H HT HP HS2 HP2 HW2 HS4 HP4 HW4 HP5 HT5 HN2 hml hml5 hai hij haj hjb hik hkj hkj2 hkj3 hkl hlj hkl2 hkl3 hkl4 hne hne2
                  obtain ⟨i, j, m, hai, hij, haj, hjb, rfl, rfl, hml, hS, hT, hP, hW⟩ := hrel
                  have HS := hidden hS
                  have HT := hidden hT
                  have HP := hidden hP
                  have HW := hidden hW
                  clear hS hT hP hW
                  go_wp2
                  go_loopw [10] (fun x10 wr2 => ∃ (k : Nat), i ≤ k ∧ k ≤ j + 1 ∧ x10 = .int .i64 (k : Int) ∧ Srow wr2 g m tl ∧ Pt m pv b k j ∧ Only g w wr2) (fun x10 _ => b - (intOf x10).toNat)
                  case atStart => exact ⟨i, by omega, hij, rfl, Hid.out HS, Hid.out HP, Hid.out HW⟩
                  case round =>
                    obtain ⟨k, hik, hkj, rfl, hS, hP, hW⟩ := hrel
                    have HS2 := hidden hS
                    have HP2 := hidden hP
                    have HW2 := hidden hW
                    by_cases hkj2 : k ≤ j
                    · have hkj3 : (k : Int) ≤ (j : Int) := by omega
                      have hck := hS.cell (j := k) (by omega)
                      have hcA := hS.cell (j := pv) (by omega)
                      clear hS hP hW
                      have HL := hidden (fun u => less_any (m.getD k 0) (m.getD pv 0) u)
                      cases hdec : decide (m.getD k 0 < m.getD pv 0) with
                      | true =>
                        rw [hdec] at HL
                        have HP3 : Hid (Pt m pv b (k + 1) j) := (Hid.out HP2).up (of_decide_eq_true hdec)
                        clear hdec
                        generalize hx3 : m.getD pv 0 = x3 at hcA HL
                        generalize hx4 : m.getD k 0 = x4 at hck HL
                        clear hx3 hx4
                        go_wp2
                        go_quiet ((go_at_call 91; exact Calls.quiet_of_same (Hid.out HL _)))
                        go_wp2
                        go_roundw
                        case rel => exact ⟨k + 1, by omega, by omega, by simp, (Hid.out HS2).drewN _, Hid.out HP3, (Hid.out HW2).drewN _⟩
                        case measure => simp [intOf]; try omega
                      | false =>
                        rw [hdec] at HL
                        have HLT := hidden (of_decide_eq_false hdec)
                        clear hdec
                        generalize hx3 : m.getD pv 0 = x3 at hcA HL
                        generalize hx4 : m.getD k 0 = x4 at hck HL
                        clear hx3 hx4
                        go_wp2
                        go_quiet ((go_at_call 91; exact Calls.quiet_of_same (Hid.out HL _)))
                        go_wp2
                        clear hck hcA HL
                        go_loopw [11] (fun x11 wr3 => ∃ (l : Nat), k ≤ l + 1 ∧ l ≤ j ∧ x11 = .int .i64 (l : Int) ∧ Srow wr3 g m tl ∧ Pt m pv b k l ∧ Only g w wr3) (fun x11 _ => (intOf x11).toNat)
                        case atStart => exact ⟨j, by omega, by omega, rfl, (Hid.out HS2).drewN _, Hid.out HP2, (Hid.out HW2).drewN _⟩
                        case round =>
                          obtain ⟨l, hkl, hlj, rfl, hS, hP, hW⟩ := hrel
                          have HS4 := hidden hS
                          have HP4 := hidden hP
                          have HW4 := hidden hW
                          by_cases hkl2 : k ≤ l
                          · obtain ⟨l, rfl⟩ : ∃ l', l = l' + 1 := ⟨l - 1, by omega⟩
                            have hkl3 : (k : Int) ≤ (l : Int) + 1 := by omega
                            have hkl4 : ¬ (l : Int) + 1 < (k : Int) := by omega
                            have hck := hS.cell (j := k) (by omega)
                            have hzk := hS.thaw k
                            have hcl := hS.cell (j := l + 1) (by omega)
                            have hzl := hS.thaw (l + 1)
                            have hcA := hS.cell (j := pv) (by omega)
                            clear hS hP hW
                            have HL := hidden (fun u => less_any (m.getD (l + 1) 0) (m.getD pv 0) u)
                            cases hdec : decide (m.getD (l + 1) 0 < m.getD pv 0) with
                            | false =>
                              rw [hdec] at HL
                              have HP5 : Hid (Pt m pv b k l) := (Hid.out HP4).down (of_decide_eq_false hdec)
                              clear hdec
                              generalize hx3 : m.getD pv 0 = x3 at hcA HL
                              generalize hx4 : m.getD (l + 1) 0 = x4 at hcl HL
                              generalize hx5 : m.getD k 0 = x5 at hck
                              clear hx3 hx4 hx5
                              go_wp2
                              go_quiet ((go_at_call 91; exact Calls.quiet_of_same (Hid.out HL _)))
                              go_wp2
                              go_roundw
                              case rel => exact ⟨l, by omega, by omega, by simp, (Hid.out HS4).drewN _, Hid.out HP5, (Hid.out HW4).drewN _⟩
                              case measure => simp [intOf]
                            | true =>
                              rw [hdec] at HL
                              have HNLT := hidden (of_decide_eq_true hdec)
                              clear hdec
                              have hne : ¬ k = l + 1 := fun e => by
                                have h1 := Hid.out HLT
                                have h2 := Hid.out HNLT
                                rw [e] at h1
                                exact h1 h2
                              have hne2 : ¬ l + 1 = k := fun e => hne e.symm
                              have HP5 : Hid (Pt (swp m k (l + 1)) pv b (k + 1) l) := (Hid.out HP4).swp (by omega) (by omega) (by omega) (by omega) (Hid.out HLT) (Hid.out HNLT)
                              have HT5 : Hid (Turned d (swp m k (l + 1)) pv b) := (Hid.out HT).swp ⟨by omega, by omega⟩ ⟨by omega, by omega⟩ (by omega)
                              have HN2 : Hid (∀ u n, Srow u g m tl → Srow (((u.drewN n).setCell ⟨g, k, none⟩ (.int .u32 ((m.getD (l + 1) 0 : Nat) : Int))).setCell ⟨g, l + 1, none⟩ (.int .u32 ((m.getD k 0 : Nat) : Int))) g (swp m k (l + 1)) tl) := fun u n h0 => by
                                have h1 := (h0.drewN n).set (j := k) (by omega) (m.getD (l + 1) 0)
                                exact h1.set (j := l + 1) (by rw [List.length_set]; omega) (m.getD k 0)
                              clear HLT HNLT
                              generalize hx3 : m.getD pv 0 = x3 at hcA HL
                              generalize hx4 : m.getD (l + 1) 0 = x4 at hcl HL HN2
                              generalize hx5 : m.getD k 0 = x5 at hck HN2
                              clear hx3 hx4 hx5
                              go_wp2
                              go_quiet ((go_at_call 91; exact Calls.quiet_of_same (Hid.out HL _)))
                              go_wp2
                              go_region
                              all_goals go_wp2
                              go_roundw
                              case rel => exact ⟨k + 1, l, swp m k (l + 1), by omega, by omega, by omega, by omega, by simp, by simp, by rw [swp_len]; exact hml, Hid.out HN2 _ _ (Hid.out HS4), Hid.out HT5, Hid.out HP5, ((((Hid.out HW4).drewN _).setCell _ _).setCell _ _)⟩
                              case measure => simp [intOf]; try omega
                          · have hkl3 : decide ((k : Int) ≤ (l : Int)) = false := by simp; omega
                            have hkl4 : (l : Int) < (k : Int) := by omega
                            by_cases hla : pv = l
                            · subst hla
                              have hcA := hS.cell (j := pv) (by omega)
                              have hzA := hS.thaw pv
                              have HD : Hid (Mid (swp m pv pv) pv b pv) := (Hid.out HP4).done (by omega) (by omega) (by omega) (by omega)
                              have HN2 : Hid (∀ u n, Srow u g m tl → Srow (((u.drewN n).setCell ⟨g, pv, none⟩ (.int .u32 ((m.getD pv 0 : Nat) : Int))).setCell ⟨g, pv, none⟩ (.int .u32 ((m.getD pv 0 : Nat) : Int))) g (swp m pv pv) tl) := fun u n h0 => by
                                have h1 := (h0.drewN n).set (j := pv) (by omega) (m.getD pv 0)
                                exact h1.set (j := pv) (by rw [List.length_set]; omega) (m.getD pv 0)
                              clear hS hP hW
                              generalize hx3 : m.getD pv 0 = x3 at hcA HN2
                              clear hx3
                              go_wp2
                              go_quiet (fail)
                              go_wp2
                              go_region
                              all_goals go_wp2
                              go_ret2
                              exact ⟨pv, false, swp m pv pv, rfl, by omega, by omega, Hid.out HN2 _ _ (Hid.out HS4), (Hid.out HT).swp ⟨by omega, by omega⟩ ⟨by omega, by omega⟩ (by omega), Hid.out HD, ((((Hid.out HW4).drewN _).setCell _ _).setCell _ _)⟩
                            · have hla2 : ¬ l = pv := fun e => hla e.symm
                              have hcA := hS.cell (j := pv) (by omega)
                              have hzA := hS.thaw pv
                              have hcl := hS.cell (j := l) (by omega)
                              have hzl := hS.thaw l
                              have HD : Hid (Mid (swp m l pv) pv b l) := (Hid.out HP4).done (by omega) (by omega) (by omega) (by omega)
                              have HN2 : Hid (∀ u n, Srow u g m tl → Srow (((u.drewN n).setCell ⟨g, l, none⟩ (.int .u32 ((m.getD pv 0 : Nat) : Int))).setCell ⟨g, pv, none⟩ (.int .u32 ((m.getD l 0 : Nat) : Int))) g (swp m l pv) tl) := fun u n h0 => by
                                have h1 := (h0.drewN n).set (j := l) (by omega) (m.getD pv 0)
                                exact h1.set (j := pv) (by rw [List.length_set]; omega) (m.getD l 0)
                              clear hS hP hW
                              generalize hx3 : m.getD pv 0 = x3 at hcA HN2
                              generalize hx4 : m.getD l 0 = x4 at hcl HN2
                              clear hx3 hx4
                              go_wp2
                              go_quiet (fail)
                              go_wp2
                              go_region
                              all_goals go_wp2
                              go_ret2
                              exact ⟨l, false, swp m l pv, rfl, by omega, by omega, Hid.out HN2 _ _ (Hid.out HS4), (Hid.out HT).swp ⟨by omega, by omega⟩ ⟨by omega, by omega⟩ (by omega), Hid.out HD, ((((Hid.out HW4).drewN _).setCell _ _).setCell _ _)⟩
                    · have hkj3 : decide ((k : Int) ≤ (j : Int)) = false := by simp; omega
                      have hkj4 : (j : Int) < (k : Int) := by omega
                      clear hS hP hW
                      go_wp2
                      go_quiet (fail)
                      go_wp2
                      go_loopw [11] (fun x11 wr3 => x11 = .int .i64 (j : Int) ∧ Srow wr3 g m tl ∧ Only g w wr3) (fun x11 _ => 0)
                      case atStart => exact ⟨rfl, (Hid.out HS2).drewN _, (Hid.out HW2).drewN _⟩
                      case round =>
                        obtain ⟨rfl, hS, hW⟩ := hrel
                        have HS4 := hidden hS
                        have HW4 := hidden hW
                        have hP := trivial
                        by_cases hla : pv = j
                        · subst hla
                          have hcA := hS.cell (j := pv) (by omega)
                          have hzA := hS.thaw pv
                          have HD : Hid (Mid (swp m pv pv) pv b pv) := (Hid.out HP2).done (by omega) (by omega) (by omega) (by omega)
                          have HN2 : Hid (∀ u n, Srow u g m tl → Srow (((u.drewN n).setCell ⟨g, pv, none⟩ (.int .u32 ((m.getD pv 0 : Nat) : Int))).setCell ⟨g, pv, none⟩ (.int .u32 ((m.getD pv 0 : Nat) : Int))) g (swp m pv pv) tl) := fun u n h0 => by
                            have h1 := (h0.drewN n).set (j := pv) (by omega) (m.getD pv 0)
                            exact h1.set (j := pv) (by rw [List.length_set]; omega) (m.getD pv 0)
                          clear hS hP hW
                          generalize hx3 : m.getD pv 0 = x3 at hcA HN2
                          clear hx3
                          go_wp2
                          go_quiet (fail)
                          go_wp2
                          go_region
                          all_goals go_wp2
                          go_ret2
                          exact ⟨pv, false, swp m pv pv, rfl, by omega, by omega, Hid.out HN2 _ _ (Hid.out HS4), (Hid.out HT).swp ⟨by omega, by omega⟩ ⟨by omega, by omega⟩ (by omega), Hid.out HD, ((((Hid.out HW4).drewN _).setCell _ _).setCell _ _)⟩
                        · have hla2 : ¬ j = pv := fun e => hla e.symm
                          have hcA := hS.cell (j := pv) (by omega)
                          have hzA := hS.thaw pv
                          have hcl := hS.cell (j := j) (by omega)
                          have hzl := hS.thaw j
                          have HD : Hid (Mid (swp m j pv) pv b j) := (Hid.out HP2).done (by omega) (by omega) (by omega) (by omega)
                          have HN2 : Hid (∀ u n, Srow u g m tl → Srow (((u.drewN n).setCell ⟨g, j, none⟩ (.int .u32 ((m.getD pv 0 : Nat) : Int))).setCell ⟨g, pv, none⟩ (.int .u32 ((m.getD j 0 : Nat) : Int))) g (swp m j pv) tl) := fun u n h0 => by
                            have h1 := (h0.drewN n).set (j := j) (by omega) (m.getD pv 0)
                            exact h1.set (j := pv) (by rw [List.length_set]; omega) (m.getD j 0)
                          clear hS hP hW
                          generalize hx3 : m.getD pv 0 = x3 at hcA HN2
                          generalize hx4 : m.getD j 0 = x4 at hcl HN2
                          clear hx3 hx4
                          go_wp2
                          go_quiet (fail)
                          go_wp2
                          go_region
                          all_goals go_wp2
                          go_ret2
                          exact ⟨j, false, swp m j pv, rfl, by omega, by omega, Hid.out HN2 _ _ (Hid.out HS4), (Hid.out HT).swp ⟨by omega, by omega⟩ ⟨by omega, by omega⟩ (by omega), Hid.out HD, ((((Hid.out HW4).drewN _).setCell _ _).setCell _ _)⟩
            · have hkl3 : decide ((k : Int) ≤ (l : Int)) = false := by simp; omega
              have hkl4 : (l : Int) < (k : Int) := by omega
              by_cases hla : pv = l
              · subst hla
                have hcA := hS.cell (j := pv) (by omega)
                have hzA := hS.thaw pv
                have HD : Hid (Mid (swp m0 pv pv) pv b pv) := (Hid.out HP4).done (by omega) (by omega) (by omega) (by omega)
                have HN2 : Hid (∀ u n, Srow u g m0 tl → Srow (((u.drewN n).setCell ⟨g, pv, none⟩ (.int .u32 ((m0.getD pv 0 : Nat) : Int))).setCell ⟨g, pv, none⟩ (.int .u32 ((m0.getD pv 0 : Nat) : Int))) g (swp m0 pv pv) tl) := fun u n h0 => by
                  have h1 := (h0.drewN n).set (j := pv) (by omega) (m0.getD pv 0)
                  exact h1.set (j := pv) (by rw [List.length_set]; omega) (m0.getD pv 0)
                clear hS hP hW
                generalize hx3 : m0.getD pv 0 = x3 at hcA HN2
                clear hx3
                go_wp2
                go_quiet (fail)
                go_wp2
                go_region
                all_goals go_wp2
                go_ret2
                exact ⟨pv, true, swp m0 pv pv, rfl, by omega, by omega, Hid.out HN2 _ _ (Hid.out HS4), (Hid.out HT).swp ⟨by omega, by omega⟩ ⟨by omega, by omega⟩ (by omega), Hid.out HD, ((((Hid.out HW4).drewN _).setCell _ _).setCell _ _)⟩
              · have hla2 : ¬ l = pv := fun e => hla e.symm
                have hcA := hS.cell (j := pv) (by omega)
                have hzA := hS.thaw pv
                have hcl := hS.cell (j := l) (by omega)
                have hzl := hS.thaw l
                have HD : Hid (Mid (swp m0 l pv) pv b l) := (Hid.out HP4).done (by omega) (by omega) (by omega) (by omega)
                have HN2 : Hid (∀ u n, Srow u g m0 tl → Srow (((u.drewN n).setCell ⟨g, l, none⟩ (.int .u32 ((m0.getD pv 0 : Nat) : Int))).setCell ⟨g, pv, none⟩ (.int .u32 ((m0.getD l 0 : Nat) : Int))) g (swp m0 l pv) tl) := fun u n h0 => by
                  have h1 := (h0.drewN n).set (j := l) (by omega) (m0.getD pv 0)
                  exact h1.set (j := pv) (by rw [List.length_set]; omega) (m0.getD l 0)
                clear hS hP hW
                generalize hx3 : m0.getD pv 0 = x3 at hcA HN2
                generalize hx4 : m0.getD l 0 = x4 at hcl HN2
                clear hx3 hx4
                go_wp2
                go_quiet (fail)
                go_wp2
                go_region
                all_goals go_wp2
                go_ret2
                exact ⟨l, true, swp m0 l pv, rfl, by omega, by omega, Hid.out HN2 _ _ (Hid.out HS4), (Hid.out HT).swp ⟨by omega, by omega⟩ ⟨by omega, by omega⟩ (by omega), Hid.out HD, ((((Hid.out HW4).drewN _).setCell _ _).setCell _ _)⟩
      · have hkj3 : decide ((k : Int) ≤ (c : Int)) = false := by simp; omega
        have hkj4 : (c : Int) < (k : Int) := by omega
        clear hS hP hW
        go_wp2
        go_quiet (fail)
        go_wp2
        go_loopw [11] (fun x11 wr3 => x11 = .int .i64 (c : Int) ∧ Srow wr3 g m0 tl ∧ Only g w wr3) (fun x11 _ => 0)
        case atStart => exact ⟨rfl, (Hid.out HS2).drewN _, (Hid.out HW2).drewN _⟩
        case round =>
          obtain ⟨rfl, hS, hW⟩ := hrel
          have HS4 := hidden hS
          have HW4 := hidden hW
          have hP := trivial
          by_cases hla : pv = c
          · subst hla
            have hcA := hS.cell (j := pv) (by omega)
            have hzA := hS.thaw pv
            have HD : Hid (Mid (swp m0 pv pv) pv b pv) := (Hid.out HP2).done (by omega) (by omega) (by omega) (by omega)
            have HN2 : Hid (∀ u n, Srow u g m0 tl → Srow (((u.drewN n).setCell ⟨g, pv, none⟩ (.int .u32 ((m0.getD pv 0 : Nat) : Int))).setCell ⟨g, pv, none⟩ (.int .u32 ((m0.getD pv 0 : Nat) : Int))) g (swp m0 pv pv) tl) := fun u n h0 => by
              have h1 := (h0.drewN n).set (j := pv) (by omega) (m0.getD pv 0)
              exact h1.set (j := pv) (by rw [List.length_set]; omega) (m0.getD pv 0)
            clear hS hP hW
            generalize hx3 : m0.getD pv 0 = x3 at hcA HN2
            clear hx3
            go_wp2
            go_quiet (fail)
            go_wp2
            go_region
            all_goals go_wp2
            go_ret2
            exact ⟨pv, true, swp m0 pv pv, rfl, by omega, by omega, Hid.out HN2 _ _ (Hid.out HS4), (Hid.out HT).swp ⟨by omega, by omega⟩ ⟨by omega, by omega⟩ (by omega), Hid.out HD, ((((Hid.out HW4).drewN _).setCell _ _).setCell _ _)⟩
          · have hla2 : ¬ c = pv := fun e => hla e.symm
            have hcA := hS.cell (j := pv) (by omega)
            have hzA := hS.thaw pv
            have hcl := hS.cell (j := c) (by omega)
            have hzl := hS.thaw c
            have HD : Hid (Mid (swp m0 c pv) pv b c) := (Hid.out HP2).done (by omega) (by omega) (by omega) (by omega)
            have HN2 : Hid (∀ u n, Srow u g m0 tl → Srow (((u.drewN n).setCell ⟨g, c, none⟩ (.int .u32 ((m0.getD pv 0 : Nat) : Int))).setCell ⟨g, pv, none⟩ (.int .u32 ((m0.getD c 0 : Nat) : Int))) g (swp m0 c pv) tl) := fun u n h0 => by
              have h1 := (h0.drewN n).set (j := c) (by omega) (m0.getD pv 0)
              exact h1.set (j := pv) (by rw [List.length_set]; omega) (m0.getD c 0)
            clear hS hP hW
            generalize hx3 : m0.getD pv 0 = x3 at hcA HN2
            generalize hx4 : m0.getD c 0 = x4 at hcl HN2
            clear hx3 hx4
            go_wp2
            go_quiet (fail)
            go_wp2
            go_region
            all_goals go_wp2
            go_ret2
            exact ⟨c, true, swp m0 c pv, rfl, by omega, by omega, Hid.out HN2 _ _ (Hid.out HS4), (Hid.out HT).swp ⟨by omega, by omega⟩ ⟨by omega, by omega⟩ (by omega), Hid.out HD, ((((Hid.out HW4).drewN _).setCell _ _).setCell _ _)⟩
  · have hap2 : ¬ a = pv := fun e => hap e.symm
    have hcp := h.cell (j := pv) (by omega)
    have hzp := h.thaw pv
    clear h
    have HN : Hid (∀ u n, Srow u g d tl → Srow (((u.drewN n).setCell ⟨g, a, none⟩ (.int .u32 ((d.getD pv 0 : Nat) : Int))).setCell ⟨g, pv, none⟩ (.int .u32 ((d.getD a 0 : Nat) : Int))) g (swp d a pv) tl) := fun u n h0 => by
      have h1 := (h0.drewN n).set (j := a) (by omega) (d.getD pv 0)
      exact h1.set (j := pv) (by rw [List.length_set]; omega) (d.getD a 0)
    have HT0 : Hid (Turned d (swp d a pv) a b) := (Turned.refl d a b).swp ⟨by omega, by omega⟩ ⟨by omega, by omega⟩ (by omega)
    have hml0 : (swp d a pv).length = d.length := swp_len _ _ _
    generalize hx0 : d.getD pv 0 = x0 at hcp HN
    generalize hx1 : d.getD a 0 = x1 at hca HN
    generalize hm0 : swp d a pv = m0 at HN HT0 hml0
    clear hx0 hx1 hm0
    go_enter Try.func93, Try.ntmps93
    go_wp2
    go_region
    all_goals go_wp2
    clear hca hza hcp hzp
    have hml := hml0
    have HT := HT0
    have hai : a < a + 1 := by omega
    have hij : a + 1 ≤ c + 1 := by omega
    have haj : a ≤ c := by omega
    have hjb : c < b := by omega
    have HP : Hid (Pt m0 a b (a + 1) c) := ⟨fun p h1 h2 => by omega, fun q h1 h2 => by omega⟩
    clear hml0 HT0
    go_wp2
    go_loopw [10] (fun x10 wr2 => ∃ (k : Nat), a + 1 ≤ k ∧ k ≤ c + 1 ∧ x10 = .int .i64 (k : Int) ∧ Srow wr2 g m0 tl ∧ Pt m0 a b k c ∧ Only g w wr2) (fun x10 _ => b - (intOf x10).toNat)
    case atStart => exact ⟨a + 1, by omega, by omega, by simp, Hid.out HN _ _ (Hid.out H), Hid.out HP, ((((Only.refl g w).drewN _).setCell _ _).setCell _ _)⟩
    case round =>
      obtain ⟨k, hik, hkj, rfl, hS, hP, hW⟩ := hrel
      have HS2 := hidden hS
      have HP2 := hidden hP
      have HW2 := hidden hW
      by_cases hkj2 : k ≤ c
      · have hkj3 : (k : Int) ≤ (c : Int) := by omega
        have hck := hS.cell (j := k) (by omega)
        have hcA := hS.cell (j := a) (by omega)
        clear hS hP hW
        have HL := hidden (fun u => less_any (m0.getD k 0) (m0.getD a 0) u)
        cases hdec : decide (m0.getD k 0 < m0.getD a 0) with
        | true =>
          rw [hdec] at HL
          have HP3 : Hid (Pt m0 a b (k + 1) c) := (Hid.out HP2).up (of_decide_eq_true hdec)
          clear hdec
          generalize hx3 : m0.getD a 0 = x3 at hcA HL
          generalize hx4 : m0.getD k 0 = x4 at hck HL
          clear hx3 hx4
          go_wp2
          go_quiet ((go_at_call 91; exact Calls.quiet_of_same (Hid.out HL _)))
          go_wp2
          go_roundw
          case rel => exact ⟨k + 1, by omega, by omega, by simp, (Hid.out HS2).drewN _, Hid.out HP3, (Hid.out HW2).drewN _⟩
          case measure => simp [intOf]; try omega
        | false =>
          rw [hdec] at HL
          have HLT := hidden (of_decide_eq_false hdec)
          clear hdec
          generalize hx3 : m0.getD a 0 = x3 at hcA HL
          generalize hx4 : m0.getD k 0 = x4 at hck HL
          clear hx3 hx4
          go_wp2
          go_quiet ((go_at_call 91; exact Calls.quiet_of_same (Hid.out HL _)))
          go_wp2
          clear hck hcA HL
          go_loopw [11] (fun x11 wr3 => ∃ (l : Nat), k ≤ l + 1 ∧ l ≤ c ∧ x11 = .int .i64 (l : Int) ∧ Srow wr3 g m0 tl ∧ Pt m0 a b k l ∧ Only g w wr3) (fun x11 _ => (intOf x11).toNat)
          case atStart => exact ⟨c, by omega, by omega, rfl, (Hid.out HS2).drewN _, Hid.out HP2, (Hid.out HW2).drewN _⟩
          case round =>
            obtain ⟨l, hkl, hlj, rfl, hS, hP, hW⟩ := hrel
            have HS4 := hidden hS
            have HP4 := hidden hP
            have HW4 := hidden hW
            by_cases hkl2 : k ≤ l
            · obtain ⟨l, rfl⟩ : ∃ l', l = l' + 1 := ⟨l - 1, by omega⟩
              have hkl3 : (k : Int) ≤ (l : Int) + 1 := by omega
              have hkl4 : ¬ (l : Int) + 1 < (k : Int) := by omega
              have hck := hS.cell (j := k) (by omega)
              have hzk := hS.thaw k
              have hcl := hS.cell (j := l + 1) (by omega)
              have hzl := hS.thaw (l + 1)
              have hcA := hS.cell (j := a) (by omega)
              clear hS hP hW
              have HL := hidden (fun u => less_any (m0.getD (l + 1) 0) (m0.getD a 0) u)
              cases hdec : decide (m0.getD (l + 1) 0 < m0.getD a 0) with
              | false =>
                rw [hdec] at HL
                have HP5 : Hid (Pt m0 a b k l) := (Hid.out HP4).down (of_decide_eq_false hdec)
                clear hdec
                generalize hx3 : m0.getD a 0 = x3 at hcA HL
                generalize hx4 : m0.getD (l + 1) 0 = x4 at hcl HL
                generalize hx5 : m0.getD k 0 = x5 at hck
                clear hx3 hx4 hx5
                go_wp2
                go_quiet ((go_at_call 91; exact Calls.quiet_of_same (Hid.out HL _)))
                go_wp2
                go_roundw
                case rel => exact ⟨l, by omega, by omega, by simp, (Hid.out HS4).drewN _, Hid.out HP5, (Hid.out HW4).drewN _⟩
                case measure => simp [intOf]
              | true =>
                rw [hdec] at HL
                have HNLT := hidden (of_decide_eq_true hdec)
                clear hdec
                have hne : ¬ k = l + 1 := fun e => by
                  have h1 := Hid.out HLT
                  have h2 := Hid.out HNLT
                  rw [e] at h1
                  exact h1 h2
                have hne2 : ¬ l + 1 = k := fun e => hne e.symm
                have HP5 : Hid (Pt (swp m0 k (l + 1)) a b (k + 1) l) := (Hid.out HP4).swp (by omega) (by omega) (by omega) (by omega) (Hid.out HLT) (Hid.out HNLT)
                have HT5 : Hid (Turned d (swp m0 k (l + 1)) a b) := (Hid.out HT).swp ⟨by omega, by omega⟩ ⟨by omega, by omega⟩ (by omega)
                have HN2 : Hid (∀ u n, Srow u g m0 tl → Srow (((u.drewN n).setCell ⟨g, k, none⟩ (.int .u32 ((m0.getD (l + 1) 0 : Nat) : Int))).setCell ⟨g, l + 1, none⟩ (.int .u32 ((m0.getD k 0 : Nat) : Int))) g (swp m0 k (l + 1)) tl) := fun u n h0 => by
                  have h1 := (h0.drewN n).set (j := k) (by omega) (m0.getD (l + 1) 0)
                  exact h1.set (j := l + 1) (by rw [List.length_set]; omega) (m0.getD k 0)
                clear HLT HNLT
                generalize hx3 : m0.getD a 0 = x3 at hcA HL
                generalize hx4 : m0.getD (l + 1) 0 = x4 at hcl HL HN2
                generalize hx5 : m0.getD k 0 = x5 at hck HN2
                clear hx3 hx4 hx5
                go_wp2
                go_quiet ((go_at_call 91; exact Calls.quiet_of_same (Hid.out HL _)))
                go_wp2
                go_region
                all_goals go_wp2
                clear hck hzk hcl hzl hcA HL
                have hml5 : (swp m0 k (l + 1)).length = d.length := by rw [swp_len]; exact hml
                generalize hm5 : swp m0 k (l + 1) = m5 at HP5 HT5 HN2 hml5
                clear hm5
                go_loopw [10, 11] (fun x10 x11 wr => ∃ (i j : Nat) (m : List Nat), a < i ∧ i ≤ j + 1 ∧ a ≤ j ∧ j < b ∧ x10 = .int .i64 (i : Int) ∧ x11 = .int .i64 (j : Int) ∧ m.length = d.length ∧ Srow wr g m tl ∧ Turned d m a b ∧ Pt m a b i j ∧ Only g w wr) (fun x10 x11 _ => b - (intOf x10).toNat)
                case atStart => exact ⟨k + 1, l, m5, by omega, by omega, by omega, by omega, by simp, by simp, hml5, Hid.out HN2 _ _ (Hid.out HS4), Hid.out HT5, Hid.out HP5, ((((Hid.out HW4).drewN _).setCell _ _).setCell _ _)⟩
                case round =>
                  clear HN H HT HP HS2 HP2 HW2 HS4 HP4 HW4 HP5 HT5 HN2 hml hml5 hai hij haj hjb hik hkj hkj2 hkj3 hkl hlj hkl2 hkl3 hkl4 hne hne2
                  obtain ⟨i, j, m, hai, hij, haj, hjb, rfl, rfl, hml, hS, hT, hP, hW⟩ := hrel
                  have HS := hidden hS
                  have HT := hidden hT
                  have HP := hidden hP
                  have HW := hidden hW
                  clear hS hT hP hW
                  go_wp2
                  go_loopw [10] (fun x10 wr2 => ∃ (k : Nat), i ≤ k ∧ k ≤ j + 1 ∧ x10 = .int .i64 (k : Int) ∧ Srow wr2 g m tl ∧ Pt m a b k j ∧ Only g w wr2) (fun x10 _ => b - (intOf x10).toNat)
                  case atStart => exact ⟨i, by omega, hij, rfl, Hid.out HS, Hid.out HP, Hid.out HW⟩
                  case round =>
                    obtain ⟨k, hik, hkj, rfl, hS, hP, hW⟩ := hrel
                    have HS2 := hidden hS
                    have HP2 := hidden hP
                    have HW2 := hidden hW
                    by_cases hkj2 : k ≤ j
                    · have hkj3 : (k : Int) ≤ (j : Int) := by omega
                      have hck := hS.cell (j := k) (by omega)
                      have hcA := hS.cell (j := a) (by omega)
                      clear hS hP hW
                      have HL := hidden (fun u => less_any (m.getD k 0) (m.getD a 0) u)
                      cases hdec : decide (m.getD k 0 < m.getD a 0) with
                      | true =>
                        rw [hdec] at HL
                        have HP3 : Hid (Pt m a b (k + 1) j) := (Hid.out HP2).up (of_decide_eq_true hdec)
                        clear hdec
                        generalize hx3 : m.getD a 0 = x3 at hcA HL
                        generalize hx4 : m.getD k 0 = x4 at hck HL
                        clear hx3 hx4
                        go_wp2
                        go_quiet ((go_at_call 91; exact Calls.quiet_of_same (Hid.out HL _)))
                        go_wp2
                        go_roundw
                        case rel => exact ⟨k + 1, by omega, by omega, by simp, (Hid.out HS2).drewN _, Hid.out HP3, (Hid.out HW2).drewN _⟩
                        case measure => simp [intOf]; try omega
                      | false =>
                        rw [hdec] at HL
                        have HLT := hidden (of_decide_eq_false hdec)
                        clear hdec
                        generalize hx3 : m.getD a 0 = x3 at hcA HL
                        generalize hx4 : m.getD k 0 = x4 at hck HL
                        clear hx3 hx4
                        go_wp2
                        go_quiet ((go_at_call 91; exact Calls.quiet_of_same (Hid.out HL _)))
                        go_wp2
                        clear hck hcA HL
                        go_loopw [11] (fun x11 wr3 => ∃ (l : Nat), k ≤ l + 1 ∧ l ≤ j ∧ x11 = .int .i64 (l : Int) ∧ Srow wr3 g m tl ∧ Pt m a b k l ∧ Only g w wr3) (fun x11 _ => (intOf x11).toNat)
                        case atStart => exact ⟨j, by omega, by omega, rfl, (Hid.out HS2).drewN _, Hid.out HP2, (Hid.out HW2).drewN _⟩
                        case round =>
                          obtain ⟨l, hkl, hlj, rfl, hS, hP, hW⟩ := hrel
                          have HS4 := hidden hS
                          have HP4 := hidden hP
                          have HW4 := hidden hW
                          by_cases hkl2 : k ≤ l
                          · obtain ⟨l, rfl⟩ : ∃ l', l = l' + 1 := ⟨l - 1, by omega⟩
                            have hkl3 : (k : Int) ≤ (l : Int) + 1 := by omega
                            have hkl4 : ¬ (l : Int) + 1 < (k : Int) := by omega
                            have hck := hS.cell (j := k) (by omega)
                            have hzk := hS.thaw k
                            have hcl := hS.cell (j := l + 1) (by omega)
                            have hzl := hS.thaw (l + 1)
                            have hcA := hS.cell (j := a) (by omega)
                            clear hS hP hW
                            have HL := hidden (fun u => less_any (m.getD (l + 1) 0) (m.getD a 0) u)
                            cases hdec : decide (m.getD (l + 1) 0 < m.getD a 0) with
                            | false =>
                              rw [hdec] at HL
                              have HP5 : Hid (Pt m a b k l) := (Hid.out HP4).down (of_decide_eq_false hdec)
                              clear hdec
                              generalize hx3 : m.getD a 0 = x3 at hcA HL
                              generalize hx4 : m.getD (l + 1) 0 = x4 at hcl HL
                              generalize hx5 : m.getD k 0 = x5 at hck
                              clear hx3 hx4 hx5
                              go_wp2
                              go_quiet ((go_at_call 91; exact Calls.quiet_of_same (Hid.out HL _)))
                              go_wp2
                              go_roundw
                              case rel => exact ⟨l, by omega, by omega, by simp, (Hid.out HS4).drewN _, Hid.out HP5, (Hid.out HW4).drewN _⟩
                              case measure => simp [intOf]
                            | true =>
                              rw [hdec] at HL
                              have HNLT := hidden (of_decide_eq_true hdec)
                              clear hdec
                              have hne : ¬ k = l + 1 := fun e => by
                                have h1 := Hid.out HLT
                                have h2 := Hid.out HNLT
                                rw [e] at h1
                                exact h1 h2
                              have hne2 : ¬ l + 1 = k := fun e => hne e.symm
                              have HP5 : Hid (Pt (swp m k (l + 1)) a b (k + 1) l) := (Hid.out HP4).swp (by omega) (by omega) (by omega) (by omega) (Hid.out HLT) (Hid.out HNLT)
                              have HT5 : Hid (Turned d (swp m k (l + 1)) a b) := (Hid.out HT).swp ⟨by omega, by omega⟩ ⟨by omega, by omega⟩ (by omega)
                              have HN2 : Hid (∀ u n, Srow u g m tl → Srow (((u.drewN n).setCell ⟨g, k, none⟩ (.int .u32 ((m.getD (l + 1) 0 : Nat) : Int))).setCell ⟨g, l + 1, none⟩ (.int .u32 ((m.getD k 0 : Nat) : Int))) g (swp m k (l + 1)) tl) := fun u n h0 => by
                                have h1 := (h0.drewN n).set (j := k) (by omega) (m.getD (l + 1) 0)
                                exact h1.set (j := l + 1) (by rw [List.length_set]; omega) (m.getD k 0)
                              clear HLT HNLT
                              generalize hx3 : m.getD a 0 = x3 at hcA HL
                              generalize hx4 : m.getD (l + 1) 0 = x4 at hcl HL HN2
                              generalize hx5 : m.getD k 0 = x5 at hck HN2
                              clear hx3 hx4 hx5
                              go_wp2
                              go_quiet ((go_at_call 91; exact Calls.quiet_of_same (Hid.out HL _)))
                              go_wp2
                              go_region
                              all_goals go_wp2
                              go_roundw
                              case rel => exact ⟨k + 1, l, swp m k (l + 1), by omega, by omega, by omega, by omega, by simp, by simp, by rw [swp_len]; exact hml, Hid.out HN2 _ _ (Hid.out HS4), Hid.out HT5, Hid.out HP5, ((((Hid.out HW4).drewN _).setCell _ _).setCell _ _)⟩
                              case measure => simp [intOf]; try omega
                          · have hkl3 : decide ((k : Int) ≤ (l : Int)) = false := by simp; omega
                            have hkl4 : (l : Int) < (k : Int) := by omega
                            by_cases hla : a = l
                            · subst hla
                              have hcA := hS.cell (j := a) (by omega)
                              have hzA := hS.thaw a
                              have HD : Hid (Mid (swp m a a) a b a) := (Hid.out HP4).done (by omega) (by omega) (by omega) (by omega)
                              have HN2 : Hid (∀ u n, Srow u g m tl → Srow (((u.drewN n).setCell ⟨g, a, none⟩ (.int .u32 ((m.getD a 0 : Nat) : Int))).setCell ⟨g, a, none⟩ (.int .u32 ((m.getD a 0 : Nat) : Int))) g (swp m a a) tl) := fun u n h0 => by
                                have h1 := (h0.drewN n).set (j := a) (by omega) (m.getD a 0)
                                exact h1.set (j := a) (by rw [List.length_set]; omega) (m.getD a 0)
                              clear hS hP hW
                              generalize hx3 : m.getD a 0 = x3 at hcA HN2
                              clear hx3
                              go_wp2
                              go_quiet (fail)
                              go_wp2
                              go_region
                              all_goals go_wp2
                              go_ret2
                              exact ⟨a, false, swp m a a, rfl, by omega, by omega, Hid.out HN2 _ _ (Hid.out HS4), (Hid.out HT).swp ⟨by omega, by omega⟩ ⟨by omega, by omega⟩ (by omega), Hid.out HD, ((((Hid.out HW4).drewN _).setCell _ _).setCell _ _)⟩
                            · have hla2 : ¬ l = a := fun e => hla e.symm
                              have hcA := hS.cell (j := a) (by omega)
                              have hzA := hS.thaw a
                              have hcl := hS.cell (j := l) (by omega)
                              have hzl := hS.thaw l
                              have HD : Hid (Mid (swp m l a) a b l) := (Hid.out HP4).done (by omega) (by omega) (by omega) (by omega)
                              have HN2 : Hid (∀ u n, Srow u g m tl → Srow (((u.drewN n).setCell ⟨g, l, none⟩ (.int .u32 ((m.getD a 0 : Nat) : Int))).setCell ⟨g, a, none⟩ (.int .u32 ((m.getD l 0 : Nat) : Int))) g (swp m l a) tl) := fun u n h0 => by
                                have h1 := (h0.drewN n).set (j := l) (by omega) (m.getD a 0)
                                exact h1.set (j := a) (by rw [List.length_set]; omega) (m.getD l 0)
                              clear hS hP hW
                              generalize hx3 : m.getD a 0 = x3 at hcA HN2
                              generalize hx4 : m.getD l 0 = x4 at hcl HN2
                              clear hx3 hx4
                              go_wp2
                              go_quiet (fail)
                              go_wp2
                              go_region
                              all_goals go_wp2
                              go_ret2
                              exact ⟨l, false, swp m l a, rfl, by omega, by omega, Hid.out HN2 _ _ (Hid.out HS4), (Hid.out HT).swp ⟨by omega, by omega⟩ ⟨by omega, by omega⟩ (by omega), Hid.out HD, ((((Hid.out HW4).drewN _).setCell _ _).setCell _ _)⟩
                    · have hkj3 : decide ((k : Int) ≤ (j : Int)) = false := by simp; omega
                      have hkj4 : (j : Int) < (k : Int) := by omega
                      clear hS hP hW
                      go_wp2
                      go_quiet (fail)
                      go_wp2
                      go_loopw [11] (fun x11 wr3 => x11 = .int .i64 (j : Int) ∧ Srow wr3 g m tl ∧ Only g w wr3) (fun x11 _ => 0)
                      case atStart => exact ⟨rfl, (Hid.out HS2).drewN _, (Hid.out HW2).drewN _⟩
                      case round =>
                        obtain ⟨rfl, hS, hW⟩ := hrel
                        have HS4 := hidden hS
                        have HW4 := hidden hW
                        have hP := trivial
                        by_cases hla : a = j
                        · subst hla
                          have hcA := hS.cell (j := a) (by omega)
                          have hzA := hS.thaw a
                          have HD : Hid (Mid (swp m a a) a b a) := (Hid.out HP2).done (by omega) (by omega) (by omega) (by omega)
                          have HN2 : Hid (∀ u n, Srow u g m tl → Srow (((u.drewN n).setCell ⟨g, a, none⟩ (.int .u32 ((m.getD a 0 : Nat) : Int))).setCell ⟨g, a, none⟩ (.int .u32 ((m.getD a 0 : Nat) : Int))) g (swp m a a) tl) := fun u n h0 => by
                            have h1 := (h0.drewN n).set (j := a) (by omega) (m.getD a 0)
                            exact h1.set (j := a) (by rw [List.length_set]; omega) (m.getD a 0)
                          clear hS hP hW
                          generalize hx3 : m.getD a 0 = x3 at hcA HN2
                          clear hx3
                          go_wp2
                          go_quiet (fail)
                          go_wp2
                          go_region
                          all_goals go_wp2
                          go_ret2
                          exact ⟨a, false, swp m a a, rfl, by omega, by omega, Hid.out HN2 _ _ (Hid.out HS4), (Hid.out HT).swp ⟨by omega, by omega⟩ ⟨by omega, by omega⟩ (by omega), Hid.out HD, ((((Hid.out HW4).drewN _).setCell _ _).setCell _ _)⟩
                        · have hla2 : ¬ j = a := fun e => hla e.symm
                          have hcA := hS.cell (j := a) (by omega)
                          have hzA := hS.thaw a
                          have hcl := hS.cell (j := j) (by omega)
                          have hzl := hS.thaw j
                          have HD : Hid (Mid (swp m j a) a b j) := (Hid.out HP2).done (by omega) (by omega) (by omega) (by omega)
                          have HN2 : Hid (∀ u n, Srow u g m tl → Srow (((u.drewN n).setCell ⟨g, j, none⟩ (.int .u32 ((m.getD a 0 : Nat) : Int))).setCell ⟨g, a, none⟩ (.int .u32 ((m.getD j 0 : Nat) : Int))) g (swp m j a) tl) := fun u n h0 => by
                            have h1 := (h0.drewN n).set (j := j) (by omega) (m.getD a 0)
                            exact h1.set (j := a) (by rw [List.length_set]; omega) (m.getD j 0)
                          clear hS hP hW
                          generalize hx3 : m.getD a 0 = x3 at hcA HN2
                          generalize hx4 : m.getD j 0 = x4 at hcl HN2
                          clear hx3 hx4
                          go_wp2
                          go_quiet (fail)
                          go_wp2
                          go_region
                          all_goals go_wp2
                          go_ret2
                          exact ⟨j, false, swp m j a, rfl, by omega, by omega, Hid.out HN2 _ _ (Hid.out HS4), (Hid.out HT).swp ⟨by omega, by omega⟩ ⟨by omega, by omega⟩ (by omega), Hid.out HD, ((((Hid.out HW4).drewN _).setCell _ _).setCell _ _)⟩
            · have hkl3 : decide ((k : Int) ≤ (l : Int)) = false := by simp; omega
              have hkl4 : (l : Int) < (k : Int) := by omega
              by_cases hla : a = l
              · subst hla
                have hcA := hS.cell (j := a) (by omega)
                have hzA := hS.thaw a
                have HD : Hid (Mid (swp m0 a a) a b a) := (Hid.out HP4).done (by omega) (by omega) (by omega) (by omega)
                have HN2 : Hid (∀ u n, Srow u g m0 tl → Srow (((u.drewN n).setCell ⟨g, a, none⟩ (.int .u32 ((m0.getD a 0 : Nat) : Int))).setCell ⟨g, a, none⟩ (.int .u32 ((m0.getD a 0 : Nat) : Int))) g (swp m0 a a) tl) := fun u n h0 => by
                  have h1 := (h0.drewN n).set (j := a) (by omega) (m0.getD a 0)
                  exact h1.set (j := a) (by rw [List.length_set]; omega) (m0.getD a 0)
                clear hS hP hW
                generalize hx3 : m0.getD a 0 = x3 at hcA HN2
                clear hx3
                go_wp2
                go_quiet (fail)
                go_wp2
                go_region
                all_goals go_wp2
                go_ret2
                exact ⟨a, true, swp m0 a a, rfl, by omega, by omega, Hid.out HN2 _ _ (Hid.out HS4), (Hid.out HT).swp ⟨by omega, by omega⟩ ⟨by omega, by omega⟩ (by omega), Hid.out HD, ((((Hid.out HW4).drewN _).setCell _ _).setCell _ _)⟩
              · have hla2 : ¬ l = a := fun e => hla e.symm
                have hcA := hS.cell (j := a) (by omega)
                have hzA := hS.thaw a
                have hcl := hS.cell (j := l) (by omega)
                have hzl := hS.thaw l
                have HD : Hid (Mid (swp m0 l a) a b l) := (Hid.out HP4).done (by omega) (by omega) (by omega) (by omega)
                have HN2 : Hid (∀ u n, Srow u g m0 tl → Srow (((u.drewN n).setCell ⟨g, l, none⟩ (.int .u32 ((m0.getD a 0 : Nat) : Int))).setCell ⟨g, a, none⟩ (.int .u32 ((m0.getD l 0 : Nat) : Int))) g (swp m0 l a) tl) := fun u n h0 => by
                  have h1 := (h0.drewN n).set (j := l) (by omega) (m0.getD a 0)
                  exact h1.set (j := a) (by rw [List.length_set]; omega) (m0.getD l 0)
                clear hS hP hW
                generalize hx3 : m0.getD a 0 = x3 at hcA HN2
                generalize hx4 : m0.getD l 0 = x4 at hcl HN2
                clear hx3 hx4
                go_wp2
                go_quiet (fail)
                go_wp2
                go_region
                all_goals go_wp2
                go_ret2
                exact ⟨l, true, swp m0 l a, rfl, by omega, by omega, Hid.out HN2 _ _ (Hid.out HS4), (Hid.out HT).swp ⟨by omega, by omega⟩ ⟨by omega, by omega⟩ (by omega), Hid.out HD, ((((Hid.out HW4).drewN _).setCell _ _).setCell _ _)⟩
      · have hkj3 : decide ((k : Int) ≤ (c : Int)) = false := by simp; omega
        have hkj4 : (c : Int) < (k : Int) := by omega
        clear hS hP hW
        go_wp2
        go_quiet (fail)
        go_wp2
        go_loopw [11] (fun x11 wr3 => x11 = .int .i64 (c : Int) ∧ Srow wr3 g m0 tl ∧ Only g w wr3) (fun x11 _ => 0)
        case atStart => exact ⟨rfl, (Hid.out HS2).drewN _, (Hid.out HW2).drewN _⟩
        case round =>
          obtain ⟨rfl, hS, hW⟩ := hrel
          have HS4 := hidden hS
          have HW4 := hidden hW
          have hP := trivial
          by_cases hla : a = c
          · omega
          · have hla2 : ¬ c = a := fun e => hla e.symm
            have hcA := hS.cell (j := a) (by omega)
            have hzA := hS.thaw a
            have hcl := hS.cell (j := c) (by omega)
            have hzl := hS.thaw c
            have HD : Hid (Mid (swp m0 c a) a b c) := (Hid.out HP2).done (by omega) (by omega) (by omega) (by omega)
            have HN2 : Hid (∀ u n, Srow u g m0 tl → Srow (((u.drewN n).setCell ⟨g, c, none⟩ (.int .u32 ((m0.getD a 0 : Nat) : Int))).setCell ⟨g, a, none⟩ (.int .u32 ((m0.getD c 0 : Nat) : Int))) g (swp m0 c a) tl) := fun u n h0 => by
              have h1 := (h0.drewN n).set (j := c) (by omega) (m0.getD a 0)
              exact h1.set (j := a) (by rw [List.length_set]; omega) (m0.getD c 0)
            clear hS hP hW
            generalize hx3 : m0.getD a 0 = x3 at hcA HN2
            generalize hx4 : m0.getD c 0 = x4 at hcl HN2
            clear hx3 hx4
            go_wp2
            go_quiet (fail)
            go_wp2
            go_region
            all_goals go_wp2
            go_ret2
            exact ⟨c, true, swp m0 c a, rfl, by omega, by omega, Hid.out HN2 _ _ (Hid.out HS4), (Hid.out HT).swp ⟨by omega, by omega⟩ ⟨by omega, by omega⟩ (by omega), Hid.out HD, ((((Hid.out HW4).drewN _).setCell _ _).setCell _ _)⟩
end Go.Proofs.Ytodoenimlhldjaa
namespace Go.Proofs.Ytodoenimlhldjaa
open Go.ChangeShapes Go.WideShapes Go.ChangeAt Go.RowKit
set_option linter.unusedVariables false
/-- A number that is counted. -/
def Cnt (w : World) (sb : Nat) (z : Int) : Prop := w.heap[sb]? = some (.cells #[.int .i64 z] 3 (0, 0))
theorem Cnt.drewN {w : World} {sb : Nat} {z : Int} (h : Cnt w sb z) (n : Nat) : Cnt (w.drewN n) sb z := h
theorem Cnt.cell {w : World} {sb : Nat} {z : Int} (h : Cnt w sb z) : w.cell? ⟨sb, 0, none⟩ = some (.int .i64 z) := by
  rw [cell_of_row _ _ _ _ _ _ h]; rfl
theorem Cnt.thaw {w : World} {sb : Nat} {z : Int} (h : Cnt w sb z) : w.frozen? ⟨sb, 0, none⟩ = false := frozen_of_row _ _ _ _ _ h
theorem Cnt.set {w : World} {sb : Nat} {z : Int} (h : Cnt w sb z) (x : Int) : Cnt (w.setCell ⟨sb, 0, none⟩ (.int .i64 x)) sb x := by
  unfold Cnt
  rw [heap_setCell_same _ _ _ _ _ _ h]; rfl
theorem Srow.only {w w' : World} {g sb : Nat} {d : List Nat} {tl : List Value} (h : Srow w g d tl) (ho : Only sb w w') (hne : g ≠ sb) : Srow w' g d tl := (ho.block g hne).trans h
set_option maxRecDepth 20000 in
set_option maxHeartbeats 4000000 in
theorem order2_any (w : World) (g cap sb a b : Nat) (z : Int) (d : List Nat) (tl : List Value) (h : Srow w g d tl) (hc : Cnt w sb z) (ha : a < d.length) (hb : b < d.length) (hlen : d.length ≤ 1152921504606846976) :
    Calls Try.prog 102 #[.slice (some ⟨g, 0, none⟩) d.length cap, .int .i64 (a : Int), .int .i64 (b : Int), .pointer (some ⟨sb, 0, none⟩)] w fun e w' => ∃ (x y : Nat) (z' : Int), e = .returned (.tuple #[.int .i64 (x : Int), .int .i64 (y : Int)]) ∧ ((x = a ∧ y = b) ∨ (x = b ∧ y = a)) ∧ Cnt w' sb z' ∧ Only sb w w' := by
  have HC := hidden hc
  have hca := h.cell (j := a) ha
  have hcb := h.cell (j := b) hb
  have hcz := hc.cell
  have hzz := hc.thaw
  clear h hc
  have HL := hidden (fun u => less_any (d.getD b 0) (d.getD a 0) u)
  cases hdec : decide (d.getD b 0 < d.getD a 0) with
  | true =>
    rw [hdec] at HL
    clear hdec
    generalize hx0 : d.getD b 0 = x0 at hcb HL
    generalize hx1 : d.getD a 0 = x1 at hca HL
    clear hx0 hx1
    have HN : Hid (∀ n x, Cnt ((w.drewN n).setCell ⟨sb, 0, none⟩ (.int .i64 x)) sb x) := fun n x => ((Hid.out HC).drewN n).set x
    go_enter Try.func102, Try.ntmps102
    go_wp2
    go_quiet ((go_at_call 91; exact Calls.quiet_of_same (Hid.out HL _)))
    go_wp2
    try go_region
    all_goals go_wp2
    go_ret2
    exact ⟨b, a, _, rfl, Or.inr ⟨rfl, rfl⟩, Hid.out HN _ _, ((Only.refl sb w).drewN _).setCell _ _⟩
  | false =>
    rw [hdec] at HL
    clear hdec
    generalize hx0 : d.getD b 0 = x0 at hcb HL
    generalize hx1 : d.getD a 0 = x1 at hca HL
    clear hx0 hx1
    go_enter Try.func102, Try.ntmps102
    go_wp2
    go_quiet ((go_at_call 91; exact Calls.quiet_of_same (Hid.out HL _)))
    go_wp2
    go_ret2
    exact ⟨a, b, z, rfl, Or.inl ⟨rfl, rfl⟩, (Hid.out HC).drewN _, (Only.refl sb w).drewN _⟩
/-- What the choice keeps: the row, a number that is counted; nothing else is turned. -/
structure Ms (w u : World) (g sb : Nat) (d : List Nat) (tl : List Value) : Prop where
  row : Srow u g d tl
  cnt : ∃ z, Cnt u sb z
  only : Only sb w u
  ne : g ≠ sb
def InB (lo hi x : Nat) : Prop := lo ≤ x ∧ x < hi
theorem Ms.order2 {w u : World} {g sb : Nat} {d : List Nat} {tl : List Value} (h : Ms w u g sb d tl) {lo hi a b : Nat} (cap : Nat) (hh : hi ≤ d.length) (hlen : d.length ≤ 1152921504606846976) (ha : InB lo hi a) (hb : InB lo hi b) :
    Calls Try.prog 102 #[.slice (some ⟨g, 0, none⟩) d.length cap, .int .i64 (a : Int), .int .i64 (b : Int), .pointer (some ⟨sb, 0, none⟩)] u fun e w' => ∃ (x y : Nat), e = .returned (.tuple #[.int .i64 (x : Int), .int .i64 (y : Int)]) ∧ InB lo hi x ∧ InB lo hi y ∧ Ms w w' g sb d tl := by
  obtain ⟨z, hz⟩ := h.cnt
  have ha2 := ha.2
  have hb2 := hb.2
  refine (order2_any u g cap sb a b z d tl h.row hz (by omega) (by omega) hlen).mono ?_
  rintro e w' ⟨x, y, z', rfl, hxy, hc, ho⟩
  refine ⟨x, y, rfl, ?_, ?_, ⟨h.row.only ho h.ne, ⟨z', hc⟩, h.only.trans ho, h.ne⟩⟩
  · rcases hxy with ⟨rfl, rfl⟩ | ⟨rfl, rfl⟩
    · exact ha
    · exact hb
  · rcases hxy with ⟨rfl, rfl⟩ | ⟨rfl, rfl⟩
    · exact hb
    · exact ha
theorem Ms.drewN {w u : World} {g sb : Nat} {d : List Nat} {tl : List Value} (h : Ms w u g sb d tl) (n : Nat) : Ms w (u.drewN n) g sb d tl := ⟨h.row, h.cnt, h.only.drewN n, h.ne⟩
set_option maxRecDepth 20000 in
set_option maxHeartbeats 4000000 in
theorem Ms.median {w u : World} {g sb : Nat} {d : List Nat} {tl : List Value} (h : Ms w u g sb d tl) {lo hi a b c : Nat} (cap : Nat) (hh : hi ≤ d.length) (hlen : d.length ≤ 1152921504606846976) (ha : InB lo hi a) (hb : InB lo hi b) (hc : InB lo hi c) :
    Calls Try.prog 100 #[.slice (some ⟨g, 0, none⟩) d.length cap, .int .i64 (a : Int), .int .i64 (b : Int), .int .i64 (c : Int), .pointer (some ⟨sb, 0, none⟩)] u fun e w' => ∃ (x : Nat), e = .returned (.int .i64 (x : Int)) ∧ InB lo hi x ∧ Ms w w' g sb d tl := by
  have HA := hidden ha
  have HB := hidden hb
  have HC := hidden hc
  have H := hidden h
  clear h ha hb hc
  go_enter Try.func100, Try.ntmps100
  go_wp2_with (first
    | (go_at_call 102; refine (Ms.order2 (Hid.out H3) cap hh hlen (Hid.out HX1) (Hid.out HX2)).mono ?_; rintro e w3 ⟨x3, y3, rfl, hx3, hy3, hM⟩; have HX3 := hidden hx3; have HY3 := hidden hy3; have H4 := hidden hM; clear hx3 hy3 hM H3)
    | (go_at_call 102; refine (Ms.order2 (Hid.out H2) cap hh hlen (Hid.out HY1) (Hid.out HC)).mono ?_; rintro e w2 ⟨x2, y2, rfl, hx2, hy2, hM⟩; have HX2 := hidden hx2; have HY2 := hidden hy2; have H3 := hidden hM; clear hx2 hy2 hM H2)
    | (go_at_call 102; refine (Ms.order2 (Hid.out H) cap hh hlen (Hid.out HA) (Hid.out HB)).mono ?_; rintro e w1 ⟨x1, y1, rfl, hx1, hy1, hM⟩; have HX1 := hidden hx1; have HY1 := hidden hy1; have H2 := hidden hM; clear hx1 hy1 hM H))
  go_ret
  exact ⟨y3, rfl, Hid.out HY3, Hid.out H4⟩
set_option maxRecDepth 20000 in
set_option maxHeartbeats 4000000 in
theorem Ms.adjacent {w u : World} {g sb : Nat} {d : List Nat} {tl : List Value} (h : Ms w u g sb d tl) {lo hi a : Nat} (cap : Nat) (hh : hi ≤ d.length) (hlen : d.length ≤ 1152921504606846976) (ha : lo < a) (ha2 : a + 1 < hi) :
    Calls Try.prog 99 #[.slice (some ⟨g, 0, none⟩) d.length cap, .int .i64 (a : Int), .pointer (some ⟨sb, 0, none⟩)] u fun e w' => ∃ (x : Nat), e = .returned (.int .i64 (x : Int)) ∧ InB lo hi x ∧ Ms w w' g sb d tl := by
  obtain ⟨k, rfl⟩ : ∃ k, a = k + 1 := ⟨a - 1, by omega⟩
  have HC : Hid (∀ n, Calls Try.prog 100 #[.slice (some ⟨g, 0, none⟩) d.length cap, .int .i64 (k : Int), .int .i64 ((k : Int) + 1), .int .i64 ((k : Int) + 1 + 1), .pointer (some ⟨sb, 0, none⟩)] (u.drewN n) fun e w' => ∃ (x : Nat), e = .returned (.int .i64 (x : Int)) ∧ InB lo hi x ∧ Ms w w' g sb d tl) := fun n =>
    Ms.median (a := k) (b := k + 1) (c := k + 1 + 1) (h.drewN n) cap hh hlen ⟨by omega, by omega⟩ ⟨by omega, by omega⟩ ⟨by omega, by omega⟩
  have HC0 : Hid (Calls Try.prog 100 #[.slice (some ⟨g, 0, none⟩) d.length cap, .int .i64 (k : Int), .int .i64 ((k : Int) + 1), .int .i64 ((k : Int) + 1 + 1), .pointer (some ⟨sb, 0, none⟩)] u fun e w' => ∃ (x : Nat), e = .returned (.int .i64 (x : Int)) ∧ InB lo hi x ∧ Ms w w' g sb d tl) :=
    Ms.median (a := k) (b := k + 1) (c := k + 1 + 1) h cap hh hlen ⟨by omega, by omega⟩ ⟨by omega, by omega⟩ ⟨by omega, by omega⟩
  clear h
  go_enter Try.func99, Try.ntmps99
  go_wp2_with (first
    | (go_at_call 100; refine (Hid.out HC0).mono ?_; rintro e w3 ⟨x3, rfl, hx3, hM⟩; have HX3 := hidden hx3; have H4 := hidden hM; clear hx3 hM)
    | (go_at_call 100; refine (Hid.out HC _).mono ?_; rintro e w3 ⟨x3, rfl, hx3, hM⟩; have HX3 := hidden hx3; have H4 := hidden hM; clear hx3 hM))
  go_ret
  exact ⟨x3, rfl, Hid.out HX3, Hid.out H4⟩
end Go.Proofs.Ytodoenimlhldjaa
namespace Go.Proofs.Ytodoenimlhldjaa
open Go.ChangeShapes Go.WideShapes Go.ChangeAt Go.RowKit
set_option linter.unusedVariables false
theorem Ms.start {w : World} {g : Nat} {d : List Nat} {tl : List Value} (h : Srow w g d tl) : Ms (w.alloc (.cells #[.int .i64 0] 3)) (w.alloc (.cells #[.int .i64 0] 3)) g w.heap.size d tl := by
  have hlt : g < w.heap.size := (Array.getElem?_eq_some_iff.1 h).1
  exact ⟨(Below.heap_alloc w _ g hlt).trans h, ⟨0, by show (w.heap.push _)[w.heap.size]? = _; rw [Array.getElem?_push_size]⟩, Only.refl _ _, by omega⟩
theorem Ms.below {w u : World} {g : Nat} {d : List Nat} {tl : List Value} (h : Ms (w.alloc (.cells #[.int .i64 0] 3)) u g w.heap.size d tl) : Below w.heap.size w u := by
  have h1 : Below w.heap.size w (w.alloc (.cells #[.int .i64 0] 3)) := ⟨rfl, rfl, rfl, by show w.heap.size ≤ (w.heap.push _).size; rw [Array.size_push]; omega, fun k hk => Below.heap_alloc w _ k hk⟩
  exact h1.trans (h.only.below (Nat.le_refl _))
set_option maxRecDepth 20000 in
set_option maxHeartbeats 4000000 in
theorem pivot_any (w : World) (g cap a b : Nat) (d : List Nat) (tl : List Value) (h : Srow w g d tl) (hab : a + 12 < b) (hb : b ≤ d.length) (hlen : d.length ≤ 1152921504606846976) :
    Calls Try.prog 88 #[.slice (some ⟨g, 0, none⟩) d.length cap, .int .i64 (a : Int), .int .i64 (b : Int)] w fun e w' => ∃ (x : Nat) (hint : Int), e = .returned (.tuple #[.int .i64 (x : Int), .int .i64 hint]) ∧ InB a b x ∧ Srow w' g d tl ∧ Below w.heap.size w w' := by
  obtain ⟨n, hn⟩ : ∃ n, b = a + n := ⟨b - a, by omega⟩
  have hsub : (b : Int) - (a : Int) = (n : Int) := by omega
  obtain ⟨q, hq⟩ : ∃ q, q = n / 4 := ⟨_, rfl⟩
  have hquo : (n : Int) / 4 = (q : Int) := by omega
  have hq2 : 4 * q ≤ n ∧ n < 4 * q + 4 := by omega
  have hnb : a + n ≤ b ∧ b ≤ a + n := by omega
  have h8 : (8 : Int) ≤ (n : Int) := by omega
  have H0 := hidden (Ms.start h)
  have HI1 : Hid (InB a b (a + q)) := ⟨by omega, by omega⟩
  have HI2 : Hid (InB a b (a + q * 2)) := ⟨by omega, by omega⟩
  have HI3 : Hid (InB a b (a + q * 3)) := ⟨by omega, by omega⟩
  clear h hq hn
  by_cases h50 : 50 ≤ n
  · have h502 : (50 : Int) ≤ (n : Int) := by omega
    have HA1 : Hid (Calls Try.prog 99 #[.slice (some ⟨g, 0, none⟩) d.length cap, .int .i64 ((a : Int) + (q : Int)), .pointer (some ⟨w.heap.size, 0, none⟩)] (w.alloc (.cells #[.int .i64 0] 3)) fun e w' => ∃ (x : Nat), e = .returned (.int .i64 (x : Int)) ∧ InB a b x ∧ Ms (w.alloc (.cells #[.int .i64 0] 3)) w' g w.heap.size d tl) := by
      have := Ms.adjacent (Hid.out H0) (lo := a) (hi := b) (a := a + q) cap hb hlen (by omega) (by omega)
      rwa [Int.natCast_add] at this
    have HA2 : Hid (∀ u, Ms (w.alloc (.cells #[.int .i64 0] 3)) u g w.heap.size d tl → Calls Try.prog 99 #[.slice (some ⟨g, 0, none⟩) d.length cap, .int .i64 ((a : Int) + (q : Int) * 2), .pointer (some ⟨w.heap.size, 0, none⟩)] u fun e w' => ∃ (x : Nat), e = .returned (.int .i64 (x : Int)) ∧ InB a b x ∧ Ms (w.alloc (.cells #[.int .i64 0] 3)) w' g w.heap.size d tl) := fun u hu => by
      have := Ms.adjacent hu (lo := a) (hi := b) (a := a + q * 2) cap hb hlen (by omega) (by omega)
      rwa [Int.natCast_add, Int.natCast_mul] at this
    have HA3 : Hid (∀ u, Ms (w.alloc (.cells #[.int .i64 0] 3)) u g w.heap.size d tl → Calls Try.prog 99 #[.slice (some ⟨g, 0, none⟩) d.length cap, .int .i64 ((a : Int) + (q : Int) * 3), .pointer (some ⟨w.heap.size, 0, none⟩)] u fun e w' => ∃ (x : Nat), e = .returned (.int .i64 (x : Int)) ∧ InB a b x ∧ Ms (w.alloc (.cells #[.int .i64 0] 3)) w' g w.heap.size d tl) := fun u hu => by
      have := Ms.adjacent hu (lo := a) (hi := b) (a := a + q * 3) cap hb hlen (by omega) (by omega)
      rwa [Int.natCast_add, Int.natCast_mul] at this
    go_enter Try.func88, Try.ntmps88
    go_wp2_with (first
      | (go_at_call 100; refine (Ms.median (Hid.out H3) cap hb hlen (Hid.out HX1) (Hid.out HX2) (Hid.out HX3)).mono ?_; rintro e w4 ⟨x4, rfl, hx, hM⟩; have HX4 := hidden hx; have H4 := hidden hM; obtain ⟨z, hz⟩ := hM.cnt; have hcz := hz.cell; clear hx hM hz H3)
      | (go_at_call 99; refine (Hid.out HA3 _ (Hid.out H2)).mono ?_; rintro e w3 ⟨x3, rfl, hx, hM⟩; have HX3 := hidden hx; have H3 := hidden hM; clear hx hM H2 HA3)
      | (go_at_call 99; refine (Hid.out HA2 _ (Hid.out H1)).mono ?_; rintro e w2 ⟨x2, rfl, hx, hM⟩; have HX2 := hidden hx; have H2 := hidden hM; clear hx hM H1 HA2)
      | (go_at_call 99; refine (Hid.out HA1).mono ?_; rintro e w1 ⟨x1, rfl, hx, hM⟩; have HX1 := hidden hx; have H1 := hidden hM; clear hx hM H0 HA1))
    all_goals (go_ret2; exact ⟨x4, _, rfl, Hid.out HX4, (Hid.out H4).row, (Hid.out H4).below⟩)
  · have h502 : ¬ (50 : Int) ≤ (n : Int) := by omega
    have HA1 : Hid (Calls Try.prog 100 #[.slice (some ⟨g, 0, none⟩) d.length cap, .int .i64 ((a : Int) + (q : Int)), .int .i64 ((a : Int) + (q : Int) * 2), .int .i64 ((a : Int) + (q : Int) * 3), .pointer (some ⟨w.heap.size, 0, none⟩)] (w.alloc (.cells #[.int .i64 0] 3)) fun e w' => ∃ (x : Nat), e = .returned (.int .i64 (x : Int)) ∧ InB a b x ∧ Ms (w.alloc (.cells #[.int .i64 0] 3)) w' g w.heap.size d tl) := by
      have := Ms.median (Hid.out H0) cap hb hlen (Hid.out HI1) (Hid.out HI2) (Hid.out HI3)
      rwa [Int.natCast_add, Int.natCast_add, Int.natCast_add, Int.natCast_mul, Int.natCast_mul] at this
    go_enter Try.func88, Try.ntmps88
    go_wp2_with (go_at_call 100; refine (Hid.out HA1).mono ?_; rintro e w4 ⟨x4, rfl, hx, hM⟩; have HX4 := hidden hx; have H4 := hidden hM; obtain ⟨z, hz⟩ := hM.cnt; have hcz := hz.cell; clear hx hM hz)
    all_goals (go_ret2; exact ⟨x4, _, rfl, Hid.out HX4, (Hid.out H4).row, (Hid.out H4).below⟩)
end Go.Proofs.Ytodoenimlhldjaa
namespace Go.Proofs.Ytodoenimlhldjaa
open Go.ChangeShapes Go.WideShapes Go.ChangeAt Go.RowKit
set_option linter.unusedVariables false
theorem SortedOn.up {m : List Nat} {a i : Nat} (h : SortedOn m a (i + 1)) (ha : a ≤ i) (hs : m.getD i 0 ≤ m.getD (i + 1) 0) : SortedOn m a (i + 1 + 1) := by
  intro p q h1 h2 h3
  by_cases e : q = i + 1
  · rw [e]
    by_cases e2 : p = i
    · rw [e2]; exact hs
    · exact Nat.le_trans (h p i h1 (by omega) (by omega)) hs
  · exact h p q h1 h2 (by omega)
set_option maxRecDepth 20000 in
set_option maxHeartbeats 16000000 in
theorem partins_any (w : World) (g cap a b : Nat) (d : List Nat) (tl : List Value) (h : Srow w g d tl) (hab : a < b) (hb : b ≤ d.length) (hlen : d.length ≤ 1152921504606846976) (hlow : 0 < a → ∀ p, a ≤ p → p < b → d.getD (a - 1) 0 ≤ d.getD p 0) :
    Calls Try.prog 90 #[.slice (some ⟨g, 0, none⟩) d.length cap, .int .i64 (a : Int), .int .i64 (b : Int)] w fun e w' => ∃ (f : Bool) (m : List Nat), e = .returned (.bool f) ∧ Srow w' g m tl ∧ Turned d m a b ∧ (f = true → SortedOn m a b) ∧ Only g w w' := by
  have H := hidden h
  have HLOW : Hid (∀ k, Turned d k a b → 0 < a → ∀ p, a ≤ p → p < b → k.getD (a - 1) 0 ≤ k.getD p 0) := fun k hk h0 p h1 h2 => by
    rw [hk.out (a - 1) (Or.inl (by omega))]
    exact hk.all (by omega) hb (fun x => d.getD (a - 1) 0 ≤ x) (hlow h0) p h1 h2
  clear h hlow
  go_enter Try.func90, Try.ntmps90
  go_wp2
  go_loopw [7, 8] (fun x7 x8 wr => ∃ (jj i : Nat) (m : List Nat), jj ≤ 5 ∧ a < i ∧ i ≤ b ∧ x7 = .int .i64 (i : Int) ∧ x8 = .int .i64 (jj : Int) ∧ m.length = d.length ∧ Srow wr g m tl ∧ Turned d m a b ∧ SortedOn m a i ∧ Only g w wr) (fun x7 x8 _ => 5 - (intOf x8).toNat)
  case atStart => exact ⟨0, a + 1, d, by omega, by omega, by omega, by simp, by simp, rfl, Hid.out H, Turned.refl _ _ _, fun p q h1 h2 h3 => by omega, Only.refl _ _⟩
  case round =>
    obtain ⟨jj, i, m, hjj, hai, hib, rfl, rfl, hml, hS, hT, hO, hW⟩ := hrel
    have HS := hidden hS
    have HT := hidden hT
    have HO := hidden hO
    have HW := hidden hW
    clear hS hT hO hW
    by_cases hj5 : jj < 5
    · have hj52 : (jj : Int) < 5 := by omega
      go_wp2
      go_loopw [7] (fun x7 wr2 => ∃ (i : Nat), a < i ∧ i ≤ b ∧ x7 = .int .i64 (i : Int) ∧ Srow wr2 g m tl ∧ SortedOn m a i ∧ Only g w wr2) (fun x7 _ => b - (intOf x7).toNat)
      case atStart => exact ⟨i, hai, hib, rfl, Hid.out HS, Hid.out HO, Hid.out HW⟩
      case round =>
        clear HS HO HW hai hib
        obtain ⟨i, hai, hib, rfl, hS, hO, hW⟩ := hrel
        have HS1 := hidden hS
        have HO1 := hidden hO
        have HW1 := hidden hW
        obtain ⟨i, rfl⟩ : ∃ i', i = i' + 1 := ⟨i - 1, by omega⟩
        by_cases hib2 : i + 1 < b
        · have hib3 : (i : Int) + 1 < (b : Int) := by omega
          have hib4 : ¬ (i : Int) + 1 = (b : Int) := by omega
          have hc1 := hS.cell (j := i + 1) (by omega)
          have hc0 := hS.cell (j := i) (by omega)
          have hz1 := hS.thaw (i + 1)
          have hz0 := hS.thaw i
          clear hS hO hW
          have HL := hidden (fun u => less_any (m.getD (i + 1) 0) (m.getD i 0) u)
          cases hdec : decide (m.getD (i + 1) 0 < m.getD i 0) with
          | false =>
            rw [hdec] at HL
            have HO2 : Hid (SortedOn m a (i + 1 + 1)) := (Hid.out HO1).up (by omega) (Nat.le_of_not_lt (of_decide_eq_false hdec))
            clear hdec
            generalize hx1 : m.getD (i + 1) 0 = x1 at hc1 HL
            generalize hx0 : m.getD i 0 = x0 at hc0 HL
            clear hx1 hx0
            go_wp2
            go_quiet ((go_at_call 91; exact Calls.quiet_of_same (Hid.out HL _)))
            go_wp2
            go_roundw
            case rel => exact ⟨i + 1 + 1, by omega, by omega, by simp, (Hid.out HS1).drewN _, Hid.out HO2, (Hid.out HW1).drewN _⟩
            case measure => simp [intOf]; try omega
          | true =>
            rw [hdec] at HL
            clear hdec
            by_cases h50 : b - a < 50
            · have h502 : (b : Int) - (a : Int) < 50 := by omega
              generalize hx1 : m.getD (i + 1) 0 = x1 at hc1 HL
              generalize hx0 : m.getD i 0 = x0 at hc0 HL
              clear hx1 hx0
              go_wp2
              go_quiet ((go_at_call 91; exact Calls.quiet_of_same (Hid.out HL _)))
              go_wp2
              go_ret
              exact ⟨false, m, rfl, (Hid.out HS1).drewN _, Hid.out HT, (fun e => by cases e), (Hid.out HW1).drewN _⟩
            · have h502 : ¬ (b : Int) - (a : Int) < 50 := by omega
              have HN : Hid (∀ u n, Srow u g m tl → Srow (((u.drewN n).setCell ⟨g, i + 1, none⟩ (.int .u32 ((m.getD (i) 0 : Nat) : Int))).setCell ⟨g, i, none⟩ (.int .u32 ((m.getD (i + 1) 0 : Nat) : Int))) g (swp m (i + 1) (i)) tl) := fun u n h0 => by
                have h1 := (h0.drewN n).set (j := i + 1) (by omega) (m.getD (i) 0)
                exact h1.set (j := i) (by rw [List.length_set]; omega) (m.getD (i + 1) 0)
              have HT2 : Hid (Turned d (swp m (i + 1) i) a b) := (Hid.out HT).swp ⟨by omega, by omega⟩ ⟨by omega, by omega⟩ (by omega)
              have HI2 : Hid (Ins (swp m (i + 1) i) a i i) := Ins.start (fun p q h1 h2 h3 => by
                rw [swp_get m (by omega) (by omega), swp_get m (by omega) (by omega), if_neg (by omega), if_neg (by omega), if_neg (by omega), if_neg (by omega)]
                exact Hid.out HO1 p q h1 h2 (by omega)) (by omega)
              have hml2 : (swp m (i + 1) i).length = d.length := by rw [swp_len]; exact hml
              generalize hm2 : swp m (i + 1) i = m2 at HN HT2 HI2 hml2
              generalize hx1 : m.getD (i + 1) 0 = x1 at hc1 HL HN
              generalize hx0 : m.getD i 0 = x0 at hc0 HL HN
              clear hx1 hx0 hm2
              go_wp2
              go_quiet ((go_at_call 91; exact Calls.quiet_of_same (Hid.out HL _)))
              go_wp2
              go_region
              all_goals clear hc1 hc0 hz1 hz0 HL
              by_cases hl2 : 2 ≤ i + 1 - a
              · have hl3 : (2 : Int) ≤ (i : Int) + 1 - (a : Int) := by omega
                go_wp2
                go_loopw [9] (fun x9 wr4 => ∃ (j : Nat) (k : List Nat), j ≤ i ∧ x9 = .int .i64 (j : Int) ∧ k.length = d.length ∧ Srow wr4 g k tl ∧ Turned d k a b ∧ Ins k a i j ∧ Only g w wr4) (fun x9 _ => (intOf x9).toNat)
                case atStart => exact ⟨i, m2, by omega, by simp, hml2, Hid.out HN _ _ (Hid.out HS1), Hid.out HT2, Hid.out HI2, ((((Hid.out HW1).drewN _).setCell _ _).setCell _ _)⟩
                case round =>
                  obtain ⟨j, k, hji, rfl, hkl, hS4, hT4, hI4, hW4⟩ := hrel
                  have hle := hI4.le
                  have HS4 := hidden hS4
                  have HT4 := hidden hT4
                  have HI4 := hidden hI4
                  have HW4 := hidden hW4
                  by_cases hj1 : 1 ≤ j
                  · obtain ⟨j, rfl⟩ : ∃ j', j = j' + 1 := ⟨j - 1, by omega⟩
                    have hj2 : (1 : Int) ≤ (j : Int) + 1 := by omega
                    have hc1 := hS4.cell (j := j + 1) (by omega)
                    have hc0 := hS4.cell (j := j) (by omega)
                    have hz1 := hS4.thaw (j + 1)
                    have hz0 := hS4.thaw j
                    clear hS4 hT4 hI4 hW4
                    have HL := hidden (fun u => less_any (k.getD (j + 1) 0) (k.getD j 0) u)
                    cases hdec : decide (k.getD (j + 1) 0 < k.getD j 0) with
                    | true =>
                      rw [hdec] at HL
                      have HLT := hidden (of_decide_eq_true hdec)
                      clear hdec
                      have haj : a ≤ j := by
                        have h1 := Hid.out HLT
                        by_cases e : a ≤ j
                        · exact e
                        · exfalso
                          have h2 := Hid.out HLOW k (Hid.out HT4) (by omega) (j + 1) (by omega) (by omega)
                          rw [show a - 1 = j from by omega] at h2
                          omega
                      have HN4 : Hid (∀ u n, Srow u g k tl → Srow (((u.drewN n).setCell ⟨g, j + 1, none⟩ (.int .u32 ((k.getD (j) 0 : Nat) : Int))).setCell ⟨g, j, none⟩ (.int .u32 ((k.getD (j + 1) 0 : Nat) : Int))) g (swp k (j + 1) (j)) tl) := fun u n h0 => by
                        have h1 := (h0.drewN n).set (j := j + 1) (by omega) (k.getD (j) 0)
                        exact h1.set (j := j) (by rw [List.length_set]; omega) (k.getD (j + 1) 0)
                      have HI5 : Hid (Ins (swp k (j + 1) j) a i j) := (Hid.out HI4).step haj (by omega) (Hid.out HLT)
                      generalize hx1 : k.getD (j + 1) 0 = x1 at hc1 HL HN4
                      generalize hx0 : k.getD j 0 = x0 at hc0 HL HN4
                      clear hx1 hx0 HLT
                      go_wp2
                      go_quiet ((go_at_call 91; exact Calls.quiet_of_same (Hid.out HL _)))
                      go_wp2
                      go_region
                      all_goals go_wp2
                      go_roundw
                      case rel => exact ⟨j, swp k (j + 1) j, by omega, by simp, by rw [swp_len]; exact hkl, Hid.out HN4 _ _ (Hid.out HS4), (Hid.out HT4).swp ⟨by omega, by omega⟩ ⟨by omega, by omega⟩ (by omega), Hid.out HI5, ((((Hid.out HW4).drewN _).setCell _ _).setCell _ _)⟩
                      case measure => simp [intOf]
                    | false =>
                      rw [hdec] at HL
                      have HLT := hidden (of_decide_eq_false hdec)
                      clear hdec
                      have HO3 : Hid (SortedOn k a (i + 1)) := by
                        show SortedOn k a (i + 1)
                        by_cases e : a ≤ j
                        · exact (Hid.out HI4).stop e (Nat.le_of_not_lt (Hid.out HLT))
                        · exact (Hid.out HI4).low (by omega)
                      generalize hx1 : k.getD (j + 1) 0 = x1 at hc1 HL
                      generalize hx0 : k.getD j 0 = x0 at hc0 HL
                      clear hx1 hx0 HLT
                      go_wp2
                      go_quiet ((go_at_call 91; exact Calls.quiet_of_same (Hid.out HL _)))
                      clear hc1 hc0 hz1 hz0 HL hj2
                      have HT3 := HT4
                      have hml3 := hkl
                      generalize hk3 : k = m3 at HT3 HO3 hml3 HS4
                      clear hk3
                      by_cases hr : 2 ≤ b - (i + 1)
                      · have hr2 : (2 : Int) ≤ (b : Int) - ((i : Int) + 1) := by omega
                        go_wp2
                        go_loopw [10] (fun x10 wr5 => ∃ (r : Nat) (m5 : List Nat), i + 1 < r ∧ r ≤ b ∧ x10 = .int .i64 (r : Int) ∧ m5.length = d.length ∧ Srow wr5 g m5 tl ∧ Turned d m5 a b ∧ SortedOn m5 a (i + 1) ∧ Only g w wr5) (fun x10 _ => b - (intOf x10).toNat)
                        case atStart => exact ⟨i + 1 + 1, m3, by omega, by omega, by simp, hml3, (Hid.out HS4).drewN _, Hid.out HT3, Hid.out HO3, (Hid.out HW4).drewN _⟩
                        case round =>
                          obtain ⟨r, m5, hr3, hr4, rfl, hml5, hS5, hT5, hO5, hW5⟩ := hrel
                          have HS5 := hidden hS5
                          have HT5 := hidden hT5
                          have HO5 := hidden hO5
                          have HW5 := hidden hW5
                          by_cases hrb : r < b
                          · obtain ⟨r, rfl⟩ : ∃ r', r = r' + 1 := ⟨r - 1, by omega⟩
                            have hrb2 : (r : Int) + 1 < (b : Int) := by omega
                            have hc1 := hS5.cell (j := r + 1) (by omega)
                            have hc0 := hS5.cell (j := r) (by omega)
                            have hz1 := hS5.thaw (r + 1)
                            have hz0 := hS5.thaw r
                            clear hS5 hT5 hO5 hW5
                            have HL := hidden (fun u => less_any (m5.getD (r + 1) 0) (m5.getD r 0) u)
                            have HN5 : Hid (∀ u n, Srow u g m5 tl → Srow (((u.drewN n).setCell ⟨g, r + 1, none⟩ (.int .u32 ((m5.getD (r) 0 : Nat) : Int))).setCell ⟨g, r, none⟩ (.int .u32 ((m5.getD (r + 1) 0 : Nat) : Int))) g (swp m5 (r + 1) (r)) tl) := fun u n h0 => by
                              have h1 := (h0.drewN n).set (j := r + 1) (by omega) (m5.getD (r) 0)
                              exact h1.set (j := r) (by rw [List.length_set]; omega) (m5.getD (r + 1) 0)
                            have HO6 : Hid (SortedOn (swp m5 (r + 1) r) a (i + 1)) := fun p q h1 h2 h3 => by
                              rw [swp_get m5 (by omega) (by omega), swp_get m5 (by omega) (by omega), if_neg (by omega), if_neg (by omega), if_neg (by omega), if_neg (by omega)]
                              exact Hid.out HO5 p q h1 h2 h3
                            cases hdec : decide (m5.getD (r + 1) 0 < m5.getD r 0) with
                            | true =>
                              rw [hdec] at HL
                              clear hdec
                              generalize hx1 : m5.getD (r + 1) 0 = x1 at hc1 HL HN5
                              generalize hx0 : m5.getD r 0 = x0 at hc0 HL HN5
                              clear hx1 hx0
                              go_wp2
                              go_quiet ((go_at_call 91; exact Calls.quiet_of_same (Hid.out HL _)))
                              go_wp2
                              go_region
                              all_goals go_wp2
                              go_roundw
                              case rel => exact ⟨r + 1 + 1, swp m5 (r + 1) r, by omega, by omega, by simp, by rw [swp_len]; exact hml5, Hid.out HN5 _ _ (Hid.out HS5), (Hid.out HT5).swp ⟨by omega, by omega⟩ ⟨by omega, by omega⟩ (by omega), Hid.out HO6, ((((Hid.out HW5).drewN _).setCell _ _).setCell _ _)⟩
                              case measure => simp [intOf]; try omega
                            | false =>
                              rw [hdec] at HL
                              clear hdec HN5
                              generalize hx1 : m5.getD (r + 1) 0 = x1 at hc1 HL
                              generalize hx0 : m5.getD r 0 = x0 at hc0 HL
                              clear hx1 hx0
                              go_wp2
                              go_quiet ((go_at_call 91; exact Calls.quiet_of_same (Hid.out HL _)))
                              go_wp2
                              go_roundw
                              case rel => exact ⟨jj + 1, i + 1, m5, by omega, by omega, by omega, by simp, by simp, hml5, (Hid.out HS5).drewN _, Hid.out HT5, Hid.out HO5, (Hid.out HW5).drewN _⟩
                              case measure => simp [intOf]; try omega
                          · have hrb2 : ¬ (r : Int) < (b : Int) := by omega
                            clear hS5 hT5 hO5 hW5
                            go_wp2
                            go_roundw
                            case rel => exact ⟨jj + 1, i + 1, m5, by omega, by omega, by omega, by simp, by simp, hml5, Hid.out HS5, Hid.out HT5, Hid.out HO5, Hid.out HW5⟩
                            case measure => simp [intOf]; try omega
                      · have hr2 : ¬ (2 : Int) ≤ (b : Int) - ((i : Int) + 1) := by omega
                        go_wp2
                        go_roundw
                        case rel => exact ⟨jj + 1, i + 1, m3, by omega, by omega, by omega, by simp, by simp, hml3, (Hid.out HS4).drewN _, Hid.out HT3, Hid.out HO3, (Hid.out HW4).drewN _⟩
                        case measure => simp [intOf]; try omega
                  · have hj2 : ¬ (1 : Int) ≤ (j : Int) := by omega
                    have HO3 : Hid (SortedOn k a (i + 1)) := hI4.low (by omega)
                    clear hS4 hT4 hI4 hW4
                    have HT3 := HT4
                    have hml3 := hkl
                    generalize hk3 : k = m3 at HT3 HO3 hml3 HS4
                    clear hk3
                    by_cases hr : 2 ≤ b - (i + 1)
                    · have hr2 : (2 : Int) ≤ (b : Int) - ((i : Int) + 1) := by omega
                      go_wp2
                      go_loopw [10] (fun x10 wr5 => ∃ (r : Nat) (m5 : List Nat), i + 1 < r ∧ r ≤ b ∧ x10 = .int .i64 (r : Int) ∧ m5.length = d.length ∧ Srow wr5 g m5 tl ∧ Turned d m5 a b ∧ SortedOn m5 a (i + 1) ∧ Only g w wr5) (fun x10 _ => b - (intOf x10).toNat)
                      case atStart => exact ⟨i + 1 + 1, m3, by omega, by omega, by simp, hml3, Hid.out HS4, Hid.out HT3, Hid.out HO3, Hid.out HW4⟩
                      case round =>
                        obtain ⟨r, m5, hr3, hr4, rfl, hml5, hS5, hT5, hO5, hW5⟩ := hrel
                        have HS5 := hidden hS5
                        have HT5 := hidden hT5
                        have HO5 := hidden hO5
                        have HW5 := hidden hW5
                        by_cases hrb : r < b
                        · obtain ⟨r, rfl⟩ : ∃ r', r = r' + 1 := ⟨r - 1, by omega⟩
                          have hrb2 : (r : Int) + 1 < (b : Int) := by omega
                          have hc1 := hS5.cell (j := r + 1) (by omega)
                          have hc0 := hS5.cell (j := r) (by omega)
                          have hz1 := hS5.thaw (r + 1)
                          have hz0 := hS5.thaw r
                          clear hS5 hT5 hO5 hW5
                          have HL := hidden (fun u => less_any (m5.getD (r + 1) 0) (m5.getD r 0) u)
                          have HN5 : Hid (∀ u n, Srow u g m5 tl → Srow (((u.drewN n).setCell ⟨g, r + 1, none⟩ (.int .u32 ((m5.getD (r) 0 : Nat) : Int))).setCell ⟨g, r, none⟩ (.int .u32 ((m5.getD (r + 1) 0 : Nat) : Int))) g (swp m5 (r + 1) (r)) tl) := fun u n h0 => by
                            have h1 := (h0.drewN n).set (j := r + 1) (by omega) (m5.getD (r) 0)
                            exact h1.set (j := r) (by rw [List.length_set]; omega) (m5.getD (r + 1) 0)
                          have HO6 : Hid (SortedOn (swp m5 (r + 1) r) a (i + 1)) := fun p q h1 h2 h3 => by
                            rw [swp_get m5 (by omega) (by omega), swp_get m5 (by omega) (by omega), if_neg (by omega), if_neg (by omega), if_neg (by omega), if_neg (by omega)]
                            exact Hid.out HO5 p q h1 h2 h3
                          cases hdec : decide (m5.getD (r + 1) 0 < m5.getD r 0) with
                          | true =>
                            rw [hdec] at HL
                            clear hdec
                            generalize hx1 : m5.getD (r + 1) 0 = x1 at hc1 HL HN5
                            generalize hx0 : m5.getD r 0 = x0 at hc0 HL HN5
                            clear hx1 hx0
                            go_wp2
                            go_quiet ((go_at_call 91; exact Calls.quiet_of_same (Hid.out HL _)))
                            go_wp2
                            go_region
                            all_goals go_wp2
                            go_roundw
                            case rel => exact ⟨r + 1 + 1, swp m5 (r + 1) r, by omega, by omega, by simp, by rw [swp_len]; exact hml5, Hid.out HN5 _ _ (Hid.out HS5), (Hid.out HT5).swp ⟨by omega, by omega⟩ ⟨by omega, by omega⟩ (by omega), Hid.out HO6, ((((Hid.out HW5).drewN _).setCell _ _).setCell _ _)⟩
                            case measure => simp [intOf]; try omega
                          | false =>
                            rw [hdec] at HL
                            clear hdec HN5
                            generalize hx1 : m5.getD (r + 1) 0 = x1 at hc1 HL
                            generalize hx0 : m5.getD r 0 = x0 at hc0 HL
                            clear hx1 hx0
                            go_wp2
                            go_quiet ((go_at_call 91; exact Calls.quiet_of_same (Hid.out HL _)))
                            go_wp2
                            go_roundw
                            case rel => exact ⟨jj + 1, i + 1, m5, by omega, by omega, by omega, by simp, by simp, hml5, (Hid.out HS5).drewN _, Hid.out HT5, Hid.out HO5, (Hid.out HW5).drewN _⟩
                            case measure => simp [intOf]; try omega
                        · have hrb2 : ¬ (r : Int) < (b : Int) := by omega
                          clear hS5 hT5 hO5 hW5
                          go_wp2
                          go_roundw
                          case rel => exact ⟨jj + 1, i + 1, m5, by omega, by omega, by omega, by simp, by simp, hml5, Hid.out HS5, Hid.out HT5, Hid.out HO5, Hid.out HW5⟩
                          case measure => simp [intOf]; try omega
                    · have hr2 : ¬ (2 : Int) ≤ (b : Int) - ((i : Int) + 1) := by omega
                      go_wp2
                      go_roundw
                      case rel => exact ⟨jj + 1, i + 1, m3, by omega, by omega, by omega, by simp, by simp, hml3, Hid.out HS4, Hid.out HT3, Hid.out HO3, Hid.out HW4⟩
                      case measure => simp [intOf]; try omega
              · have hl3 : ¬ (2 : Int) ≤ (i : Int) + 1 - (a : Int) := by omega
                have HO3 : Hid (SortedOn m2 a (i + 1)) := (Hid.out HI2).low (by omega)
                have HT3 := HT2
                have hml3 := hml2
                generalize hk3 : m2 = m3 at HT3 HO3 hml3 HN
                clear hk3
                by_cases hr : 2 ≤ b - (i + 1)
                · have hr2 : (2 : Int) ≤ (b : Int) - ((i : Int) + 1) := by omega
                  go_wp2
                  go_loopw [10] (fun x10 wr5 => ∃ (r : Nat) (m5 : List Nat), i + 1 < r ∧ r ≤ b ∧ x10 = .int .i64 (r : Int) ∧ m5.length = d.length ∧ Srow wr5 g m5 tl ∧ Turned d m5 a b ∧ SortedOn m5 a (i + 1) ∧ Only g w wr5) (fun x10 _ => b - (intOf x10).toNat)
                  case atStart => exact ⟨i + 1 + 1, m3, by omega, by omega, by simp, hml3, Hid.out HN _ _ (Hid.out HS1), Hid.out HT3, Hid.out HO3, ((((Hid.out HW1).drewN _).setCell _ _).setCell _ _)⟩
                  case round =>
                    obtain ⟨r, m5, hr3, hr4, rfl, hml5, hS5, hT5, hO5, hW5⟩ := hrel
                    have HS5 := hidden hS5
                    have HT5 := hidden hT5
                    have HO5 := hidden hO5
                    have HW5 := hidden hW5
                    by_cases hrb : r < b
                    · obtain ⟨r, rfl⟩ : ∃ r', r = r' + 1 := ⟨r - 1, by omega⟩
                      have hrb2 : (r : Int) + 1 < (b : Int) := by omega
                      have hc1 := hS5.cell (j := r + 1) (by omega)
                      have hc0 := hS5.cell (j := r) (by omega)
                      have hz1 := hS5.thaw (r + 1)
                      have hz0 := hS5.thaw r
                      clear hS5 hT5 hO5 hW5
                      have HL := hidden (fun u => less_any (m5.getD (r + 1) 0) (m5.getD r 0) u)
                      have HN5 : Hid (∀ u n, Srow u g m5 tl → Srow (((u.drewN n).setCell ⟨g, r + 1, none⟩ (.int .u32 ((m5.getD (r) 0 : Nat) : Int))).setCell ⟨g, r, none⟩ (.int .u32 ((m5.getD (r + 1) 0 : Nat) : Int))) g (swp m5 (r + 1) (r)) tl) := fun u n h0 => by
                        have h1 := (h0.drewN n).set (j := r + 1) (by omega) (m5.getD (r) 0)
                        exact h1.set (j := r) (by rw [List.length_set]; omega) (m5.getD (r + 1) 0)
                      have HO6 : Hid (SortedOn (swp m5 (r + 1) r) a (i + 1)) := fun p q h1 h2 h3 => by
                        rw [swp_get m5 (by omega) (by omega), swp_get m5 (by omega) (by omega), if_neg (by omega), if_neg (by omega), if_neg (by omega), if_neg (by omega)]
                        exact Hid.out HO5 p q h1 h2 h3
                      cases hdec : decide (m5.getD (r + 1) 0 < m5.getD r 0) with
                      | true =>
                        rw [hdec] at HL
                        clear hdec
                        generalize hx1 : m5.getD (r + 1) 0 = x1 at hc1 HL HN5
                        generalize hx0 : m5.getD r 0 = x0 at hc0 HL HN5
                        clear hx1 hx0
                        go_wp2
                        go_quiet ((go_at_call 91; exact Calls.quiet_of_same (Hid.out HL _)))
                        go_wp2
                        go_region
                        all_goals go_wp2
                        go_roundw
                        case rel => exact ⟨r + 1 + 1, swp m5 (r + 1) r, by omega, by omega, by simp, by rw [swp_len]; exact hml5, Hid.out HN5 _ _ (Hid.out HS5), (Hid.out HT5).swp ⟨by omega, by omega⟩ ⟨by omega, by omega⟩ (by omega), Hid.out HO6, ((((Hid.out HW5).drewN _).setCell _ _).setCell _ _)⟩
                        case measure => simp [intOf]; try omega
                      | false =>
                        rw [hdec] at HL
                        clear hdec HN5
                        generalize hx1 : m5.getD (r + 1) 0 = x1 at hc1 HL
                        generalize hx0 : m5.getD r 0 = x0 at hc0 HL
                        clear hx1 hx0
                        go_wp2
                        go_quiet ((go_at_call 91; exact Calls.quiet_of_same (Hid.out HL _)))
                        go_wp2
                        go_roundw
                        case rel => exact ⟨jj + 1, i + 1, m5, by omega, by omega, by omega, by simp, by simp, hml5, (Hid.out HS5).drewN _, Hid.out HT5, Hid.out HO5, (Hid.out HW5).drewN _⟩
                        case measure => simp [intOf]; try omega
                    · have hrb2 : ¬ (r : Int) < (b : Int) := by omega
                      clear hS5 hT5 hO5 hW5
                      go_wp2
                      go_roundw
                      case rel => exact ⟨jj + 1, i + 1, m5, by omega, by omega, by omega, by simp, by simp, hml5, Hid.out HS5, Hid.out HT5, Hid.out HO5, Hid.out HW5⟩
                      case measure => simp [intOf]; try omega
                · have hr2 : ¬ (2 : Int) ≤ (b : Int) - ((i : Int) + 1) := by omega
                  go_wp2
                  go_roundw
                  case rel => exact ⟨jj + 1, i + 1, m3, by omega, by omega, by omega, by simp, by simp, hml3, Hid.out HN _ _ (Hid.out HS1), Hid.out HT3, Hid.out HO3, ((((Hid.out HW1).drewN _).setCell _ _).setCell _ _)⟩
                  case measure => simp [intOf]; try omega
        · have hib3 : decide ((i : Int) + 1 < (b : Int)) = false := by simp; omega
          obtain rfl : b = i + 1 := by omega
          clear hS hO hW
          go_wp2
          go_quiet (fail)
          go_wp2
          go_ret
          exact ⟨true, m, rfl, (Hid.out HS1).drewN _, Hid.out HT, fun _ => Hid.out HO1, (Hid.out HW1).drewN _⟩
    · have hj52 : ¬ (jj : Int) < 5 := by omega
      go_wp2
      go_ret
      exact Or.inl ⟨rfl, m, Hid.out HS, Hid.out HT, Hid.out HW⟩
end Go.Proofs.Ytodoenimlhldjaa
