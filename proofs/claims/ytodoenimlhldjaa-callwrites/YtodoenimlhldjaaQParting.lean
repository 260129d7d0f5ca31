/- The library's partition, walked. -/
import Derived.Test.YtodoenimlhldjaaQHeaps
namespace Go.Proofs.Ytodoenimlhldjaa
open Go.ChangeShapes Go.WideShapes Go.ChangeAt Go.RowKit
set_option linter.unusedVariables false
/-- Below the first, behind a, ahead of i; not below it behind j. -/
structure Pt (m : List Nat) (a b i j : Nat) : Prop where
  low : ∀ p, a < p → p < i → m.getD p 0 < m.getD a 0
  high : ∀ q, j < q → q < b → m.getD a 0 ≤ m.getD q 0
theorem Pt.up {m : List Nat} {a b i j : Nat} (h : Pt m a b i j) (hs : m.getD i 0 < m.getD a 0) : Pt m a b (i + 1) j := ⟨fun p h1 h2 => by
  by_cases e : p = i
  · rw [e]; exact hs
  · exact h.low p h1 (by omega), h.high⟩
theorem Pt.down {m : List Nat} {a b i j : Nat} (h : Pt m a b i (j + 1)) (hs : ¬ m.getD (j + 1) 0 < m.getD a 0) : Pt m a b i j := ⟨h.low, fun q h1 h2 => by
  by_cases e : q = j + 1
  · rw [e]; omega
  · exact h.high q (by omega) h2⟩
theorem Pt.swp {m : List Nat} {a b i j : Nat} (h : Pt m a b i (j + 1)) (hai : a < i) (hij : i < j + 1) (hj : j + 1 < b) (hl : b ≤ m.length) (h1 : ¬ m.getD i 0 < m.getD a 0) (h2 : m.getD (j + 1) 0 < m.getD a 0) : Pt (swp m i (j + 1)) a b (i + 1) j := by
  have hg := fun k => swp_get m (i := i) (j := j + 1) (by omega) (by omega) k
  have ha : (Ytodoenimlhldjaa.swp m i (j + 1)).getD a 0 = m.getD a 0 := by rw [hg a, if_neg (by omega), if_neg (by omega)]
  refine ⟨fun p g1 g2 => ?_, fun q g1 g2 => ?_⟩
  · rw [ha, hg p, if_neg (by omega)]
    by_cases e : p = i
    · rw [if_pos e]; exact h2
    · rw [if_neg e]; exact h.low p g1 (by omega)
  · rw [ha, hg q]
    by_cases e : q = j + 1
    · rw [if_pos e]; omega
    · rw [if_neg e, if_neg (by omega)]; exact h.high q (by omega) g2
/-- The pivot stands at j. -/
structure Mid (m : List Nat) (a b j : Nat) : Prop where
  low : ∀ p, a ≤ p → p < j → m.getD p 0 ≤ m.getD j 0
  high : ∀ q, j < q → q < b → m.getD j 0 ≤ m.getD q 0
theorem Pt.done {m : List Nat} {a b i j : Nat} (h : Pt m a b i j) (hi : i = j + 1) (ha : a ≤ j) (hj : j < b) (hl : b ≤ m.length) : Mid (Ytodoenimlhldjaa.swp m j a) a b j := by
  subst hi
  have hg := fun k => swp_get m (i := j) (j := a) (by omega) (by omega) k
  have hjj : (Ytodoenimlhldjaa.swp m j a).getD j 0 = m.getD a 0 := by
    rw [hg j]
    by_cases e : j = a
    · rw [if_pos e, e]
    · rw [if_neg e, if_pos rfl]
  refine ⟨fun p g1 g2 => ?_, fun q g1 g2 => ?_⟩
  · rw [hjj, hg p]
    by_cases e : p = a
    · rw [if_pos e]; exact Nat.le_of_lt (h.low j (by omega) (by omega))
    · rw [if_neg e, if_neg (by omega)]; exact Nat.le_of_lt (h.low p (by omega) (by omega))
  · rw [hjj, hg q, if_neg (by omega), if_neg (by omega)]; exact h.high q g1 g2
set_option maxRecDepth 20000 in
set_option maxHeartbeats 16000000 in
theorem part_any (w : World) (g cap a b pv : Nat) (d : List Nat) (tl : List Value) (h : Srow w g d tl) (hpa : a ≤ pv) (hpb : pv < b) (hb : b ≤ d.length) (hlen : d.length ≤ 1152921504606846976) :
    Calls Try.prog 93 #[.slice (some ⟨g, 0, none⟩) d.length cap, .int .i64 (a : Int), .int .i64 (b : Int), .int .i64 (pv : Int)] w fun e w' => ∃ (j : Nat) (f : Bool) (m : List Nat), e = .returned (.tuple #[.int .i64 (j : Int), .bool f]) ∧ a ≤ j ∧ j < b ∧ Srow w' g m tl ∧ Turned d m a b ∧ Mid m a b j ∧ Only g w w' := by
  have H := hidden h
  obtain ⟨c, hc⟩ : ∃ c, c + 1 = b := ⟨b - 1, by omega⟩
  have hsub : (b : Int) - 1 = (c : Int) := by omega
  have hcb : c < b ∧ b ≤ c + 1 := by omega
  clear hc
  have hca := h.cell (j := a) (by omega)
  have hza := h.thaw a
  by_cases hap : pv = a
  · subst hap
    clear h
    have HN : Hid (∀ u n, Srow u g d tl → Srow (((u.drewN n).setCell ⟨g, pv, none⟩ (.int .u32 ((d.getD pv 0 : Nat) : Int))).setCell ⟨g, pv, none⟩ (.int .u32 ((d.getD pv 0 : Nat) : Int))) g (swp d pv pv) tl) := fun u n h0 => by
      have h1 := (h0.drewN n).set (j := pv) (by omega) (d.getD pv 0)
      exact h1.set (j := pv) (by rw [List.length_set]; omega) (d.getD pv 0)
    have HT0 : Hid (Turned d (swp d pv pv) pv b) := (Turned.refl d pv b).swp ⟨by omega, by omega⟩ ⟨by omega, by omega⟩ (by omega)
    have hml0 : (swp d pv pv).length = d.length := swp_len _ _ _
    generalize hx0 : d.getD pv 0 = x0 at hca HN
    generalize hm0 : swp d pv pv = m0 at HN HT0 hml0
    clear hx0 hm0
    go_enter Try.func93, Try.ntmps93
    go_wp2
    go_region
    all_goals go_wp2
    clear hca hza
    have hml := hml0
    have HT := HT0
    have hai : pv < pv + 1 := by omega
    have hij : pv + 1 ≤ c + 1 := by omega
    have haj : pv ≤ c := by omega
    have hjb : c < b := by omega
    have HP : Hid (Pt m0 pv b (pv + 1) c) := ⟨fun p h1 h2 => by omega, fun q h1 h2 => by omega⟩
    clear hml0 HT0
    go_wp2
    go_loopw [10] (fun x10 wr2 => ∃ (k : Nat), pv + 1 ≤ k ∧ k ≤ c + 1 ∧ x10 = .int .i64 (k : Int) ∧ Srow wr2 g m0 tl ∧ Pt m0 pv b k c ∧ Only g w wr2) (fun x10 _ => b - (intOf x10).toNat)
    case atStart => exact ⟨pv + 1, by omega, by omega, by simp, Hid.out HN _ _ (Hid.out H), Hid.out HP, ((((Only.refl g w).drewN _).setCell _ _).setCell _ _)⟩
    case round =>
      obtain ⟨k, hik, hkj, rfl, hS, hP, hW⟩ := hrel
      have HS2 := hidden hS
      have HP2 := hidden hP
      have HW2 := hidden hW
      by_cases hkj2 : k ≤ c
      · have hkj3 : (k : Int) ≤ (c : Int) := by omega
        have hck := hS.cell (j := k) (by omega)
        have hcA := hS.cell (j := pv) (by omega)
        clear hS hP hW
        have HL := hidden (fun u => less_any (m0.getD k 0) (m0.getD pv 0) u)
        cases hdec : decide (m0.getD k 0 < m0.getD pv 0) with
        | true =>
          rw [hdec] at HL
          have HP3 : Hid (Pt m0 pv b (k + 1) c) := (Hid.out HP2).up (of_decide_eq_true hdec)
          clear hdec
          generalize hx3 : m0.getD pv 0 = x3 at hcA HL
          generalize hx4 : m0.getD k 0 = x4 at hck HL
          clear hx3 hx4
          go_wp2
          go_quiet ((go_at_call 91; exact Calls.quiet_of_same (Hid.out HL _)))
          go_wp2
          go_roundw
          case rel => exact ⟨k + 1, by omega, by omega, by simp, (Hid.out HS2).drewN _, Hid.out HP3, (Hid.out HW2).drewN _⟩
          case measure => simp [intOf]; try omega
        | false =>
          rw [hdec] at HL
          have HLT := hidden (of_decide_eq_false hdec)
          clear hdec
          generalize hx3 : m0.getD pv 0 = x3 at hcA HL
          generalize hx4 : m0.getD k 0 = x4 at hck HL
          clear hx3 hx4
          go_wp2
          go_quiet ((go_at_call 91; exact Calls.quiet_of_same (Hid.out HL _)))
          go_wp2
          clear hck hcA HL
          go_loopw [11] (fun x11 wr3 => ∃ (l : Nat), k ≤ l + 1 ∧ l ≤ c ∧ x11 = .int .i64 (l : Int) ∧ Srow wr3 g m0 tl ∧ Pt m0 pv b k l ∧ Only g w wr3) (fun x11 _ => (intOf x11).toNat)
          case atStart => exact ⟨c, by omega, by omega, rfl, (Hid.out HS2).drewN _, Hid.out HP2, (Hid.out HW2).drewN _⟩
          case round =>
            obtain ⟨l, hkl, hlj, rfl, hS, hP, hW⟩ := hrel
            have HS4 := hidden hS
            have HP4 := hidden hP
            have HW4 := hidden hW
            by_cases hkl2 : k ≤ l
            · obtain ⟨l, rfl⟩ : ∃ l', l = l' + 1 := ⟨l - 1, by omega⟩
              have hkl3 : (k : Int) ≤ (l : Int) + 1 := by omega
              have hkl4 : ¬ (l : Int) + 1 < (k : Int) := by omega
              have hck := hS.cell (j := k) (by omega)
              have hzk := hS.thaw k
              have hcl := hS.cell (j := l + 1) (by omega)
              have hzl := hS.thaw (l + 1)
              have hcA := hS.cell (j := pv) (by omega)
              clear hS hP hW
              have HL := hidden (fun u => less_any (m0.getD (l + 1) 0) (m0.getD pv 0) u)
              cases hdec : decide (m0.getD (l + 1) 0 < m0.getD pv 0) with
              | false =>
                rw [hdec] at HL
                have HP5 : Hid (Pt m0 pv b k l) := (Hid.out HP4).down (of_decide_eq_false hdec)
                clear hdec
                generalize hx3 : m0.getD pv 0 = x3 at hcA HL
                generalize hx4 : m0.getD (l + 1) 0 = x4 at hcl HL
                generalize hx5 : m0.getD k 0 = x5 at hck
                clear hx3 hx4 hx5
                go_wp2
                go_quiet ((go_at_call 91; exact Calls.quiet_of_same (Hid.out HL _)))
                go_wp2
                go_roundw
                case rel => exact ⟨l, by omega, by omega, by simp, (Hid.out HS4).drewN _, Hid.out HP5, (Hid.out HW4).drewN _⟩
                case measure => simp [intOf]
              | true =>
                rw [hdec] at HL
                have HNLT := hidden (of_decide_eq_true hdec)
                clear hdec
                have hne : ¬ k = l + 1 := fun e => by
                  have h1 := Hid.out HLT
                  have h2 := Hid.out HNLT
                  rw [e] at h1
                  exact h1 h2
                have hne2 : ¬ l + 1 = k := fun e => hne e.symm
                have HP5 : Hid (Pt (swp m0 k (l + 1)) pv b (k + 1) l) := (Hid.out HP4).swp (by omega) (by omega) (by omega) (by omega) (Hid.out HLT) (Hid.out HNLT)
                have HT5 : Hid (Turned d (swp m0 k (l + 1)) pv b) := (Hid.out HT).swp ⟨by omega, by omega⟩ ⟨by omega, by omega⟩ (by omega)
                have HN2 : Hid (∀ u n, Srow u g m0 tl → Srow (((u.drewN n).setCell ⟨g, k, none⟩ (.int .u32 ((m0.getD (l + 1) 0 : Nat) : Int))).setCell ⟨g, l + 1, none⟩ (.int .u32 ((m0.getD k 0 : Nat) : Int))) g (swp m0 k (l + 1)) tl) := fun u n h0 => by
                  have h1 := (h0.drewN n).set (j := k) (by omega) (m0.getD (l + 1) 0)
                  exact h1.set (j := l + 1) (by rw [List.length_set]; omega) (m0.getD k 0)
                clear HLT HNLT
                generalize hx3 : m0.getD pv 0 = x3 at hcA HL
                generalize hx4 : m0.getD (l + 1) 0 = x4 at hcl HL HN2
                generalize hx5 : m0.getD k 0 = x5 at hck HN2
                clear hx3 hx4 hx5
                go_wp2
                go_quiet ((go_at_call 91; exact Calls.quiet_of_same (Hid.out HL _)))
                go_wp2
                go_region
                all_goals go_wp2
                clear hck hzk hcl hzl hcA HL
                have hml5 : (swp m0 k (l + 1)).length = d.length := by rw [swp_len]; exact hml
                generalize hm5 : swp m0 k (l + 1) = m5 at HP5 HT5 HN2 hml5
                clear hm5
                go_loopw [10, 11] (fun x10 x11 wr => ∃ (i j : Nat) (m : List Nat), pv < i ∧ i ≤ j + 1 ∧ pv ≤ j ∧ j < b ∧ x10 = .int .i64 (i : Int) ∧ x11 = .int .i64 (j : Int) ∧ m.length = d.length ∧ Srow wr g m tl ∧ Turned d m pv b ∧ Pt m pv b i j ∧ Only g w wr) (fun x10 x11 _ => b - (intOf x10).toNat)
                case atStart => exact ⟨k + 1, l, m5, by omega, by omega, by omega, by omega, by simp, by simp, hml5, Hid.out HN2 _ _ (Hid.out HS4), Hid.out HT5, Hid.out HP5, ((((Hid.out HW4).drewN _).setCell _ _).setCell _ _)⟩
                case round =>
                  clear HN H HT HP HS2 HP2 HW2 HS4 HP4 HW4 HP5 HT5 HN2 hml hml5 hai hij haj hjb hik hkj hkj2 hkj3 hkl hlj hkl2 hkl3 hkl4 hne hne2
                  obtain ⟨i, j, m, hai, hij, haj, hjb, rfl, rfl, hml, hS, hT, hP, hW⟩ := hrel
                  have HS := hidden hS
                  have HT := hidden hT
                  have HP := hidden hP
                  have HW := hidden hW
                  clear hS hT hP hW
                  go_wp2
                  go_loopw [10] (fun x10 wr2 => ∃ (k : Nat), i ≤ k ∧ k ≤ j + 1 ∧ x10 = .int .i64 (k : Int) ∧ Srow wr2 g m tl ∧ Pt m pv b k j ∧ Only g w wr2) (fun x10 _ => b - (intOf x10).toNat)
                  case atStart => exact ⟨i, by omega, hij, rfl, Hid.out HS, Hid.out HP, Hid.out HW⟩
                  case round =>
                    obtain ⟨k, hik, hkj, rfl, hS, hP, hW⟩ := hrel
                    have HS2 := hidden hS
                    have HP2 := hidden hP
                    have HW2 := hidden hW
                    by_cases hkj2 : k ≤ j
                    · have hkj3 : (k : Int) ≤ (j : Int) := by omega
                      have hck := hS.cell (j := k) (by omega)
                      have hcA := hS.cell (j := pv) (by omega)
                      clear hS hP hW
                      have HL := hidden (fun u => less_any (m.getD k 0) (m.getD pv 0) u)
                      cases hdec : decide (m.getD k 0 < m.getD pv 0) with
                      | true =>
                        rw [hdec] at HL
                        have HP3 : Hid (Pt m pv b (k + 1) j) := (Hid.out HP2).up (of_decide_eq_true hdec)
                        clear hdec
                        generalize hx3 : m.getD pv 0 = x3 at hcA HL
                        generalize hx4 : m.getD k 0 = x4 at hck HL
                        clear hx3 hx4
                        go_wp2
                        go_quiet ((go_at_call 91; exact Calls.quiet_of_same (Hid.out HL _)))
                        go_wp2
                        go_roundw
                        case rel => exact ⟨k + 1, by omega, by omega, by simp, (Hid.out HS2).drewN _, Hid.out HP3, (Hid.out HW2).drewN _⟩
                        case measure => simp [intOf]; try omega
                      | false =>
                        rw [hdec] at HL
                        have HLT := hidden (of_decide_eq_false hdec)
                        clear hdec
                        generalize hx3 : m.getD pv 0 = x3 at hcA HL
                        generalize hx4 : m.getD k 0 = x4 at hck HL
                        clear hx3 hx4
                        go_wp2
                        go_quiet ((go_at_call 91; exact Calls.quiet_of_same (Hid.out HL _)))
                        go_wp2
                        clear hck hcA HL
                        go_loopw [11] (fun x11 wr3 => ∃ (l : Nat), k ≤ l + 1 ∧ l ≤ j ∧ x11 = .int .i64 (l : Int) ∧ Srow wr3 g m tl ∧ Pt m pv b k l ∧ Only g w wr3) (fun x11 _ => (intOf x11).toNat)
                        case atStart => exact ⟨j, by omega, by omega, rfl, (Hid.out HS2).drewN _, Hid.out HP2, (Hid.out HW2).drewN _⟩
                        case round =>
                          obtain ⟨l, hkl, hlj, rfl, hS, hP, hW⟩ := hrel
                          have HS4 := hidden hS
                          have HP4 := hidden hP
                          have HW4 := hidden hW
                          by_cases hkl2 : k ≤ l
                          · obtain ⟨l, rfl⟩ : ∃ l', l = l' + 1 := ⟨l - 1, by omega⟩
                            have hkl3 : (k : Int) ≤ (l : Int) + 1 := by omega
                            have hkl4 : ¬ (l : Int) + 1 < (k : Int) := by omega
                            have hck := hS.cell (j := k) (by omega)
                            have hzk := hS.thaw k
                            have hcl := hS.cell (j := l + 1) (by omega)
                            have hzl := hS.thaw (l + 1)
                            have hcA := hS.cell (j := pv) (by omega)
                            clear hS hP hW
                            have HL := hidden (fun u => less_any (m.getD (l + 1) 0) (m.getD pv 0) u)
                            cases hdec : decide (m.getD (l + 1) 0 < m.getD pv 0) with
                            | false =>
                              rw [hdec] at HL
                              have HP5 : Hid (Pt m pv b k l) := (Hid.out HP4).down (of_decide_eq_false hdec)
                              clear hdec
                              generalize hx3 : m.getD pv 0 = x3 at hcA HL
                              generalize hx4 : m.getD (l + 1) 0 = x4 at hcl HL
                              generalize hx5 : m.getD k 0 = x5 at hck
                              clear hx3 hx4 hx5
                              go_wp2
                              go_quiet ((go_at_call 91; exact Calls.quiet_of_same (Hid.out HL _)))
                              go_wp2
                              go_roundw
                              case rel => exact ⟨l, by omega, by omega, by simp, (Hid.out HS4).drewN _, Hid.out HP5, (Hid.out HW4).drewN _⟩
                              case measure => simp [intOf]
                            | true =>
                              rw [hdec] at HL
                              have HNLT := hidden (of_decide_eq_true hdec)
                              clear hdec
                              have hne : ¬ k = l + 1 := fun e => by
                                have h1 := Hid.out HLT
                                have h2 := Hid.out HNLT
                                rw [e] at h1
                                exact h1 h2
                              have hne2 : ¬ l + 1 = k := fun e => hne e.symm
                              have HP5 : Hid (Pt (swp m k (l + 1)) pv b (k + 1) l) := (Hid.out HP4).swp (by omega) (by omega) (by omega) (by omega) (Hid.out HLT) (Hid.out HNLT)
                              have HT5 : Hid (Turned d (swp m k (l + 1)) pv b) := (Hid.out HT).swp ⟨by omega, by omega⟩ ⟨by omega, by omega⟩ (by omega)
                              have HN2 : Hid (∀ u n, Srow u g m tl → Srow (((u.drewN n).setCell ⟨g, k, none⟩ (.int .u32 ((m.getD (l + 1) 0 : Nat) : Int))).setCell ⟨g, l + 1, none⟩ (.int .u32 ((m.getD k 0 : Nat) : Int))) g (swp m k (l + 1)) tl) := fun u n h0 => by
                                have h1 := (h0.drewN n).set (j := k) (by omega) (m.getD (l + 1) 0)
                                exact h1.set (j := l + 1) (by rw [List.length_set]; omega) (m.getD k 0)
                              clear HLT HNLT
                              generalize hx3 : m.getD pv 0 = x3 at hcA HL
                              generalize hx4 : m.getD (l + 1) 0 = x4 at hcl HL HN2
                              generalize hx5 : m.getD k 0 = x5 at hck HN2
                              clear hx3 hx4 hx5
                              go_wp2
                              go_quiet ((go_at_call 91; exact Calls.quiet_of_same (Hid.out HL _)))
                              go_wp2
                              go_region
                              all_goals go_wp2
                              go_roundw
                              case rel => exact ⟨k + 1, l, swp m k (l + 1), by omega, by omega, by omega, by omega, by simp, by simp, by rw [swp_len]; exact hml, Hid.out HN2 _ _ (Hid.out HS4), Hid.out HT5, Hid.out HP5, ((((Hid.out HW4).drewN _).setCell _ _).setCell _ _)⟩
                              case measure => simp [intOf]; try omega
                          · have hkl3 : decide ((k : Int) ≤ (l : Int)) = false := by simp; omega
                            have hkl4 : (l : Int) < (k : Int) := by omega
                            by_cases hla : pv = l
                            · subst hla
                              have hcA := hS.cell (j := pv) (by omega)
                              have hzA := hS.thaw pv
                              have HD : Hid (Mid (swp m pv pv) pv b pv) := (Hid.out HP4).done (by omega) (by omega) (by omega) (by omega)
                              have HN2 : Hid (∀ u n, Srow u g m tl → Srow (((u.drewN n).setCell ⟨g, pv, none⟩ (.int .u32 ((m.getD pv 0 : Nat) : Int))).setCell ⟨g, pv, none⟩ (.int .u32 ((m.getD pv 0 : Nat) : Int))) g (swp m pv pv) tl) := fun u n h0 => by
                                have h1 := (h0.drewN n).set (j := pv) (by omega) (m.getD pv 0)
                                exact h1.set (j := pv) (by rw [List.length_set]; omega) (m.getD pv 0)
                              clear hS hP hW
                              generalize hx3 : m.getD pv 0 = x3 at hcA HN2
                              clear hx3
                              go_wp2
                              go_quiet (fail)
                              go_wp2
                              go_region
                              all_goals go_wp2
                              go_ret2
                              exact ⟨pv, false, swp m pv pv, rfl, by omega, by omega, Hid.out HN2 _ _ (Hid.out HS4), (Hid.out HT).swp ⟨by omega, by omega⟩ ⟨by omega, by omega⟩ (by omega), Hid.out HD, ((((Hid.out HW4).drewN _).setCell _ _).setCell _ _)⟩
                            · have hla2 : ¬ l = pv := fun e => hla e.symm
                              have hcA := hS.cell (j := pv) (by omega)
                              have hzA := hS.thaw pv
                              have hcl := hS.cell (j := l) (by omega)
                              have hzl := hS.thaw l
                              have HD : Hid (Mid (swp m l pv) pv b l) := (Hid.out HP4).done (by omega) (by omega) (by omega) (by omega)
                              have HN2 : Hid (∀ u n, Srow u g m tl → Srow (((u.drewN n).setCell ⟨g, l, none⟩ (.int .u32 ((m.getD pv 0 : Nat) : Int))).setCell ⟨g, pv, none⟩ (.int .u32 ((m.getD l 0 : Nat) : Int))) g (swp m l pv) tl) := fun u n h0 => by
                                have h1 := (h0.drewN n).set (j := l) (by omega) (m.getD pv 0)
                                exact h1.set (j := pv) (by rw [List.length_set]; omega) (m.getD l 0)
                              clear hS hP hW
                              generalize hx3 : m.getD pv 0 = x3 at hcA HN2
                              generalize hx4 : m.getD l 0 = x4 at hcl HN2
                              clear hx3 hx4
                              go_wp2
                              go_quiet (fail)
                              go_wp2
                              go_region
                              all_goals go_wp2
                              go_ret2
                              exact ⟨l, false, swp m l pv, rfl, by omega, by omega, Hid.out HN2 _ _ (Hid.out HS4), (Hid.out HT).swp ⟨by omega, by omega⟩ ⟨by omega, by omega⟩ (by omega), Hid.out HD, ((((Hid.out HW4).drewN _).setCell _ _).setCell _ _)⟩
                    · have hkj3 : decide ((k : Int) ≤ (j : Int)) = false := by simp; omega
                      have hkj4 : (j : Int) < (k : Int) := by omega
                      clear hS hP hW
                      go_wp2
                      go_quiet (fail)
                      go_wp2
                      go_loopw [11] (fun x11 wr3 => x11 = .int .i64 (j : Int) ∧ Srow wr3 g m tl ∧ Only g w wr3) (fun x11 _ => 0)
                      case atStart => exact ⟨rfl, (Hid.out HS2).drewN _, (Hid.out HW2).drewN _⟩
                      case round =>
                        obtain ⟨rfl, hS, hW⟩ := hrel
                        have HS4 := hidden hS
                        have HW4 := hidden hW
                        have hP := trivial
                        by_cases hla : pv = j
                        · subst hla
                          have hcA := hS.cell (j := pv) (by omega)
                          have hzA := hS.thaw pv
                          have HD : Hid (Mid (swp m pv pv) pv b pv) := (Hid.out HP2).done (by omega) (by omega) (by omega) (by omega)
                          have HN2 : Hid (∀ u n, Srow u g m tl → Srow (((u.drewN n).setCell ⟨g, pv, none⟩ (.int .u32 ((m.getD pv 0 : Nat) : Int))).setCell ⟨g, pv, none⟩ (.int .u32 ((m.getD pv 0 : Nat) : Int))) g (swp m pv pv) tl) := fun u n h0 => by
                            have h1 := (h0.drewN n).set (j := pv) (by omega) (m.getD pv 0)
                            exact h1.set (j := pv) (by rw [List.length_set]; omega) (m.getD pv 0)
                          clear hS hP hW
                          generalize hx3 : m.getD pv 0 = x3 at hcA HN2
                          clear hx3
                          go_wp2
                          go_quiet (fail)
                          go_wp2
                          go_region
                          all_goals go_wp2
                          go_ret2
                          exact ⟨pv, false, swp m pv pv, rfl, by omega, by omega, Hid.out HN2 _ _ (Hid.out HS4), (Hid.out HT).swp ⟨by omega, by omega⟩ ⟨by omega, by omega⟩ (by omega), Hid.out HD, ((((Hid.out HW4).drewN _).setCell _ _).setCell _ _)⟩
                        · have hla2 : ¬ j = pv := fun e => hla e.symm
                          have hcA := hS.cell (j := pv) (by omega)
                          have hzA := hS.thaw pv
                          have hcl := hS.cell (j := j) (by omega)
                          have hzl := hS.thaw j
                          have HD : Hid (Mid (swp m j pv) pv b j) := (Hid.out HP2).done (by omega) (by omega) (by omega) (by omega)
                          have HN2 : Hid (∀ u n, Srow u g m tl → Srow (((u.drewN n).setCell ⟨g, j, none⟩ (.int .u32 ((m.getD pv 0 : Nat) : Int))).setCell ⟨g, pv, none⟩ (.int .u32 ((m.getD j 0 : Nat) : Int))) g (swp m j pv) tl) := fun u n h0 => by
                            have h1 := (h0.drewN n).set (j := j) (by omega) (m.getD pv 0)
                            exact h1.set (j := pv) (by rw [List.length_set]; omega) (m.getD j 0)
                          clear hS hP hW
                          generalize hx3 : m.getD pv 0 = x3 at hcA HN2
                          generalize hx4 : m.getD j 0 = x4 at hcl HN2
                          clear hx3 hx4
                          go_wp2
                          go_quiet (fail)
                          go_wp2
                          go_region
                          all_goals go_wp2
                          go_ret2
                          exact ⟨j, false, swp m j pv, rfl, by omega, by omega, Hid.out HN2 _ _ (Hid.out HS4), (Hid.out HT).swp ⟨by omega, by omega⟩ ⟨by omega, by omega⟩ (by omega), Hid.out HD, ((((Hid.out HW4).drewN _).setCell _ _).setCell _ _)⟩
            · have hkl3 : decide ((k : Int) ≤ (l : Int)) = false := by simp; omega
              have hkl4 : (l : Int) < (k : Int) := by omega
              by_cases hla : pv = l
              · subst hla
                have hcA := hS.cell (j := pv) (by omega)
                have hzA := hS.thaw pv
                have HD : Hid (Mid (swp m0 pv pv) pv b pv) := (Hid.out HP4).done (by omega) (by omega) (by omega) (by omega)
                have HN2 : Hid (∀ u n, Srow u g m0 tl → Srow (((u.drewN n).setCell ⟨g, pv, none⟩ (.int .u32 ((m0.getD pv 0 : Nat) : Int))).setCell ⟨g, pv, none⟩ (.int .u32 ((m0.getD pv 0 : Nat) : Int))) g (swp m0 pv pv) tl) := fun u n h0 => by
                  have h1 := (h0.drewN n).set (j := pv) (by omega) (m0.getD pv 0)
                  exact h1.set (j := pv) (by rw [List.length_set]; omega) (m0.getD pv 0)
                clear hS hP hW
                generalize hx3 : m0.getD pv 0 = x3 at hcA HN2
                clear hx3
                go_wp2
                go_quiet (fail)
                go_wp2
                go_region
                all_goals go_wp2
                go_ret2
                exact ⟨pv, true, swp m0 pv pv, rfl, by omega, by omega, Hid.out HN2 _ _ (Hid.out HS4), (Hid.out HT).swp ⟨by omega, by omega⟩ ⟨by omega, by omega⟩ (by omega), Hid.out HD, ((((Hid.out HW4).drewN _).setCell _ _).setCell _ _)⟩
              · have hla2 : ¬ l = pv := fun e => hla e.symm
                have hcA := hS.cell (j := pv) (by omega)
                have hzA := hS.thaw pv
                have hcl := hS.cell (j := l) (by omega)
                have hzl := hS.thaw l
                have HD : Hid (Mid (swp m0 l pv) pv b l) := (Hid.out HP4).done (by omega) (by omega) (by omega) (by omega)
                have HN2 : Hid (∀ u n, Srow u g m0 tl → Srow (((u.drewN n).setCell ⟨g, l, none⟩ (.int .u32 ((m0.getD pv 0 : Nat) : Int))).setCell ⟨g, pv, none⟩ (.int .u32 ((m0.getD l 0 : Nat) : Int))) g (swp m0 l pv) tl) := fun u n h0 => by
                  have h1 := (h0.drewN n).set (j := l) (by omega) (m0.getD pv 0)
                  exact h1.set (j := pv) (by rw [List.length_set]; omega) (m0.getD l 0)
                clear hS hP hW
                generalize hx3 : m0.getD pv 0 = x3 at hcA HN2
                generalize hx4 : m0.getD l 0 = x4 at hcl HN2
                clear hx3 hx4
                go_wp2
                go_quiet (fail)
                go_wp2
                go_region
                all_goals go_wp2
                go_ret2
                exact ⟨l, true, swp m0 l pv, rfl, by omega, by omega, Hid.out HN2 _ _ (Hid.out HS4), (Hid.out HT).swp ⟨by omega, by omega⟩ ⟨by omega, by omega⟩ (by omega), Hid.out HD, ((((Hid.out HW4).drewN _).setCell _ _).setCell _ _)⟩
      · have hkj3 : decide ((k : Int) ≤ (c : Int)) = false := by simp; omega
        have hkj4 : (c : Int) < (k : Int) := by omega
        clear hS hP hW
        go_wp2
        go_quiet (fail)
        go_wp2
        go_loopw [11] (fun x11 wr3 => x11 = .int .i64 (c : Int) ∧ Srow wr3 g m0 tl ∧ Only g w wr3) (fun x11 _ => 0)
        case atStart => exact ⟨rfl, (Hid.out HS2).drewN _, (Hid.out HW2).drewN _⟩
        case round =>
          obtain ⟨rfl, hS, hW⟩ := hrel
          have HS4 := hidden hS
          have HW4 := hidden hW
          have hP := trivial
          by_cases hla : pv = c
          · subst hla
            have hcA := hS.cell (j := pv) (by omega)
            have hzA := hS.thaw pv
            have HD : Hid (Mid (swp m0 pv pv) pv b pv) := (Hid.out HP2).done (by omega) (by omega) (by omega) (by omega)
            have HN2 : Hid (∀ u n, Srow u g m0 tl → Srow (((u.drewN n).setCell ⟨g, pv, none⟩ (.int .u32 ((m0.getD pv 0 : Nat) : Int))).setCell ⟨g, pv, none⟩ (.int .u32 ((m0.getD pv 0 : Nat) : Int))) g (swp m0 pv pv) tl) := fun u n h0 => by
              have h1 := (h0.drewN n).set (j := pv) (by omega) (m0.getD pv 0)
              exact h1.set (j := pv) (by rw [List.length_set]; omega) (m0.getD pv 0)
            clear hS hP hW
            generalize hx3 : m0.getD pv 0 = x3 at hcA HN2
            clear hx3
            go_wp2
            go_quiet (fail)
            go_wp2
            go_region
            all_goals go_wp2
            go_ret2
            exact ⟨pv, true, swp m0 pv pv, rfl, by omega, by omega, Hid.out HN2 _ _ (Hid.out HS4), (Hid.out HT).swp ⟨by omega, by omega⟩ ⟨by omega, by omega⟩ (by omega), Hid.out HD, ((((Hid.out HW4).drewN _).setCell _ _).setCell _ _)⟩
          · have hla2 : ¬ c = pv := fun e => hla e.symm
            have hcA := hS.cell (j := pv) (by omega)
            have hzA := hS.thaw pv
            have hcl := hS.cell (j := c) (by omega)
            have hzl := hS.thaw c
            have HD : Hid (Mid (swp m0 c pv) pv b c) := (Hid.out HP2).done (by omega) (by omega) (by omega) (by omega)
            have HN2 : Hid (∀ u n, Srow u g m0 tl → Srow (((u.drewN n).setCell ⟨g, c, none⟩ (.int .u32 ((m0.getD pv 0 : Nat) : Int))).setCell ⟨g, pv, none⟩ (.int .u32 ((m0.getD c 0 : Nat) : Int))) g (swp m0 c pv) tl) := fun u n h0 => by
              have h1 := (h0.drewN n).set (j := c) (by omega) (m0.getD pv 0)
              exact h1.set (j := pv) (by rw [List.length_set]; omega) (m0.getD c 0)
            clear hS hP hW
            generalize hx3 : m0.getD pv 0 = x3 at hcA HN2
            generalize hx4 : m0.getD c 0 = x4 at hcl HN2
            clear hx3 hx4
            go_wp2
            go_quiet (fail)
            go_wp2
            go_region
            all_goals go_wp2
            go_ret2
            exact ⟨c, true, swp m0 c pv, rfl, by omega, by omega, Hid.out HN2 _ _ (Hid.out HS4), (Hid.out HT).swp ⟨by omega, by omega⟩ ⟨by omega, by omega⟩ (by omega), Hid.out HD, ((((Hid.out HW4).drewN _).setCell _ _).setCell _ _)⟩
  · have hap2 : ¬ a = pv := fun e => hap e.symm
    have hcp := h.cell (j := pv) (by omega)
    have hzp := h.thaw pv
    clear h
    have HN : Hid (∀ u n, Srow u g d tl → Srow (((u.drewN n).setCell ⟨g, a, none⟩ (.int .u32 ((d.getD pv 0 : Nat) : Int))).setCell ⟨g, pv, none⟩ (.int .u32 ((d.getD a 0 : Nat) : Int))) g (swp d a pv) tl) := fun u n h0 => by
      have h1 := (h0.drewN n).set (j := a) (by omega) (d.getD pv 0)
      exact h1.set (j := pv) (by rw [List.length_set]; omega) (d.getD a 0)
    have HT0 : Hid (Turned d (swp d a pv) a b) := (Turned.refl d a b).swp ⟨by omega, by omega⟩ ⟨by omega, by omega⟩ (by omega)
    have hml0 : (swp d a pv).length = d.length := swp_len _ _ _
    generalize hx0 : d.getD pv 0 = x0 at hcp HN
    generalize hx1 : d.getD a 0 = x1 at hca HN
    generalize hm0 : swp d a pv = m0 at HN HT0 hml0
    clear hx0 hx1 hm0
    go_enter Try.func93, Try.ntmps93
    go_wp2
    go_region
    all_goals go_wp2
    clear hca hza hcp hzp
    have hml := hml0
    have HT := HT0
    have hai : a < a + 1 := by omega
    have hij : a + 1 ≤ c + 1 := by omega
    have haj : a ≤ c := by omega
    have hjb : c < b := by omega
    have HP : Hid (Pt m0 a b (a + 1) c) := ⟨fun p h1 h2 => by omega, fun q h1 h2 => by omega⟩
    clear hml0 HT0
    go_wp2
    go_loopw [10] (fun x10 wr2 => ∃ (k : Nat), a + 1 ≤ k ∧ k ≤ c + 1 ∧ x10 = .int .i64 (k : Int) ∧ Srow wr2 g m0 tl ∧ Pt m0 a b k c ∧ Only g w wr2) (fun x10 _ => b - (intOf x10).toNat)
    case atStart => exact ⟨a + 1, by omega, by omega, by simp, Hid.out HN _ _ (Hid.out H), Hid.out HP, ((((Only.refl g w).drewN _).setCell _ _).setCell _ _)⟩
    case round =>
      obtain ⟨k, hik, hkj, rfl, hS, hP, hW⟩ := hrel
      have HS2 := hidden hS
      have HP2 := hidden hP
      have HW2 := hidden hW
      by_cases hkj2 : k ≤ c
      · have hkj3 : (k : Int) ≤ (c : Int) := by omega
        have hck := hS.cell (j := k) (by omega)
        have hcA := hS.cell (j := a) (by omega)
        clear hS hP hW
        have HL := hidden (fun u => less_any (m0.getD k 0) (m0.getD a 0) u)
        cases hdec : decide (m0.getD k 0 < m0.getD a 0) with
        | true =>
          rw [hdec] at HL
          have HP3 : Hid (Pt m0 a b (k + 1) c) := (Hid.out HP2).up (of_decide_eq_true hdec)
          clear hdec
          generalize hx3 : m0.getD a 0 = x3 at hcA HL
          generalize hx4 : m0.getD k 0 = x4 at hck HL
          clear hx3 hx4
          go_wp2
          go_quiet ((go_at_call 91; exact Calls.quiet_of_same (Hid.out HL _)))
          go_wp2
          go_roundw
          case rel => exact ⟨k + 1, by omega, by omega, by simp, (Hid.out HS2).drewN _, Hid.out HP3, (Hid.out HW2).drewN _⟩
          case measure => simp [intOf]; try omega
        | false =>
          rw [hdec] at HL
          have HLT := hidden (of_decide_eq_false hdec)
          clear hdec
          generalize hx3 : m0.getD a 0 = x3 at hcA HL
          generalize hx4 : m0.getD k 0 = x4 at hck HL
          clear hx3 hx4
          go_wp2
          go_quiet ((go_at_call 91; exact Calls.quiet_of_same (Hid.out HL _)))
          go_wp2
          clear hck hcA HL
          go_loopw [11] (fun x11 wr3 => ∃ (l : Nat), k ≤ l + 1 ∧ l ≤ c ∧ x11 = .int .i64 (l : Int) ∧ Srow wr3 g m0 tl ∧ Pt m0 a b k l ∧ Only g w wr3) (fun x11 _ => (intOf x11).toNat)
          case atStart => exact ⟨c, by omega, by omega, rfl, (Hid.out HS2).drewN _, Hid.out HP2, (Hid.out HW2).drewN _⟩
          case round =>
            obtain ⟨l, hkl, hlj, rfl, hS, hP, hW⟩ := hrel
            have HS4 := hidden hS
            have HP4 := hidden hP
            have HW4 := hidden hW
            by_cases hkl2 : k ≤ l
            · obtain ⟨l, rfl⟩ : ∃ l', l = l' + 1 := ⟨l - 1, by omega⟩
              have hkl3 : (k : Int) ≤ (l : Int) + 1 := by omega
              have hkl4 : ¬ (l : Int) + 1 < (k : Int) := by omega
              have hck := hS.cell (j := k) (by omega)
              have hzk := hS.thaw k
              have hcl := hS.cell (j := l + 1) (by omega)
              have hzl := hS.thaw (l + 1)
              have hcA := hS.cell (j := a) (by omega)
              clear hS hP hW
              have HL := hidden (fun u => less_any (m0.getD (l + 1) 0) (m0.getD a 0) u)
              cases hdec : decide (m0.getD (l + 1) 0 < m0.getD a 0) with
              | false =>
                rw [hdec] at HL
                have HP5 : Hid (Pt m0 a b k l) := (Hid.out HP4).down (of_decide_eq_false hdec)
                clear hdec
                generalize hx3 : m0.getD a 0 = x3 at hcA HL
                generalize hx4 : m0.getD (l + 1) 0 = x4 at hcl HL
                generalize hx5 : m0.getD k 0 = x5 at hck
                clear hx3 hx4 hx5
                go_wp2
                go_quiet ((go_at_call 91; exact Calls.quiet_of_same (Hid.out HL _)))
                go_wp2
                go_roundw
                case rel => exact ⟨l, by omega, by omega, by simp, (Hid.out HS4).drewN _, Hid.out HP5, (Hid.out HW4).drewN _⟩
                case measure => simp [intOf]
              | true =>
                rw [hdec] at HL
                have HNLT := hidden (of_decide_eq_true hdec)
                clear hdec
                have hne : ¬ k = l + 1 := fun e => by
                  have h1 := Hid.out HLT
                  have h2 := Hid.out HNLT
                  rw [e] at h1
                  exact h1 h2
                have hne2 : ¬ l + 1 = k := fun e => hne e.symm
                have HP5 : Hid (Pt (swp m0 k (l + 1)) a b (k + 1) l) := (Hid.out HP4).swp (by omega) (by omega) (by omega) (by omega) (Hid.out HLT) (Hid.out HNLT)
                have HT5 : Hid (Turned d (swp m0 k (l + 1)) a b) := (Hid.out HT).swp ⟨by omega, by omega⟩ ⟨by omega, by omega⟩ (by omega)
                have HN2 : Hid (∀ u n, Srow u g m0 tl → Srow (((u.drewN n).setCell ⟨g, k, none⟩ (.int .u32 ((m0.getD (l + 1) 0 : Nat) : Int))).setCell ⟨g, l + 1, none⟩ (.int .u32 ((m0.getD k 0 : Nat) : Int))) g (swp m0 k (l + 1)) tl) := fun u n h0 => by
                  have h1 := (h0.drewN n).set (j := k) (by omega) (m0.getD (l + 1) 0)
                  exact h1.set (j := l + 1) (by rw [List.length_set]; omega) (m0.getD k 0)
                clear HLT HNLT
                generalize hx3 : m0.getD a 0 = x3 at hcA HL
                generalize hx4 : m0.getD (l + 1) 0 = x4 at hcl HL HN2
                generalize hx5 : m0.getD k 0 = x5 at hck HN2
                clear hx3 hx4 hx5
                go_wp2
                go_quiet ((go_at_call 91; exact Calls.quiet_of_same (Hid.out HL _)))
                go_wp2
                go_region
                all_goals go_wp2
                clear hck hzk hcl hzl hcA HL
                have hml5 : (swp m0 k (l + 1)).length = d.length := by rw [swp_len]; exact hml
                generalize hm5 : swp m0 k (l + 1) = m5 at HP5 HT5 HN2 hml5
                clear hm5
                go_loopw [10, 11] (fun x10 x11 wr => ∃ (i j : Nat) (m : List Nat), a < i ∧ i ≤ j + 1 ∧ a ≤ j ∧ j < b ∧ x10 = .int .i64 (i : Int) ∧ x11 = .int .i64 (j : Int) ∧ m.length = d.length ∧ Srow wr g m tl ∧ Turned d m a b ∧ Pt m a b i j ∧ Only g w wr) (fun x10 x11 _ => b - (intOf x10).toNat)
                case atStart => exact ⟨k + 1, l, m5, by omega, by omega, by omega, by omega, by simp, by simp, hml5, Hid.out HN2 _ _ (Hid.out HS4), Hid.out HT5, Hid.out HP5, ((((Hid.out HW4).drewN _).setCell _ _).setCell _ _)⟩
                case round =>
                  clear HN H HT HP HS2 HP2 HW2 HS4 HP4 HW4 HP5 HT5 HN2 hml hml5 hai hij haj hjb hik hkj hkj2 hkj3 hkl hlj hkl2 hkl3 hkl4 hne hne2
                  obtain ⟨i, j, m, hai, hij, haj, hjb, rfl, rfl, hml, hS, hT, hP, hW⟩ := hrel
                  have HS := hidden hS
                  have HT := hidden hT
                  have HP := hidden hP
                  have HW := hidden hW
                  clear hS hT hP hW
                  go_wp2
                  go_loopw [10] (fun x10 wr2 => ∃ (k : Nat), i ≤ k ∧ k ≤ j + 1 ∧ x10 = .int .i64 (k : Int) ∧ Srow wr2 g m tl ∧ Pt m a b k j ∧ Only g w wr2) (fun x10 _ => b - (intOf x10).toNat)
                  case atStart => exact ⟨i, by omega, hij, rfl, Hid.out HS, Hid.out HP, Hid.out HW⟩
                  case round =>
                    obtain ⟨k, hik, hkj, rfl, hS, hP, hW⟩ := hrel
                    have HS2 := hidden hS
                    have HP2 := hidden hP
                    have HW2 := hidden hW
                    by_cases hkj2 : k ≤ j
                    · have hkj3 : (k : Int) ≤ (j : Int) := by omega
                      have hck := hS.cell (j := k) (by omega)
                      have hcA := hS.cell (j := a) (by omega)
                      clear hS hP hW
                      have HL := hidden (fun u => less_any (m.getD k 0) (m.getD a 0) u)
                      cases hdec : decide (m.getD k 0 < m.getD a 0) with
                      | true =>
                        rw [hdec] at HL
                        have HP3 : Hid (Pt m a b (k + 1) j) := (Hid.out HP2).up (of_decide_eq_true hdec)
                        clear hdec
                        generalize hx3 : m.getD a 0 = x3 at hcA HL
                        generalize hx4 : m.getD k 0 = x4 at hck HL
                        clear hx3 hx4
                        go_wp2
                        go_quiet ((go_at_call 91; exact Calls.quiet_of_same (Hid.out HL _)))
                        go_wp2
                        go_roundw
                        case rel => exact ⟨k + 1, by omega, by omega, by simp, (Hid.out HS2).drewN _, Hid.out HP3, (Hid.out HW2).drewN _⟩
                        case measure => simp [intOf]; try omega
                      | false =>
                        rw [hdec] at HL
                        have HLT := hidden (of_decide_eq_false hdec)
                        clear hdec
                        generalize hx3 : m.getD a 0 = x3 at hcA HL
                        generalize hx4 : m.getD k 0 = x4 at hck HL
                        clear hx3 hx4
                        go_wp2
                        go_quiet ((go_at_call 91; exact Calls.quiet_of_same (Hid.out HL _)))
                        go_wp2
                        clear hck hcA HL
                        go_loopw [11] (fun x11 wr3 => ∃ (l : Nat), k ≤ l + 1 ∧ l ≤ j ∧ x11 = .int .i64 (l : Int) ∧ Srow wr3 g m tl ∧ Pt m a b k l ∧ Only g w wr3) (fun x11 _ => (intOf x11).toNat)
                        case atStart => exact ⟨j, by omega, by omega, rfl, (Hid.out HS2).drewN _, Hid.out HP2, (Hid.out HW2).drewN _⟩
                        case round =>
                          obtain ⟨l, hkl, hlj, rfl, hS, hP, hW⟩ := hrel
                          have HS4 := hidden hS
                          have HP4 := hidden hP
                          have HW4 := hidden hW
                          by_cases hkl2 : k ≤ l
                          · obtain ⟨l, rfl⟩ : ∃ l', l = l' + 1 := ⟨l - 1, by omega⟩
                            have hkl3 : (k : Int) ≤ (l : Int) + 1 := by omega
                            have hkl4 : ¬ (l : Int) + 1 < (k : Int) := by omega
                            have hck := hS.cell (j := k) (by omega)
                            have hzk := hS.thaw k
                            have hcl := hS.cell (j := l + 1) (by omega)
                            have hzl := hS.thaw (l + 1)
                            have hcA := hS.cell (j := a) (by omega)
                            clear hS hP hW
                            have HL := hidden (fun u => less_any (m.getD (l + 1) 0) (m.getD a 0) u)
                            cases hdec : decide (m.getD (l + 1) 0 < m.getD a 0) with
                            | false =>
                              rw [hdec] at HL
                              have HP5 : Hid (Pt m a b k l) := (Hid.out HP4).down (of_decide_eq_false hdec)
                              clear hdec
                              generalize hx3 : m.getD a 0 = x3 at hcA HL
                              generalize hx4 : m.getD (l + 1) 0 = x4 at hcl HL
                              generalize hx5 : m.getD k 0 = x5 at hck
                              clear hx3 hx4 hx5
                              go_wp2
                              go_quiet ((go_at_call 91; exact Calls.quiet_of_same (Hid.out HL _)))
                              go_wp2
                              go_roundw
                              case rel => exact ⟨l, by omega, by omega, by simp, (Hid.out HS4).drewN _, Hid.out HP5, (Hid.out HW4).drewN _⟩
                              case measure => simp [intOf]
                            | true =>
                              rw [hdec] at HL
                              have HNLT := hidden (of_decide_eq_true hdec)
                              clear hdec
                              have hne : ¬ k = l + 1 := fun e => by
                                have h1 := Hid.out HLT
                                have h2 := Hid.out HNLT
                                rw [e] at h1
                                exact h1 h2
                              have hne2 : ¬ l + 1 = k := fun e => hne e.symm
                              have HP5 : Hid (Pt (swp m k (l + 1)) a b (k + 1) l) := (Hid.out HP4).swp (by omega) (by omega) (by omega) (by omega) (Hid.out HLT) (Hid.out HNLT)
                              have HT5 : Hid (Turned d (swp m k (l + 1)) a b) := (Hid.out HT).swp ⟨by omega, by omega⟩ ⟨by omega, by omega⟩ (by omega)
                              have HN2 : Hid (∀ u n, Srow u g m tl → Srow (((u.drewN n).setCell ⟨g, k, none⟩ (.int .u32 ((m.getD (l + 1) 0 : Nat) : Int))).setCell ⟨g, l + 1, none⟩ (.int .u32 ((m.getD k 0 : Nat) : Int))) g (swp m k (l + 1)) tl) := fun u n h0 => by
                                have h1 := (h0.drewN n).set (j := k) (by omega) (m.getD (l + 1) 0)
                                exact h1.set (j := l + 1) (by rw [List.length_set]; omega) (m.getD k 0)
                              clear HLT HNLT
                              generalize hx3 : m.getD a 0 = x3 at hcA HL
                              generalize hx4 : m.getD (l + 1) 0 = x4 at hcl HL HN2
                              generalize hx5 : m.getD k 0 = x5 at hck HN2
                              clear hx3 hx4 hx5
                              go_wp2
                              go_quiet ((go_at_call 91; exact Calls.quiet_of_same (Hid.out HL _)))
                              go_wp2
                              go_region
                              all_goals go_wp2
                              go_roundw
                              case rel => exact ⟨k + 1, l, swp m k (l + 1), by omega, by omega, by omega, by omega, by simp, by simp, by rw [swp_len]; exact hml, Hid.out HN2 _ _ (Hid.out HS4), Hid.out HT5, Hid.out HP5, ((((Hid.out HW4).drewN _).setCell _ _).setCell _ _)⟩
                              case measure => simp [intOf]; try omega
                          · have hkl3 : decide ((k : Int) ≤ (l : Int)) = false := by simp; omega
                            have hkl4 : (l : Int) < (k : Int) := by omega
                            by_cases hla : a = l
                            · subst hla
                              have hcA := hS.cell (j := a) (by omega)
                              have hzA := hS.thaw a
                              have HD : Hid (Mid (swp m a a) a b a) := (Hid.out HP4).done (by omega) (by omega) (by omega) (by omega)
                              have HN2 : Hid (∀ u n, Srow u g m tl → Srow (((u.drewN n).setCell ⟨g, a, none⟩ (.int .u32 ((m.getD a 0 : Nat) : Int))).setCell ⟨g, a, none⟩ (.int .u32 ((m.getD a 0 : Nat) : Int))) g (swp m a a) tl) := fun u n h0 => by
                                have h1 := (h0.drewN n).set (j := a) (by omega) (m.getD a 0)
                                exact h1.set (j := a) (by rw [List.length_set]; omega) (m.getD a 0)
                              clear hS hP hW
                              generalize hx3 : m.getD a 0 = x3 at hcA HN2
                              clear hx3
                              go_wp2
                              go_quiet (fail)
                              go_wp2
                              go_region
                              all_goals go_wp2
                              go_ret2
                              exact ⟨a, false, swp m a a, rfl, by omega, by omega, Hid.out HN2 _ _ (Hid.out HS4), (Hid.out HT).swp ⟨by omega, by omega⟩ ⟨by omega, by omega⟩ (by omega), Hid.out HD, ((((Hid.out HW4).drewN _).setCell _ _).setCell _ _)⟩
                            · have hla2 : ¬ l = a := fun e => hla e.symm
                              have hcA := hS.cell (j := a) (by omega)
                              have hzA := hS.thaw a
                              have hcl := hS.cell (j := l) (by omega)
                              have hzl := hS.thaw l
                              have HD : Hid (Mid (swp m l a) a b l) := (Hid.out HP4).done (by omega) (by omega) (by omega) (by omega)
                              have HN2 : Hid (∀ u n, Srow u g m tl → Srow (((u.drewN n).setCell ⟨g, l, none⟩ (.int .u32 ((m.getD a 0 : Nat) : Int))).setCell ⟨g, a, none⟩ (.int .u32 ((m.getD l 0 : Nat) : Int))) g (swp m l a) tl) := fun u n h0 => by
                                have h1 := (h0.drewN n).set (j := l) (by omega) (m.getD a 0)
                                exact h1.set (j := a) (by rw [List.length_set]; omega) (m.getD l 0)
                              clear hS hP hW
                              generalize hx3 : m.getD a 0 = x3 at hcA HN2
                              generalize hx4 : m.getD l 0 = x4 at hcl HN2
                              clear hx3 hx4
                              go_wp2
                              go_quiet (fail)
                              go_wp2
                              go_region
                              all_goals go_wp2
                              go_ret2
                              exact ⟨l, false, swp m l a, rfl, by omega, by omega, Hid.out HN2 _ _ (Hid.out HS4), (Hid.out HT).swp ⟨by omega, by omega⟩ ⟨by omega, by omega⟩ (by omega), Hid.out HD, ((((Hid.out HW4).drewN _).setCell _ _).setCell _ _)⟩
                    · have hkj3 : decide ((k : Int) ≤ (j : Int)) = false := by simp; omega
                      have hkj4 : (j : Int) < (k : Int) := by omega
                      clear hS hP hW
                      go_wp2
                      go_quiet (fail)
                      go_wp2
                      go_loopw [11] (fun x11 wr3 => x11 = .int .i64 (j : Int) ∧ Srow wr3 g m tl ∧ Only g w wr3) (fun x11 _ => 0)
                      case atStart => exact ⟨rfl, (Hid.out HS2).drewN _, (Hid.out HW2).drewN _⟩
                      case round =>
                        obtain ⟨rfl, hS, hW⟩ := hrel
                        have HS4 := hidden hS
                        have HW4 := hidden hW
                        have hP := trivial
                        by_cases hla : a = j
                        · subst hla
                          have hcA := hS.cell (j := a) (by omega)
                          have hzA := hS.thaw a
                          have HD : Hid (Mid (swp m a a) a b a) := (Hid.out HP2).done (by omega) (by omega) (by omega) (by omega)
                          have HN2 : Hid (∀ u n, Srow u g m tl → Srow (((u.drewN n).setCell ⟨g, a, none⟩ (.int .u32 ((m.getD a 0 : Nat) : Int))).setCell ⟨g, a, none⟩ (.int .u32 ((m.getD a 0 : Nat) : Int))) g (swp m a a) tl) := fun u n h0 => by
                            have h1 := (h0.drewN n).set (j := a) (by omega) (m.getD a 0)
                            exact h1.set (j := a) (by rw [List.length_set]; omega) (m.getD a 0)
                          clear hS hP hW
                          generalize hx3 : m.getD a 0 = x3 at hcA HN2
                          clear hx3
                          go_wp2
                          go_quiet (fail)
                          go_wp2
                          go_region
                          all_goals go_wp2
                          go_ret2
                          exact ⟨a, false, swp m a a, rfl, by omega, by omega, Hid.out HN2 _ _ (Hid.out HS4), (Hid.out HT).swp ⟨by omega, by omega⟩ ⟨by omega, by omega⟩ (by omega), Hid.out HD, ((((Hid.out HW4).drewN _).setCell _ _).setCell _ _)⟩
                        · have hla2 : ¬ j = a := fun e => hla e.symm
                          have hcA := hS.cell (j := a) (by omega)
                          have hzA := hS.thaw a
                          have hcl := hS.cell (j := j) (by omega)
                          have hzl := hS.thaw j
                          have HD : Hid (Mid (swp m j a) a b j) := (Hid.out HP2).done (by omega) (by omega) (by omega) (by omega)
                          have HN2 : Hid (∀ u n, Srow u g m tl → Srow (((u.drewN n).setCell ⟨g, j, none⟩ (.int .u32 ((m.getD a 0 : Nat) : Int))).setCell ⟨g, a, none⟩ (.int .u32 ((m.getD j 0 : Nat) : Int))) g (swp m j a) tl) := fun u n h0 => by
                            have h1 := (h0.drewN n).set (j := j) (by omega) (m.getD a 0)
                            exact h1.set (j := a) (by rw [List.length_set]; omega) (m.getD j 0)
                          clear hS hP hW
                          generalize hx3 : m.getD a 0 = x3 at hcA HN2
                          generalize hx4 : m.getD j 0 = x4 at hcl HN2
                          clear hx3 hx4
                          go_wp2
                          go_quiet (fail)
                          go_wp2
                          go_region
                          all_goals go_wp2
                          go_ret2
                          exact ⟨j, false, swp m j a, rfl, by omega, by omega, Hid.out HN2 _ _ (Hid.out HS4), (Hid.out HT).swp ⟨by omega, by omega⟩ ⟨by omega, by omega⟩ (by omega), Hid.out HD, ((((Hid.out HW4).drewN _).setCell _ _).setCell _ _)⟩
            · have hkl3 : decide ((k : Int) ≤ (l : Int)) = false := by simp; omega
              have hkl4 : (l : Int) < (k : Int) := by omega
              by_cases hla : a = l
              · subst hla
                have hcA := hS.cell (j := a) (by omega)
                have hzA := hS.thaw a
                have HD : Hid (Mid (swp m0 a a) a b a) := (Hid.out HP4).done (by omega) (by omega) (by omega) (by omega)
                have HN2 : Hid (∀ u n, Srow u g m0 tl → Srow (((u.drewN n).setCell ⟨g, a, none⟩ (.int .u32 ((m0.getD a 0 : Nat) : Int))).setCell ⟨g, a, none⟩ (.int .u32 ((m0.getD a 0 : Nat) : Int))) g (swp m0 a a) tl) := fun u n h0 => by
                  have h1 := (h0.drewN n).set (j := a) (by omega) (m0.getD a 0)
                  exact h1.set (j := a) (by rw [List.length_set]; omega) (m0.getD a 0)
                clear hS hP hW
                generalize hx3 : m0.getD a 0 = x3 at hcA HN2
                clear hx3
                go_wp2
                go_quiet (fail)
                go_wp2
                go_region
                all_goals go_wp2
                go_ret2
                exact ⟨a, true, swp m0 a a, rfl, by omega, by omega, Hid.out HN2 _ _ (Hid.out HS4), (Hid.out HT).swp ⟨by omega, by omega⟩ ⟨by omega, by omega⟩ (by omega), Hid.out HD, ((((Hid.out HW4).drewN _).setCell _ _).setCell _ _)⟩
              · have hla2 : ¬ l = a := fun e => hla e.symm
                have hcA := hS.cell (j := a) (by omega)
                have hzA := hS.thaw a
                have hcl := hS.cell (j := l) (by omega)
                have hzl := hS.thaw l
                have HD : Hid (Mid (swp m0 l a) a b l) := (Hid.out HP4).done (by omega) (by omega) (by omega) (by omega)
                have HN2 : Hid (∀ u n, Srow u g m0 tl → Srow (((u.drewN n).setCell ⟨g, l, none⟩ (.int .u32 ((m0.getD a 0 : Nat) : Int))).setCell ⟨g, a, none⟩ (.int .u32 ((m0.getD l 0 : Nat) : Int))) g (swp m0 l a) tl) := fun u n h0 => by
                  have h1 := (h0.drewN n).set (j := l) (by omega) (m0.getD a 0)
                  exact h1.set (j := a) (by rw [List.length_set]; omega) (m0.getD l 0)
                clear hS hP hW
                generalize hx3 : m0.getD a 0 = x3 at hcA HN2
                generalize hx4 : m0.getD l 0 = x4 at hcl HN2
                clear hx3 hx4
                go_wp2
                go_quiet (fail)
                go_wp2
                go_region
                all_goals go_wp2
                go_ret2
                exact ⟨l, true, swp m0 l a, rfl, by omega, by omega, Hid.out HN2 _ _ (Hid.out HS4), (Hid.out HT).swp ⟨by omega, by omega⟩ ⟨by omega, by omega⟩ (by omega), Hid.out HD, ((((Hid.out HW4).drewN _).setCell _ _).setCell _ _)⟩
      · have hkj3 : decide ((k : Int) ≤ (c : Int)) = false := by simp; omega
        have hkj4 : (c : Int) < (k : Int) := by omega
        clear hS hP hW
        go_wp2
        go_quiet (fail)
        go_wp2
        go_loopw [11] (fun x11 wr3 => x11 = .int .i64 (c : Int) ∧ Srow wr3 g m0 tl ∧ Only g w wr3) (fun x11 _ => 0)
        case atStart => exact ⟨rfl, (Hid.out HS2).drewN _, (Hid.out HW2).drewN _⟩
        case round =>
          obtain ⟨rfl, hS, hW⟩ := hrel
          have HS4 := hidden hS
          have HW4 := hidden hW
          have hP := trivial
          by_cases hla : a = c
          · omega
          · have hla2 : ¬ c = a := fun e => hla e.symm
            have hcA := hS.cell (j := a) (by omega)
            have hzA := hS.thaw a
            have hcl := hS.cell (j := c) (by omega)
            have hzl := hS.thaw c
            have HD : Hid (Mid (swp m0 c a) a b c) := (Hid.out HP2).done (by omega) (by omega) (by omega) (by omega)
            have HN2 : Hid (∀ u n, Srow u g m0 tl → Srow (((u.drewN n).setCell ⟨g, c, none⟩ (.int .u32 ((m0.getD a 0 : Nat) : Int))).setCell ⟨g, a, none⟩ (.int .u32 ((m0.getD c 0 : Nat) : Int))) g (swp m0 c a) tl) := fun u n h0 => by
              have h1 := (h0.drewN n).set (j := c) (by omega) (m0.getD a 0)
              exact h1.set (j := a) (by rw [List.length_set]; omega) (m0.getD c 0)
            clear hS hP hW
            generalize hx3 : m0.getD a 0 = x3 at hcA HN2
            generalize hx4 : m0.getD c 0 = x4 at hcl HN2
            clear hx3 hx4
            go_wp2
            go_quiet (fail)
            go_wp2
            go_region
            all_goals go_wp2
            go_ret2
            exact ⟨c, true, swp m0 c a, rfl, by omega, by omega, Hid.out HN2 _ _ (Hid.out HS4), (Hid.out HT).swp ⟨by omega, by omega⟩ ⟨by omega, by omega⟩ (by omega), Hid.out HD, ((((Hid.out HW4).drewN _).setCell _ _).setCell _ _)⟩
end Go.Proofs.Ytodoenimlhldjaa
