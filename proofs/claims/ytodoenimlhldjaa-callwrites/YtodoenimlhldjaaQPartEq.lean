/- The library's partition of those that equal the pivot, walked. -/
import Derived.Test.YtodoenimlhldjaaQHeaps
namespace Go.Proofs.Ytodoenimlhldjaa
open Go.ChangeShapes Go.WideShapes Go.ChangeAt Go.RowKit
set_option linter.unusedVariables false
/-- Not above the first, from a on, ahead of i; above it behind j. -/
structure PEq (m : List Nat) (a b i j : Nat) : Prop where
  low : ∀ p, a ≤ p → p < i → m.getD p 0 ≤ m.getD a 0
  high : ∀ q, j < q → q < b → m.getD a 0 < m.getD q 0
theorem PEq.up {m : List Nat} {a b i j : Nat} (h : PEq m a b i j) (hs : ¬ m.getD a 0 < m.getD i 0) : PEq m a b (i + 1) j := ⟨fun p h1 h2 => by
  by_cases e : p = i
  · rw [e]; omega
  · exact h.low p h1 (by omega), h.high⟩
theorem PEq.down {m : List Nat} {a b i j : Nat} (h : PEq m a b i (j + 1)) (hs : m.getD a 0 < m.getD (j + 1) 0) : PEq m a b i j := ⟨h.low, fun q h1 h2 => by
  by_cases e : q = j + 1
  · rw [e]; exact hs
  · exact h.high q (by omega) h2⟩
theorem PEq.swp {m : List Nat} {a b i j : Nat} (h : PEq m a b i (j + 1)) (hai : a < i) (hij : i < j + 1) (hj : j + 1 < b) (hl : b ≤ m.length) (h1 : m.getD a 0 < m.getD i 0) (h2 : ¬ m.getD a 0 < m.getD (j + 1) 0) : PEq (swp m i (j + 1)) a b (i + 1) j := by
  have hg := fun k => swp_get m (i := i) (j := j + 1) (by omega) (by omega) k
  have ha : (Ytodoenimlhldjaa.swp m i (j + 1)).getD a 0 = m.getD a 0 := by rw [hg a, if_neg (by omega), if_neg (by omega)]
  refine ⟨fun p g1 g2 => ?_, fun q g1 g2 => ?_⟩
  · rw [ha, hg p, if_neg (by omega)]
    by_cases e : p = i
    · rw [if_pos e]; omega
    · rw [if_neg e]; exact h.low p g1 (by omega)
  · rw [ha, hg q]
    by_cases e : q = j + 1
    · rw [if_pos e]; exact h1
    · rw [if_neg e, if_neg (by omega)]; exact h.high q (by omega) g2
set_option maxRecDepth 20000 in
set_option maxHeartbeats 8000000 in
theorem parteq_any (w : World) (g cap a b pv : Nat) (d : List Nat) (tl : List Value) (h : Srow w g d tl) (hpa : a ≤ pv) (hpb : pv < b) (hb : b ≤ d.length) (hlen : d.length ≤ 1152921504606846976) :
    Calls Try.prog 92 #[.slice (some ⟨g, 0, none⟩) d.length cap, .int .i64 (a : Int), .int .i64 (b : Int), .int .i64 (pv : Int)] w fun e w' => ∃ (i j : Nat) (m : List Nat), e = .returned (.int .i64 (i : Int)) ∧ a < i ∧ i ≤ b ∧ i = j + 1 ∧ Srow w' g m tl ∧ Turned d m a b ∧ PEq m a b i j ∧ m.getD a 0 = d.getD pv 0 ∧ Only g w w' := by
  have H := hidden h
  obtain ⟨c, hc⟩ : ∃ c, c + 1 = b := ⟨b - 1, by omega⟩
  have hsub : (b : Int) - 1 = (c : Int) := by omega
  have hcb : c < b ∧ b ≤ c + 1 := by omega
  clear hc
  have hca := h.cell (j := a) (by omega)
  have hza := h.thaw a
  obtain ⟨v, hv⟩ : ∃ v, v = d.getD pv 0 := ⟨_, rfl⟩
  have HV := hidden hv
  by_cases hap : pv = a
  · subst hap
    clear h hv
    have HN : Hid (∀ u n, Srow u g d tl → Srow (((u.drewN n).setCell ⟨g, pv, none⟩ (.int .u32 ((d.getD pv 0 : Nat) : Int))).setCell ⟨g, pv, none⟩ (.int .u32 ((d.getD pv 0 : Nat) : Int))) g (swp d pv pv) tl) := fun u n h0 => by
      have h1 := (h0.drewN n).set (j := pv) (by omega) (d.getD pv 0)
      exact h1.set (j := pv) (by rw [List.length_set]; omega) (d.getD pv 0)
    have HGA : Hid ((swp d pv pv).getD pv 0 = v) := by
      show _ = _
      rw [swp_get d (by omega) (by omega), if_pos rfl]; exact (Hid.out HV).symm
    have HT0 : Hid (Turned d (swp d pv pv) pv b) := (Turned.refl d pv b).swp ⟨by omega, by omega⟩ ⟨by omega, by omega⟩ (by omega)
    have hml0 : (swp d pv pv).length = d.length := swp_len _ _ _
    generalize hx0 : d.getD pv 0 = x0 at hca HN HV
    generalize hm0 : swp d pv pv = m0 at HN HGA HT0 hml0
    clear hx0 hm0
    go_enter Try.func92, Try.ntmps92
    go_wp2
    go_region
    all_goals go_wp2
    clear hca hza
    go_loopw [9, 10] (fun x9 x10 wr => ∃ (i j : Nat) (m : List Nat), pv < i ∧ i ≤ j + 1 ∧ pv ≤ j ∧ j < b ∧ x9 = .int .i64 (i : Int) ∧ x10 = .int .i64 (j : Int) ∧ m.length = d.length ∧ Srow wr g m tl ∧ Turned d m pv b ∧ PEq m pv b i j ∧ m.getD pv 0 = v ∧ Only g w wr) (fun x9 x10 _ => b - (intOf x9).toNat)
    case atStart => exact ⟨pv + 1, c, m0, by omega, by omega, by omega, by omega, by simp, rfl, hml0, Hid.out HN _ _ (Hid.out H), Hid.out HT0, ⟨fun p h1 h2 => by rw [show p = pv from by omega]; exact Nat.le_refl _, fun q h1 h2 => by omega⟩, Hid.out HGA, ((((Only.refl g w).drewN _).setCell _ _).setCell _ _)⟩
    case round =>
      obtain ⟨i, j, m, hai, hij, haj, hjb, rfl, rfl, hml, hS, hT, hP, hGA, hW⟩ := hrel
      have HS := hidden hS
      have HT := hidden hT
      have HP := hidden hP
      have HG2 := hidden hGA
      have HW := hidden hW
      clear hS hT hP hGA hW
      go_wp2
      go_loopw [9] (fun x9 wr2 => ∃ (k : Nat), i ≤ k ∧ k ≤ j + 1 ∧ x9 = .int .i64 (k : Int) ∧ Srow wr2 g m tl ∧ PEq m pv b k j ∧ Only g w wr2) (fun x9 _ => b - (intOf x9).toNat)
      case atStart => exact ⟨i, by omega, hij, rfl, Hid.out HS, Hid.out HP, Hid.out HW⟩
      case round =>
        obtain ⟨k, hik, hkj, rfl, hS, hP, hW⟩ := hrel
        have HS2 := hidden hS
        have HP2 := hidden hP
        have HW2 := hidden hW
        by_cases hkj2 : k ≤ j
        · have hkj3 : (k : Int) ≤ (j : Int) := by omega
          have hck := hS.cell (j := k) (by omega)
          have hcA := hS.cell (j := pv) (by omega)
          clear hS hP hW
          have HL := hidden (fun u => less_any (m.getD pv 0) (m.getD k 0) u)
          cases hdec : decide (m.getD pv 0 < m.getD k 0) with
          | false =>
            rw [hdec] at HL
            have HP3 : Hid (PEq m pv b (k + 1) j) := (Hid.out HP2).up (of_decide_eq_false hdec)
            clear hdec
            generalize hx3 : m.getD pv 0 = x3 at hcA HL
            generalize hx4 : m.getD k 0 = x4 at hck HL
            clear hx3 hx4
            go_wp2
            go_quiet ((go_at_call 91; exact Calls.quiet_of_same (Hid.out HL _)))
            go_wp2
            go_roundw
            case rel => exact ⟨k + 1, by omega, by omega, by simp, (Hid.out HS2).drewN _, Hid.out HP3, (Hid.out HW2).drewN _⟩
            case measure => simp [intOf]; try omega
          | true =>
            rw [hdec] at HL
            have HLT := hidden (of_decide_eq_true hdec)
            clear hdec
            generalize hx3 : m.getD pv 0 = x3 at hcA HL
            generalize hx4 : m.getD k 0 = x4 at hck HL
            clear hx3 hx4
            go_wp2
            go_quiet ((go_at_call 91; exact Calls.quiet_of_same (Hid.out HL _)))
            go_wp2
            clear hck hcA HL
            go_loopw [10] (fun x10 wr3 => ∃ (l : Nat), k ≤ l + 1 ∧ l ≤ j ∧ x10 = .int .i64 (l : Int) ∧ Srow wr3 g m tl ∧ PEq m pv b k l ∧ Only g w wr3) (fun x10 _ => (intOf x10).toNat)
            case atStart => exact ⟨j, by omega, by omega, rfl, (Hid.out HS2).drewN _, Hid.out HP2, (Hid.out HW2).drewN _⟩
            case round =>
              obtain ⟨l, hkl, hlj, rfl, hS, hP, hW⟩ := hrel
              have HS4 := hidden hS
              have HP4 := hidden hP
              have HW4 := hidden hW
              by_cases hkl2 : k ≤ l
              · obtain ⟨l, rfl⟩ : ∃ l', l = l' + 1 := ⟨l - 1, by omega⟩
                have hkl3 : (k : Int) ≤ (l : Int) + 1 := by omega
                have hkl4 : ¬ (l : Int) + 1 < (k : Int) := by omega
                have hck := hS.cell (j := k) (by omega)
                have hzk := hS.thaw k
                have hcl := hS.cell (j := l + 1) (by omega)
                have hzl := hS.thaw (l + 1)
                have hcA := hS.cell (j := pv) (by omega)
                clear hS hP hW
                have HL := hidden (fun u => less_any (m.getD pv 0) (m.getD (l + 1) 0) u)
                cases hdec : decide (m.getD pv 0 < m.getD (l + 1) 0) with
                | true =>
                  rw [hdec] at HL
                  have HP5 : Hid (PEq m pv b k l) := (Hid.out HP4).down (of_decide_eq_true hdec)
                  clear hdec
                  generalize hx3 : m.getD pv 0 = x3 at hcA HL
                  generalize hx4 : m.getD (l + 1) 0 = x4 at hcl HL
                  generalize hx5 : m.getD k 0 = x5 at hck
                  clear hx3 hx4 hx5
                  go_wp2
                  go_quiet ((go_at_call 91; exact Calls.quiet_of_same (Hid.out HL _)))
                  go_wp2
                  go_roundw
                  case rel => exact ⟨l, by omega, by omega, by simp, (Hid.out HS4).drewN _, Hid.out HP5, (Hid.out HW4).drewN _⟩
                  case measure => simp [intOf]
                | false =>
                  rw [hdec] at HL
                  have HNLT := hidden (of_decide_eq_false hdec)
                  clear hdec
                  have hne : ¬ k = l + 1 := fun e => by
                    have h1 := Hid.out HLT
                    have h2 := Hid.out HNLT
                    rw [e] at h1
                    exact h2 h1
                  have hne2 : ¬ l + 1 = k := fun e => hne e.symm
                  have HP5 : Hid (PEq (swp m k (l + 1)) pv b (k + 1) l) := (Hid.out HP4).swp (by omega) (by omega) (by omega) (by omega) (Hid.out HLT) (Hid.out HNLT)
                  have HG5 : Hid ((swp m k (l + 1)).getD pv 0 = v) := by
                    show _ = _
                    rw [swp_get m (by omega) (by omega), if_neg (by omega), if_neg (by omega)]
                    exact Hid.out HG2
                  have HN2 : Hid (∀ u n, Srow u g m tl → Srow (((u.drewN n).setCell ⟨g, k, none⟩ (.int .u32 ((m.getD (l + 1) 0 : Nat) : Int))).setCell ⟨g, l + 1, none⟩ (.int .u32 ((m.getD k 0 : Nat) : Int))) g (swp m k (l + 1)) tl) := fun u n h0 => by
                    have h1 := (h0.drewN n).set (j := k) (by omega) (m.getD (l + 1) 0)
                    exact h1.set (j := l + 1) (by rw [List.length_set]; omega) (m.getD k 0)
                  clear HLT HNLT
                  generalize hx3 : m.getD pv 0 = x3 at hcA HL
                  generalize hx4 : m.getD (l + 1) 0 = x4 at hcl HL HN2
                  generalize hx5 : m.getD k 0 = x5 at hck HN2
                  clear hx3 hx4 hx5
                  go_wp2
                  go_quiet ((go_at_call 91; exact Calls.quiet_of_same (Hid.out HL _)))
                  go_wp2
                  go_region
                  all_goals go_wp2
                  go_roundw
                  case rel => exact ⟨k + 1, l, swp m k (l + 1), by omega, by omega, by omega, by omega, by simp, by simp, by rw [swp_len]; exact hml, Hid.out HN2 _ _ (Hid.out HS4), (Hid.out HT).swp ⟨by omega, by omega⟩ ⟨by omega, by omega⟩ (by omega), Hid.out HP5, Hid.out HG5, ((((Hid.out HW4).drewN _).setCell _ _).setCell _ _)⟩
                  case measure => simp [intOf]; try omega
              · have hkl3 : decide ((k : Int) ≤ (l : Int)) = false := by simp; omega
                have hkl4 : (l : Int) < (k : Int) := by omega
                clear hS hP hW
                go_wp2
                go_quiet (fail)
                go_wp2
                go_ret
                exact ⟨k, l, m, rfl, by omega, by omega, by omega, (Hid.out HS4).drewN _, Hid.out HT, Hid.out HP4, (Hid.out HG2).trans (Hid.out HV), (Hid.out HW4).drewN _⟩
        · have hkj3 : decide ((k : Int) ≤ (j : Int)) = false := by simp; omega
          have hkj4 : (j : Int) < (k : Int) := by omega
          clear hS hP hW
          go_wp2
          go_quiet (fail)
          go_wp2
          go_loopw [10] (fun x10 wr3 => x10 = .int .i64 (j : Int) ∧ Srow wr3 g m tl ∧ Only g w wr3) (fun x10 _ => 0)
          case atStart => exact ⟨rfl, (Hid.out HS2).drewN _, (Hid.out HW2).drewN _⟩
          case round =>
            obtain ⟨rfl, hS, hW⟩ := hrel
            have HS4 := hidden hS
            have HW4 := hidden hW
            clear hS hW
            go_wp2
            go_quiet (fail)
            go_wp2
            go_ret
            exact ⟨k, j, m, rfl, by omega, by omega, by omega, (Hid.out HS4).drewN _, Hid.out HT, Hid.out HP2, (Hid.out HG2).trans (Hid.out HV), (Hid.out HW4).drewN _⟩
  · have hap2 : ¬ a = pv := fun e => hap e.symm
    have hcp := h.cell (j := pv) (by omega)
    have hzp := h.thaw pv
    clear h hv
    have HN : Hid (∀ u n, Srow u g d tl → Srow (((u.drewN n).setCell ⟨g, a, none⟩ (.int .u32 ((d.getD pv 0 : Nat) : Int))).setCell ⟨g, pv, none⟩ (.int .u32 ((d.getD a 0 : Nat) : Int))) g (swp d a pv) tl) := fun u n h0 => by
      have h1 := (h0.drewN n).set (j := a) (by omega) (d.getD pv 0)
      exact h1.set (j := pv) (by rw [List.length_set]; omega) (d.getD a 0)
    have HGA : Hid ((swp d a pv).getD a 0 = v) := by
      show _ = _
      rw [swp_get d (by omega) (by omega), if_neg hap2, if_pos rfl]; exact (Hid.out HV).symm
    have HT0 : Hid (Turned d (swp d a pv) a b) := (Turned.refl d a b).swp ⟨by omega, by omega⟩ ⟨by omega, by omega⟩ (by omega)
    have hml0 : (swp d a pv).length = d.length := swp_len _ _ _
    generalize hx0 : d.getD pv 0 = x0 at hcp HN HV
    generalize hx1 : d.getD a 0 = x1 at hca HN
    generalize hm0 : swp d a pv = m0 at HN HGA HT0 hml0
    clear hx0 hx1 hm0
    go_enter Try.func92, Try.ntmps92
    go_wp2
    go_region
    all_goals go_wp2
    clear hca hza hcp hzp
    go_loopw [9, 10] (fun x9 x10 wr => ∃ (i j : Nat) (m : List Nat), a < i ∧ i ≤ j + 1 ∧ a ≤ j ∧ j < b ∧ x9 = .int .i64 (i : Int) ∧ x10 = .int .i64 (j : Int) ∧ m.length = d.length ∧ Srow wr g m tl ∧ Turned d m a b ∧ PEq m a b i j ∧ m.getD a 0 = v ∧ Only g w wr) (fun x9 x10 _ => b - (intOf x9).toNat)
    case atStart => exact ⟨a + 1, c, m0, by omega, by omega, by omega, by omega, by simp, rfl, hml0, Hid.out HN _ _ (Hid.out H), Hid.out HT0, ⟨fun p h1 h2 => by rw [show p = a from by omega]; exact Nat.le_refl _, fun q h1 h2 => by omega⟩, Hid.out HGA, ((((Only.refl g w).drewN _).setCell _ _).setCell _ _)⟩
    case round =>
      obtain ⟨i, j, m, hai, hij, haj, hjb, rfl, rfl, hml, hS, hT, hP, hGA, hW⟩ := hrel
      have HS := hidden hS
      have HT := hidden hT
      have HP := hidden hP
      have HG2 := hidden hGA
      have HW := hidden hW
      clear hS hT hP hGA hW
      go_wp2
      go_loopw [9] (fun x9 wr2 => ∃ (k : Nat), i ≤ k ∧ k ≤ j + 1 ∧ x9 = .int .i64 (k : Int) ∧ Srow wr2 g m tl ∧ PEq m a b k j ∧ Only g w wr2) (fun x9 _ => b - (intOf x9).toNat)
      case atStart => exact ⟨i, by omega, hij, rfl, Hid.out HS, Hid.out HP, Hid.out HW⟩
      case round =>
        obtain ⟨k, hik, hkj, rfl, hS, hP, hW⟩ := hrel
        have HS2 := hidden hS
        have HP2 := hidden hP
        have HW2 := hidden hW
        by_cases hkj2 : k ≤ j
        · have hkj3 : (k : Int) ≤ (j : Int) := by omega
          have hck := hS.cell (j := k) (by omega)
          have hcA := hS.cell (j := a) (by omega)
          clear hS hP hW
          have HL := hidden (fun u => less_any (m.getD a 0) (m.getD k 0) u)
          cases hdec : decide (m.getD a 0 < m.getD k 0) with
          | false =>
            rw [hdec] at HL
            have HP3 : Hid (PEq m a b (k + 1) j) := (Hid.out HP2).up (of_decide_eq_false hdec)
            clear hdec
            generalize hx3 : m.getD a 0 = x3 at hcA HL
            generalize hx4 : m.getD k 0 = x4 at hck HL
            clear hx3 hx4
            go_wp2
            go_quiet ((go_at_call 91; exact Calls.quiet_of_same (Hid.out HL _)))
            go_wp2
            go_roundw
            case rel => exact ⟨k + 1, by omega, by omega, by simp, (Hid.out HS2).drewN _, Hid.out HP3, (Hid.out HW2).drewN _⟩
            case measure => simp [intOf]; try omega
          | true =>
            rw [hdec] at HL
            have HLT := hidden (of_decide_eq_true hdec)
            clear hdec
            generalize hx3 : m.getD a 0 = x3 at hcA HL
            generalize hx4 : m.getD k 0 = x4 at hck HL
            clear hx3 hx4
            go_wp2
            go_quiet ((go_at_call 91; exact Calls.quiet_of_same (Hid.out HL _)))
            go_wp2
            clear hck hcA HL
            go_loopw [10] (fun x10 wr3 => ∃ (l : Nat), k ≤ l + 1 ∧ l ≤ j ∧ x10 = .int .i64 (l : Int) ∧ Srow wr3 g m tl ∧ PEq m a b k l ∧ Only g w wr3) (fun x10 _ => (intOf x10).toNat)
            case atStart => exact ⟨j, by omega, by omega, rfl, (Hid.out HS2).drewN _, Hid.out HP2, (Hid.out HW2).drewN _⟩
            case round =>
              obtain ⟨l, hkl, hlj, rfl, hS, hP, hW⟩ := hrel
              have HS4 := hidden hS
              have HP4 := hidden hP
              have HW4 := hidden hW
              by_cases hkl2 : k ≤ l
              · obtain ⟨l, rfl⟩ : ∃ l', l = l' + 1 := ⟨l - 1, by omega⟩
                have hkl3 : (k : Int) ≤ (l : Int) + 1 := by omega
                have hkl4 : ¬ (l : Int) + 1 < (k : Int) := by omega
                have hck := hS.cell (j := k) (by omega)
                have hzk := hS.thaw k
                have hcl := hS.cell (j := l + 1) (by omega)
                have hzl := hS.thaw (l + 1)
                have hcA := hS.cell (j := a) (by omega)
                clear hS hP hW
                have HL := hidden (fun u => less_any (m.getD a 0) (m.getD (l + 1) 0) u)
                cases hdec : decide (m.getD a 0 < m.getD (l + 1) 0) with
                | true =>
                  rw [hdec] at HL
                  have HP5 : Hid (PEq m a b k l) := (Hid.out HP4).down (of_decide_eq_true hdec)
                  clear hdec
                  generalize hx3 : m.getD a 0 = x3 at hcA HL
                  generalize hx4 : m.getD (l + 1) 0 = x4 at hcl HL
                  generalize hx5 : m.getD k 0 = x5 at hck
                  clear hx3 hx4 hx5
                  go_wp2
                  go_quiet ((go_at_call 91; exact Calls.quiet_of_same (Hid.out HL _)))
                  go_wp2
                  go_roundw
                  case rel => exact ⟨l, by omega, by omega, by simp, (Hid.out HS4).drewN _, Hid.out HP5, (Hid.out HW4).drewN _⟩
                  case measure => simp [intOf]
                | false =>
                  rw [hdec] at HL
                  have HNLT := hidden (of_decide_eq_false hdec)
                  clear hdec
                  have hne : ¬ k = l + 1 := fun e => by
                    have h1 := Hid.out HLT
                    have h2 := Hid.out HNLT
                    rw [e] at h1
                    exact h2 h1
                  have hne2 : ¬ l + 1 = k := fun e => hne e.symm
                  have HP5 : Hid (PEq (swp m k (l + 1)) a b (k + 1) l) := (Hid.out HP4).swp (by omega) (by omega) (by omega) (by omega) (Hid.out HLT) (Hid.out HNLT)
                  have HG5 : Hid ((swp m k (l + 1)).getD a 0 = v) := by
                    show _ = _
                    rw [swp_get m (by omega) (by omega), if_neg (by omega), if_neg (by omega)]
                    exact Hid.out HG2
                  have HN2 : Hid (∀ u n, Srow u g m tl → Srow (((u.drewN n).setCell ⟨g, k, none⟩ (.int .u32 ((m.getD (l + 1) 0 : Nat) : Int))).setCell ⟨g, l + 1, none⟩ (.int .u32 ((m.getD k 0 : Nat) : Int))) g (swp m k (l + 1)) tl) := fun u n h0 => by
                    have h1 := (h0.drewN n).set (j := k) (by omega) (m.getD (l + 1) 0)
                    exact h1.set (j := l + 1) (by rw [List.length_set]; omega) (m.getD k 0)
                  clear HLT HNLT
                  generalize hx3 : m.getD a 0 = x3 at hcA HL
                  generalize hx4 : m.getD (l + 1) 0 = x4 at hcl HL HN2
                  generalize hx5 : m.getD k 0 = x5 at hck HN2
                  clear hx3 hx4 hx5
                  go_wp2
                  go_quiet ((go_at_call 91; exact Calls.quiet_of_same (Hid.out HL _)))
                  go_wp2
                  go_region
                  all_goals go_wp2
                  go_roundw
                  case rel => exact ⟨k + 1, l, swp m k (l + 1), by omega, by omega, by omega, by omega, by simp, by simp, by rw [swp_len]; exact hml, Hid.out HN2 _ _ (Hid.out HS4), (Hid.out HT).swp ⟨by omega, by omega⟩ ⟨by omega, by omega⟩ (by omega), Hid.out HP5, Hid.out HG5, ((((Hid.out HW4).drewN _).setCell _ _).setCell _ _)⟩
                  case measure => simp [intOf]; try omega
              · have hkl3 : decide ((k : Int) ≤ (l : Int)) = false := by simp; omega
                have hkl4 : (l : Int) < (k : Int) := by omega
                clear hS hP hW
                go_wp2
                go_quiet (fail)
                go_wp2
                go_ret
                exact ⟨k, l, m, rfl, by omega, by omega, by omega, (Hid.out HS4).drewN _, Hid.out HT, Hid.out HP4, (Hid.out HG2).trans (Hid.out HV), (Hid.out HW4).drewN _⟩
        · have hkj3 : decide ((k : Int) ≤ (j : Int)) = false := by simp; omega
          have hkj4 : (j : Int) < (k : Int) := by omega
          clear hS hP hW
          go_wp2
          go_quiet (fail)
          go_wp2
          go_loopw [10] (fun x10 wr3 => x10 = .int .i64 (j : Int) ∧ Srow wr3 g m tl ∧ Only g w wr3) (fun x10 _ => 0)
          case atStart => exact ⟨rfl, (Hid.out HS2).drewN _, (Hid.out HW2).drewN _⟩
          case round =>
            obtain ⟨rfl, hS, hW⟩ := hrel
            have HS4 := hidden hS
            have HW4 := hidden hW
            clear hS hW
            go_wp2
            go_quiet (fail)
            go_wp2
            go_ret
            exact ⟨k, j, m, rfl, by omega, by omega, by omega, (Hid.out HS4).drewN _, Hid.out HT, Hid.out HP2, (Hid.out HG2).trans (Hid.out HV), (Hid.out HW4).drewN _⟩
end Go.Proofs.Ytodoenimlhldjaa
