/- Words put into order: the parts of the library's sort that short rows come to. -/
import Derived.Test.YtpknppicamefgaaPIter
import Derived.BigRegion
namespace Go.Proofs.Ytpknppicamefgaa
open Go.ChangeShapes Go.WideShapes Go.ChangeAt Go.RowKit
set_option linter.unusedVariables false
theorem Only.drewN {b : Nat} {u w : World} (h : Only b u w) (n : Nat) : Only b u (w.drewN n) := ⟨h.os, h.tape, h.output, h.size, h.block⟩
/-- A row of words, and what lies behind it. -/
def Srow (w : World) (g : Nat) (d : List Nat) (tl : List Value) : Prop := w.heap[g]? = some (.cells (words d ++ tl).toArray 22 (0, 0))
theorem Srow.cell {w : World} {g : Nat} {d : List Nat} {tl : List Value} (h : Srow w g d tl) {j : Nat} (hj : j < d.length) : w.cell? ⟨g, j, none⟩ = some (.int .u32 ((d.getD j 0 : Nat) : Int)) := by
  rw [cell_of_row _ _ _ _ _ _ h, List.getElem?_toArray, List.getElem?_append_left (by rw [words_len]; exact hj), words_get d j hj]
theorem Srow.thaw {w : World} {g : Nat} {d : List Nat} {tl : List Value} (h : Srow w g d tl) (j : Nat) : w.frozen? ⟨g, j, none⟩ = false := frozen_of_row _ _ _ _ _ h
theorem Srow.set {w : World} {g : Nat} {d : List Nat} {tl : List Value} (h : Srow w g d tl) {j : Nat} (hj : j < d.length) (x : Nat) : Srow (w.setCell ⟨g, j, none⟩ (.int .u32 (x : Int))) g (d.set j x) tl := by
  unfold Srow
  rw [heap_setCell_same _ _ _ _ _ _ h, List.setIfInBounds_toArray, List.set_append_left _ _ (by rw [words_len]; exact hj)]
  simp [words, List.map_set]
theorem Srow.drewN {w : World} {g : Nat} {d : List Nat} {tl : List Value} (h : Srow w g d tl) (n : Nat) : Srow (w.drewN n) g d tl := h
def swp (d : List Nat) (i j : Nat) : List Nat := (d.set i (d.getD j 0)).set j (d.getD i 0)
theorem swp_len (d : List Nat) (i j : Nat) : (swp d i j).length = d.length := by simp [swp]
theorem swp_get (d : List Nat) {i j : Nat} (hi : i < d.length) (hj : j < d.length) (k : Nat) : (swp d i j).getD k 0 = if k = j then d.getD i 0 else if k = i then d.getD j 0 else d.getD k 0 := by
  unfold swp
  simp only [List.getD_eq_getElem?_getD, List.getElem?_set, List.length_set]
  by_cases h1 : j = k
  · subst h1
    simp [hj]
  · rw [if_neg h1, if_neg (Ne.symm h1)]
    by_cases h2 : i = k
    · subst h2
      simp [hi]
    · rw [if_neg h2, if_neg (Ne.symm h2)]
theorem swp_perm (d : List Nat) {i j : Nat} (hi : i < d.length) (hj : j < d.length) : (swp d i j).Perm d := by
  have h := Array.swap_perm (xs := d.toArray) (i := i) (j := j) (by simpa using hi) (by simpa using hj)
  have e : (d.toArray.swap i j (by simpa using hi) (by simpa using hj)).toList = swp d i j := by
    rw [Array.toList_swap]
    simp [swp, List.getD_eq_getElem?_getD, hi, hj]
  have := Array.perm_iff_toList_perm.1 h
  rw [e] at this
  simpa using this
theorem less_any (x y : Nat) (w : World) : Calls Try.prog 95 #[.int .u32 (x : Int), .int .u32 (y : Int)] w fun e w' => e = .returned (.bool (decide (x < y))) ∧ w' = w := by
  have hn : ∀ (z : Nat) (u : World), Hid (Calls Try.prog 106 #[.int .u32 (z : Int)] u fun e w' => e = .returned (.bool false) ∧ w' = u) := by
    intro z u
    show Calls Try.prog 106 #[.int .u32 (z : Int)] u fun e w' => e = .returned (.bool false) ∧ w' = u
    go_enter Try.func106, Try.ntmps106
    go_wp2
    go_ret
    exact ⟨rfl, rfl⟩
  by_cases h : x < y
  · rw [decide_eq_true h]
    have h2 : (x : Int) < (y : Int) := by omega
    go_enter Try.func95, Try.ntmps95
    go_wp2_with (go_at_call 106; refine (Hid.out (hn _ _)).mono ?_; rintro e w1 ⟨rfl, hww⟩; rw [hww]; clear hww w1)
    go_ret
    exact ⟨rfl, rfl⟩
  · rw [decide_eq_false h]
    have h2 : ¬ (x : Int) < (y : Int) := by omega
    go_enter Try.func95, Try.ntmps95
    go_wp2_with (go_at_call 106; refine (Hid.out (hn _ _)).mono ?_; rintro e w1 ⟨rfl, hww⟩; rw [hww]; clear hww w1)
    go_ret
    exact ⟨rfl, rfl⟩
/-- In order, from a on, ahead of b. -/
def SortedOn (d : List Nat) (a b : Nat) : Prop := ∀ p q, a ≤ p → p < q → q < b → d.getD p 0 ≤ d.getD q 0
/-- The same but for an order, from a on, ahead of b. -/
structure Turned (d m : List Nat) (a b : Nat) : Prop where
  perm : m.Perm d
  out : ∀ p, p < a ∨ b ≤ p → m.getD p 0 = d.getD p 0
theorem Turned.refl (d : List Nat) (a b : Nat) : Turned d d a b := ⟨List.Perm.refl _, fun _ _ => rfl⟩
theorem Turned.trans {d m k : List Nat} {a b : Nat} (h : Turned d m a b) (h2 : Turned m k a b) : Turned d k a b := ⟨h2.perm.trans h.perm, fun p hp => (h2.out p hp).trans (h.out p hp)⟩
theorem Turned.swp {d m : List Nat} {a b i j : Nat} (h : Turned d m a b) (hi : a ≤ i ∧ i < b) (hj : a ≤ j ∧ j < b) (hb : b ≤ m.length) : Turned d (swp m i j) a b :=
  h.trans ⟨swp_perm m (by omega) (by omega), fun p hp => by
    rw [swp_get m (by omega) (by omega), if_neg (by omega), if_neg (by omega)]⟩
/-- On the way: the one at j goes down. -/
structure Ins (m : List Nat) (a i j : Nat) : Prop where
  le : a ≤ j ∧ j ≤ i
  others : ∀ p q, a ≤ p → p < q → q ≤ i → p ≠ j → q ≠ j → m.getD p 0 ≤ m.getD q 0
  above : ∀ q, j < q → q ≤ i → m.getD j 0 ≤ m.getD q 0
theorem Ins.start {m : List Nat} {a i : Nat} (h : SortedOn m a i) (hi : a ≤ i) : Ins m a i i := ⟨⟨hi, Nat.le_refl _⟩, fun p q h1 h2 h3 h4 h5 => h p q h1 h2 (by omega), fun q h1 h2 => by omega⟩
theorem Ins.low {m : List Nat} {a i j : Nat} (h : Ins m a i j) (hj : j = a) : SortedOn m a (i + 1) := by
  intro p q h1 h2 h3
  by_cases e : p = j
  · rw [e]; exact h.above q (by omega) (by omega)
  · exact h.others p q h1 h2 (by omega) e (by omega)
theorem Ins.stop {m : List Nat} {a i j : Nat} (h : Ins m a i (j + 1)) (ha : a ≤ j) (hs : m.getD j 0 ≤ m.getD (j + 1) 0) : SortedOn m a (i + 1) := by
  intro p q h1 h2 h3
  by_cases e : p = j + 1
  · rw [e]; exact h.above q (by omega) (by omega)
  · by_cases e2 : q = j + 1
    · rw [e2]
      by_cases e3 : p = j
      · rw [e3]; exact hs
      · exact Nat.le_trans (h.others p j h1 (by omega) (by have := h.le; omega) e (by omega)) hs
    · exact h.others p q h1 h2 (by omega) e e2
theorem Ins.step {m : List Nat} {a i j : Nat} (h : Ins m a i (j + 1)) (ha : a ≤ j) (hl : i < m.length) (hs : m.getD (j + 1) 0 < m.getD j 0) : Ins (swp m (j + 1) j) a i j := by
  have hle := h.le
  have hg := fun k => swp_get m (i := j + 1) (j := j) (by omega) (by omega) k
  refine ⟨⟨ha, by omega⟩, fun p q h1 h2 h3 h4 h5 => ?_, fun q h1 h2 => ?_⟩
  · rw [hg p, hg q, if_neg h4, if_neg h5]
    by_cases e : p = j + 1
    · rw [if_pos e, if_neg (by omega)]
      exact h.others j q ha (by omega) h3 (by omega) (by omega)
    · rw [if_neg e]
      by_cases e2 : q = j + 1
      · rw [if_pos e2]
        exact h.others p j h1 (by omega) (by omega) e (by omega)
      · rw [if_neg e2]
        exact h.others p q h1 h2 h3 e e2
  · rw [hg j, if_pos rfl, hg q, if_neg (by omega)]
    by_cases e2 : q = j + 1
    · rw [if_pos e2]; omega
    · rw [if_neg e2]
      exact h.above q (by omega) h2
set_option maxRecDepth 20000 in
set_option maxHeartbeats 4000000 in
theorem insertion_any (w : World) (g cap a b : Nat) (d : List Nat) (tl : List Value) (h : Srow w g d tl) (hab : a ≤ b) (hb : b ≤ d.length) (hlen : d.length ≤ 4611686018427387904) :
    Calls Try.prog 89 #[.slice (some ⟨g, 0, none⟩) d.length cap, .int .i64 (a : Int), .int .i64 (b : Int)] w fun e w' => e = .returned (.tuple #[]) ∧ ∃ m, Srow w' g m tl ∧ Turned d m a b ∧ SortedOn m a b ∧ Only g w w' := by
  have H := hidden h
  clear h
  go_enter Try.func89, Try.ntmps89
  go_wp2
  go_loopw [6, 7] (fun x6 x7 wr => ∃ (i : Nat) (m : List Nat), a < i ∧ i ≤ b + 1 ∧ x6 = .int .i64 (i : Int) ∧ m.length = d.length ∧ Srow wr g m tl ∧ Turned d m a b ∧ SortedOn m a (min i b) ∧ Only g w wr) (fun x6 x7 _ => b + 1 - (intOf x6).toNat)
  case atStart => exact ⟨a + 1, d, by omega, by omega, by simp, rfl, Hid.out H, Turned.refl _ _ _, fun p q h1 h2 h3 => by omega, Only.refl _ _⟩
  case round =>
    obtain ⟨i, m, hi1, hi2, rfl, hml, hS, hT, hO, hW⟩ := hrel
    have HS := hidden hS
    have HT := hidden hT
    have HO := hidden hO
    have HW := hidden hW
    clear hS hT hO hW
    by_cases hib : i < b
    · have hib2 : (i : Int) < (b : Int) := by omega
      have HI0 : Hid (Ins m a i i) := Ins.start (fun p q h1 h2 h3 => Hid.out HO p q h1 h2 (by omega)) (by omega)
      go_wp2
      go_loopw [7] (fun x7 wr2 => ∃ (j : Nat) (k : List Nat), j ≤ i ∧ x7 = .int .i64 (j : Int) ∧ k.length = d.length ∧ Srow wr2 g k tl ∧ Turned d k a b ∧ Ins k a i j ∧ Only g w wr2) (fun x7 _ => (intOf x7).toNat)
      case atStart => exact ⟨i, m, Nat.le_refl _, rfl, hml, Hid.out HS, Hid.out HT, Hid.out HI0, Hid.out HW⟩
      case round =>
        obtain ⟨j, k, hji, rfl, hkl, hS2, hT2, hI2, hW2⟩ := hrel
        have hle := hI2.le
        have HS2 := hidden hS2
        have HT2 := hidden hT2
        have HI2 := hidden hI2
        have HW2 := hidden hW2
        by_cases hja : a < j
        · obtain ⟨j', rfl⟩ : ∃ j', j = j' + 1 := ⟨j - 1, by omega⟩
          have hc1 := hS2.cell (j := j' + 1) (by omega)
          have hc0 := hS2.cell (j := j') (by omega)
          have hz1 := hS2.thaw (j' + 1)
          have hz0 := hS2.thaw j'
          have hja2 : (a : Int) < (j' : Int) + 1 := by omega
          clear hS2 hT2 hI2 hW2
          have HL := hidden (fun u => less_any (k.getD (j' + 1) 0) (k.getD j' 0) u)
          cases hdec : decide (k.getD (j' + 1) 0 < k.getD j' 0) with
          | true =>
            rw [hdec] at HL
            have HLT := hidden (of_decide_eq_true hdec)
            clear hdec
            have HN : Hid (∀ n, Srow (((wr.drewN n).setCell ⟨g, j' + 1, none⟩ (.int .u32 ((k.getD j' 0 : Nat) : Int))).setCell ⟨g, j', none⟩ (.int .u32 ((k.getD (j' + 1) 0 : Nat) : Int))) g (swp k (j' + 1) j') tl) := fun n => by
              have h1 := ((Hid.out HS2).drewN n).set (j := j' + 1) (by omega) (k.getD j' 0)
              have h2 := h1.set (j := j') (by rw [List.length_set]; omega) (k.getD (j' + 1) 0)
              exact h2
            generalize hx1 : k.getD (j' + 1) 0 = x1 at hc1 HL HN
            generalize hx0 : k.getD j' 0 = x0 at hc0 HL HN
            clear hx1 hx0
            go_wp2
            go_quiet ((go_at_call 95; exact Calls.quiet_of_same (Hid.out HL _)))
            go_wp2
            go_region
            all_goals go_wp2
            go_roundw
            case rel => exact ⟨j', swp k (j' + 1) j', by omega, by simp, by rw [swp_len]; exact hkl, Hid.out HN _, (Hid.out HT2).swp ⟨by omega, by omega⟩ ⟨by omega, by omega⟩ (by omega), (Hid.out HI2).step (by omega) (by omega) (Hid.out HLT), ((((Hid.out HW2).drewN _).setCell _ _).setCell _ _)⟩
            case measure => simp [intOf]
          | false =>
            rw [hdec] at HL
            have HLT := hidden (of_decide_eq_false hdec)
            clear hdec
            have HEND : Hid (SortedOn k a (i + 1)) := (Hid.out HI2).stop (by omega) (Nat.le_of_not_lt (Hid.out HLT))
            generalize hx1 : k.getD (j' + 1) 0 = x1 at hc1 HL
            generalize hx0 : k.getD j' 0 = x0 at hc0 HL
            clear hx1 hx0
            go_wp2
            go_quiet ((go_at_call 95; exact Calls.quiet_of_same (Hid.out HL _)))
            go_wp2
            go_roundw
            case rel => exact ⟨i + 1, k, by omega, by omega, by simp, hkl, (Hid.out HS2).drewN _, Hid.out HT2, fun p q h1 h2 h3 => Hid.out HEND p q h1 h2 (by omega), (Hid.out HW2).drewN _⟩
            case measure => simp [intOf]; omega
        · have hja2 : decide ((a : Int) < (j : Int)) = false := by simp; omega
          have HEND : Hid (SortedOn k a (i + 1)) := hI2.low (by omega)
          clear hS2 hT2 hI2 hW2
          go_wp2
          go_quiet (fail)
          go_wp2
          go_roundw
          case rel => exact ⟨i + 1, k, by omega, by omega, by simp, hkl, (Hid.out HS2).drewN _, Hid.out HT2, fun p q h1 h2 h3 => Hid.out HEND p q h1 h2 (by omega), (Hid.out HW2).drewN _⟩
          case measure => simp [intOf]; omega
    · have hib2 : ¬ (i : Int) < (b : Int) := by omega
      go_wp2
      go_end0
      exact ⟨rfl, m, Hid.out HS, Hid.out HT, fun p q h1 h2 h3 => Hid.out HO p q h1 h2 (by omega), Hid.out HW⟩
end Go.Proofs.Ytpknppicamefgaa
