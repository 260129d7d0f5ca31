/- Words put into order: the parts of the library's sort that short rows come to. -/
import Derived.Test.YtodoenimlhldjaaQMAG
import Derived.BigRegion
namespace Go.Proofs.Ytodoenimlhldjaa
open Go.ChangeShapes Go.WideShapes Go.ChangeAt Go.RowKit
set_option linter.unusedVariables false
theorem Only.drewN {b : Nat} {u w : World} (h : Only b u w) (n : Nat) : Only b u (w.drewN n) := ⟨h.os, h.tape, h.output, h.size, h.block⟩
/-- A row of words, and what lies behind it. -/
def Srow (w : World) (g : Nat) (d : List Nat) (tl : List Value) : Prop := w.heap[g]? = some (.cells (words d ++ tl).toArray 23 (0, 0))
theorem Srow.cell {w : World} {g : Nat} {d : List Nat} {tl : List Value} (h : Srow w g d tl) {j : Nat} (hj : j < d.length) : w.cell? ⟨g, j, none⟩ = some (.int .u32 ((d.getD j 0 : Nat) : Int)) := by
  rw [cell_of_row _ _ _ _ _ _ h, List.getElem?_toArray, List.getElem?_append_left (by rw [words_len]; exact hj), words_get d j hj]
theorem Srow.thaw {w : World} {g : Nat} {d : List Nat} {tl : List Value} (h : Srow w g d tl) (j : Nat) : w.frozen? ⟨g, j, none⟩ = false := frozen_of_row _ _ _ _ _ h
theorem Srow.set {w : World} {g : Nat} {d : List Nat} {tl : List Value} (h : Srow w g d tl) {j : Nat} (hj : j < d.length) (x : Nat) : Srow (w.setCell ⟨g, j, none⟩ (.int .u32 (x : Int))) g (d.set j x) tl := by
  unfold Srow
  rw [heap_setCell_same _ _ _ _ _ _ h, List.setIfInBounds_toArray, List.set_append_left _ _ (by rw [words_len]; exact hj)]
  simp [words, List.map_set]
theorem Srow.drewN {w : World} {g : Nat} {d : List Nat} {tl : List Value} (h : Srow w g d tl) (n : Nat) : Srow (w.drewN n) g d tl := h
def swp (d : List Nat) (i j : Nat) : List Nat := (d.set i (d.getD j 0)).set j (d.getD i 0)
theorem swp_len (d : List Nat) (i j : Nat) : (swp d i j).length = d.length := by simp [swp]
theorem swp_get (d : List Nat) {i j : Nat} (hi : i < d.length) (hj : j < d.length) (k : Nat) : (swp d i j).getD k 0 = if k = j then d.getD i 0 else if k = i then d.getD j 0 else d.getD k 0 := by
  unfold swp
  simp only [List.getD_eq_getElem?_getD, List.getElem?_set, List.length_set]
  by_cases h1 : j = k
  · subst h1
    simp [hj]
  · rw [if_neg h1, if_neg (Ne.symm h1)]
    by_cases h2 : i = k
    · subst h2
      simp [hi]
    · rw [if_neg h2, if_neg (Ne.symm h2)]
theorem swp_perm (d : List Nat) {i j : Nat} (hi : i < d.length) (hj : j < d.length) : (swp d i j).Perm d := by
  have h := Array.swap_perm (xs := d.toArray) (i := i) (j := j) (by simpa using hi) (by simpa using hj)
  have e : (d.toArray.swap i j (by simpa using hi) (by simpa using hj)).toList = swp d i j := by
    rw [Array.toList_swap]
    simp [swp, List.getD_eq_getElem?_getD, hi, hj]
  have := Array.perm_iff_toList_perm.1 h
  rw [e] at this
  simpa using this
theorem less_any (x y : Nat) (w : World) : Calls Try.prog 91 #[.int .u32 (x : Int), .int .u32 (y : Int)] w fun e w' => e = .returned (.bool (decide (x < y))) ∧ w' = w := by
  have hn : ∀ (z : Nat) (u : World), Hid (Calls Try.prog 101 #[.int .u32 (z : Int)] u fun e w' => e = .returned (.bool false) ∧ w' = u) := by
    intro z u
    show Calls Try.prog 101 #[.int .u32 (z : Int)] u fun e w' => e = .returned (.bool false) ∧ w' = u
    go_enter Try.func101, Try.ntmps101
    go_wp2
    go_ret
    exact ⟨rfl, rfl⟩
  by_cases h : x < y
  · rw [decide_eq_true h]
    have h2 : (x : Int) < (y : Int) := by omega
    go_enter Try.func91, Try.ntmps91
    go_wp2_with (go_at_call 101; refine (Hid.out (hn _ _)).mono ?_; rintro e w1 ⟨rfl, hww⟩; rw [hww]; clear hww w1)
    go_ret
    exact ⟨rfl, rfl⟩
  · rw [decide_eq_false h]
    have h2 : ¬ (x : Int) < (y : Int) := by omega
    go_enter Try.func91, Try.ntmps91
    go_wp2_with (go_at_call 101; refine (Hid.out (hn _ _)).mono ?_; rintro e w1 ⟨rfl, hww⟩; rw [hww]; clear hww w1)
    go_ret
    exact ⟨rfl, rfl⟩
/-- In order, from a on, ahead of b. -/
def SortedOn (d : List Nat) (a b : Nat) : Prop := ∀ p q, a ≤ p → p < q → q < b → d.getD p 0 ≤ d.getD q 0
/-- The same but for an order, from a on, ahead of b. -/
structure Turned (d m : List Nat) (a b : Nat) : Prop where
  perm : m.Perm d
  out : ∀ p, p < a ∨ b ≤ p → m.getD p 0 = d.getD p 0
theorem Turned.refl (d : List Nat) (a b : Nat) : Turned d d a b := ⟨List.Perm.refl _, fun _ _ => rfl⟩
theorem Turned.trans {d m k : List Nat} {a b : Nat} (h : Turned d m a b) (h2 : Turned m k a b) : Turned d k a b := ⟨h2.perm.trans h.perm, fun p hp => (h2.out p hp).trans (h.out p hp)⟩
theorem Turned.swp {d m : List Nat} {a b i j : Nat} (h : Turned d m a b) (hi : a ≤ i ∧ i < b) (hj : a ≤ j ∧ j < b) (hb : b ≤ m.length) : Turned d (swp m i j) a b :=
  h.trans ⟨swp_perm m (by omega) (by omega), fun p hp => by
    rw [swp_get m (by omega) (by omega), if_neg (by omega), if_neg (by omega)]⟩
/-- On the way: the one at j goes down. -/
structure Ins (m : List Nat) (a i j : Nat) : Prop where
  le : a ≤ j ∧ j ≤ i
  others : ∀ p q, a ≤ p → p < q → q ≤ i → p ≠ j → q ≠ j → m.getD p 0 ≤ m.getD q 0
  above : ∀ q, j < q → q ≤ i → m.getD j 0 ≤ m.getD q 0
theorem Ins.start {m : List Nat} {a i : Nat} (h : SortedOn m a i) (hi : a ≤ i) : Ins m a i i := ⟨⟨hi, Nat.le_refl _⟩, fun p q h1 h2 h3 h4 h5 => h p q h1 h2 (by omega), fun q h1 h2 => by omega⟩
theorem Ins.low {m : List Nat} {a i j : Nat} (h : Ins m a i j) (hj : j = a) : SortedOn m a (i + 1) := by
  intro p q h1 h2 h3
  by_cases e : p = j
  · rw [e]; exact h.above q (by omega) (by omega)
  · exact h.others p q h1 h2 (by omega) e (by omega)
theorem Ins.stop {m : List Nat} {a i j : Nat} (h : Ins m a i (j + 1)) (ha : a ≤ j) (hs : m.getD j 0 ≤ m.getD (j + 1) 0) : SortedOn m a (i + 1) := by
  intro p q h1 h2 h3
  by_cases e : p = j + 1
  · rw [e]; exact h.above q (by omega) (by omega)
  · by_cases e2 : q = j + 1
    · rw [e2]
      by_cases e3 : p = j
      · rw [e3]; exact hs
      · exact Nat.le_trans (h.others p j h1 (by omega) (by have := h.le; omega) e (by omega)) hs
    · exact h.others p q h1 h2 (by omega) e e2
theorem Ins.step {m : List Nat} {a i j : Nat} (h : Ins m a i (j + 1)) (ha : a ≤ j) (hl : i < m.length) (hs : m.getD (j + 1) 0 < m.getD j 0) : Ins (swp m (j + 1) j) a i j := by
  have hle := h.le
  have hg := fun k => swp_get m (i := j + 1) (j := j) (by omega) (by omega) k
  refine ⟨⟨ha, by omega⟩, fun p q h1 h2 h3 h4 h5 => ?_, fun q h1 h2 => ?_⟩
  · rw [hg p, hg q, if_neg h4, if_neg h5]
    by_cases e : p = j + 1
    · rw [if_pos e, if_neg (by omega)]
      exact h.others j q ha (by omega) h3 (by omega) (by omega)
    · rw [if_neg e]
      by_cases e2 : q = j + 1
      · rw [if_pos e2]
        exact h.others p j h1 (by omega) (by omega) e (by omega)
      · rw [if_neg e2]
        exact h.others p q h1 h2 h3 e e2
  · rw [hg j, if_pos rfl, hg q, if_neg (by omega)]
    by_cases e2 : q = j + 1
    · rw [if_pos e2]; omega
    · rw [if_neg e2]
      exact h.above q (by omega) h2
set_option maxRecDepth 20000 in
set_option maxHeartbeats 4000000 in
theorem insertion_any (w : World) (g cap a b : Nat) (d : List Nat) (tl : List Value) (h : Srow w g d tl) (hab : a ≤ b) (hb : b ≤ d.length) (hlen : d.length ≤ 4611686018427387904) :
    Calls Try.prog 85 #[.slice (some ⟨g, 0, none⟩) d.length cap, .int .i64 (a : Int), .int .i64 (b : Int)] w fun e w' => e = .returned (.tuple #[]) ∧ ∃ m, Srow w' g m tl ∧ Turned d m a b ∧ SortedOn m a b ∧ Only g w w' := by
  have H := hidden h
  clear h
  go_enter Try.func85, Try.ntmps85
  go_wp2
  go_loopw [6, 7] (fun x6 x7 wr => ∃ (i : Nat) (m : List Nat), a < i ∧ i ≤ b + 1 ∧ x6 = .int .i64 (i : Int) ∧ m.length = d.length ∧ Srow wr g m tl ∧ Turned d m a b ∧ SortedOn m a (min i b) ∧ Only g w wr) (fun x6 x7 _ => b + 1 - (intOf x6).toNat)
  case atStart => exact ⟨a + 1, d, by omega, by omega, by simp, rfl, Hid.out H, Turned.refl _ _ _, fun p q h1 h2 h3 => by omega, Only.refl _ _⟩
  case round =>
    obtain ⟨i, m, hi1, hi2, rfl, hml, hS, hT, hO, hW⟩ := hrel
    have HS := hidden hS
    have HT := hidden hT
    have HO := hidden hO
    have HW := hidden hW
    clear hS hT hO hW
    by_cases hib : i < b
    · have hib2 : (i : Int) < (b : Int) := by omega
      have HI0 : Hid (Ins m a i i) := Ins.start (fun p q h1 h2 h3 => Hid.out HO p q h1 h2 (by omega)) (by omega)
      go_wp2
      go_loopw [7] (fun x7 wr2 => ∃ (j : Nat) (k : List Nat), j ≤ i ∧ x7 = .int .i64 (j : Int) ∧ k.length = d.length ∧ Srow wr2 g k tl ∧ Turned d k a b ∧ Ins k a i j ∧ Only g w wr2) (fun x7 _ => (intOf x7).toNat)
      case atStart => exact ⟨i, m, Nat.le_refl _, rfl, hml, Hid.out HS, Hid.out HT, Hid.out HI0, Hid.out HW⟩
      case round =>
        obtain ⟨j, k, hji, rfl, hkl, hS2, hT2, hI2, hW2⟩ := hrel
        have hle := hI2.le
        have HS2 := hidden hS2
        have HT2 := hidden hT2
        have HI2 := hidden hI2
        have HW2 := hidden hW2
        by_cases hja : a < j
        · obtain ⟨j', rfl⟩ : ∃ j', j = j' + 1 := ⟨j - 1, by omega⟩
          have hc1 := hS2.cell (j := j' + 1) (by omega)
          have hc0 := hS2.cell (j := j') (by omega)
          have hz1 := hS2.thaw (j' + 1)
          have hz0 := hS2.thaw j'
          have hja2 : (a : Int) < (j' : Int) + 1 := by omega
          clear hS2 hT2 hI2 hW2
          have HL := hidden (fun u => less_any (k.getD (j' + 1) 0) (k.getD j' 0) u)
          cases hdec : decide (k.getD (j' + 1) 0 < k.getD j' 0) with
          | true =>
            rw [hdec] at HL
            have HLT := hidden (of_decide_eq_true hdec)
            clear hdec
            have HN : Hid (∀ n, Srow (((wr.drewN n).setCell ⟨g, j' + 1, none⟩ (.int .u32 ((k.getD j' 0 : Nat) : Int))).setCell ⟨g, j', none⟩ (.int .u32 ((k.getD (j' + 1) 0 : Nat) : Int))) g (swp k (j' + 1) j') tl) := fun n => by
              have h1 := ((Hid.out HS2).drewN n).set (j := j' + 1) (by omega) (k.getD j' 0)
              have h2 := h1.set (j := j') (by rw [List.length_set]; omega) (k.getD (j' + 1) 0)
              exact h2
            generalize hx1 : k.getD (j' + 1) 0 = x1 at hc1 HL HN
            generalize hx0 : k.getD j' 0 = x0 at hc0 HL HN
            clear hx1 hx0
            go_wp2
            go_quiet ((go_at_call 91; exact Calls.quiet_of_same (Hid.out HL _)))
            go_wp2
            go_region
            all_goals go_wp2
            go_roundw
            case rel => exact ⟨j', swp k (j' + 1) j', by omega, by simp, by rw [swp_len]; exact hkl, Hid.out HN _, (Hid.out HT2).swp ⟨by omega, by omega⟩ ⟨by omega, by omega⟩ (by omega), (Hid.out HI2).step (by omega) (by omega) (Hid.out HLT), ((((Hid.out HW2).drewN _).setCell _ _).setCell _ _)⟩
            case measure => simp [intOf]
          | false =>
            rw [hdec] at HL
            have HLT := hidden (of_decide_eq_false hdec)
            clear hdec
            have HEND : Hid (SortedOn k a (i + 1)) := (Hid.out HI2).stop (by omega) (Nat.le_of_not_lt (Hid.out HLT))
            generalize hx1 : k.getD (j' + 1) 0 = x1 at hc1 HL
            generalize hx0 : k.getD j' 0 = x0 at hc0 HL
            clear hx1 hx0
            go_wp2
            go_quiet ((go_at_call 91; exact Calls.quiet_of_same (Hid.out HL _)))
            go_wp2
            go_roundw
            case rel => exact ⟨i + 1, k, by omega, by omega, by simp, hkl, (Hid.out HS2).drewN _, Hid.out HT2, fun p q h1 h2 h3 => Hid.out HEND p q h1 h2 (by omega), (Hid.out HW2).drewN _⟩
            case measure => simp [intOf]; omega
        · have hja2 : decide ((a : Int) < (j : Int)) = false := by simp; omega
          have HEND : Hid (SortedOn k a (i + 1)) := hI2.low (by omega)
          clear hS2 hT2 hI2 hW2
          go_wp2
          go_quiet (fail)
          go_wp2
          go_roundw
          case rel => exact ⟨i + 1, k, by omega, by omega, by simp, hkl, (Hid.out HS2).drewN _, Hid.out HT2, fun p q h1 h2 h3 => Hid.out HEND p q h1 h2 (by omega), (Hid.out HW2).drewN _⟩
          case measure => simp [intOf]; omega
    · have hib2 : ¬ (i : Int) < (b : Int) := by omega
      go_wp2
      go_end0
      exact ⟨rfl, m, Hid.out HS, Hid.out HT, fun p q h1 h2 h3 => Hid.out HO p q h1 h2 (by omega), Hid.out HW⟩
end Go.Proofs.Ytodoenimlhldjaa
namespace Go.Proofs.Ytodoenimlhldjaa
open Go.ChangeShapes Go.WideShapes Go.ChangeAt Go.RowKit
set_option linter.unusedVariables false
set_option maxRecDepth 20000 in
theorem len64_any (x : Nat) (h : x < 256) (w : World) : Calls Try.prog 95 #[.int .u64 (x : Int)] w fun e w' => ∃ k : Int, e = .returned (.int .i64 k) ∧ w' = w := by
  have h1 : ¬ (4294967296 : Int) ≤ (x : Int) := by omega
  have h2 : ¬ (65536 : Int) ≤ (x : Int) := by omega
  have h3 : ¬ (256 : Int) ≤ (x : Int) := by omega
  go_enter Try.func95, Try.ntmps95
  go_wp2
  go_ret
  exact ⟨_, rfl, rfl⟩
theorem len_any (x : Nat) (h : x < 256) (w : World) : Calls Try.prog 83 #[.int .u64 (x : Int)] w fun e w' => ∃ k : Int, e = .returned (.int .i64 k) ∧ w' = w := by
  have H := hidden (len64_any x h w)
  go_enter Try.func83, Try.ntmps83
  go_wp2_with (go_at_call 95; refine (Hid.out H).mono ?_; rintro e w1 ⟨k, rfl, hww⟩; rw [hww]; clear hww w1)
  go_ret
  exact ⟨k, rfl, rfl⟩
end Go.Proofs.Ytodoenimlhldjaa
namespace Go.Proofs.Ytodoenimlhldjaa
open Go.ChangeShapes Go.WideShapes Go.ChangeAt Go.RowKit
set_option linter.unusedVariables false
theorem insertion_nil (w : World) : Calls Try.prog 85 #[.slice none 0 0, .int .i64 0, .int .i64 0] w fun e w' => e = .returned (.tuple #[]) ∧ w' = w := by
  go_enter Try.func85, Try.ntmps85
  go_wp2
  go_loopg [6, 7] 1 (fun q x6 x7 wr => x6 = .int .i64 1 ∧ wr = w)
  case atStart => exact ⟨rfl, rfl⟩
  case round =>
    obtain ⟨rfl, rfl⟩ := hrel
    go_wp2
    go_end0
    exact ⟨rfl, rfl⟩
set_option maxRecDepth 20000 in
theorem pdq_nil (w : World) (k : Int) : Calls Try.prog 82 #[.slice none 0 0, .int .i64 0, .int .i64 0, .int .i64 k] w fun e w' => e = .returned (.tuple #[]) ∧ w' = w := by
  have H := hidden (insertion_nil w)
  go_enter Try.func82, Try.ntmps82
  go_wp2
  go_loopg [1, 2, 3] 1 (fun q x1 x2 x3 wr => x1 = .int .i64 0 ∧ x2 = .int .i64 0 ∧ wr = w)
  case atStart => exact ⟨rfl, rfl, rfl⟩
  case round =>
    obtain ⟨rfl, rfl, rfl⟩ := hrel
    go_wp2_with (go_at_call 85; refine (Hid.out H).mono ?_; rintro e w1 ⟨rfl, hww⟩; rw [hww]; clear hww w1)
    first | go_end0 | refine bodyPost_ret (results_none rfl _ _ _) rfl ?_
    exact ⟨rfl, rfl⟩
set_option maxRecDepth 20000 in
theorem pdq_small (w : World) (g cap : Nat) (d : List Nat) (tl : List Value) (k : Int) (h : Srow w g d tl) (hlen : d.length ≤ 12) :
    Calls Try.prog 82 #[.slice (some ⟨g, 0, none⟩) d.length cap, .int .i64 0, .int .i64 (d.length : Int), .int .i64 k] w fun e w' => e = .returned (.tuple #[]) ∧ ∃ m, Srow w' g m tl ∧ m.Perm d ∧ SortedOn m 0 d.length ∧ Only g w w' := by
  have H := hidden (insertion_any w g cap 0 d.length d tl h (Nat.zero_le _) (Nat.le_refl _) (by omega))
  rw [show ((0 : Nat) : Int) = 0 from rfl] at H
  have hl : (d.length : Int) ≤ 12 := by omega
  clear h
  go_enter Try.func82, Try.ntmps82
  go_wp2
  go_loopg [1, 2, 3] 1 (fun q x1 x2 x3 wr => x1 = .int .i64 0 ∧ x2 = .int .i64 (d.length : Int) ∧ wr = w)
  case atStart => exact ⟨rfl, rfl, rfl⟩
  case round =>
    obtain ⟨rfl, rfl, rfl⟩ := hrel
    go_wp2_with (go_at_call 85; refine (Hid.out H).mono ?_; rintro e w1 ⟨rfl, m, h1, h2, h3, h4⟩; have H1 := hidden h1; have H2 := hidden h2; have H3 := hidden h3; have H4 := hidden h4; clear h1 h2 h3 h4)
    first | go_end0 | refine bodyPost_ret (results_none rfl _ _ _) rfl ?_
    exact ⟨rfl, m, Hid.out H1, (Hid.out H2).perm, Hid.out H3, Hid.out H4⟩
/-- Rising, each once. -/
def Rising (l : List Nat) : Prop := ∀ p q, p < q → q < l.length → l.getD p 0 < l.getD q 0
theorem rising_of {l : List Nat} (h : SortedOn l 0 l.length) (hn : l.Nodup) : Rising l := by
  intro p q hpq hq
  have h1 := h p q (Nat.zero_le _) hpq hq
  have h2 : l.getD p 0 ≠ l.getD q 0 := by
    rw [List.getD_eq_getElem?_getD, List.getD_eq_getElem?_getD, List.getElem?_eq_getElem hq, List.getElem?_eq_getElem (by omega)]
    exact List.pairwise_iff_getElem.1 hn p q (by omega) hq hpq
  omega
theorem sort_small (w : World) (v : Value) (d : List Nat) (base : Nat) (hrow : w.ownsRow base 23 1 v d.length (words d)) (hlen : d.length ≤ 12) :
    Calls Try.prog 72 #[v] w fun e w' => e = .returned (.tuple #[]) ∧ ∃ m, m.Perm d ∧ SortedOn m 0 m.length ∧ w'.ownsRow base 23 1 v m.length (words m) ∧ w.grownBy w' v.ownBlock := by
  rcases hrow.2 with ⟨rfl, h0⟩ | ⟨g, cap, cur, rfl, hb, hg, hnc, hcm, hcs, htk⟩
  · have hd : d = [] := List.eq_nil_of_length_eq_zero h0
    subst hd
    have HL := hidden (len_any 0 (by omega) w)
    rw [show ((0 : Nat) : Int) = 0 from rfl] at HL
    have HP := fun k => hidden (pdq_nil w k)
    clear hrow h0 hlen
    go_enter Try.func72, Try.ntmps72
    go_wp2_with (first | (go_at_call 83; refine (Hid.out HL).mono ?_; rintro e w1 ⟨k, rfl, hww⟩; rw [hww]; clear hww w1) | (go_at_call 82; refine (Hid.out (HP _)).mono ?_; rintro e w1 ⟨rfl, hww⟩; rw [hww]; clear hww w1))
    go_end0
    exact ⟨rfl, [], List.Perm.refl _, fun p q h1 h2 h3 => by simp at h3, World.ownsRow_nil _ _ _ _, ⟨rfl, rfl, rfl, Nat.le_refl _, fun _ _ _ => rfl⟩⟩
  · have hS : Srow w g d (cur.toList.drop d.length) := by
      unfold Srow
      rw [hg]
      congr 2
      have e : cur.toList = words d ++ cur.toList.drop d.length := by
        rw [← htk, Nat.mul_one, List.take_append_drop]
      apply Array.ext'
      simp
      exact e
    have hcap : d.length ≤ cap := hnc
    have HL := hidden (len_any d.length (by omega) w)
    have HP := fun k => hidden (pdq_small w g cap d (cur.toList.drop d.length) k hS hlen)
    have hcl : (cur.toList.drop d.length).length = cap - d.length := by
      rw [List.length_drop, Array.length_toList, hcs, Nat.mul_one]
    generalize cur.toList.drop d.length = tl at HP hcl
    clear hrow hS hg htk hcs
    go_enter Try.func72, Try.ntmps72
    go_wp2_with (first | (go_at_call 83; refine (Hid.out HL).mono ?_; rintro e w1 ⟨k, rfl, hww⟩; rw [hww]; clear hww w1) | (go_at_call 82; refine (Hid.out (HP _)).mono ?_; rintro e w1 ⟨rfl, m, h1, h2, h3, h4⟩; have H1 := hidden h1; have H2 := hidden h2; have H3 := hidden h3; have H4 := hidden h4; clear h1 h2 h3 h4))
    go_end0
    have hml := (Hid.out H2).length_eq
    refine ⟨rfl, m, Hid.out H2, by rw [hml]; exact Hid.out H3, ⟨by rw [words_len, Nat.mul_one], .inr ⟨g, cap, _, by rw [hml], hb, Hid.out H1, by rw [hml]; exact hcap, hcm, ?_, ?_⟩⟩, ?_⟩
    · simp [words_len, hcl, hml]
      omega
    · simp [words_len]
    · exact only_grown (Hid.out H4)
theorem pages_small (w : World) (s : MS) (h : MemW w s) (hlen : s.ks.length ≤ 12) : Calls Try.prog 24 #[.pointer (some ⟨s.mb, 0, none⟩)] w fun e w' => ∃ ao cap l, e = .returned (.slice ao l.length cap) ∧ l.Perm s.ks ∧ Rising l ∧ Wds w' (.slice ao l.length cap) l ∧ Below w.heap.size w w' := by
  have hc := h.cell0
  have hnd := h.nodup
  have H56 := hidden (keysOf_any s.bm w)
  have hb0 : Below w.heap.size w (w.alloc (.cells #[.map (some s.bm)] 86)) := (Below.refl _ w).alloc (Nat.le_refl _) _
  have H64 := hidden (collect_any w.heap.size s.bm s.hb s.ks (by omega) (w.alloc (.cells #[.map (some s.bm)] 86)) (by simp) (by rw [cell_of_row _ _ _ _ _ _ (heap_alloc_new w _)]; rfl) ((hb0.block s.bm (h.lt (.inr (.inl rfl)))).trans h.map) hnd)
  have HB0 := hidden hb0
  have H55 : Hid (Calls Try.prog 51 #[.func (.func 73) #[] #[.pointer (some ⟨w.heap.size, 0, none⟩)]] (w.alloc (.cells #[.map (some s.bm)] 86)) fun e w' => ∃ ao cap l, e = .returned (.slice ao l.length cap) ∧ l.Perm s.ks ∧ Rising l ∧ Wds w' (.slice ao l.length cap) l ∧ Below w.heap.size w w') := by
    show Calls Try.prog 51 #[.func (.func 73) #[] #[.pointer (some ⟨w.heap.size, 0, none⟩)]] (w.alloc (.cells #[.map (some s.bm)] 86)) fun e w' => ∃ ao cap l, e = .returned (.slice ao l.length cap) ∧ l.Perm s.ks ∧ Rising l ∧ Wds w' (.slice ao l.length cap) l ∧ Below w.heap.size w w'
    have H65 : Hid (∀ u v ss, ss.Perm s.ks → u.ownsRow (w.alloc (.cells #[.map (some s.bm)] 86)).heap.size 23 1 v ss.length (words ss) → Calls Try.prog 72 #[v] u fun e w' => e = .returned (.tuple #[]) ∧ ∃ m, m.Perm ss ∧ SortedOn m 0 m.length ∧ w'.ownsRow (w.alloc (.cells #[.map (some s.bm)] 86)).heap.size 23 1 v m.length (words m) ∧ u.grownBy w' v.ownBlock) := fun u v ss hp hr => sort_small u v ss _ hr (by rw [hp.length_eq]; exact hlen)
    have HND := hidden hnd
    clear h hc H56 hnd hb0
    go_enter Try.func51, Try.ntmps51
    go_wp2_with (first | (go_at_call 71; refine (Hid.out H64).mono ?_; rintro e w2 ⟨v, ss, rfl, hp, hr, hn, hb⟩; obtain ⟨va, vn, vc, rfl⟩ := row_slice hr; have HP := hidden hp; have HR := hidden hr; have HB := hidden hb; clear hp hr hn hb H64) | (go_at_call 72; refine (Hid.out H65 _ _ _ (Hid.out HP) (Hid.out HR)).mono ?_; rintro e w3 ⟨rfl, m, hm1, hm2, hm3, hm4⟩; have HM1 := hidden hm1; have HM2 := hidden hm2; have HM3 := hidden hm3; have HM4 := hidden hm4; clear hm1 hm2 hm3 hm4))
    go_ret
    have hperm := (Hid.out HM1).trans (Hid.out HP)
    obtain ⟨ao, cap, e, hwd⟩ := wds_of_row (Hid.out HM3)
    simp only [Value.slice.injEq] at e
    obtain ⟨rfl, rfl, rfl⟩ := e
    refine ⟨_, _, m, rfl, hperm, rising_of (Hid.out HM2) (hperm.nodup_iff.2 (Hid.out HND)), ⟨_, _, rfl, hwd⟩, ?_⟩
    have hbb := (Hid.out HB0).trans ((Hid.out HB).mono (Hid.out HB0).size)
    exact hbb.grown (Hid.out HM4) hbb.size fun g hg => Nat.le_trans (Hid.out HB0).size (row_base (Hid.out HM3) g hg)
  clear h hnd H64 hb0 HB0
  go_enter Try.func24, Try.ntmps24
  go_wp2_with (first | (go_at_call 52; refine (Hid.out H56).mono ?_; rintro e w1 ⟨rfl, hww⟩; rw [hww]; clear hww w1) | (go_at_call 51; refine (Hid.out H55).mono ?_; rintro e w2 ⟨ao, cap, l, rfl, h1, h2, h3, h4⟩; have H1 := hidden h1; have H2 := hidden h2; have H3 := hidden h3; have H4 := hidden h4; clear h1 h2 h3 h4))
  go_ret
  exact ⟨ao, cap, l, rfl, Hid.out H1, Hid.out H2, Hid.out H3, Hid.out H4⟩
end Go.Proofs.Ytodoenimlhldjaa
