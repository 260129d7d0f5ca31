/- Words put into order: the parts of the library's sort that short rows come to. -/
import Derived.Test.YtobnocioefchlaaPMAG
import Derived.BigRegion
namespace Go.Proofs.Ytobnocioefchlaa
open Go.ChangeShapes Go.WideShapes Go.ChangeAt Go.RowKit
set_option linter.unusedVariables false
theorem Only.drewN {b : Nat} {u w : World} (h : Only b u w) (n : Nat) : Only b u (w.drewN n) := ⟨h.os, h.tape, h.output, h.size, h.block⟩
/-- A row of words, and what lies behind it. -/
def Srow (w : World) (g : Nat) (d : List Nat) (tl : List Value) : Prop := w.heap[g]? = some (.cells (words d ++ tl).toArray 23 (0, 0))
theorem Srow.cell {w : World} {g : Nat} {d : List Nat} {tl : List Value} (h : Srow w g d tl) {j : Nat} (hj : j < d.length) : w.cell? ⟨g, j, none⟩ = some (.int .u32 ((d.getD j 0 : Nat) : Int)) := by
  rw [cell_of_row _ _ _ _ _ _ h, List.getElem?_toArray, List.getElem?_append_left (by rw [words_len]; exact hj), words_get d j hj]
theorem Srow.thaw {w : World} {g : Nat} {d : List Nat} {tl : List Value} (h : Srow w g d tl) (j : Nat) : w.frozen? ⟨g, j, none⟩ = false := frozen_of_row _ _ _ _ _ h
theorem Srow.set {w : World} {g : Nat} {d : List Nat} {tl : List Value} (h : Srow w g d tl) {j : Nat} (hj : j < d.length) (x : Nat) : Srow (w.setCell ⟨g, j, none⟩ (.int .u32 (x : Int))) g (d.set j x) tl := by
  unfold Srow
  rw [heap_setCell_same _ _ _ _ _ _ h, List.setIfInBounds_toArray, List.set_append_left _ _ (by rw [words_len]; exact hj)]
  simp [words, List.map_set]
theorem Srow.drewN {w : World} {g : Nat} {d : List Nat} {tl : List Value} (h : Srow w g d tl) (n : Nat) : Srow (w.drewN n) g d tl := h
def swp (d : List Nat) (i j : Nat) : List Nat := (d.set i (d.getD j 0)).set j (d.getD i 0)
theorem swp_len (d : List Nat) (i j : Nat) : (swp d i j).length = d.length := by simp [swp]
theorem swp_get (d : List Nat) {i j : Nat} (hi : i < d.length) (hj : j < d.length) (k : Nat) : (swp d i j).getD k 0 = if k = j then d.getD i 0 else if k = i then d.getD j 0 else d.getD k 0 := by
  unfold swp
  simp only [List.getD_eq_getElem?_getD, List.getElem?_set, List.length_set]
  by_cases h1 : j = k
  · subst h1
    simp [hj]
  · rw [if_neg h1, if_neg (Ne.symm h1)]
    by_cases h2 : i = k
    · subst h2
      simp [hi]
    · rw [if_neg h2, if_neg (Ne.symm h2)]
theorem swp_perm (d : List Nat) {i j : Nat} (hi : i < d.length) (hj : j < d.length) : (swp d i j).Perm d := by
  have h := Array.swap_perm (xs := d.toArray) (i := i) (j := j) (by simpa using hi) (by simpa using hj)
  have e : (d.toArray.swap i j (by simpa using hi) (by simpa using hj)).toList = swp d i j := by
    rw [Array.toList_swap]
    simp [swp, List.getD_eq_getElem?_getD, hi, hj]
  have := Array.perm_iff_toList_perm.1 h
  rw [e] at this
  simpa using this
/-- In order, from a on, ahead of b. -/
def SortedOn (d : List Nat) (a b : Nat) : Prop := ∀ p q, a ≤ p → p < q → q < b → d.getD p 0 ≤ d.getD q 0
/-- The same but for an order, from a on, ahead of b. -/
structure Turned (d m : List Nat) (a b : Nat) : Prop where
  perm : m.Perm d
  out : ∀ p, p < a ∨ b ≤ p → m.getD p 0 = d.getD p 0
theorem Turned.refl (d : List Nat) (a b : Nat) : Turned d d a b := ⟨List.Perm.refl _, fun _ _ => rfl⟩
theorem Turned.trans {d m k : List Nat} {a b : Nat} (h : Turned d m a b) (h2 : Turned m k a b) : Turned d k a b := ⟨h2.perm.trans h.perm, fun p hp => (h2.out p hp).trans (h.out p hp)⟩
theorem Turned.swp {d m : List Nat} {a b i j : Nat} (h : Turned d m a b) (hi : a ≤ i ∧ i < b) (hj : a ≤ j ∧ j < b) (hb : b ≤ m.length) : Turned d (swp m i j) a b :=
  h.trans ⟨swp_perm m (by omega) (by omega), fun p hp => by
    rw [swp_get m (by omega) (by omega), if_neg (by omega), if_neg (by omega)]⟩
/-- On the way: the one at j goes down. -/
structure Ins (m : List Nat) (a i j : Nat) : Prop where
  le : a ≤ j ∧ j ≤ i
  others : ∀ p q, a ≤ p → p < q → q ≤ i → p ≠ j → q ≠ j → m.getD p 0 ≤ m.getD q 0
  above : ∀ q, j < q → q ≤ i → m.getD j 0 ≤ m.getD q 0
theorem Ins.start {m : List Nat} {a i : Nat} (h : SortedOn m a i) (hi : a ≤ i) : Ins m a i i := ⟨⟨hi, Nat.le_refl _⟩, fun p q h1 h2 h3 h4 h5 => h p q h1 h2 (by omega), fun q h1 h2 => by omega⟩
theorem Ins.low {m : List Nat} {a i j : Nat} (h : Ins m a i j) (hj : j = a) : SortedOn m a (i + 1) := by
  intro p q h1 h2 h3
  by_cases e : p = j
  · rw [e]; exact h.above q (by omega) (by omega)
  · exact h.others p q h1 h2 (by omega) e (by omega)
theorem Ins.stop {m : List Nat} {a i j : Nat} (h : Ins m a i (j + 1)) (ha : a ≤ j) (hs : m.getD j 0 ≤ m.getD (j + 1) 0) : SortedOn m a (i + 1) := by
  intro p q h1 h2 h3
  by_cases e : p = j + 1
  · rw [e]; exact h.above q (by omega) (by omega)
  · by_cases e2 : q = j + 1
    · rw [e2]
      by_cases e3 : p = j
      · rw [e3]; exact hs
      · exact Nat.le_trans (h.others p j h1 (by omega) (by have := h.le; omega) e (by omega)) hs
    · exact h.others p q h1 h2 (by omega) e e2
theorem Ins.step {m : List Nat} {a i j : Nat} (h : Ins m a i (j + 1)) (ha : a ≤ j) (hl : i < m.length) (hs : m.getD (j + 1) 0 < m.getD j 0) : Ins (swp m (j + 1) j) a i j := by
  have hle := h.le
  have hg := fun k => swp_get m (i := j + 1) (j := j) (by omega) (by omega) k
  refine ⟨⟨ha, by omega⟩, fun p q h1 h2 h3 h4 h5 => ?_, fun q h1 h2 => ?_⟩
  · rw [hg p, hg q, if_neg h4, if_neg h5]
    by_cases e : p = j + 1
    · rw [if_pos e, if_neg (by omega)]
      exact h.others j q ha (by omega) h3 (by omega) (by omega)
    · rw [if_neg e]
      by_cases e2 : q = j + 1
      · rw [if_pos e2]
        exact h.others p j h1 (by omega) (by omega) e (by omega)
      · rw [if_neg e2]
        exact h.others p q h1 h2 h3 e e2
  · rw [hg j, if_pos rfl, hg q, if_neg (by omega)]
    by_cases e2 : q = j + 1
    · rw [if_pos e2]; omega
    · rw [if_neg e2]
      exact h.above q (by omega) h2
end Go.Proofs.Ytobnocioefchlaa
namespace Go.Proofs.Ytobnocioefchlaa
open Go.ChangeShapes Go.WideShapes Go.ChangeAt Go.RowKit
set_option linter.unusedVariables false
end Go.Proofs.Ytobnocioefchlaa
namespace Go.Proofs.Ytobnocioefchlaa
open Go.ChangeShapes Go.WideShapes Go.ChangeAt Go.RowKit
set_option linter.unusedVariables false
/-- Rising, each once. -/
def Rising (l : List Nat) : Prop := ∀ p q, p < q → q < l.length → l.getD p 0 < l.getD q 0
theorem rising_of {l : List Nat} (h : SortedOn l 0 l.length) (hn : l.Nodup) : Rising l := by
  intro p q hpq hq
  have h1 := h p q (Nat.zero_le _) hpq hq
  have h2 : l.getD p 0 ≠ l.getD q 0 := by
    rw [List.getD_eq_getElem?_getD, List.getD_eq_getElem?_getD, List.getElem?_eq_getElem hq, List.getElem?_eq_getElem (by omega)]
    exact List.pairwise_iff_getElem.1 hn p q (by omega) hq hpq
  omega
end Go.Proofs.Ytobnocioefchlaa
