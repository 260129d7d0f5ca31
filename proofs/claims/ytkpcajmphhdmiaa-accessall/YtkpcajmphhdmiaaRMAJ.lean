/- Words put into order: the parts of the library's sort that short rows come to. -/
import Derived.Test.YtkpcajmphhdmiaaRMAI
import Derived.BigRegion
namespace Go.Proofs.Ytkpcajmphhdmiaa
open Go.ChangeShapes Go.WideShapes Go.ChangeAt Go.RowKit
set_option linter.unusedVariables false
theorem Only.drewN {b : Nat} {u w : World} (h : Only b u w) (n : Nat) : Only b u (w.drewN n) := ⟨h.os, h.tape, h.output, h.size, h.block⟩
/-- A row of words, and what lies behind it. -/
def Srow (w : World) (g : Nat) (d : List Nat) (tl : List Value) : Prop := w.heap[g]? = some (.cells (words d ++ tl).toArray 23 (0, 0))
theorem Srow.cell {w : World} {g : Nat} {d : List Nat} {tl : List Value} (h : Srow w g d tl) {j : Nat} (hj : j < d.length) : w.cell? ⟨g, j, none⟩ = some (.int .u32 ((d.getD j 0 : Nat) : Int)) := by
  rw [cell_of_row _ _ _ _ _ _ h, List.getElem?_toArray, List.getElem?_append_left (by rw [words_len]; exact hj), words_get d j hj]
theorem Srow.thaw {w : World} {g : Nat} {d : List Nat} {tl : List Value} (h : Srow w g d tl) (j : Nat) : w.frozen? ⟨g, j, none⟩ = false := frozen_of_row _ _ _ _ _ h
theorem Srow.set {w : World} {g : Nat} {d : List Nat} {tl : List Value} (h : Srow w g d tl) {j : Nat} (hj : j < d.length) (x : Nat) : Srow (w.setCell ⟨g, j, none⟩ (.int .u32 (x : Int))) g (d.set j x) tl := by
  unfold Srow
  rw [heap_setCell_same _ _ _ _ _ _ h, List.setIfInBounds_toArray, List.set_append_left _ _ (by rw [words_len]; exact hj)]
  simp [words, List.map_set]
theorem Srow.drewN {w : World} {g : Nat} {d : List Nat} {tl : List Value} (h : Srow w g d tl) (n : Nat) : Srow (w.drewN n) g d tl := h
def swp (d : List Nat) (i j : Nat) : List Nat := (d.set i (d.getD j 0)).set j (d.getD i 0)
theorem swp_len (d : List Nat) (i j : Nat) : (swp d i j).length = d.length := by simp [swp]
theorem swp_get (d : List Nat) {i j : Nat} (hi : i < d.length) (hj : j < d.length) (k : Nat) : (swp d i j).getD k 0 = if k = j then d.getD i 0 else if k = i then d.getD j 0 else d.getD k 0 := by
  unfold swp
  simp only [List.getD_eq_getElem?_getD, List.getElem?_set, List.length_set]
  by_cases h1 : j = k
  · subst h1
    simp [hj]
  · rw [if_neg h1, if_neg (Ne.symm h1)]
    by_cases h2 : i = k
    · subst h2
      simp [hi]
    · rw [if_neg h2, if_neg (Ne.symm h2)]
theorem swp_perm (d : List Nat) {i j : Nat} (hi : i < d.length) (hj : j < d.length) : (swp d i j).Perm d := by
  have h := Array.swap_perm (xs := d.toArray) (i := i) (j := j) (by simpa using hi) (by simpa using hj)
  have e : (d.toArray.swap i j (by simpa using hi) (by simpa using hj)).toList = swp d i j := by
    rw [Array.toList_swap]
    simp [swp, List.getD_eq_getElem?_getD, hi, hj]
  have := Array.perm_iff_toList_perm.1 h
  rw [e] at this
  simpa using this
theorem less_any (x y : Nat) (w : World) : Calls Try.prog 88 #[.int .u32 (x : Int), .int .u32 (y : Int)] w fun e w' => e = .returned (.bool (decide (x < y))) ∧ w' = w := by
  have hn : ∀ (z : Nat) (u : World), Hid (Calls Try.prog 99 #[.int .u32 (z : Int)] u fun e w' => e = .returned (.bool false) ∧ w' = u) := by
    intro z u
    show Calls Try.prog 99 #[.int .u32 (z : Int)] u fun e w' => e = .returned (.bool false) ∧ w' = u
    go_enter Try.func99, Try.ntmps99
    go_wp2
    go_ret
    exact ⟨rfl, rfl⟩
  by_cases h : x < y
  · rw [decide_eq_true h]
    have h2 : (x : Int) < (y : Int) := by omega
    go_enter Try.func88, Try.ntmps88
    go_wp2_with (go_at_call 99; refine (Hid.out (hn _ _)).mono ?_; rintro e w1 ⟨rfl, hww⟩; rw [hww]; clear hww w1)
    go_ret
    exact ⟨rfl, rfl⟩
  · rw [decide_eq_false h]
    have h2 : ¬ (x : Int) < (y : Int) := by omega
    go_enter Try.func88, Try.ntmps88
    go_wp2_with (go_at_call 99; refine (Hid.out (hn _ _)).mono ?_; rintro e w1 ⟨rfl, hww⟩; rw [hww]; clear hww w1)
    go_ret
    exact ⟨rfl, rfl⟩
/-- In order, from a on, ahead of b. -/
def SortedOn (d : List Nat) (a b : Nat) : Prop := ∀ p q, a ≤ p → p < q → q < b → d.getD p 0 ≤ d.getD q 0
/-- The same but for an order, from a on, ahead of b. -/
structure Turned (d m : List Nat) (a b : Nat) : Prop where
  perm : m.Perm d
  out : ∀ p, p < a ∨ b ≤ p → m.getD p 0 = d.getD p 0
theorem Turned.refl (d : List Nat) (a b : Nat) : Turned d d a b := ⟨List.Perm.refl _, fun _ _ => rfl⟩
theorem Turned.trans {d m k : List Nat} {a b : Nat} (h : Turned d m a b) (h2 : Turned m k a b) : Turned d k a b := ⟨h2.perm.trans h.perm, fun p hp => (h2.out p hp).trans (h.out p hp)⟩
theorem Turned.swp {d m : List Nat} {a b i j : Nat} (h : Turned d m a b) (hi : a ≤ i ∧ i < b) (hj : a ≤ j ∧ j < b) (hb : b ≤ m.length) : Turned d (swp m i j) a b :=
  h.trans ⟨swp_perm m (by omega) (by omega), fun p hp => by
    rw [swp_get m (by omega) (by omega), if_neg (by omega), if_neg (by omega)]⟩
/-- On the way: the one at j goes down. -/
structure Ins (m : List Nat) (a i j : Nat) : Prop where
  le : a ≤ j ∧ j ≤ i
  others : ∀ p q, a ≤ p → p < q → q ≤ i → p ≠ j → q ≠ j → m.getD p 0 ≤ m.getD q 0
  above : ∀ q, j < q → q ≤ i → m.getD j 0 ≤ m.getD q 0
theorem Ins.start {m : List Nat} {a i : Nat} (h : SortedOn m a i) (hi : a ≤ i) : Ins m a i i := ⟨⟨hi, Nat.le_refl _⟩, fun p q h1 h2 h3 h4 h5 => h p q h1 h2 (by omega), fun q h1 h2 => by omega⟩
theorem Ins.low {m : List Nat} {a i j : Nat} (h : Ins m a i j) (hj : j = a) : SortedOn m a (i + 1) := by
  intro p q h1 h2 h3
  by_cases e : p = j
  · rw [e]; exact h.above q (by omega) (by omega)
  · exact h.others p q h1 h2 (by omega) e (by omega)
theorem Ins.stop {m : List Nat} {a i j : Nat} (h : Ins m a i (j + 1)) (ha : a ≤ j) (hs : m.getD j 0 ≤ m.getD (j + 1) 0) : SortedOn m a (i + 1) := by
  intro p q h1 h2 h3
  by_cases e : p = j + 1
  · rw [e]; exact h.above q (by omega) (by omega)
  · by_cases e2 : q = j + 1
    · rw [e2]
      by_cases e3 : p = j
      · rw [e3]; exact hs
      · exact Nat.le_trans (h.others p j h1 (by omega) (by have := h.le; omega) e (by omega)) hs
    · exact h.others p q h1 h2 (by omega) e e2
theorem Ins.step {m : List Nat} {a i j : Nat} (h : Ins m a i (j + 1)) (ha : a ≤ j) (hl : i < m.length) (hs : m.getD (j + 1) 0 < m.getD j 0) : Ins (swp m (j + 1) j) a i j := by
  have hle := h.le
  have hg := fun k => swp_get m (i := j + 1) (j := j) (by omega) (by omega) k
  refine ⟨⟨ha, by omega⟩, fun p q h1 h2 h3 h4 h5 => ?_, fun q h1 h2 => ?_⟩
  · rw [hg p, hg q, if_neg h4, if_neg h5]
    by_cases e : p = j + 1
    · rw [if_pos e, if_neg (by omega)]
      exact h.others j q ha (by omega) h3 (by omega) (by omega)
    · rw [if_neg e]
      by_cases e2 : q = j + 1
      · rw [if_pos e2]
        exact h.others p j h1 (by omega) (by omega) e (by omega)
      · rw [if_neg e2]
        exact h.others p q h1 h2 h3 e e2
  · rw [hg j, if_pos rfl, hg q, if_neg (by omega)]
    by_cases e2 : q = j + 1
    · rw [if_pos e2]; omega
    · rw [if_neg e2]
      exact h.above q (by omega) h2
set_option maxRecDepth 20000 in
set_option maxHeartbeats 4000000 in
theorem insertion_any (w : World) (g cap a b : Nat) (d : List Nat) (tl : List Value) (h : Srow w g d tl) (hab : a ≤ b) (hb : b ≤ d.length) (hlen : d.length ≤ 4611686018427387904) :
    Calls Try.prog 82 #[.slice (some ⟨g, 0, none⟩) d.length cap, .int .i64 (a : Int), .int .i64 (b : Int)] w fun e w' => e = .returned (.tuple #[]) ∧ ∃ m, Srow w' g m tl ∧ Turned d m a b ∧ SortedOn m a b ∧ Only g w w' := by
  have H := hidden h
  clear h
  go_enter Try.func82, Try.ntmps82
  go_wp2
  go_loopw [6, 7] (fun x6 x7 wr => ∃ (i : Nat) (m : List Nat), a < i ∧ i ≤ b + 1 ∧ x6 = .int .i64 (i : Int) ∧ m.length = d.length ∧ Srow wr g m tl ∧ Turned d m a b ∧ SortedOn m a (min i b) ∧ Only g w wr) (fun x6 x7 _ => b + 1 - (intOf x6).toNat)
  case atStart => exact ⟨a + 1, d, by omega, by omega, by simp, rfl, Hid.out H, Turned.refl _ _ _, fun p q h1 h2 h3 => by omega, Only.refl _ _⟩
  case round =>
    obtain ⟨i, m, hi1, hi2, rfl, hml, hS, hT, hO, hW⟩ := hrel
    have HS := hidden hS
    have HT := hidden hT
    have HO := hidden hO
    have HW := hidden hW
    clear hS hT hO hW
    by_cases hib : i < b
    · have hib2 : (i : Int) < (b : Int) := by omega
      have HI0 : Hid (Ins m a i i) := Ins.start (fun p q h1 h2 h3 => Hid.out HO p q h1 h2 (by omega)) (by omega)
      go_wp2
      go_loopw [7] (fun x7 wr2 => ∃ (j : Nat) (k : List Nat), j ≤ i ∧ x7 = .int .i64 (j : Int) ∧ k.length = d.length ∧ Srow wr2 g k tl ∧ Turned d k a b ∧ Ins k a i j ∧ Only g w wr2) (fun x7 _ => (intOf x7).toNat)
      case atStart => exact ⟨i, m, Nat.le_refl _, rfl, hml, Hid.out HS, Hid.out HT, Hid.out HI0, Hid.out HW⟩
      case round =>
        obtain ⟨j, k, hji, rfl, hkl, hS2, hT2, hI2, hW2⟩ := hrel
        have hle := hI2.le
        have HS2 := hidden hS2
        have HT2 := hidden hT2
        have HI2 := hidden hI2
        have HW2 := hidden hW2
        by_cases hja : a < j
        · obtain ⟨j', rfl⟩ : ∃ j', j = j' + 1 := ⟨j - 1, by omega⟩
          have hc1 := hS2.cell (j := j' + 1) (by omega)
          have hc0 := hS2.cell (j := j') (by omega)
          have hz1 := hS2.thaw (j' + 1)
          have hz0 := hS2.thaw j'
          have hja2 : (a : Int) < (j' : Int) + 1 := by omega
          clear hS2 hT2 hI2 hW2
          have HL := hidden (fun u => less_any (k.getD (j' + 1) 0) (k.getD j' 0) u)
          cases hdec : decide (k.getD (j' + 1) 0 < k.getD j' 0) with
          | true =>
            rw [hdec] at HL
            have HLT := hidden (of_decide_eq_true hdec)
            clear hdec
            have HN : Hid (∀ n, Srow (((wr.drewN n).setCell ⟨g, j' + 1, none⟩ (.int .u32 ((k.getD j' 0 : Nat) : Int))).setCell ⟨g, j', none⟩ (.int .u32 ((k.getD (j' + 1) 0 : Nat) : Int))) g (swp k (j' + 1) j') tl) := fun n => by
              have h1 := ((Hid.out HS2).drewN n).set (j := j' + 1) (by omega) (k.getD j' 0)
              have h2 := h1.set (j := j') (by rw [List.length_set]; omega) (k.getD (j' + 1) 0)
              exact h2
            generalize hx1 : k.getD (j' + 1) 0 = x1 at hc1 HL HN
            generalize hx0 : k.getD j' 0 = x0 at hc0 HL HN
            clear hx1 hx0
            go_wp2
            go_quiet ((go_at_call 88; exact Calls.quiet_of_same (Hid.out HL _)))
            go_wp2
            go_region
            all_goals go_wp2
            go_roundw
            case rel => exact ⟨j', swp k (j' + 1) j', by omega, by simp, by rw [swp_len]; exact hkl, Hid.out HN _, (Hid.out HT2).swp ⟨by omega, by omega⟩ ⟨by omega, by omega⟩ (by omega), (Hid.out HI2).step (by omega) (by omega) (Hid.out HLT), ((((Hid.out HW2).drewN _).setCell _ _).setCell _ _)⟩
            case measure => simp [intOf]
          | false =>
            rw [hdec] at HL
            have HLT := hidden (of_decide_eq_false hdec)
            clear hdec
            have HEND : Hid (SortedOn k a (i + 1)) := (Hid.out HI2).stop (by omega) (Nat.le_of_not_lt (Hid.out HLT))
            generalize hx1 : k.getD (j' + 1) 0 = x1 at hc1 HL
            generalize hx0 : k.getD j' 0 = x0 at hc0 HL
            clear hx1 hx0
            go_wp2
            go_quiet ((go_at_call 88; exact Calls.quiet_of_same (Hid.out HL _)))
            go_wp2
            go_roundw
            case rel => exact ⟨i + 1, k, by omega, by omega, by simp, hkl, (Hid.out HS2).drewN _, Hid.out HT2, fun p q h1 h2 h3 => Hid.out HEND p q h1 h2 (by omega), (Hid.out HW2).drewN _⟩
            case measure => simp [intOf]; omega
        · have hja2 : decide ((a : Int) < (j : Int)) = false := by simp; omega
          have HEND : Hid (SortedOn k a (i + 1)) := hI2.low (by omega)
          clear hS2 hT2 hI2 hW2
          go_wp2
          go_quiet (fail)
          go_wp2
          go_roundw
          case rel => exact ⟨i + 1, k, by omega, by omega, by simp, hkl, (Hid.out HS2).drewN _, Hid.out HT2, fun p q h1 h2 h3 => Hid.out HEND p q h1 h2 (by omega), (Hid.out HW2).drewN _⟩
          case measure => simp [intOf]; omega
    · have hib2 : ¬ (i : Int) < (b : Int) := by omega
      go_wp2
      go_end0
      exact ⟨rfl, m, Hid.out HS, Hid.out HT, fun p q h1 h2 h3 => Hid.out HO p q h1 h2 (by omega), Hid.out HW⟩
end Go.Proofs.Ytkpcajmphhdmiaa
namespace Go.Proofs.Ytkpcajmphhdmiaa
open Go.ChangeShapes Go.WideShapes Go.ChangeAt Go.RowKit
set_option linter.unusedVariables false
theorem getD_ext {d m : List Nat} (hl : m.length = d.length) (h : ∀ p, p < d.length → m.getD p 0 = d.getD p 0) : m = d := by
  refine List.ext_getElem hl fun p h1 h2 => ?_
  have := h p h2
  rw [List.getD_eq_getElem?_getD, List.getD_eq_getElem?_getD, List.getElem?_eq_getElem h1, List.getElem?_eq_getElem h2] at this
  simpa using this
theorem Turned.len {d m : List Nat} {a b : Nat} (h : Turned d m a b) : m.length = d.length := h.perm.length_eq
theorem Turned.inner {d m : List Nat} {a b : Nat} (h : Turned d m a b) (hab : a ≤ b) : ((m.drop a).take (b - a)).Perm ((d.drop a).take (b - a)) := by
  have hl := h.len
  have e1 : m.take a = d.take a := by
    refine getD_ext (by simp [hl]) fun p hp => ?_
    have hp2 : p < a := by simp at hp; omega
    have := h.out p (Or.inl hp2)
    simpa [List.getD_eq_getElem?_getD, List.getElem?_take, hp2] using this
  have e2 : m.drop b = d.drop b := by
    refine getD_ext (by simp [hl]) fun p hp => ?_
    have := h.out (b + p) (Or.inr (by omega))
    simpa [List.getD_eq_getElem?_getD, List.getElem?_drop] using this
  have s : ∀ l : List Nat, l = l.take a ++ ((l.drop a).take (b - a) ++ l.drop b) := fun l => by
    have h2 : (l.drop a).drop (b - a) = l.drop b := by rw [List.drop_drop]; congr 1; omega
    rw [← h2, List.take_append_drop, List.take_append_drop]
  have hp := h.perm
  rw [s m, s d, e1, e2] at hp
  exact (List.perm_append_right_iff _).1 ((List.perm_append_left_iff _).1 hp)
theorem mem_inner {l : List Nat} {a b : Nat} (hb : b ≤ l.length) (x : Nat) : x ∈ (l.drop a).take (b - a) ↔ ∃ p, a ≤ p ∧ p < b ∧ l.getD p 0 = x := by
  constructor
  · intro h
    obtain ⟨k, hk, rfl⟩ := List.getElem_of_mem h
    have hk2 : k < b - a := by simp at hk; omega
    refine ⟨a + k, by omega, by omega, ?_⟩
    rw [List.getElem_take, List.getElem_drop, List.getD_eq_getElem?_getD, List.getElem?_eq_getElem (by omega)]
    rfl
  · rintro ⟨p, h1, h2, rfl⟩
    have h3 : p - a < ((l.drop a).take (b - a)).length := by simp; omega
    have h4 := List.getElem_mem h3
    rw [List.getElem_take, List.getElem_drop] at h4
    have e : a + (p - a) = p := by omega
    rw [List.getD_eq_getElem?_getD, List.getElem?_eq_getElem (by omega)]
    simpa [e] using h4
/-- What holds of all between a and b holds of them when turned. -/
theorem Turned.all {d m : List Nat} {a b : Nat} (h : Turned d m a b) (hab : a ≤ b) (hb : b ≤ d.length) (P : Nat → Prop) (hP : ∀ p, a ≤ p → p < b → P (d.getD p 0)) : ∀ p, a ≤ p → p < b → P (m.getD p 0) := by
  intro p h1 h2
  have h3 : m.getD p 0 ∈ (m.drop a).take (b - a) := (mem_inner (by rw [h.len]; exact hb) _).2 ⟨p, h1, h2, rfl⟩
  obtain ⟨q, h4, h5, h6⟩ := (mem_inner hb _).1 ((h.inner hab).mem_iff.1 h3)
  rw [← h6]
  exact hP q h4 h5
theorem Turned.wide {d m : List Nat} {a b a2 b2 : Nat} (h : Turned d m a b) (ha : a2 ≤ a) (hb : b ≤ b2) : Turned d m a2 b2 := ⟨h.perm, fun p hp => h.out p (by omega)⟩
/-- A heap at f: from lo on, ahead of hi, none is above the one that it hangs at. -/
def Heap (d : List Nat) (f lo hi : Nat) : Prop := ∀ p c, lo ≤ p → c < hi → (c = 2 * p + 1 ∨ c = 2 * p + 2) → d.getD (f + c) 0 ≤ d.getD (f + p) 0
/-- On the way: the one at r goes down. -/
structure Sift (d : List Nat) (f lo hi r : Nat) : Prop where
  le : lo ≤ r
  others : ∀ p c, lo ≤ p → p ≠ r → c < hi → (c = 2 * p + 1 ∨ c = 2 * p + 2) → d.getD (f + c) 0 ≤ d.getD (f + p) 0
  over : ∀ p c, lo ≤ p → (r = 2 * p + 1 ∨ r = 2 * p + 2) → c < hi → (c = 2 * r + 1 ∨ c = 2 * r + 2) → d.getD (f + c) 0 ≤ d.getD (f + p) 0
theorem Sift.start {d : List Nat} {f lo hi : Nat} (h : Heap d f (lo + 1) hi) : Sift d f lo hi lo := ⟨Nat.le_refl _, fun p c h1 h2 h3 h4 => h p c (by omega) h3 h4, fun p c h1 h2 h3 h4 => by omega⟩
theorem Sift.leaf {d : List Nat} {f lo hi r : Nat} (h : Sift d f lo hi r) (hr : hi ≤ 2 * r + 1) : Heap d f lo hi := by
  intro p c h1 h2 h3
  by_cases e : p = r
  · omega
  · exact h.others p c h1 e h2 h3
theorem Sift.stop {d : List Nat} {f lo hi r : Nat} (h : Sift d f lo hi r) (hs : ∀ c, c < hi → (c = 2 * r + 1 ∨ c = 2 * r + 2) → d.getD (f + c) 0 ≤ d.getD (f + r) 0) : Heap d f lo hi := by
  intro p c h1 h2 h3
  by_cases e : p = r
  · subst e; exact hs c h2 h3
  · exact h.others p c h1 e h2 h3
theorem Sift.step {d : List Nat} {f lo hi r x : Nat} (h : Sift d f lo hi r) (hx : x < hi) (hx2 : x = 2 * r + 1 ∨ x = 2 * r + 2) (hl : f + hi ≤ d.length) (hs : d.getD (f + r) 0 < d.getD (f + x) 0)
    (hbig : ∀ c, c < hi → (c = 2 * r + 1 ∨ c = 2 * r + 2) → d.getD (f + c) 0 ≤ d.getD (f + x) 0) : Sift (swp d (f + r) (f + x)) f lo hi x := by
  have hle := h.le
  have hg := fun k => swp_get d (i := f + r) (j := f + x) (by omega) (by omega) k
  refine ⟨by omega, fun p c h1 h2 h3 h4 => ?_, fun p c h1 h2 h3 h4 => ?_⟩
  · rw [hg (f + c), hg (f + p), if_neg (c := f + p = f + x) (by omega)]
    by_cases e : p = r
    · subst e
      rw [if_pos (c := f + p = f + p) rfl]
      by_cases e2 : c = x
      · rw [if_pos (by omega)]; omega
      · rw [if_neg (by omega), if_neg (by omega)]
        exact hbig c h3 h4
    · rw [if_neg (c := f + p = f + r) (by omega), if_neg (c := f + c = f + x) (by omega)]
      by_cases e3 : c = r
      · rw [if_pos (by omega)]
        exact h.over p x h1 (by omega) hx hx2
      · rw [if_neg (by omega)]
        exact h.others p c h1 e h3 h4
  · have e : p = r := by omega
    subst e
    rw [hg (f + c), hg (f + p), if_neg (by omega), if_neg (by omega), if_neg (by omega), if_pos rfl]
    exact h.others x c (by omega) (by omega) h3 h4
theorem Heap.top {d : List Nat} {f hi : Nat} (h : Heap d f 0 hi) : ∀ c, c < hi → d.getD (f + c) 0 ≤ d.getD f 0 := by
  intro c
  induction c using Nat.strongRecOn with
  | _ c ih =>
    intro hc
    by_cases e : c = 0
    · subst e; exact Nat.le_refl _
    · exact Nat.le_trans (h ((c - 1) / 2) c (by omega) hc (by omega)) (ih ((c - 1) / 2) (by omega) (by omega))
/-- The greatest goes behind the rest: what the popping keeps. -/
structure Pop (m : List Nat) (a n i : Nat) : Prop where
  heap : Heap m a 0 i
  sorted : SortedOn m (a + i) (a + n)
  cross : ∀ p q, a ≤ p → p < a + i → a + i ≤ q → q < a + n → m.getD p 0 ≤ m.getD q 0
theorem Pop.sift {m : List Nat} {a n j : Nat} (h : Pop m a n (j + 1)) (hj : j < n) (hl : a + n ≤ m.length) : Heap (swp m a (a + j)) a 1 j := by
  intro p c h1 h2 h3
  have hg := fun k => swp_get m (i := a) (j := a + j) (by omega) (by omega) k
  rw [hg (a + c), hg (a + p), if_neg (by omega), if_neg (by omega), if_neg (by omega), if_neg (by omega)]
  exact h.heap p c (by omega) (by omega) h3
theorem Pop.step {m k : List Nat} {a n j : Nat} (h : Pop m a n (j + 1)) (hj : j < n) (hl : a + n ≤ m.length) (hT : Turned (swp m a (a + j)) k a (a + j)) (hk : Heap k a 0 j) : Pop k a n j := by
  have hg := fun k => swp_get m (i := a) (j := a + j) (by omega) (by omega) k
  have hout := fun q (hq : a + j ≤ q) => (hT.out q (Or.inr hq)).trans (hg q)
  refine ⟨hk, fun p q h1 h2 h3 => ?_, fun p q h1 h2 h3 h4 => ?_⟩
  · rw [hout p h1, hout q (by omega), if_neg (c := q = a + j) (by omega), if_neg (c := q = a) (by omega)]
    by_cases e : p = a + j
    · rw [if_pos e]
      exact h.cross a q (Nat.le_refl _) (by omega) (by omega) h3
    · rw [if_neg e, if_neg (by omega)]
      exact h.sorted p q (by omega) h2 h3
  · rw [hout q h3]
    refine hT.all (by omega) (by rw [swp_len]; omega) (fun x => x ≤ _) (fun p' g1 g2 => ?_) p h1 h2
    show (swp m a (a + j)).getD p' 0 ≤ _
    have htop := h.heap.top
    rw [hg p', if_neg (c := p' = a + j) (by omega)]
    by_cases e : q = a + j
    · rw [if_pos e]
      by_cases e2 : p' = a
      · rw [if_pos e2]; exact htop j (by omega)
      · rw [if_neg e2]
        have := htop (p' - a) (by omega)
        rwa [show a + (p' - a) = p' from by omega] at this
    · rw [if_neg e, if_neg (c := q = a) (by omega)]
      by_cases e2 : p' = a
      · rw [if_pos e2]; exact h.cross (a + j) q (by omega) (by omega) (by omega) h4
      · rw [if_neg e2]; exact h.cross p' q (by omega) (by omega) (by omega) h4
end Go.Proofs.Ytkpcajmphhdmiaa
namespace Go.Proofs.Ytkpcajmphhdmiaa
open Go.ChangeShapes Go.WideShapes Go.ChangeAt Go.RowKit
set_option linter.unusedVariables false
set_option maxRecDepth 20000 in
set_option maxHeartbeats 4000000 in
theorem sift_any (w : World) (g cap lo hi f : Nat) (d : List Nat) (tl : List Value) (h : Srow w g d tl) (hlo : lo ≤ hi) (hb : f + hi ≤ d.length) (hlen : d.length ≤ 1152921504606846976) (hH : Heap d f (lo + 1) hi) :
    Calls Try.prog 94 #[.slice (some ⟨g, 0, none⟩) d.length cap, .int .i64 (lo : Int), .int .i64 (hi : Int), .int .i64 (f : Int)] w fun e w' => e = .returned (.tuple #[]) ∧ ∃ m, Srow w' g m tl ∧ Turned d m f (f + hi) ∧ Heap m f lo hi ∧ Only g w w' := by
  have H := hidden h
  have HH := hidden hH
  clear h hH
  go_enter Try.func94, Try.ntmps94
  go_wp2
  go_loopw [8] (fun x8 wr => ∃ (r : Nat) (k : List Nat), r ≤ hi ∧ x8 = .int .i64 (r : Int) ∧ k.length = d.length ∧ Srow wr g k tl ∧ Turned d k f (f + hi) ∧ Sift k f lo hi r ∧ Only g w wr) (fun x8 _ => hi + 1 - (intOf x8).toNat)
  case atStart => exact ⟨lo, d, hlo, rfl, rfl, Hid.out H, Turned.refl _ _ _, Sift.start (Hid.out HH), Only.refl _ _⟩
  case round =>
    obtain ⟨r, k, hr, rfl, hkl, hS, hT, hI, hW⟩ := hrel
    have hle := hI.le
    have HS := hidden hS
    have HT := hidden hT
    have HI := hidden hI
    have HW := hidden hW
    by_cases hc : hi ≤ 2 * r + 1
    · have hc2 : (hi : Int) ≤ 2 * (r : Int) + 1 := by omega
      have HEND : Hid (Heap k f lo hi) := hI.leaf hc
      clear hS hT hI hW
      go_wp2
      go_end0
      exact ⟨rfl, k, Hid.out HS, Hid.out HT, Hid.out HEND, Hid.out HW⟩
    · have hc2 : ¬ (hi : Int) ≤ 2 * (r : Int) + 1 := by omega
      have hwr : IntKind.i64.wrap ((f : Int) + (r : Int)) = (f : Int) + (r : Int) := by rw [IntKind.wrap_i64]; omega
      have hcr := hS.cell (j := f + r) (by omega)
      have hzr := hS.thaw (f + r)
      have hc1 := hS.cell (j := f + (2 * r + 1)) (by omega)
      have hz1 := hS.thaw (f + (2 * r + 1))
      by_cases hd : 2 * r + 1 + 1 < hi
      · have hd2 : 2 * (r : Int) + 1 + 1 < (hi : Int) := by omega
        have hcc := hS.cell (j := f + (2 * r + 1) + 1) (by omega)
        have hzc := hS.thaw (f + (2 * r + 1) + 1)
        clear hS hT hI hW
        have HL1 := hidden (fun u => less_any (k.getD (f + (2 * r + 1)) 0) (k.getD (f + (2 * r + 1) + 1) 0) u)
        cases hdec : decide (k.getD (f + (2 * r + 1)) 0 < k.getD (f + (2 * r + 1) + 1) 0) with
        | true =>
          rw [hdec] at HL1
          have HLT1 := hidden (of_decide_eq_true hdec)
          clear hdec
          have HL2 := hidden (fun u => less_any (k.getD (f + r) 0) (k.getD (f + (2 * r + 1 + 1)) 0) u)
          have HBIG : Hid (∀ c, c < hi → (c = 2 * r + 1 ∨ c = 2 * r + 2) → k.getD (f + c) 0 ≤ k.getD (f + (2 * r + 1 + 1)) 0) := fun c h1 h2 => by
            have h3 := Hid.out HLT1
            rcases h2 with rfl | rfl
            · exact Nat.le_of_lt h3
            · exact Nat.le_refl _
          cases hdec2 : decide (k.getD (f + r) 0 < k.getD (f + (2 * r + 1 + 1)) 0) with
          | true =>
            rw [hdec2] at HL2
            have HLT2 := hidden (of_decide_eq_true hdec2)
            clear hdec2
            have HN : Hid (∀ w1 n, Srow w1 g k tl → Srow (((w1.drewN n).setCell ⟨g, f + r, none⟩ (.int .u32 ((k.getD (f + (2 * r + 1 + 1)) 0 : Nat) : Int))).setCell ⟨g, f + (2 * r + 1 + 1), none⟩ (.int .u32 ((k.getD (f + r) 0 : Nat) : Int))) g (swp k (f + r) (f + (2 * r + 1 + 1))) tl) := fun w1 n h0 => by
              have h1 := (h0.drewN n).set (j := f + r) (by omega) (k.getD (f + (2 * r + 1 + 1)) 0)
              have h2 := h1.set (j := f + (2 * r + 1 + 1)) (by rw [List.length_set]; omega) (k.getD (f + r) 0)
              exact h2
            have HNI : Hid (Sift (swp k (f + r) (f + (2 * r + 1 + 1))) f lo hi (2 * r + 1 + 1)) := (Hid.out HI).step (x := 2 * r + 1 + 1) (by omega) (by omega) (by omega) (Hid.out HLT2) (Hid.out HBIG)
            have HF : Hid (∀ w1 n, w1 = wr.drewN n → w1.cell? ⟨g, f + r, none⟩ = some (.int .u32 ((k.getD (f + r) 0 : Nat) : Int)) ∧ w1.cell? ⟨g, f + (2 * r + 1 + 1), none⟩ = some (.int .u32 ((k.getD (f + (2 * r + 1 + 1)) 0 : Nat) : Int)) ∧ w1.frozen? ⟨g, f + r, none⟩ = false ∧ w1.frozen? ⟨g, f + (2 * r + 1 + 1), none⟩ = false ∧ Srow w1 g k tl ∧ Only g w w1) := fun w1 n e => by
              subst e
              have h1 := (Hid.out HS).drewN n
              exact ⟨h1.cell (by omega), h1.cell (by omega), h1.thaw _, h1.thaw _, h1, (Hid.out HW).drewN n⟩
            generalize hx0 : k.getD (f + r) 0 = x0 at *
            generalize hx1 : k.getD (f + (2 * r + 1)) 0 = x1 at *
            generalize hx2 : k.getD (f + (2 * r + 1) + 1) 0 = x2 at HL1 hcc
            generalize hx3 : k.getD (f + (2 * r + 1 + 1)) 0 = x3 at HL2 HF HN
            clear hx0 hx1 hx2 hx3
            go_wp2
            go_quiet ((go_at_call 88; exact Calls.quiet_of_same (Hid.out HL1 _)))
            go_wp2
            generalize hwn : wr.drewN nq = w1
            have hwn2 := Hid.out HF _ _ hwn.symm
            clear hwn hcr hzr hc1 hz1 hcc hzc
            obtain ⟨hcr, hcx, hzr, hzx, hS1, hW1⟩ := hwn2
            have HS1 := hidden hS1
            have HW1 := hidden hW1
            clear hS1 hW1
            go_quiet ((go_at_call 88; exact Calls.quiet_of_same (Hid.out HL2 _)))
            go_wp2
            go_region
            all_goals go_wp2
            go_roundw
            case rel => exact ⟨2 * r + 1 + 1, swp k (f + r) (f + (2 * r + 1 + 1)), by omega, by simp, by rw [swp_len]; exact hkl, Hid.out HN _ _ (Hid.out HS1), (Hid.out HT).swp ⟨by omega, by omega⟩ ⟨by omega, by omega⟩ (by omega), Hid.out HNI, ((((Hid.out HW1).drewN _).setCell _ _).setCell _ _)⟩
            case measure => simp [intOf]; omega
          | false =>
            rw [hdec2] at HL2
            have HLT2 := hidden (of_decide_eq_false hdec2)
            clear hdec2
            have HEND : Hid (Heap k f lo hi) := (Hid.out HI).stop fun c h1 h2 => Nat.le_trans (Hid.out HBIG c h1 h2) (Nat.le_of_not_lt (Hid.out HLT2))
            have HF : Hid (∀ w1 n, w1 = wr.drewN n → w1.cell? ⟨g, f + r, none⟩ = some (.int .u32 ((k.getD (f + r) 0 : Nat) : Int)) ∧ w1.cell? ⟨g, f + (2 * r + 1 + 1), none⟩ = some (.int .u32 ((k.getD (f + (2 * r + 1 + 1)) 0 : Nat) : Int)) ∧ w1.frozen? ⟨g, f + r, none⟩ = false ∧ w1.frozen? ⟨g, f + (2 * r + 1 + 1), none⟩ = false ∧ Srow w1 g k tl ∧ Only g w w1) := fun w1 n e => by
              subst e
              have h1 := (Hid.out HS).drewN n
              exact ⟨h1.cell (by omega), h1.cell (by omega), h1.thaw _, h1.thaw _, h1, (Hid.out HW).drewN n⟩
            generalize hx0 : k.getD (f + r) 0 = x0 at *
            generalize hx1 : k.getD (f + (2 * r + 1)) 0 = x1 at *
            generalize hx2 : k.getD (f + (2 * r + 1) + 1) 0 = x2 at HL1 hcc
            generalize hx3 : k.getD (f + (2 * r + 1 + 1)) 0 = x3 at HL2 HF
            clear hx0 hx1 hx2 hx3
            go_wp2
            go_quiet ((go_at_call 88; exact Calls.quiet_of_same (Hid.out HL1 _)))
            go_wp2
            generalize hwn : wr.drewN nq = w1
            have hwn2 := Hid.out HF _ _ hwn.symm
            clear hwn hcr hzr hc1 hz1 hcc hzc
            obtain ⟨hcr, hcx, hzr, hzx, hS1, hW1⟩ := hwn2
            have HS1 := hidden hS1
            have HW1 := hidden hW1
            clear hS1 hW1
            go_quiet ((go_at_call 88; exact Calls.quiet_of_same (Hid.out HL2 _)))
            go_wp2
            first | go_end0 | refine bodyPost_ret (results_none rfl _ _ _) rfl ?_
            exact ⟨rfl, k, (Hid.out HS1).drewN _, Hid.out HT, Hid.out HEND, (Hid.out HW1).drewN _⟩
        | false =>
          rw [hdec] at HL1
          have HLT1 := hidden (of_decide_eq_false hdec)
          clear hdec
          have HL2 := hidden (fun u => less_any (k.getD (f + r) 0) (k.getD (f + (2 * r + 1)) 0) u)
          have HBIG : Hid (∀ c, c < hi → (c = 2 * r + 1 ∨ c = 2 * r + 2) → k.getD (f + c) 0 ≤ k.getD (f + (2 * r + 1)) 0) := fun c h1 h2 => by
            have h3 := Hid.out HLT1
            rcases h2 with rfl | rfl
            · exact Nat.le_refl _
            · exact Nat.le_of_not_lt h3
          cases hdec2 : decide (k.getD (f + r) 0 < k.getD (f + (2 * r + 1)) 0) with
          | true =>
            rw [hdec2] at HL2
            have HLT2 := hidden (of_decide_eq_true hdec2)
            clear hdec2
            have HN : Hid (∀ w1 n, Srow w1 g k tl → Srow (((w1.drewN n).setCell ⟨g, f + r, none⟩ (.int .u32 ((k.getD (f + (2 * r + 1)) 0 : Nat) : Int))).setCell ⟨g, f + (2 * r + 1), none⟩ (.int .u32 ((k.getD (f + r) 0 : Nat) : Int))) g (swp k (f + r) (f + (2 * r + 1))) tl) := fun w1 n h0 => by
              have h1 := (h0.drewN n).set (j := f + r) (by omega) (k.getD (f + (2 * r + 1)) 0)
              have h2 := h1.set (j := f + (2 * r + 1)) (by rw [List.length_set]; omega) (k.getD (f + r) 0)
              exact h2
            have HNI : Hid (Sift (swp k (f + r) (f + (2 * r + 1))) f lo hi (2 * r + 1)) := (Hid.out HI).step (x := 2 * r + 1) (by omega) (by omega) (by omega) (Hid.out HLT2) (Hid.out HBIG)
            have HF : Hid (∀ w1 n, w1 = wr.drewN n → w1.cell? ⟨g, f + r, none⟩ = some (.int .u32 ((k.getD (f + r) 0 : Nat) : Int)) ∧ w1.cell? ⟨g, f + (2 * r + 1), none⟩ = some (.int .u32 ((k.getD (f + (2 * r + 1)) 0 : Nat) : Int)) ∧ w1.frozen? ⟨g, f + r, none⟩ = false ∧ w1.frozen? ⟨g, f + (2 * r + 1), none⟩ = false ∧ Srow w1 g k tl ∧ Only g w w1) := fun w1 n e => by
              subst e
              have h1 := (Hid.out HS).drewN n
              exact ⟨h1.cell (by omega), h1.cell (by omega), h1.thaw _, h1.thaw _, h1, (Hid.out HW).drewN n⟩
            generalize hx0 : k.getD (f + r) 0 = x0 at *
            generalize hx1 : k.getD (f + (2 * r + 1)) 0 = x1 at *
            generalize hx2 : k.getD (f + (2 * r + 1) + 1) 0 = x2 at *
            clear hx0 hx1 hx2
            go_wp2
            go_quiet ((go_at_call 88; exact Calls.quiet_of_same (Hid.out HL1 _)))
            go_wp2
            generalize hwn : wr.drewN nq = w1
            have hwn2 := Hid.out HF _ _ hwn.symm
            clear hwn hcr hzr hc1 hz1 hcc hzc
            obtain ⟨hcr, hcx, hzr, hzx, hS1, hW1⟩ := hwn2
            have HS1 := hidden hS1
            have HW1 := hidden hW1
            clear hS1 hW1
            go_quiet ((go_at_call 88; exact Calls.quiet_of_same (Hid.out HL2 _)))
            go_wp2
            go_region
            all_goals go_wp2
            go_roundw
            case rel => exact ⟨2 * r + 1, swp k (f + r) (f + (2 * r + 1)), by omega, by simp, by rw [swp_len]; exact hkl, Hid.out HN _ _ (Hid.out HS1), (Hid.out HT).swp ⟨by omega, by omega⟩ ⟨by omega, by omega⟩ (by omega), Hid.out HNI, ((((Hid.out HW1).drewN _).setCell _ _).setCell _ _)⟩
            case measure => simp [intOf]; omega
          | false =>
            rw [hdec2] at HL2
            have HLT2 := hidden (of_decide_eq_false hdec2)
            clear hdec2
            have HEND : Hid (Heap k f lo hi) := (Hid.out HI).stop fun c h1 h2 => Nat.le_trans (Hid.out HBIG c h1 h2) (Nat.le_of_not_lt (Hid.out HLT2))
            have HF : Hid (∀ w1 n, w1 = wr.drewN n → w1.cell? ⟨g, f + r, none⟩ = some (.int .u32 ((k.getD (f + r) 0 : Nat) : Int)) ∧ w1.cell? ⟨g, f + (2 * r + 1), none⟩ = some (.int .u32 ((k.getD (f + (2 * r + 1)) 0 : Nat) : Int)) ∧ w1.frozen? ⟨g, f + r, none⟩ = false ∧ w1.frozen? ⟨g, f + (2 * r + 1), none⟩ = false ∧ Srow w1 g k tl ∧ Only g w w1) := fun w1 n e => by
              subst e
              have h1 := (Hid.out HS).drewN n
              exact ⟨h1.cell (by omega), h1.cell (by omega), h1.thaw _, h1.thaw _, h1, (Hid.out HW).drewN n⟩
            generalize hx0 : k.getD (f + r) 0 = x0 at *
            generalize hx1 : k.getD (f + (2 * r + 1)) 0 = x1 at *
            generalize hx2 : k.getD (f + (2 * r + 1) + 1) 0 = x2 at *
            clear hx0 hx1 hx2
            go_wp2
            go_quiet ((go_at_call 88; exact Calls.quiet_of_same (Hid.out HL1 _)))
            go_wp2
            generalize hwn : wr.drewN nq = w1
            have hwn2 := Hid.out HF _ _ hwn.symm
            clear hwn hcr hzr hc1 hz1 hcc hzc
            obtain ⟨hcr, hcx, hzr, hzx, hS1, hW1⟩ := hwn2
            have HS1 := hidden hS1
            have HW1 := hidden hW1
            clear hS1 hW1
            go_quiet ((go_at_call 88; exact Calls.quiet_of_same (Hid.out HL2 _)))
            go_wp2
            first | go_end0 | refine bodyPost_ret (results_none rfl _ _ _) rfl ?_
            exact ⟨rfl, k, (Hid.out HS1).drewN _, Hid.out HT, Hid.out HEND, (Hid.out HW1).drewN _⟩
      · have hd2 : decide (2 * (r : Int) + 1 + 1 < (hi : Int)) = false := by simp; omega
        clear hS hT hI hW
        have HL2 := hidden (fun u => less_any (k.getD (f + r) 0) (k.getD (f + (2 * r + 1)) 0) u)
        have HBIG : Hid (∀ c, c < hi → (c = 2 * r + 1 ∨ c = 2 * r + 2) → k.getD (f + c) 0 ≤ k.getD (f + (2 * r + 1)) 0) := fun c h1 h2 => by
          have e : c = 2 * r + 1 := by omega
          rw [e]
          exact Nat.le_refl _
        cases hdec2 : decide (k.getD (f + r) 0 < k.getD (f + (2 * r + 1)) 0) with
        | true =>
          rw [hdec2] at HL2
          have HLT2 := hidden (of_decide_eq_true hdec2)
          clear hdec2
          have HN : Hid (∀ w1 n, Srow w1 g k tl → Srow (((w1.drewN n).setCell ⟨g, f + r, none⟩ (.int .u32 ((k.getD (f + (2 * r + 1)) 0 : Nat) : Int))).setCell ⟨g, f + (2 * r + 1), none⟩ (.int .u32 ((k.getD (f + r) 0 : Nat) : Int))) g (swp k (f + r) (f + (2 * r + 1))) tl) := fun w1 n h0 => by
            have h1 := (h0.drewN n).set (j := f + r) (by omega) (k.getD (f + (2 * r + 1)) 0)
            have h2 := h1.set (j := f + (2 * r + 1)) (by rw [List.length_set]; omega) (k.getD (f + r) 0)
            exact h2
          have HNI : Hid (Sift (swp k (f + r) (f + (2 * r + 1))) f lo hi (2 * r + 1)) := (Hid.out HI).step (x := 2 * r + 1) (by omega) (by omega) (by omega) (Hid.out HLT2) (Hid.out HBIG)
          have HF : Hid (∀ w1 n, w1 = wr.drewN n → w1.cell? ⟨g, f + r, none⟩ = some (.int .u32 ((k.getD (f + r) 0 : Nat) : Int)) ∧ w1.cell? ⟨g, f + (2 * r + 1), none⟩ = some (.int .u32 ((k.getD (f + (2 * r + 1)) 0 : Nat) : Int)) ∧ w1.frozen? ⟨g, f + r, none⟩ = false ∧ w1.frozen? ⟨g, f + (2 * r + 1), none⟩ = false ∧ Srow w1 g k tl ∧ Only g w w1) := fun w1 n e => by
            subst e
            have h1 := (Hid.out HS).drewN n
            exact ⟨h1.cell (by omega), h1.cell (by omega), h1.thaw _, h1.thaw _, h1, (Hid.out HW).drewN n⟩
          generalize hx0 : k.getD (f + r) 0 = x0 at *
          generalize hx1 : k.getD (f + (2 * r + 1)) 0 = x1 at *
          clear hx0 hx1
          go_wp2
          go_quiet (fail)
          go_wp2
          generalize hwn : wr.drewN nq = w1
          have hwn2 := Hid.out HF _ _ hwn.symm
          clear hwn hcr hzr hc1 hz1
          obtain ⟨hcr, hcx, hzr, hzx, hS1, hW1⟩ := hwn2
          have HS1 := hidden hS1
          have HW1 := hidden hW1
          clear hS1 hW1
          go_quiet ((go_at_call 88; exact Calls.quiet_of_same (Hid.out HL2 _)))
          go_wp2
          go_region
          all_goals go_wp2
          go_roundw
          case rel => exact ⟨2 * r + 1, swp k (f + r) (f + (2 * r + 1)), by omega, by simp, by rw [swp_len]; exact hkl, Hid.out HN _ _ (Hid.out HS1), (Hid.out HT).swp ⟨by omega, by omega⟩ ⟨by omega, by omega⟩ (by omega), Hid.out HNI, ((((Hid.out HW1).drewN _).setCell _ _).setCell _ _)⟩
          case measure => simp [intOf]; omega
        | false =>
          rw [hdec2] at HL2
          have HLT2 := hidden (of_decide_eq_false hdec2)
          clear hdec2
          have HEND : Hid (Heap k f lo hi) := (Hid.out HI).stop fun c h1 h2 => Nat.le_trans (Hid.out HBIG c h1 h2) (Nat.le_of_not_lt (Hid.out HLT2))
          have HF : Hid (∀ w1 n, w1 = wr.drewN n → w1.cell? ⟨g, f + r, none⟩ = some (.int .u32 ((k.getD (f + r) 0 : Nat) : Int)) ∧ w1.cell? ⟨g, f + (2 * r + 1), none⟩ = some (.int .u32 ((k.getD (f + (2 * r + 1)) 0 : Nat) : Int)) ∧ w1.frozen? ⟨g, f + r, none⟩ = false ∧ w1.frozen? ⟨g, f + (2 * r + 1), none⟩ = false ∧ Srow w1 g k tl ∧ Only g w w1) := fun w1 n e => by
            subst e
            have h1 := (Hid.out HS).drewN n
            exact ⟨h1.cell (by omega), h1.cell (by omega), h1.thaw _, h1.thaw _, h1, (Hid.out HW).drewN n⟩
          generalize hx0 : k.getD (f + r) 0 = x0 at *
          generalize hx1 : k.getD (f + (2 * r + 1)) 0 = x1 at *
          clear hx0 hx1
          go_wp2
          go_quiet (fail)
          go_wp2
          generalize hwn : wr.drewN nq = w1
          have hwn2 := Hid.out HF _ _ hwn.symm
          clear hwn hcr hzr hc1 hz1
          obtain ⟨hcr, hcx, hzr, hzx, hS1, hW1⟩ := hwn2
          have HS1 := hidden hS1
          have HW1 := hidden hW1
          clear hS1 hW1
          go_quiet ((go_at_call 88; exact Calls.quiet_of_same (Hid.out HL2 _)))
          go_wp2
          first | go_end0 | refine bodyPost_ret (results_none rfl _ _ _) rfl ?_
          exact ⟨rfl, k, (Hid.out HS1).drewN _, Hid.out HT, Hid.out HEND, (Hid.out HW1).drewN _⟩
end Go.Proofs.Ytkpcajmphhdmiaa
