/- Words put into order by a heap: what the library's sort falls back to. -/
import Derived.Test.YtodoenimlhldjaaQMAH
namespace Go.Proofs.Ytodoenimlhldjaa
open Go.ChangeShapes Go.WideShapes Go.ChangeAt Go.RowKit
set_option linter.unusedVariables false
theorem getD_ext {d m : List Nat} (hl : m.length = d.length) (h : ∀ p, p < d.length → m.getD p 0 = d.getD p 0) : m = d := by
  refine List.ext_getElem hl fun p h1 h2 => ?_
  have := h p h2
  rw [List.getD_eq_getElem?_getD, List.getD_eq_getElem?_getD, List.getElem?_eq_getElem h1, List.getElem?_eq_getElem h2] at this
  simpa using this
theorem Turned.len {d m : List Nat} {a b : Nat} (h : Turned d m a b) : m.length = d.length := h.perm.length_eq
theorem Turned.inner {d m : List Nat} {a b : Nat} (h : Turned d m a b) (hab : a ≤ b) : ((m.drop a).take (b - a)).Perm ((d.drop a).take (b - a)) := by
  have hl := h.len
  have e1 : m.take a = d.take a := by
    refine getD_ext (by simp [hl]) fun p hp => ?_
    have hp2 : p < a := by simp at hp; omega
    have := h.out p (Or.inl hp2)
    simpa [List.getD_eq_getElem?_getD, List.getElem?_take, hp2] using this
  have e2 : m.drop b = d.drop b := by
    refine getD_ext (by simp [hl]) fun p hp => ?_
    have := h.out (b + p) (Or.inr (by omega))
    simpa [List.getD_eq_getElem?_getD, List.getElem?_drop] using this
  have s : ∀ l : List Nat, l = l.take a ++ ((l.drop a).take (b - a) ++ l.drop b) := fun l => by
    have h2 : (l.drop a).drop (b - a) = l.drop b := by rw [List.drop_drop]; congr 1; omega
    rw [← h2, List.take_append_drop, List.take_append_drop]
  have hp := h.perm
  rw [s m, s d, e1, e2] at hp
  exact (List.perm_append_right_iff _).1 ((List.perm_append_left_iff _).1 hp)
theorem mem_inner {l : List Nat} {a b : Nat} (hb : b ≤ l.length) (x : Nat) : x ∈ (l.drop a).take (b - a) ↔ ∃ p, a ≤ p ∧ p < b ∧ l.getD p 0 = x := by
  constructor
  · intro h
    obtain ⟨k, hk, rfl⟩ := List.getElem_of_mem h
    have hk2 : k < b - a := by simp at hk; omega
    refine ⟨a + k, by omega, by omega, ?_⟩
    rw [List.getElem_take, List.getElem_drop, List.getD_eq_getElem?_getD, List.getElem?_eq_getElem (by omega)]
    rfl
  · rintro ⟨p, h1, h2, rfl⟩
    have h3 : p - a < ((l.drop a).take (b - a)).length := by simp; omega
    have h4 := List.getElem_mem h3
    rw [List.getElem_take, List.getElem_drop] at h4
    have e : a + (p - a) = p := by omega
    rw [List.getD_eq_getElem?_getD, List.getElem?_eq_getElem (by omega)]
    simpa [e] using h4
/-- What holds of all between a and b holds of them when turned. -/
theorem Turned.all {d m : List Nat} {a b : Nat} (h : Turned d m a b) (hab : a ≤ b) (hb : b ≤ d.length) (P : Nat → Prop) (hP : ∀ p, a ≤ p → p < b → P (d.getD p 0)) : ∀ p, a ≤ p → p < b → P (m.getD p 0) := by
  intro p h1 h2
  have h3 : m.getD p 0 ∈ (m.drop a).take (b - a) := (mem_inner (by rw [h.len]; exact hb) _).2 ⟨p, h1, h2, rfl⟩
  obtain ⟨q, h4, h5, h6⟩ := (mem_inner hb _).1 ((h.inner hab).mem_iff.1 h3)
  rw [← h6]
  exact hP q h4 h5
theorem Turned.wide {d m : List Nat} {a b a2 b2 : Nat} (h : Turned d m a b) (ha : a2 ≤ a) (hb : b ≤ b2) : Turned d m a2 b2 := ⟨h.perm, fun p hp => h.out p (by omega)⟩
/-- A heap at f: from lo on, ahead of hi, none is above the one that it hangs at. -/
def Heap (d : List Nat) (f lo hi : Nat) : Prop := ∀ p c, lo ≤ p → c < hi → (c = 2 * p + 1 ∨ c = 2 * p + 2) → d.getD (f + c) 0 ≤ d.getD (f + p) 0
/-- On the way: the one at r goes down. -/
structure Sift (d : List Nat) (f lo hi r : Nat) : Prop where
  le : lo ≤ r
  others : ∀ p c, lo ≤ p → p ≠ r → c < hi → (c = 2 * p + 1 ∨ c = 2 * p + 2) → d.getD (f + c) 0 ≤ d.getD (f + p) 0
  over : ∀ p c, lo ≤ p → (r = 2 * p + 1 ∨ r = 2 * p + 2) → c < hi → (c = 2 * r + 1 ∨ c = 2 * r + 2) → d.getD (f + c) 0 ≤ d.getD (f + p) 0
theorem Sift.start {d : List Nat} {f lo hi : Nat} (h : Heap d f (lo + 1) hi) : Sift d f lo hi lo := ⟨Nat.le_refl _, fun p c h1 h2 h3 h4 => h p c (by omega) h3 h4, fun p c h1 h2 h3 h4 => by omega⟩
theorem Sift.leaf {d : List Nat} {f lo hi r : Nat} (h : Sift d f lo hi r) (hr : hi ≤ 2 * r + 1) : Heap d f lo hi := by
  intro p c h1 h2 h3
  by_cases e : p = r
  · omega
  · exact h.others p c h1 e h2 h3
theorem Sift.stop {d : List Nat} {f lo hi r : Nat} (h : Sift d f lo hi r) (hs : ∀ c, c < hi → (c = 2 * r + 1 ∨ c = 2 * r + 2) → d.getD (f + c) 0 ≤ d.getD (f + r) 0) : Heap d f lo hi := by
  intro p c h1 h2 h3
  by_cases e : p = r
  · subst e; exact hs c h2 h3
  · exact h.others p c h1 e h2 h3
theorem Sift.step {d : List Nat} {f lo hi r x : Nat} (h : Sift d f lo hi r) (hx : x < hi) (hx2 : x = 2 * r + 1 ∨ x = 2 * r + 2) (hl : f + hi ≤ d.length) (hs : d.getD (f + r) 0 < d.getD (f + x) 0)
    (hbig : ∀ c, c < hi → (c = 2 * r + 1 ∨ c = 2 * r + 2) → d.getD (f + c) 0 ≤ d.getD (f + x) 0) : Sift (swp d (f + r) (f + x)) f lo hi x := by
  have hle := h.le
  have hg := fun k => swp_get d (i := f + r) (j := f + x) (by omega) (by omega) k
  refine ⟨by omega, fun p c h1 h2 h3 h4 => ?_, fun p c h1 h2 h3 h4 => ?_⟩
  · rw [hg (f + c), hg (f + p), if_neg (c := f + p = f + x) (by omega)]
    by_cases e : p = r
    · subst e
      rw [if_pos (c := f + p = f + p) rfl]
      by_cases e2 : c = x
      · rw [if_pos (by omega)]; omega
      · rw [if_neg (by omega), if_neg (by omega)]
        exact hbig c h3 h4
    · rw [if_neg (c := f + p = f + r) (by omega), if_neg (c := f + c = f + x) (by omega)]
      by_cases e3 : c = r
      · rw [if_pos (by omega)]
        exact h.over p x h1 (by omega) hx hx2
      · rw [if_neg (by omega)]
        exact h.others p c h1 e h3 h4
  · have e : p = r := by omega
    subst e
    rw [hg (f + c), hg (f + p), if_neg (by omega), if_neg (by omega), if_neg (by omega), if_pos rfl]
    exact h.others x c (by omega) (by omega) h3 h4
theorem Heap.top {d : List Nat} {f hi : Nat} (h : Heap d f 0 hi) : ∀ c, c < hi → d.getD (f + c) 0 ≤ d.getD f 0 := by
  intro c
  induction c using Nat.strongRecOn with
  | _ c ih =>
    intro hc
    by_cases e : c = 0
    · subst e; exact Nat.le_refl _
    · exact Nat.le_trans (h ((c - 1) / 2) c (by omega) hc (by omega)) (ih ((c - 1) / 2) (by omega) (by omega))
/-- The greatest goes behind the rest: what the popping keeps. -/
structure Pop (m : List Nat) (a n i : Nat) : Prop where
  heap : Heap m a 0 i
  sorted : SortedOn m (a + i) (a + n)
  cross : ∀ p q, a ≤ p → p < a + i → a + i ≤ q → q < a + n → m.getD p 0 ≤ m.getD q 0
theorem Pop.sift {m : List Nat} {a n j : Nat} (h : Pop m a n (j + 1)) (hj : j < n) (hl : a + n ≤ m.length) : Heap (swp m a (a + j)) a 1 j := by
  intro p c h1 h2 h3
  have hg := fun k => swp_get m (i := a) (j := a + j) (by omega) (by omega) k
  rw [hg (a + c), hg (a + p), if_neg (by omega), if_neg (by omega), if_neg (by omega), if_neg (by omega)]
  exact h.heap p c (by omega) (by omega) h3
theorem Pop.step {m k : List Nat} {a n j : Nat} (h : Pop m a n (j + 1)) (hj : j < n) (hl : a + n ≤ m.length) (hT : Turned (swp m a (a + j)) k a (a + j)) (hk : Heap k a 0 j) : Pop k a n j := by
  have hg := fun k => swp_get m (i := a) (j := a + j) (by omega) (by omega) k
  have hout := fun q (hq : a + j ≤ q) => (hT.out q (Or.inr hq)).trans (hg q)
  refine ⟨hk, fun p q h1 h2 h3 => ?_, fun p q h1 h2 h3 h4 => ?_⟩
  · rw [hout p h1, hout q (by omega), if_neg (c := q = a + j) (by omega), if_neg (c := q = a) (by omega)]
    by_cases e : p = a + j
    · rw [if_pos e]
      exact h.cross a q (Nat.le_refl _) (by omega) (by omega) h3
    · rw [if_neg e, if_neg (by omega)]
      exact h.sorted p q (by omega) h2 h3
  · rw [hout q h3]
    refine hT.all (by omega) (by rw [swp_len]; omega) (fun x => x ≤ _) (fun p' g1 g2 => ?_) p h1 h2
    show (swp m a (a + j)).getD p' 0 ≤ _
    have htop := h.heap.top
    rw [hg p', if_neg (c := p' = a + j) (by omega)]
    by_cases e : q = a + j
    · rw [if_pos e]
      by_cases e2 : p' = a
      · rw [if_pos e2]; exact htop j (by omega)
      · rw [if_neg e2]
        have := htop (p' - a) (by omega)
        rwa [show a + (p' - a) = p' from by omega] at this
    · rw [if_neg e, if_neg (c := q = a) (by omega)]
      by_cases e2 : p' = a
      · rw [if_pos e2]; exact h.cross (a + j) q (by omega) (by omega) (by omega) h4
      · rw [if_neg e2]; exact h.cross p' q (by omega) (by omega) (by omega) h4
end Go.Proofs.Ytodoenimlhldjaa
