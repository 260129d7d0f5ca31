/- The library's sort of words: what holds in its round. -/
import Derived.Test.YtpknppicamefgaaPSA
import Derived.Test.YtpknppicamefgaaPPartEq
import Derived.Test.YtpknppicamefgaaPParting
import Derived.Test.YtpknppicamefgaaPPivots
import Derived.Test.YtpknppicamefgaaPPartIns
namespace Go.Proofs.Ytpknppicamefgaa
open Go.ChangeShapes Go.WideShapes Go.ChangeAt Go.RowKit
set_option linter.unusedVariables false
def Low (m : List Nat) (a b : Nat) : Prop := 0 < a → ∀ p, a ≤ p → p < b → m.getD (a - 1) 0 ≤ m.getD p 0
/-- Within [A, B) all but what lies in [a, b) is in its place. -/
def Ord (m : List Nat) (A B a b : Nat) : Prop := ∀ p q, A ≤ p → p < q → q < B → (p < a ∨ b ≤ q) → m.getD p 0 ≤ m.getD q 0
structure Pq (w wx : World) (g : Nat) (d m : List Nat) (tl : List Value) (A B a b : Nat) : Prop where
  row : Srow wx g m tl
  tur : Turned d m A B
  ord : Ord m A B a b
  low : Low m a b
  keep : Keep (· = g) w wx
theorem Pq.len {w wx : World} {g A B a b : Nat} {d m : List Nat} {tl : List Value} (h : Pq w wx g d m tl A B a b) : m.length = d.length := h.tur.len
theorem Keep.thru {g : Nat} {u v w : World} (h : Keep (· = g) u v) (k : Keep (· = g) v w) : Keep (· = g) u w := h.trans k fun _ _ e => e
theorem Pq.turned {w wx wy : World} {g A B a b : Nat} {d m k : List Nat} {tl : List Value} (h : Pq w wx g d m tl A B a b) (hr : Srow wy g k tl) (ht : Turned m k a b) (hk : Keep (· = g) wx wy) (h1 : A ≤ a) (h2 : a ≤ b) (h3 : b ≤ B) (h4 : B ≤ d.length) : Pq w wy g d k tl A B a b := by
  have hl := h.len
  refine ⟨hr, h.tur.trans (ht.wide h1 h3), fun p q hp hpq hq hor => ?_, fun ha p hp hpb => ?_, h.keep.thru hk⟩
  · rcases hor with hpa | hqb
    · rw [ht.out p (by omega)]
      by_cases hin : a ≤ q ∧ q < b
      · exact ht.all h2 (by omega) (fun x => m.getD p 0 ≤ x) (fun j j1 j2 => h.ord p j hp (by omega) (by omega) (.inl hpa)) q hin.1 hin.2
      · rw [ht.out q (by omega)]
        exact h.ord p q hp hpq hq (.inl hpa)
    · rw [ht.out q (by omega)]
      by_cases hin : a ≤ p ∧ p < b
      · exact ht.all h2 (by omega) (fun x => x ≤ m.getD q 0) (fun j j1 j2 => h.ord j q (by omega) (by omega) hq (.inr hqb)) p hin.1 hin.2
      · rw [ht.out p (by omega)]
        exact h.ord p q hp hpq hq (.inr hqb)
  · rw [ht.out (a - 1) (by omega)]
    exact ht.all h2 (by omega) (fun x => m.getD (a - 1) 0 ≤ x) (fun j j1 j2 => h.low ha j j1 j2) p hp hpb
theorem Pq.done {w wx : World} {g A B a b : Nat} {d m : List Nat} {tl : List Value} (h : Pq w wx g d m tl A B a b) (hs : SortedOn m a b) : SortedOn m A B := by
  intro p q hp hpq hq
  by_cases hin : p < a ∨ b ≤ q
  · exact h.ord p q hp hpq hq hin
  · exact hs p q (by omega) hpq (by omega)
/-- Behind partitionEqual. -/
theorem Pq.equal {w wx : World} {g A B a b i j : Nat} {d m : List Nat} {tl : List Value} (h : Pq w wx g d m tl A B a b) (ha : 0 < a) (hv : m.getD a 0 ≤ m.getD (a - 1) 0) (hp : PEq m a b i j) (h1 : A ≤ a) (hai : a < i) (hib : i ≤ b) (h3 : b ≤ B) : Pq w wx g d m tl A B i b := by
  have hlow : ∀ p q, a ≤ p → p < i → a ≤ q → q < b → m.getD p 0 ≤ m.getD q 0 := fun p q p1 p2 q1 q2 => Nat.le_trans (hp.low p p1 p2) (Nat.le_trans hv (h.low ha q q1 q2))
  refine ⟨h.row, h.tur, fun p q hp1 hpq hq hor => ?_, fun _ p hp1 hp2 => hlow (i - 1) p (by omega) (by omega) (by omega) hp2, h.keep⟩
  by_cases hin : p < a ∨ b ≤ q
  · exact h.ord p q hp1 hpq hq hin
  · exact hlow p q (by omega) (by omega) (by omega) (by omega)
/-- Behind partition and the sort of the left part. -/
theorem Pq.left {w wx wy : World} {g A B a b j : Nat} {d m k : List Nat} {tl : List Value} (h : Pq w wx g d m tl A B a b) (hm : Mid m a b j) (hr : Srow wy g k tl) (ht : Turned m k a j) (hs : SortedOn k a j) (hk : Keep (· = g) wx wy) (h1 : A ≤ a) (haj : a ≤ j) (hjb : j < b) (h3 : b ≤ B) (h4 : B ≤ d.length) : Pq w wy g d k tl A B (j + 1) b := by
  have hl := h.len
  have hP := h.turned hr (ht.wide (Nat.le_refl _) (Nat.le_of_lt hjb)) hk h1 (by omega) h3 h4
  have hj : k.getD j 0 = m.getD j 0 := ht.out j (by omega)
  have hhi : ∀ q, j < q → q < b → k.getD j 0 ≤ k.getD q 0 := fun q q1 q2 => by rw [hj, ht.out q (by omega)]; exact hm.high q q1 q2
  have hlo : ∀ p, a ≤ p → p < j → k.getD p 0 ≤ k.getD j 0 := fun p p1 p2 => by
    rw [hj]
    exact ht.all haj (by omega) (fun x => x ≤ m.getD j 0) (fun i i1 i2 => hm.low i i1 i2) p p1 p2
  refine ⟨hr, hP.tur, fun p q hp1 hpq hq hor => ?_, fun _ p hp1 hp2 => by rw [Nat.add_sub_cancel]; exact hhi p (by omega) hp2, hP.keep⟩
  by_cases hin : p < a ∨ b ≤ q
  · exact hP.ord p q hp1 hpq hq hin
  · by_cases hpj : p = j
    · subst hpj
      exact hhi q hpq (by omega)
    · have hpj2 : p < j := by omega
      by_cases hqj : q < j
      · exact hs p q (by omega) hpq hqj
      · by_cases hqe : q = j
        · subst hqe
          exact hlo p (by omega) hpj2
        · exact Nat.le_trans (hlo p (by omega) hpj2) (hhi q (by omega) (by omega))
/-- Behind partition and the sort of the right part. -/
theorem Pq.right {w wx wy : World} {g A B a b j : Nat} {d m k : List Nat} {tl : List Value} (h : Pq w wx g d m tl A B a b) (hm : Mid m a b j) (hr : Srow wy g k tl) (ht : Turned m k (j + 1) b) (hs : SortedOn k (j + 1) b) (hk : Keep (· = g) wx wy) (h1 : A ≤ a) (haj : a ≤ j) (hjb : j < b) (h3 : b ≤ B) (h4 : B ≤ d.length) : Pq w wy g d k tl A B a j := by
  have hl := h.len
  have hP := h.turned hr (ht.wide (by omega) (Nat.le_refl _)) hk h1 (by omega) h3 h4
  have hj : k.getD j 0 = m.getD j 0 := ht.out j (by omega)
  have hlo : ∀ p, a ≤ p → p < j → k.getD p 0 ≤ k.getD j 0 := fun p p1 p2 => by rw [hj, ht.out p (by omega)]; exact hm.low p p1 p2
  have hhi : ∀ q, j < q → q < b → k.getD j 0 ≤ k.getD q 0 := fun q q1 q2 => by
    rw [hj]
    exact ht.all (by omega) (by omega) (fun x => m.getD j 0 ≤ x) (fun i i1 i2 => hm.high i (by omega) i2) q (by omega) q2
  refine ⟨hr, hP.tur, fun p q hp1 hpq hq hor => ?_, fun ha p hp1 hp2 => hP.low ha p hp1 (by omega), hP.keep⟩
  by_cases hin : p < a ∨ b ≤ q
  · exact hP.ord p q hp1 hpq hq hin
  · by_cases hqj : q = j
    · subst hqj
      exact hlo p (by omega) hpq
    · have hqj2 : j < q := by omega
      by_cases hpj : j < p
      · exact hs p q (by omega) hpq (by omega)
      · by_cases hpe : p = j
        · subst hpe
          exact hhi q hqj2 (by omega)
        · exact Nat.le_trans (hlo p (by omega) (by omega)) (hhi q hqj2 (by omega))
end Go.Proofs.Ytpknppicamefgaa
