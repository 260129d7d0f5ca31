/- A memory of one part. -/
import Derived.Test.YtfbmkgdpejgjpaaPSpans
import Derived.Test.YtfbmkgdpejgjpaaPSameLaws
namespace Go.Proofs.Ytfbmkgdpejgjpaa
open Go.ChangeShapes Go.WideShapes Go.ChangeAt Go.RowKit
set_option linter.unusedVariables false
theorem full_amap {f : AM} (hf : Full f) (a : Nat) (z : Int) : Full (amap f a z) := by
  intro k x hx
  unfold amap at hx
  by_cases e : k = pageOf a
  · subst e
    rw [if_pos rfl] at hx
    cases hq : f (pageOf a) with
    | none =>
      rw [hq] at hx
      simp at hx
      rw [← hx]
      exact zeros_len
    | some y =>
      rw [hq] at hx
      simp at hx
      rw [← hx]
      show y.1.length = 256
      exact hf _ _ hq
  · rw [if_neg e] at hx
    exact hf _ _ hx
theorem full_apoke {f : AM} (hf : Full f) (a : Nat) (v : UInt8) : Full (apoke f a v) := by
  intro k x hx
  unfold apoke at hx
  by_cases e : k = pageOf a
  · subst e
    rw [if_pos rfl] at hx
    cases hq : f (pageOf a) with
    | none => rw [hq] at hx; simp at hx
    | some y =>
      rw [hq] at hx
      simp at hx
      rw [← hx]
      simpa using hf _ _ hq
  · rw [if_neg e] at hx
    exact hf _ _ hx
theorem full_maps {f : AM} (hf : Full f) (p : Part4) : ∀ k, Full (partMaps f p k)
  | 0 => hf
  | k + 1 => full_amap (full_maps hf p k) _ _
theorem full_pokes {f : AM} (hf : Full f) (p : Part4) : ∀ k, Full (partPokes f p k)
  | 0 => hf
  | k + 1 => full_apoke (full_pokes hf p k) _ _
theorem some_amap (f : AM) (a : Nat) (z : Int) (k : Nat) : (amap f a z k).isSome = (decide (k = pageOf a) || (f k).isSome) := by
  unfold amap
  by_cases e : k = pageOf a
  · rw [if_pos e, decide_eq_true e]
    cases f k with
    | none => rfl
    | some y => rfl
  · rw [if_neg e, decide_eq_false e, Bool.false_or]
theorem some_apoke (f : AM) (a : Nat) (v : UInt8) (k : Nat) : (apoke f a v k).isSome = (f k).isSome := by
  unfold apoke
  split <;> simp
theorem some_awatch (f : AM) (a : Nat) (v : Bool) (k : Nat) : (awatch f a v k).isSome = (f k).isSome := by
  unfold awatch
  split <;> simp
theorem some_pokes (f : AM) (p : Part4) (q : Nat) : ∀ k, (partPokes f p k q).isSome = (f q).isSome
  | 0 => rfl
  | k + 1 => by rw [partPokes, some_apoke, some_pokes f p q k]
theorem some_maps (p : Part4) (q : Nat) : ∀ k, (partMaps (fun _ => none) p k q).isSome = true ↔ ∃ j, j < k ∧ q = pageOf (wrapAt p.at_ j)
  | 0 => by simp [partMaps]
  | k + 1 => by
    rw [partMaps, some_amap, Bool.or_eq_true, some_maps p q k, decide_eq_true_eq]
    constructor
    · rintro (h | ⟨j, hj, h⟩)
      · exact ⟨k, by omega, h⟩
      · exact ⟨j, by omega, h⟩
    · rintro ⟨j, hj, h⟩
      by_cases e : j = k
      · subst e; exact .inl h
      · exact .inr ⟨j, by omega, h⟩
theorem getA_poke {f : AM} (hf : Full f) {a : Nat} (hs : (f (pageOf a)).isSome = true) (v : UInt8) (b : Nat) : getA (apoke f a v) b = if b = a then v else getA f b := by
  have hlt := Nat.mod_lt a (show 256 > 0 by omega)
  unfold getA apoke
  by_cases e : pageOf b = pageOf a
  · rw [if_pos e, e]
    cases hq : f (pageOf a) with
    | none => rw [hq] at hs; cases hs
    | some y =>
      have hl := hf _ _ hq
      simp only [Option.map_some]
      by_cases e2 : b = a
      · rw [if_pos e2, e2]
        simp [List.getD_eq_getElem?_getD, hl, hlt]
      · have hne : a % 256 ≠ b % 256 := by unfold pageOf at e; omega
        rw [if_neg e2]
        simp only [List.getD_eq_getElem?_getD, List.getElem?_set_ne hne]
  · rw [if_neg e, if_neg (fun e2 => e (by rw [e2]))]
theorem pokes_get {f : AM} (hf : Full f) (p : Part4) (hm : ∀ j, j < p.data.length → (f (pageOf (wrapAt p.at_ j))).isSome = true) (hsm : p.at_ + p.data.length ≤ 4294967296) : ∀ k, k ≤ p.data.length → ∀ j, j < k → getA (partPokes f p k) (wrapAt p.at_ j) = p.data.getD j 0
  | 0, _, j, hj => by omega
  | k + 1, hk, j, hj => by
    rw [partPokes, getA_poke (full_pokes hf p k) (by rw [some_pokes]; exact hm k (by omega))]
    by_cases e : j = k
    · subst e
      rw [if_pos rfl]
    · have hne : wrapAt p.at_ j ≠ wrapAt p.at_ k := by unfold wrapAt; omega
      rw [if_neg hne]
      exact pokes_get hf p hm hsm k (by omega) j (by omega)
theorem getA_watch (f : AM) (a : Nat) (v : Bool) (b : Nat) : getA (awatch f a v) b = getA f b := by
  unfold getA awatch
  by_cases e : pageOf b = pageOf a
  · rw [if_pos e]
    cases f (pageOf b) with
    | none => rfl
    | some y => rfl
  · rw [if_neg e]
theorem one_get (p : Part4) (hl : 1 ≤ p.data.length) (hsm : p.at_ + p.data.length ≤ 4294967296) (j : Nat) (hj : j < p.data.length) : getA (memOf [p]) (wrapAt p.at_ j) = p.data.getD j 0 := by
  show getA (awatch (partDone (fun _ => none) p) p.at_ p.on) _ = _
  rw [getA_watch]
  unfold partDone
  rw [show max p.data.length 1 = p.data.length by omega]
  exact pokes_get (full_maps (fun _ _ h => by cases h) p _) p (fun j hj => (some_maps p _ _).2 ⟨j, hj, rfl⟩) hsm _ (Nat.le_refl _) j hj
theorem one_some (p : Part4) (hl : 1 ≤ p.data.length) (q : Nat) : (memOf [p] q).isSome = true ↔ ∃ j, j < p.data.length ∧ q = pageOf (wrapAt p.at_ j) := by
  show (awatch (partDone (fun _ => none) p) p.at_ p.on q).isSome = true ↔ _
  rw [some_awatch]
  unfold partDone
  rw [some_pokes, show max p.data.length 1 = p.data.length by omega]
  exact some_maps p q _
/-- How many pages. -/
theorem one_pages {w : World} {s : MS} {p : Part4} (h : MemW w s) (hab : s.abs = memOf [p]) (hl : 1 ≤ p.data.length) (hat : p.at_ < 256) (hsm : p.data.length ≤ 401) : s.ks.length = (p.at_ + (p.data.length - 1)) / 256 + 1 := by
  have hmem : ∀ k, k ∈ s.ks ↔ k ∈ (List.range ((p.at_ + (p.data.length - 1)) / 256 + 1)).map (· * 256) := by
    intro k
    rw [mem_abs, hab, one_some p hl, List.mem_map]
    constructor
    · rintro ⟨j, hj, e⟩
      refine ⟨k / 256, List.mem_range.2 ?_, ?_⟩
      · unfold pageOf wrapAt at e
        omega
      · unfold pageOf wrapAt at e
        omega
    · rintro ⟨q, hq, e⟩
      rw [List.mem_range] at hq
      refine ⟨if q = 0 then 0 else q * 256 - p.at_, ?_, ?_⟩
      · split <;> omega
      · unfold pageOf wrapAt
        split <;> omega
  have hnd : ((List.range ((p.at_ + (p.data.length - 1)) / 256 + 1)).map (· * 256)).Nodup := by
    refine List.pairwise_map.2 (List.Pairwise.imp ?_ List.nodup_range)
    intro x y hxy e
    have : x * 256 = y * 256 := e
    omega
  have := length_of_same h.nodup hnd hmem
  simpa using this
end Go.Proofs.Ytfbmkgdpejgjpaa
