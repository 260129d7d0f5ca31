/- When two memories are the same. -/
import Derived.Test.YtfbmkgdpejgjpaaPMakes
namespace Go.Proofs.Ytfbmkgdpejgjpaa
open Go.ChangeShapes Go.WideShapes Go.ChangeAt Go.RowKit
set_option linter.unusedVariables false
/-- What counts of a memory's pages: their bytes and perms. -/
def seen (f : AM) : Nat → Option (List UInt8 × Int) := fun k => (f k).map fun x => (x.1, x.2.1)
theorem length_of_same {l m : List Nat} (hl : l.Nodup) (hm : m.Nodup) (h : ∀ k, k ∈ l ↔ k ∈ m) : l.length = m.length := ((List.perm_ext_iff_of_nodup hl hm).2 h).length_eq
theorem back_of_len : ∀ (l m : List Nat), l.Nodup → (∀ k, k ∈ l → k ∈ m) → m.length ≤ l.length → ∀ k, k ∈ m → k ∈ l
  | [], m, _, _, h, k, hk => by
    have := List.eq_nil_of_length_eq_zero (l := m) (by simpa using h)
    rw [this] at hk
    cases hk
  | a :: l, m, hn, hs, h, k, hk => by
    obtain ⟨ha, hl⟩ := List.nodup_cons.1 hn
    have ham := hs a (by simp)
    have hlen := List.length_erase_of_mem ham
    by_cases e : k = a
    · simp [e]
    · refine List.mem_cons_of_mem _ (back_of_len l (m.erase a) hl (fun j hj => ?_) ?_ k ?_)
      · exact (List.mem_erase_of_ne (fun e' : j = a => ha (by rw [← e']; exact hj))).2 (hs j (by simp [hj]))
      · simp only [List.length_cons] at h
        omega
      · exact (List.mem_erase_of_ne e).2 hk
theorem sameM_iff {w : World} {s t : MS} (hs : MemW w s) (ht : MemW w t) : sameM s t = true ↔ seen s.abs = seen t.abs := by
  unfold sameM
  rw [Bool.and_eq_true, decide_eq_true_eq, List.all_eq_true]
  constructor
  · rintro ⟨hlen, hall⟩
    have hsub : ∀ k, k ∈ s.ks → k ∈ t.ks := by
      intro k hk
      have := hall k hk
      simp [goodAt] at this
      exact this.1
    have hback : ∀ k, k ∈ t.ks → k ∈ s.ks := by
      exact back_of_len s.ks t.ks hs.nodup hsub (by omega)
    funext k
    unfold seen
    by_cases hk : k ∈ s.ks
    · have := hall k hk
      simp [goodAt] at this
      rw [abs_in hk, abs_in (hsub k hk)]
      simp [this.2]
    · rw [abs_out hk, abs_out fun h => hk (hback k h)]
  · intro h
    have hm : ∀ k, k ∈ s.ks ↔ k ∈ t.ks := by
      intro k
      have := congrFun h k
      unfold seen at this
      rw [mem_abs, mem_abs, ← Option.isSome_map (f := fun x : List UInt8 × Int × Bool => (x.1, x.2.1)), this, Option.isSome_map]
    refine ⟨length_of_same hs.nodup ht.nodup hm, fun k hk => ?_⟩
    have := congrFun h k
    unfold seen at this
    rw [abs_in hk, abs_in ((hm k).1 hk)] at this
    simp at this
    simp [goodAt, (hm k).1 hk, this.1, this.2]
theorem sameM_eq {w : World} {s t : MS} (hs : MemW w s) (ht : MemW w t) (h : seen s.abs = seen t.abs) : sameM s t = true := (sameM_iff hs ht).2 h
theorem seen_copy {s t : MS} (h : CopyOf s t) : seen t.abs = seen s.abs := by
  funext k
  unfold seen
  by_cases hk : k ∈ t.ks
  · rw [abs_in hk, abs_in ((h.ks k).1 hk)]
    simp [(h.data k hk).1, (h.data k hk).2.1]
  · rw [abs_out hk, abs_out fun h' => hk ((h.ks k).2 h')]
/-- All pages have 256 bytes. -/
def Full (f : AM) : Prop := ∀ k x, f k = some x → x.1.length = 256
theorem full_of {w : World} {s : MS} (h : MemW w s) : Full s.abs := by
  intro k x hx
  by_cases hk : k ∈ s.ks
  · rw [abs_in hk] at hx
    obtain ⟨n, _, _, hp⟩ := h.page k hk
    simp at hx
    rw [← hx]
    exact hp.len
  · rw [abs_out hk] at hx
    cases hx
def getA (f : AM) (a : Nat) : UInt8 := match f (pageOf a) with | some x => x.1.getD (a % 256) 0 | none => 0
theorem get_getA (s : MS) (a : Nat) : s.get a = getA s.abs a := by
  rw [get_abs]
  unfold getA
  cases s.abs (pageOf a) with
  | none => rfl
  | some x => rfl
theorem set_same_iff {l : List UInt8} {j : Nat} {v : UInt8} (h : j < l.length) : l.set j v = l ↔ l.getD j 0 = v := by
  constructor
  · intro e
    rw [← e]
    simp [List.getD_eq_getElem?_getD, h]
  · intro e
    apply List.ext_getElem (by simp)
    intro i h1 h2
    rw [List.getElem_set]
    split
    · rename_i hij
      subst hij
      rw [List.getD_eq_getElem?_getD, List.getElem?_eq_getElem h, Option.getD_some] at e
      exact e.symm
    · rfl
theorem seen_poke {f : AM} (hf : Full f) (a : Nat) (v : UInt8) : seen (apoke f a v) = seen f ↔ ((f (pageOf a)).isSome = true → getA f a = v) := by
  have hlt := Nat.mod_lt a (show 256 > 0 by omega)
  constructor
  · intro h hs
    have h1 := congrFun h (pageOf a)
    unfold seen apoke at h1
    rw [if_pos rfl] at h1
    unfold getA
    cases hx : f (pageOf a) with
    | none => rw [hx] at hs; cases hs
    | some x =>
      rw [hx] at h1
      simp at h1
      exact (set_same_iff (by rw [hf _ _ hx]; exact hlt)).1 h1
  · intro h
    funext k
    unfold seen apoke
    by_cases e : k = pageOf a
    · subst e
      rw [if_pos rfl]
      cases hx : f (pageOf a) with
      | none => rfl
      | some x =>
        have := h (by rw [hx]; rfl)
        unfold getA at this
        rw [hx] at this
        simp
        exact (set_same_iff (by rw [hf _ _ hx]; exact hlt)).2 this
    · rw [if_neg e]
theorem poke_back {f : AM} (hf : Full f) (a : Nat) (v : UInt8) : apoke (apoke f a v) a (getA f a) = f := by
  have hlt := Nat.mod_lt a (show 256 > 0 by omega)
  funext k
  unfold apoke
  by_cases e : k = pageOf a
  · subst e
    rw [if_pos rfl, if_pos rfl]
    unfold getA
    cases hx : f (pageOf a) with
    | none => rfl
    | some x =>
      simp
      have : x.1.set (a % 256) (x.1.getD (a % 256) 0) = x.1 := (set_same_iff (by rw [hf _ _ hx]; exact hlt)).2 rfl
      rw [List.getD_eq_getElem?_getD] at this
      rw [this]
  · rw [if_neg e, if_neg e]
end Go.Proofs.Ytfbmkgdpejgjpaa
