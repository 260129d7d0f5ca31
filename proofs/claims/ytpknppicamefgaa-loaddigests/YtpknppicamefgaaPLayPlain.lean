/- Pages that are laid, one behind the other: what is there behind it, over plain lists. -/
import Derived.Test.YtpknppicamefgaaPEEnter
import Derived.Test.YtpknppicamefgaaPMakes
namespace Go.Proofs.Ytpknppicamefgaa
open Go.ChangeShapes Go.WideShapes Go.ChangeAt Go.RowKit
set_option linter.unusedVariables false
/-- The keys behind it, if there is room. -/
def layKs (most : Nat) : List Nat → List Nat → Option (List Nat)
  | ks, [] => some ks
  | ks, p :: ps => if p ∈ ks then layKs most ks ps else if ks.length < most then layKs most (ks ++ [p]) ps else none
theorem layKs_append (most : Nat) (qs : List Nat) : ∀ (ps ks : List Nat), layKs most ks (ps ++ qs) = (layKs most ks ps).bind fun k => layKs most k qs := by
  intro ps
  induction ps with
  | nil => intro ks; rfl
  | cons p ps ih =>
    intro ks
    simp only [List.cons_append, layKs]
    split
    · exact ih ks
    · split
      · exact ih _
      · rfl
theorem layKs_none {most : Nat} {ks ps qs : List Nat} (h : ps <+: qs) (hn : layKs most ks ps = none) : layKs most ks qs = none := by
  obtain ⟨t, rfl⟩ := h
  rw [layKs_append, hn]
  rfl
def layAm (f : AM) (z : Int) (ps : List Nat) : AM := ps.foldl (fun g p => amap g p z) f
theorem layAm_snoc (f : AM) (z : Int) (ps : List Nat) (p : Nat) : layAm f z (ps ++ [p]) = amap (layAm f z ps) p z := by
  simp [layAm]
/-- How many pages so many bytes touch; which. -/
def cntP (a n : Nat) : Nat := (a % 256 + n + 255) / 256
def pgs (a : Nat) (k : Nat) : List Nat := (List.range k).map fun j => pageOf a + 256 * j
theorem pgs_len (a k : Nat) : (pgs a k).length = k := by simp [pgs]
theorem pgs_succ (a k : Nat) : pgs a (k + 1) = pgs a k ++ [pageOf a + 256 * k] := by simp [pgs, List.range_succ]
theorem pgs_pre (a : Nat) : ∀ {k m : Nat}, k ≤ m → pgs a k <+: pgs a m := by
  intro k m h
  induction h with
  | refl => exact List.prefix_rfl
  | step h ih => rw [pgs_succ]; exact ih.trans (List.prefix_append _ _)
theorem mapped_bm (s : MS) (a : Nat) (z : Int) (b : Nat) : (s.mapped a z b).bm = s.bm := by unfold MS.mapped; split; rfl; split <;> rfl
theorem mapped_keys (s : MS) (a : Nat) (z : Int) (b : Nat) : (s.mapped a z b).ks = if pageOf a ∈ s.ks then s.ks else if s.ks.length < s.most then s.ks ++ [pageOf a] else s.ks := by
  unfold MS.mapped
  split
  · rfl
  · split <;> rfl
/-- The places of pages. -/
abbrev Pl := { x : Nat // x < 4294967296 ∧ x % 256 = 0 }
def vals (l : List Pl) : List Nat := l.map Subtype.val
theorem vals_snoc (l : List Pl) (x : Pl) : vals (l ++ [x]) = vals l ++ [x.1] := by simp [vals]
theorem vals_len (l : List Pl) : (vals l).length = l.length := by simp [vals]
theorem page_self {x : Nat} (h : x % 256 = 0) : pageOf x = x := by unfold pageOf; omega
/-- A memory behind pages that were laid in it. -/
structure Laid (s : MS) (z : Int) (ps : List Nat) (s' : MS) : Prop where
  mb : s'.mb = s.mb
  bm : s'.bm = s.bm
  most : s'.most = s.most
  ts : s'.ts = s.ts
  c : s'.c = s.c
  ks : layKs s.most s.ks ps = some s'.ks
  abs : s'.abs = layAm s.abs z ps
theorem Laid.refl (s : MS) (z : Int) : Laid s z [] s := ⟨rfl, rfl, rfl, rfl, rfl, rfl, rfl⟩
theorem Laid.map {s s' : MS} {z : Int} {ps : List Nat} (h : Laid s z ps s') {x : Nat} (hx : x % 256 = 0) (b : Nat) (hr : x ∈ s'.ks ∨ s'.ks.length < s'.most) : Laid s z (ps ++ [x]) (s'.mapped x z b) := by
  have hp := page_self hx
  refine ⟨(mapped_mb _ _ _ _).trans h.mb, (mapped_bm _ _ _ _).trans h.bm, (mapped_most _ _ _ _).trans h.most, (mapped_ts _ _ _ _).trans h.ts, (mapped_c _ _ _ _).trans h.c, ?_, ?_⟩
  · rw [layKs_append, h.ks, mapped_keys, hp]
    show layKs s.most s'.ks [x] = _
    simp only [layKs]
    rw [← h.most]
    by_cases h1 : x ∈ s'.ks
    · rw [if_pos h1, if_pos h1]
    · rw [if_neg h1, if_neg h1]
      rcases hr with hr | hr
      · exact absurd hr h1
      · rw [if_pos hr, if_pos hr]
  · rw [layAm_snoc, abs_mapped (by rw [hp]; exact hr), h.abs]
theorem Laid.full {s s' : MS} {z : Int} {ps : List Nat} (h : Laid s z ps s') {x : Nat} (hr : ¬ (x ∈ s'.ks ∨ s'.ks.length < s'.most)) : layKs s.most s.ks (ps ++ [x]) = none := by
  rw [layKs_append, h.ks]
  show layKs s.most s'.ks [x] = _
  simp only [layKs]
  rw [← h.most, if_neg fun h1 => hr (.inl h1), if_neg fun h1 => hr (.inr h1)]
theorem mapErr_eq {s : MS} {x : Nat} (hx : x % 256 = 0) : s.mapErr x = if x ∈ s.ks ∨ s.ks.length < s.most then 0 else 2 := by
  unfold MS.mapErr
  rw [page_self hx]
/-- The blocks of a memory that are no cells. -/
theorem foot_cells {w : World} {s : MS} (h : MemW w s) {b : Nat} (hf : foot s b) (hb : b ≠ s.bm) : ∃ cs T fr, w.heap[b]? = some (.cells cs T fr) := by
  rcases hf with e | e | ⟨k, hk, e⟩ | ⟨k, hk, e⟩ | e
  · subst e; exact ⟨_, _, _, h.self⟩
  · exact absurd e hb
  · subst e; exact ⟨_, _, _, h.held k hk⟩
  · subst e
    obtain ⟨n, _, _, hp⟩ := h.page k hk
    exact ⟨_, _, _, hp.blk⟩
  · obtain ⟨cur, hc⟩ := h.tv_cells e
    exact ⟨_, _, _, hc⟩
end Go.Proofs.Ytpknppicamefgaa
