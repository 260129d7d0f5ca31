/- A memory, and rows of words, of the call's own. -/
import Derived.Test.YtfbmkgdpejgjpaaPAwake
namespace Go.Proofs.Ytfbmkgdpejgjpaa
open Go.ChangeShapes Go.WideShapes Go.ChangeAt Go.RowKit
set_option linter.unusedVariables false
/-- A memory of the call's own. -/
structure Own (w0 w : World) (s : MS) : Prop where
  mem : MemW w s
  below : Below w0.heap.size w0 w
  foot : ∀ b, foot s b → w0.heap.size ≤ b
theorem Own.step {w0 w w' : World} {s s' : MS} (h : Own w0 w s) (k : Step w s w' s') : Own w0 w' s' := by
  have := k.below h.below.size h.foot
  exact ⟨k.mem, h.below.trans this.1, this.2⟩
theorem one_word (z : Int) : ∀ u ∈ [Value.int .u32 z], u.oneCell' = true := by
  intro u hu
  simp at hu
  subst hu
  rfl
theorem row_base {w : World} {base n : Nat} {v : Value} {xs : List Value} (h : w.ownsRow base 27 1 v n xs) : ∀ g, v.ownBlock = some g → base ≤ g := by
  intro g hg
  rcases h.2 with ⟨e, _⟩ | ⟨g', cap, cur, e, hb, _⟩
  · rw [e] at hg; simp [Value.ownBlock] at hg
  · rw [e] at hg
    simp [Value.ownBlock] at hg
    omega
/-- A word put behind a row of the call's own. -/
theorem wpList_pushW {wa : World} {ops : Array Oper} {rest : List Oper} {o : Oper} {a : Act} {Q : Exit → Act → World → Prop} (hgd : o.guard = none) (s x : Operand) (ho : o.op = .call { callee := .builtin .append, args := #[s, x], argTypes := #[35, 35] }) (base : Nat) (v : Value) (ts : List Nat) (z : Int) (w4 : World) (hwa : wa = w4.alloc (.cells #[.int .u32 z] 27)) (hs : a.eval s = v) (hx : a.eval x = .slice (some ⟨w4.heap.size, 0, none⟩) 1 1) (hrow : w4.ownsRow base 27 1 v ts.length (words ts)) (hlen : ts.length < 1099511627776) (hbase : base ≤ w4.heap.size)
    (h : ∀ v' w', w'.ownsRow base 27 1 v' (ts.length + 1) (words ts ++ [.int .u32 z]) → w4.grownBy w' v.ownBlock → (v'.ownBlock = v.ownBlock ∨ ∃ q, w4.heap.size ≤ q ∧ v'.ownBlock = some q) → wpList Try.prog ops Q rest (a.put o.dst v') w') : wpList Try.prog ops Q (o :: rest) a wa := by
  subst hwa
  obtain ⟨i0, hi, hz0, hz1, hz2⟩ := info_parts info27
  refine wpList_append_own_at _ hgd s x 35 ho base 27 i0 (.int .u32 0) 1 4 Try.underlying35 hi hz0 hz1 hz2 rfl (by decide) v ts.length (words ts) hs (hrow.alloc _) ⟨w4.heap.size, 0, none⟩ 1 1 [.int .u32 z] hx rfl (cell_one_new _ _ _) (one_word z) (by unfold maxLen; omega) (by omega) (by simp; omega) ?_
  intro v' w' hown hgr _ hloc
  refine h v' w' hown ((World.grownBy_alloc w4 _ _).trans hgr) ?_
  rcases hloc with hl | hl
  · exact .inl hl
  · exact .inr ⟨_, by simp, hl⟩
/-- A row of the call's own that has grown. -/
theorem row_grown {w w4 w5 : World} {s : MS} {v v5 : Value} (h : Own w w4 s) (ha : ∀ g, v.ownBlock = some g → ¬ foot s g) (hg : w4.grownBy w5 v.ownBlock) (hl : v5.ownBlock = v.ownBlock ∨ ∃ q, w4.heap.size ≤ q ∧ v5.ownBlock = some q) (hb : ∀ g, v.ownBlock = some g → w.heap.size ≤ g) : Own w w5 s ∧ ∀ g, v5.ownBlock = some g → ¬ foot s g := by
  refine ⟨⟨h.mem.keep (Keep.grown hg) (fun b hb' e => ha b e hb'), h.below.trans ((Keep.grown hg).below h.below.size hb), h.foot⟩, fun g hg' hf => ?_⟩
  rcases hl with hl | ⟨q, hq, hl⟩
  · rw [hl] at hg'
    exact ha g hg' hf
  · rw [hl] at hg'
    obtain rfl : q = g := by simpa using hg'
    have := h.mem.lt hf
    omega
end Go.Proofs.Ytfbmkgdpejgjpaa
