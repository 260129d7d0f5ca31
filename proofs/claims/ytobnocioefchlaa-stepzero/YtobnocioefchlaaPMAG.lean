/- The document's example, and lists of words held against each other. -/
import Derived.Test.YtobnocioefchlaaPMAF
import Derived.RangeFuncBox
import Derived.RangeFuncLeaves
import Derived.RangeFuncFrom
import Derived.Shelf.Abstract
import Derived.WalkKit
import Derived.OwnWalkIn
import Derived.TacticsInMore
import Derived.LoopNIn
import Derived.LoopIn
import Derived.Sort.LoopGhostIn
import Derived.Maps.AppendAt
namespace Go.Proofs.Ytobnocioefchlaa
open Go.ChangeShapes Go.WideShapes Go.ChangeAt Go.RowKit
set_option linter.unusedVariables false
theorem fresh_foot {mb bm most b : Nat} (h : foot (fresh mb bm most) b) : b = mb ∨ b = bm := by
  rcases h with h | h | ⟨k, hk, h⟩ | ⟨k, hk, h⟩ | h
  · exact .inl h
  · exact .inr h
  · simp [fresh] at hk
  · simp [fresh] at hk
  · simp [fresh, Value.ownBlock] at h
theorem newMem_step (z : Int) (w : World) : Calls Try.prog 19 #[.int .i64 z] w fun e w' => ∃ mb bm, e = .returned (.pointer (some ⟨mb, 0, none⟩)) ∧ MemW w' (fresh mb bm (cutMost z)) ∧ Below w.heap.size w w' ∧ ∀ b, foot (fresh mb bm (cutMost z)) b → w.heap.size ≤ b := by
  refine (newMem_any z w).mono ?_
  rintro e w' ⟨he, hm, hb⟩
  refine ⟨_, _, he, hm, hb, fun b hf => ?_⟩
  rcases fresh_foot hf with h | h <;> omega
/-- Words in memory. -/
def Wds (w : World) (v : Value) (l : List Nat) : Prop := ∃ ao cap, v = .slice ao l.length cap ∧ (l = [] ∨ ∃ b off, ao = some ⟨b, off, none⟩ ∧ b < w.heap.size ∧ ∀ j, j < l.length → w.cell? ⟨b, off + j, none⟩ = some (.int .u32 ((l.getD j 0 : Nat) : Int)))
theorem wds_of_row {w : World} {base n : Nat} {v : Value} {l : List Nat} (h : w.ownsRow base 23 1 v n (words l)) : Wds w v l := by
  have hn : n = l.length := by have := h.1; rw [words_len] at this; omega
  subst hn
  rcases h.2 with ⟨e, h0⟩ | ⟨g, cap, cur, e, _, hg, hnc, hcm, _, htake⟩
  · exact ⟨none, 0, by rw [e, h0], .inl (List.eq_nil_of_length_eq_zero h0)⟩
  · refine ⟨_, cap, e, .inr ⟨g, 0, rfl, (Array.getElem?_eq_some_iff.1 hg).1, fun j hj => ?_⟩⟩
    subst e
    have hc := h.cellAt j (by omega)
    rw [words_get l j hj] at hc
    rw [Nat.zero_add]
    exact hc
theorem Wds.later {w w' : World} {v : Value} {l : List Nat} (h : Wds w v l) (hb : Below w.heap.size w w') : Wds w' v l := by
  obtain ⟨ao, cap, e, h⟩ := h
  refine ⟨ao, cap, e, ?_⟩
  rcases h with h | ⟨b, off, e2, hlt, hc⟩
  · exact .inl h
  · exact .inr ⟨b, off, e2, Nat.lt_of_lt_of_le hlt hb.size, fun j hj => (hb.cell (p := ⟨b, off + j, none⟩) hlt).trans (hc j hj)⟩
end Go.Proofs.Ytobnocioefchlaa
namespace Go.Proofs.Ytobnocioefchlaa
open Go.ChangeShapes Go.WideShapes Go.ChangeAt Go.RowKit
set_option linter.unusedVariables false
/-- A memory of the call's own. -/
structure Own (w0 w : World) (s : MS) : Prop where
  mem : MemW w s
  below : Below w0.heap.size w0 w
  foot : ∀ b, foot s b → w0.heap.size ≤ b
theorem Own.step {w0 w w' : World} {s s' : MS} (h : Own w0 w s) (k : Step w s w' s') : Own w0 w' s' := by
  have := k.below h.below.size h.foot
  exact ⟨k.mem, h.below.trans this.1, this.2⟩
theorem one_word (z : Int) : ∀ u ∈ [Value.int .u32 z], u.oneCell' = true := by
  intro u hu
  simp at hu
  subst hu
  rfl
theorem row_base {w : World} {base n : Nat} {v : Value} {xs : List Value} (h : w.ownsRow base 23 1 v n xs) : ∀ g, v.ownBlock = some g → base ≤ g := by
  intro g hg
  rcases h.2 with ⟨e, _⟩ | ⟨g', cap, cur, e, hb, _⟩
  · rw [e] at hg; simp [Value.ownBlock] at hg
  · rw [e] at hg
    simp [Value.ownBlock] at hg
    omega
/-- A word put behind a row of the call's own. -/
theorem wpList_pushW {wa : World} {ops : Array Oper} {rest : List Oper} {o : Oper} {a : Act} {Q : Exit → Act → World → Prop} (hgd : o.guard = none) (s x : Operand) (ho : o.op = .call { callee := .builtin .append, args := #[s, x], argTypes := #[39, 39] }) (base : Nat) (v : Value) (ts : List Nat) (z : Int) (w4 : World) (hwa : wa = w4.alloc (.cells #[.int .u32 z] 23)) (hs : a.eval s = v) (hx : a.eval x = .slice (some ⟨w4.heap.size, 0, none⟩) 1 1) (hrow : w4.ownsRow base 23 1 v ts.length (words ts)) (hlen : ts.length < 1099511627776) (hbase : base ≤ w4.heap.size)
    (h : ∀ v' w', w'.ownsRow base 23 1 v' (ts.length + 1) (words ts ++ [.int .u32 z]) → w4.grownBy w' v.ownBlock → (v'.ownBlock = v.ownBlock ∨ ∃ q, w4.heap.size ≤ q ∧ v'.ownBlock = some q) → wpList Try.prog ops Q rest (a.put o.dst v') w') : wpList Try.prog ops Q (o :: rest) a wa := by
  subst hwa
  obtain ⟨i0, hi, hz0, hz1, hz2⟩ := info_parts info27
  refine wpList_append_own_at _ hgd s x 39 ho base 23 i0 (.int .u32 0) 1 4 Try.underlying39 hi hz0 hz1 hz2 rfl (by decide) v ts.length (words ts) hs (hrow.alloc _) ⟨w4.heap.size, 0, none⟩ 1 1 [.int .u32 z] hx rfl (cell_one_new _ _ _) (one_word z) (by unfold maxLen; omega) (by omega) (by simp; omega) ?_
  intro v' w' hown hgr _ hloc
  refine h v' w' hown ((World.grownBy_alloc w4 _ _).trans hgr) ?_
  rcases hloc with hl | hl
  · exact .inl hl
  · exact .inr ⟨_, by simp, hl⟩
/-- A row of the call's own that has grown. -/
theorem row_grown {w w4 w5 : World} {s : MS} {v v5 : Value} (h : Own w w4 s) (ha : ∀ g, v.ownBlock = some g → ¬ foot s g) (hg : w4.grownBy w5 v.ownBlock) (hl : v5.ownBlock = v.ownBlock ∨ ∃ q, w4.heap.size ≤ q ∧ v5.ownBlock = some q) (hb : ∀ g, v.ownBlock = some g → w.heap.size ≤ g) : Own w w5 s ∧ ∀ g, v5.ownBlock = some g → ¬ foot s g := by
  refine ⟨⟨h.mem.keep (Keep.grown hg) (fun b hb' e => ha b e hb'), h.below.trans ((Keep.grown hg).below h.below.size hb), h.foot⟩, fun g hg' hf => ?_⟩
  rcases hl with hl | ⟨q, hq, hl⟩
  · rw [hl] at hg'
    exact ha g hg' hf
  · rw [hl] at hg'
    obtain rfl : q = g := by simpa using hg'
    have := h.mem.lt hf
    omega
end Go.Proofs.Ytobnocioefchlaa
namespace Go.Proofs.Ytobnocioefchlaa
open Go.ChangeShapes Go.WideShapes Go.ChangeAt Go.RowKit Go.Shelf
set_option linter.unusedVariables false
attribute [local go_sem] Oper.semAt_some
theorem only_grown {r : Nat} {w w' : World} (h : Only r w w') : w.grownBy w' (some r) := ⟨h.os, h.tape, h.output, Nat.le_of_eq h.size.symm, fun k _ hk => h.block k fun e => hk (by rw [e])⟩
theorem It.walk {w : World} {r bm : Nat} {ks todo : List Nat} (h : It w r bm ks todo) : ∃ o : Obj, w.heap[r]? = some o ∧ o.isWalk = true := by
  obtain ⟨seen, c0, h1, _⟩ := h.now
  exact ⟨_, h1, rfl⟩
theorem It.kept {w w' : World} {r bm : Nat} {ks todo : List Nat} (h : It w r bm ks todo) (hk : KeepsWalks w w') : It w' r bm ks todo := by
  obtain ⟨seen, c0, h1, h2, h3⟩ := h.now
  exact ⟨⟨seen, c0, hk.same r _ h1 rfl, h2, h3⟩, h.nodup, h.sub⟩
theorem perm_step {ss todo ks : List Nat} {k : Nat} (h : (ss ++ todo).Perm ks) (hk : k ∈ todo) : ((ss ++ [k]) ++ todo.erase k).Perm ks := by
  rw [List.append_assoc, List.singleton_append]
  exact (List.Perm.append_left ss (List.perm_cons_erase hk).symm).trans h
end Go.Proofs.Ytobnocioefchlaa
