/- Chapter 5's own memory: a page put behind the others. -/
import Derived.Test.YtodoenimlhldjaaQMMap
import Derived.Maps.AppendAt
namespace Go.Proofs.Ytodoenimlhldjaa
open Go.ChangeShapes Go.WideShapes Go.ChangeAt Go.RowKit
set_option linter.unusedVariables false
def page5 (a : Nat) (z : Int) : P5 := ⟨a, z, zeros, false⟩
theorem page5_fit {a : Nat} (h : a < 4294967296) (z : Int) : Fit5 (page5 a z) := ⟨zeros_len, h⟩
theorem info100 : (Try.prog.info? 116).map (fun i => (i.zero, i.size, i.bytes)) = some (some (.agg (one5 (page5 0 0)).toArray), 259, 280) := by kernel_rfl
theorem build100 (a : Nat) (z : Int) (w : World) : (Instr.build 116 #[(0, .int .u32 (a : Int)), (1, .int .i64 z)]).run Try.prog w = .ok (.agg (one5 (page5 a z)).toArray) w := by kernel_rfl
theorem one5_one (p : P5) : ∀ u ∈ one5 p, u.oneCell' = true := by
  intro u hu
  simp only [one5, cellsU, List.mem_cons, List.mem_append, List.mem_map, List.not_mem_nil, or_false] at hu
  rcases hu with rfl | rfl | ⟨x, _, rfl⟩ | rfl <;> rfl
theorem page0_size : (one5 (page5 0 0)).length = 259 := one5_len (page5_fit (by omega) 0)
/-- A page put behind a row of pages of one's own. -/
theorem wpList_pushP {wa : World} {ops : Array Oper} {rest : List Oper} {o : Oper} {a : Act} {Q : Exit → Act → World → Prop} (hgd : o.guard = none) (s x : Operand) (ho : o.op = .call { callee := .builtin .append, args := #[s, x], argTypes := #[94, 94] }) (base : Nat) (v : Value) (l : List P5) (p : P5) (hp : Fit5 p) (w4 : World) (hwa : wa = w4.alloc (.cells (one5 p).toArray 116)) (hs : a.eval s = v) (hx : a.eval x = .slice (some ⟨w4.heap.size, 0, none⟩) 1 1) (hrow : w4.ownsRow base 116 259 v l.length (cells5 l)) (hlen : l.length ≤ 1000) (hbase : base ≤ w4.heap.size)
    (h : ∀ v' w', w'.ownsRow base 116 259 v' (l ++ [p]).length (cells5 (l ++ [p])) → w4.grownBy w' v.ownBlock → (v'.ownBlock = v.ownBlock ∨ ∃ q, w4.heap.size ≤ q ∧ v'.ownBlock = some q) → wpList Try.prog ops Q rest (a.put o.dst v') w') : wpList Try.prog ops Q (o :: rest) a wa := by
  subst hwa
  obtain ⟨i0, hi, hz0, hz1, hz2⟩ := info_parts info100
  refine wpList_append_own_at _ hgd s x 94 ho base 116 i0 _ 259 280 Try.underlying94 hi hz0 hz1 hz2 page0_size (by decide) v l.length (cells5 l) hs (hrow.alloc _) ⟨w4.heap.size, 0, none⟩ 1 1 (one5 p) hx (by rw [one5_len hp]) ?_ (one5_one p) (by unfold maxLen; omega) (by omega) (by simp; omega) ?_
  · intro j u hu
    rw [Addr.add_lit, Nat.zero_add, cell_of_row _ _ _ _ _ _ (heap_alloc_new w4 _), List.getElem?_toArray]
    exact hu
  · intro v' w' hown hgr _ hloc
    refine h v' w' ?_ ((World.grownBy_alloc w4 _ _).trans hgr) ?_
    · rw [cells5_append, List.length_append]
      have e : cells5 [p] = one5 p := by simp [cells5]
      rw [e]
      exact hown
    · rcases hloc with hl | hl
      · exact .inl hl
      · exact .inr ⟨_, by simp, hl⟩
/-- The memory with one page more. -/
theorem M5.more {w w2 : World} {s : S5} {v : Value} {p : P5} (h : M5 w s) (hp : Fit5 p) (hlen : s.l.length < 1000) (hown : w2.ownsRow 0 116 259 v (s.l ++ [p]).length (cells5 (s.l ++ [p]))) (hg : w.grownBy w2 s.vP.ownBlock) (hl : v.ownBlock = s.vP.ownBlock ∨ ∃ q, w.heap.size ≤ q ∧ v.ownBlock = some q) :
    Step5 w s (w2.setCell ⟨s.m, 1, none⟩ v) { s with l := s.l ++ [p], vP := v } := by
  have kp := Keep.grown hg
  have hmP : ∀ t, s.vP.ownBlock = some t → t ≠ s.m := fun t ht => by
    obtain ⟨c, hb⟩ := h.blkP ht
    exact blk_ne hb h.self (by decide)
  have hmT : ∀ t, s.vT.ownBlock = some t → t ≠ s.m ∧ t < w.heap.size ∧ ¬ s.vP.ownBlock = some t := fun t ht => by
    obtain ⟨c, hb⟩ := h.blkT ht
    refine ⟨blk_ne hb h.self (by decide), hb.lt, fun e => ?_⟩
    obtain ⟨c2, hb2⟩ := h.blkP e
    exact blk_ne hb2 hb (by decide) rfl
  have hself : Blk w2 s.m #[.int .i64 (s.most : Int), s.vP, s.vT] 96 := (kp.block s.m h.lt fun e => hmP _ e rfl).trans h.self
  have hvm : ∀ t, v.ownBlock = some t → t ≠ s.m := fun t ht => by
    rcases hl with hl | ⟨q, hq, hl⟩
    · rw [hl] at ht; exact hmP t ht
    · rw [hl] at ht
      have := h.lt
      simp at ht
      omega
  have out : ∀ b, b ≠ s.m → (w2.setCell ⟨s.m, 1, none⟩ v).heap[b]? = w2.heap[b]? := fun b hb => Below.heap_setCell _ _ _ b hb
  refine ⟨⟨?_, ?_, ?_, ?_, ?_⟩, ?_, ?_⟩
  · show (w2.setCell ⟨s.m, 1, none⟩ v).heap[s.m]? = _
    rw [Lib.heap_setCell_same hself v]
    rfl
  · exact ownsRow_same hown fun t ht => out t (hvm t ht)
  · exact ownsRow_same (ownsRow_same h.touched fun t ht => kp.block t (hmT t ht).2.1 (hmT t ht).2.2) fun t ht => out t (hmT t ht).1
  · intro q hq
    rcases List.mem_append.1 hq with hq | hq
    · exact h.fit q hq
    · rw [List.mem_singleton.1 hq]; exact hp
  · show (s.l ++ [p]).length ≤ 1000
    rw [List.length_append]
    exact hlen
  · refine (kp.mono (G := foot5 s) fun b _ hb => .inr (.inl hb)).trans (keep_set w2 _ v) fun b _ hb => .inl hb
  · rintro b (hb | hb | hb)
    · exact .inl (.inl hb)
    · rcases hl with hl | ⟨q, hq, hl⟩
      · exact .inl (.inr (.inl (by rw [← hl]; exact hb)))
      · right
        have hb2 : v.ownBlock = some b := hb
        rw [hl] at hb2
        simp at hb2
        omega
    · exact .inl (.inr (.inr hb))
end Go.Proofs.Ytodoenimlhldjaa
