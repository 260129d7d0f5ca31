/- Chapter 5's own memory: Map, where the page is new: the page put behind the others. -/
import Derived.Test.YtodoenimlhldjaaQBy
import Derived.Deep.Cut
import Derived.Deep.CutRange
namespace Go.Proofs.Ytodoenimlhldjaa
open Go.ChangeShapes Go.WideShapes Go.ChangeAt Go.RowKit
set_option linter.unusedVariables false
def Out5 (w : World) (v : Value) (l : List P5) : Prop := w.ownsRow 0 116 259 v l.length (cells5 l)
theorem Out5.later {w w' : World} {v : Value} {l : List P5} (h : Out5 w v l) (hb : Below w.heap.size w w') : Out5 w' v l :=
  ownsRow_same h fun g hg => hb.block g (h.lt g hg).2
/-- Only the row v may have turned, and what it has it has still. -/
structure RM5 (v : Value) (u x : World) : Prop where
  grown : u.grownBy x v.ownBlock
  keep : ∀ l, (∀ p ∈ l, Fit5 p) → Out5 u v l → Out5 x v l
theorem RM5.blk {v : Value} {u x : World} (h : RM5 v u x) {k : Nat} {cs : Array Value} {T : TypeId} (hk : Blk u k cs T) (hne : some k ≠ v.ownBlock) : Blk x k cs T := (h.grown.block k hk.lt hne).trans hk
theorem grown5_refl (u : World) (e : Option Nat) : u.grownBy u e := ⟨rfl, rfl, rfl, Nat.le_refl _, fun _ _ _ => rfl⟩
theorem grown5_of {u x : World} (h : Below u.heap.size u x) (e : Option Nat) : u.grownBy x e := ⟨h.os, h.tape, h.output, h.size, fun k hk _ => h.block k hk⟩
theorem grown5_trans {u x y : World} {e : Option Nat} (h : u.grownBy x e) (k : x.grownBy y e) : u.grownBy y e := ⟨k.os.trans h.os, k.tape.trans h.tape, k.output.trans h.output, Nat.le_trans h.size k.size, fun i hi hn => (k.block i (Nat.lt_of_lt_of_le hi h.size) hn).trans (h.block i hi hn)⟩
theorem later_rm5 (v : Value) : Later (RM5 v) := ⟨fun w => ⟨grown5_refl w _, fun _ _ h => h⟩, fun _ _ _ h k => ⟨grown5_trans h.grown k.grown, fun l hf hl => k.keep l hf (h.keep l hf hl)⟩, fun w => ⟨grown5_of ((Below.refl _ w).drew) _, fun _ _ h => h⟩⟩
theorem rm5_below (v : Value) {u x : World} (h : Below u.heap.size u x) : RM5 v u x := ⟨grown5_of h _, fun _ _ hl => hl.later h⟩
theorem rm5_of (v : Value) : ∀ j u x, (if j = 11 then RM5 v u x else Below u.heap.size u x) → RM5 v u x := by
  intro j u x h
  by_cases hj : j = 11
  · rw [if_pos hj] at h; exact h
  · rw [if_neg hj] at h; exact rm5_below v h
theorem below5_if {j : Nat} {v : Value} {u x : World} (hj : j ≠ 11) (h : Below u.heap.size u x) : if j = 11 then RM5 v u x else Below u.heap.size u x := by rw [if_neg hj]; exact h
section
variable {ρ : Operand → Value} {o : Oper}
theorem exec_slice100 {x : Operand} {p : Nat} {z : Int} (hop : o.op = .buildSlice 94 1 #[(0, x)]) (hx : ρ x = .agg (one5 (page5 p z)).toArray) (w : World) : (execOp ρ o).run Try.prog w = .ok (.value (.slice (some ⟨w.heap.size, 0, none⟩) 1 1)) (w.alloc (.cells (one5 (page5 p z)).toArray 116)) := by
  unfold execOp
  rw [hop]
  simp only [List.map_toArray, List.map_cons, List.map_nil, hx]
  kernel_rfl
theorem exec_app95 {x y : Operand} {vx vy v : Value} {w w' : World} (hop : o.op = .call { callee := .builtin .append, args := #[x, y], argTypes := #[94, 94] }) (hx : ρ x = vx) (hy : ρ y = vy) (hr : (Builtin.append_ #[94, 94] o.type #[vx, vy]).run Try.prog w = .ok v w') : (execOp ρ o).run Try.prog w = .ok (.value v) w' := by
  unfold execOp
  simp only [hop, resolve, invoke, builtin, Sem.run_bind, Sem.run_pure, Result.andThen_ok, List.map_toArray, List.map_cons, List.map_nil, hx, hy, hr]
theorem exec_and7 {x : Operand} {z : Int} (hop : o.op = .binOp .and 3 x (.const (.int .i64 7)) 3) (hx : ρ x = .int .i64 z ∧ ρ (.const (.int .i64 7)) = .int .i64 7) (w : World) : (execOp ρ o).run Try.prog w = .ok (.value (.int .i64 (bits .and .i64 z 7))) w := by
  unfold execOp
  rw [hop]
  simp [hx.1, hx.2, go_sem]
theorem load95 {w : World} {a : Addr} {v : Value} (hc : w.cell? a = some v) : (loadVar 94 a).run Try.prog w = .ok v w := by
  simp [loadVar, isAgg, Sem.run_bind, run_underlying Try.underlying94, hc, go_sem]
end
theorem run_more5 {w : World} {v : Value} {l : List P5} {ty : TypeId} {q : Nat} {p : P5} (h : Out5 w v l) (hf : ∀ p ∈ l, Fit5 p) (hp : Fit5 p) (hs : Blk w q (one5 p).toArray 116) (hlen : l.length ≤ 1000) :
    ∃ v' w', (Builtin.append_ #[94, 94] ty #[v, .slice (some ⟨q, 0, none⟩) 1 1]).run Try.prog w = .ok v' w' ∧ Out5 w' v' (l ++ [p]) ∧ RM5 v w w' ∧ (v'.ownBlock = v.ownBlock ∨ v'.ownBlock = some w.heap.size) := by
  obtain ⟨i0, hi, hz0, hz1, hz2⟩ := info_parts info100
  have hol := one5_len hp
  have hc2 : ∀ j u, (one5 p)[j]? = some u → w.cell? ((⟨q, 0, none⟩ : Addr).add j) = some u := by
    intro j u hu
    rw [Addr.add_lit, Nat.zero_add]
    exact hs.cell (by rw [List.getElem?_toArray]; exact hu)
  obtain ⟨v', w', hr, h1, h2, _, hloc⟩ := run_append_own_at (P := Try.prog) w 0 94 ty 116 i0 _ 259 280 Try.underlying94 hi hz0 hz1 hz2 page0_size (by decide) v l.length (cells5 l) h ⟨q, 0, none⟩ 1 1 (one5 p) (by rw [hol]) hc2 (one5_one p) (by unfold maxLen; omega) (by omega) (Nat.zero_le _)
  refine ⟨v', w', hr, ?_, ⟨h2, fun l' hf' hl' => ?_⟩, hloc⟩
  · have e : cells5 (l ++ [p]) = cells5 l ++ one5 p := by rw [cells5_append]; simp [cells5]
    unfold Out5
    rw [List.length_append, e]
    exact h1
  · rcases h.2 with ⟨rfl, h0⟩ | ⟨g, cap, cur, rfl, hbg, hg, hnc, hcm, hcs, htake⟩
    · refine ⟨hl'.1, ?_⟩
      rcases hl'.2 with hl | ⟨g, cap, cur, e, _⟩
      · exact .inl hl
      · simp at e
    · by_cases hroom : l.length + 1 ≤ cap
      · have hr2 := run_append_room (P := Try.prog) w 94 ty 116 i0 Try.underlying94 hi g l.length cap cur hg ⟨q, 0, none⟩ 1 1 (one5 p) (by rw [hol, hz1]) hc2 (one5_one p) hroom (by rw [hol, hz1, hcs]; omega)
        rw [hr2] at hr
        cases hr
        refine ⟨hl'.1, ?_⟩
        rcases hl'.2 with hl | ⟨g', cap', cur', e, hb', hg', hn', hm', hs', ht'⟩
        · exact .inl hl
        · simp only [Value.slice.injEq, Option.some.injEq, Addr.mk.injEq, and_true] at e
          obtain ⟨rfl, hll, rfl⟩ := e
          have hcc := hg.symm.trans hg'
          simp only [Option.some.injEq, Obj.cells.injEq, and_true] at hcc
          subst hcc
          have hcl : cur.toList.length = cap * 259 := by rw [Array.length_toList]; exact hcs
          refine .inr ⟨g, cap, _, by rw [hll], hb', setRow_heap w g cur _ 116 _ hg, hn', hm', ?_, ?_⟩
          · simp only [List.size_toArray, List.length_append, List.length_take, List.length_drop, Array.length_toList, hol, hz1]
            rw [hcs]
            omega
          · rw [hz1, ← ht', hll, List.append_assoc, List.take_append_of_le_length (by rw [List.length_take, hcl]; omega), List.take_take, Nat.min_self]
      · have hr2 := run_append_grow (P := Try.prog) w 94 ty 116 i0 _ Try.underlying94 hi hz0 ⟨g, 0, none⟩ l.length cap (cells5 l) (by rw [cells5_len hf, hz1]) (h.cells (g := g) rfl) ⟨q, 0, none⟩ 1 1 (one5 p) (by rw [hol, hz1]) hc2 (by omega) (by omega) (growslice_fits (by omega) (by rw [hz2]; omega))
        rw [hr2] at hr
        cases hr
        exact Out5.later hl' ((Below.refl _ _).drew.alloc (by simp) _)
/-- What the slots of the region hold, whatever the order. -/
def phiM5 (m a p N : Nat) (z zz : Int) (v : Value) (l : List P5) : Nat → Value → World → Prop
  | 0, x, _ => x = .pointer (some ⟨m, 0, none⟩)
  | 1, x, _ => x = .pointer (some ⟨m, 0, none⟩)
  | 2, x, _ => x = .pointer (some ⟨m, 0, none⟩)
  | 3, x, _ => x = .pointer (some ⟨m, 1, none⟩)
  | 4, x, _ => x = v
  | 5, x, _ => x = .int .u32 (a : Int)
  | 6, x, _ => x = .int .u32 (p : Int)
  | 7, x, _ => x = .int .i64 z
  | 8, x, _ => x = .int .i64 zz
  | 9, x, _ => x = .agg (one5 (page5 p zz)).toArray
  | 10, x, w => ∃ q, x = .slice (some ⟨q, 0, none⟩) 1 1 ∧ some q ≠ v.ownBlock ∧ Blk w q (one5 (page5 p zz)).toArray 116
  | 11, x, w => Out5 w x (l ++ [page5 p zz]) ∧ (x.ownBlock = v.ownBlock ∨ ∃ q, N ≤ q ∧ x.ownBlock = some q)
  | 12, x, _ => x = .pointer (some ⟨m, 0, none⟩)
  | 13, x, _ => x = .pointer (some ⟨m, 1, none⟩)
  | _ + 14, _, _ => True
theorem phiM5_mono (m a p N : Nat) (z zz : Int) (v : Value) (l : List P5) : ∀ i j x w w', phiM5 m a p N z zz v l i x w → (if j = 11 then RM5 v w w' else Below w.heap.size w w') → i ≠ j → phiM5 m a p N z zz v l i x w'
  | 0, _, _, _, _, h, _, _ => h
  | 1, _, _, _, _, h, _, _ => h
  | 2, _, _, _, _, h, _, _ => h
  | 3, _, _, _, _, h, _, _ => h
  | 4, _, _, _, _, h, _, _ => h
  | 5, _, _, _, _, h, _, _ => h
  | 6, _, _, _, _, h, _, _ => h
  | 7, _, _, _, _, h, _, _ => h
  | 8, _, _, _, _, h, _, _ => h
  | 9, _, _, _, _, h, _, _ => h
  | 10, j, x, w, w', h, hr, _ => by
    obtain ⟨q, e, h1, h2⟩ := h
    refine ⟨q, e, h1, ?_⟩
    by_cases hj : j = 11
    · rw [if_pos hj] at hr
      exact hr.blk h2 h1
    · rw [if_neg hj] at hr
      exact h2.later hr
  | 11, j, x, w, w', h, hr, hn => by
    rw [if_neg (fun e => hn e.symm)] at hr
    exact ⟨Out5.later h.1 hr, h.2⟩
  | 12, _, _, _, _, h, _, _ => h
  | 13, _, _, _, _, h, _, _ => h
  | _ + 14, _, _, _, _, _, _, _ => trivial
theorem list14m : ∀ xs : List Value, xs.length = 14 → ∃ x0 x1 x2 x3 x4 x5 x6 x7 x8 x9 x10 x11 x12 x13, xs = [x0, x1, x2, x3, x4, x5, x6, x7, x8, x9, x10, x11, x12, x13]
  | [x0, x1, x2, x3, x4, x5, x6, x7, x8, x9, x10, x11, x12, x13], _ => ⟨_, _, _, _, _, _, _, _, _, _, _, _, _, _, rfl⟩
end Go.Proofs.Ytodoenimlhldjaa
