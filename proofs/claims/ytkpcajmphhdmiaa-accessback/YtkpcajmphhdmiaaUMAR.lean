/- Chapter 5's own memory: Map, where the page is new: the page put behind the others. -/
import Derived.Test.YtkpcajmphhdmiaaUMAQ
import Derived.Deep.Cut
import Derived.Deep.CutRange
namespace Go.Proofs.Ytkpcajmphhdmiaa
open Go.ChangeShapes Go.WideShapes Go.ChangeAt Go.RowKit
set_option linter.unusedVariables false
def Out5 (w : World) (v : Value) (l : List P5) : Prop := w.ownsRow 0 102 259 v l.length (cells5 l)
theorem Out5.later {w w' : World} {v : Value} {l : List P5} (h : Out5 w v l) (hb : Below w.heap.size w w') : Out5 w' v l :=
  ownsRow_same h fun g hg => hb.block g (h.lt g hg).2
/-- Only the row v may have turned, and what it has it has still. -/
structure RM5 (v : Value) (u x : World) : Prop where
  grown : u.grownBy x v.ownBlock
  keep : ∀ l, (∀ p ∈ l, Fit5 p) → Out5 u v l → Out5 x v l
theorem RM5.blk {v : Value} {u x : World} (h : RM5 v u x) {k : Nat} {cs : Array Value} {T : TypeId} (hk : Blk u k cs T) (hne : some k ≠ v.ownBlock) : Blk x k cs T := (h.grown.block k hk.lt hne).trans hk
theorem grown5_refl (u : World) (e : Option Nat) : u.grownBy u e := ⟨rfl, rfl, rfl, Nat.le_refl _, fun _ _ _ => rfl⟩
theorem grown5_of {u x : World} (h : Below u.heap.size u x) (e : Option Nat) : u.grownBy x e := ⟨h.os, h.tape, h.output, h.size, fun k hk _ => h.block k hk⟩
theorem grown5_trans {u x y : World} {e : Option Nat} (h : u.grownBy x e) (k : x.grownBy y e) : u.grownBy y e := ⟨k.os.trans h.os, k.tape.trans h.tape, k.output.trans h.output, Nat.le_trans h.size k.size, fun i hi hn => (k.block i (Nat.lt_of_lt_of_le hi h.size) hn).trans (h.block i hi hn)⟩
theorem later_rm5 (v : Value) : Later (RM5 v) := ⟨fun w => ⟨grown5_refl w _, fun _ _ h => h⟩, fun _ _ _ h k => ⟨grown5_trans h.grown k.grown, fun l hf hl => k.keep l hf (h.keep l hf hl)⟩, fun w => ⟨grown5_of ((Below.refl _ w).drew) _, fun _ _ h => h⟩⟩
theorem rm5_below (v : Value) {u x : World} (h : Below u.heap.size u x) : RM5 v u x := ⟨grown5_of h _, fun _ _ hl => hl.later h⟩
theorem rm5_of (v : Value) : ∀ j u x, (if j = 11 then RM5 v u x else Below u.heap.size u x) → RM5 v u x := by
  intro j u x h
  by_cases hj : j = 11
  · rw [if_pos hj] at h; exact h
  · rw [if_neg hj] at h; exact rm5_below v h
theorem below5_if {j : Nat} {v : Value} {u x : World} (hj : j ≠ 11) (h : Below u.heap.size u x) : if j = 11 then RM5 v u x else Below u.heap.size u x := by rw [if_neg hj]; exact h
section
variable {ρ : Operand → Value} {o : Oper}
theorem exec_slice100 {x : Operand} {p : Nat} {z : Int} (hop : o.op = .buildSlice 86 1 #[(0, x)]) (hx : ρ x = .agg (one5 (page5 p z)).toArray) (w : World) : (execOp ρ o).run Try.prog w = .ok (.value (.slice (some ⟨w.heap.size, 0, none⟩) 1 1)) (w.alloc (.cells (one5 (page5 p z)).toArray 102)) := by
  unfold execOp
  rw [hop]
  simp only [List.map_toArray, List.map_cons, List.map_nil, hx]
  kernel_rfl
theorem exec_app95 {x y : Operand} {vx vy v : Value} {w w' : World} (hop : o.op = .call { callee := .builtin .append, args := #[x, y], argTypes := #[86, 86] }) (hx : ρ x = vx) (hy : ρ y = vy) (hr : (Builtin.append_ #[86, 86] o.type #[vx, vy]).run Try.prog w = .ok v w') : (execOp ρ o).run Try.prog w = .ok (.value v) w' := by
  unfold execOp
  simp only [hop, resolve, invoke, builtin, Sem.run_bind, Sem.run_pure, Result.andThen_ok, List.map_toArray, List.map_cons, List.map_nil, hx, hy, hr]
theorem exec_and7 {x : Operand} {z : Int} (hop : o.op = .binOp .and 3 x (.const (.int .i64 7)) 3) (hx : ρ x = .int .i64 z ∧ ρ (.const (.int .i64 7)) = .int .i64 7) (w : World) : (execOp ρ o).run Try.prog w = .ok (.value (.int .i64 (bits .and .i64 z 7))) w := by
  unfold execOp
  rw [hop]
  simp [hx.1, hx.2, go_sem]
theorem load95 {w : World} {a : Addr} {v : Value} (hc : w.cell? a = some v) : (loadVar 86 a).run Try.prog w = .ok v w := by
  simp [loadVar, isAgg, Sem.run_bind, run_underlying Try.underlying86, hc, go_sem]
end
theorem run_more5 {w : World} {v : Value} {l : List P5} {ty : TypeId} {q : Nat} {p : P5} (h : Out5 w v l) (hf : ∀ p ∈ l, Fit5 p) (hp : Fit5 p) (hs : Blk w q (one5 p).toArray 102) (hlen : l.length ≤ 1000) :
    ∃ v' w', (Builtin.append_ #[86, 86] ty #[v, .slice (some ⟨q, 0, none⟩) 1 1]).run Try.prog w = .ok v' w' ∧ Out5 w' v' (l ++ [p]) ∧ RM5 v w w' ∧ (v'.ownBlock = v.ownBlock ∨ v'.ownBlock = some w.heap.size) := by
  obtain ⟨i0, hi, hz0, hz1, hz2⟩ := info_parts info100
  have hol := one5_len hp
  have hc2 : ∀ j u, (one5 p)[j]? = some u → w.cell? ((⟨q, 0, none⟩ : Addr).add j) = some u := by
    intro j u hu
    rw [Addr.add_lit, Nat.zero_add]
    exact hs.cell (by rw [List.getElem?_toArray]; exact hu)
  obtain ⟨v', w', hr, h1, h2, _, hloc⟩ := run_append_own_at (P := Try.prog) w 0 86 ty 102 i0 _ 259 280 Try.underlying86 hi hz0 hz1 hz2 page0_size (by decide) v l.length (cells5 l) h ⟨q, 0, none⟩ 1 1 (one5 p) (by rw [hol]) hc2 (one5_one p) (by unfold maxLen; omega) (by omega) (Nat.zero_le _)
  refine ⟨v', w', hr, ?_, ⟨h2, fun l' hf' hl' => ?_⟩, hloc⟩
  · have e : cells5 (l ++ [p]) = cells5 l ++ one5 p := by rw [cells5_append]; simp [cells5]
    unfold Out5
    rw [List.length_append, e]
    exact h1
  · rcases h.2 with ⟨rfl, h0⟩ | ⟨g, cap, cur, rfl, hbg, hg, hnc, hcm, hcs, htake⟩
    · refine ⟨hl'.1, ?_⟩
      rcases hl'.2 with hl | ⟨g, cap, cur, e, _⟩
      · exact .inl hl
      · simp at e
    · by_cases hroom : l.length + 1 ≤ cap
      · have hr2 := run_append_room (P := Try.prog) w 86 ty 102 i0 Try.underlying86 hi g l.length cap cur hg ⟨q, 0, none⟩ 1 1 (one5 p) (by rw [hol, hz1]) hc2 (one5_one p) hroom (by rw [hol, hz1, hcs]; omega)
        rw [hr2] at hr
        cases hr
        refine ⟨hl'.1, ?_⟩
        rcases hl'.2 with hl | ⟨g', cap', cur', e, hb', hg', hn', hm', hs', ht'⟩
        · exact .inl hl
        · simp only [Value.slice.injEq, Option.some.injEq, Addr.mk.injEq, and_true] at e
          obtain ⟨rfl, hll, rfl⟩ := e
          have hcc := hg.symm.trans hg'
          simp only [Option.some.injEq, Obj.cells.injEq, and_true] at hcc
          subst hcc
          have hcl : cur.toList.length = cap * 259 := by rw [Array.length_toList]; exact hcs
          refine .inr ⟨g, cap, _, by rw [hll], hb', setRow_heap w g cur _ 102 _ hg, hn', hm', ?_, ?_⟩
          · simp only [List.size_toArray, List.length_append, List.length_take, List.length_drop, Array.length_toList, hol, hz1]
            rw [hcs]
            omega
          · rw [hz1, ← ht', hll, List.append_assoc, List.take_append_of_le_length (by rw [List.length_take, hcl]; omega), List.take_take, Nat.min_self]
      · have hr2 := run_append_grow (P := Try.prog) w 86 ty 102 i0 _ Try.underlying86 hi hz0 ⟨g, 0, none⟩ l.length cap (cells5 l) (by rw [cells5_len hf, hz1]) (h.cells (g := g) rfl) ⟨q, 0, none⟩ 1 1 (one5 p) (by rw [hol, hz1]) hc2 (by omega) (by omega) (growslice_fits (by omega) (by rw [hz2]; omega))
        rw [hr2] at hr
        cases hr
        exact Out5.later hl' ((Below.refl _ _).drew.alloc (by simp) _)
/-- What the slots of the region hold, whatever the order. -/
def phiM5 (m a p N : Nat) (z zz : Int) (v : Value) (l : List P5) : Nat → Value → World → Prop
  | 0, x, _ => x = .pointer (some ⟨m, 0, none⟩)
  | 1, x, _ => x = .pointer (some ⟨m, 0, none⟩)
  | 2, x, _ => x = .pointer (some ⟨m, 0, none⟩)
  | 3, x, _ => x = .pointer (some ⟨m, 1, none⟩)
  | 4, x, _ => x = v
  | 5, x, _ => x = .int .u32 (a : Int)
  | 6, x, _ => x = .int .u32 (p : Int)
  | 7, x, _ => x = .int .i64 z
  | 8, x, _ => x = .int .i64 zz
  | 9, x, _ => x = .agg (one5 (page5 p zz)).toArray
  | 10, x, w => ∃ q, x = .slice (some ⟨q, 0, none⟩) 1 1 ∧ some q ≠ v.ownBlock ∧ Blk w q (one5 (page5 p zz)).toArray 102
  | 11, x, w => Out5 w x (l ++ [page5 p zz]) ∧ (x.ownBlock = v.ownBlock ∨ ∃ q, N ≤ q ∧ x.ownBlock = some q)
  | 12, x, _ => x = .pointer (some ⟨m, 0, none⟩)
  | 13, x, _ => x = .pointer (some ⟨m, 1, none⟩)
  | _ + 14, _, _ => True
theorem phiM5_mono (m a p N : Nat) (z zz : Int) (v : Value) (l : List P5) : ∀ i j x w w', phiM5 m a p N z zz v l i x w → (if j = 11 then RM5 v w w' else Below w.heap.size w w') → i ≠ j → phiM5 m a p N z zz v l i x w'
  | 0, _, _, _, _, h, _, _ => h
  | 1, _, _, _, _, h, _, _ => h
  | 2, _, _, _, _, h, _, _ => h
  | 3, _, _, _, _, h, _, _ => h
  | 4, _, _, _, _, h, _, _ => h
  | 5, _, _, _, _, h, _, _ => h
  | 6, _, _, _, _, h, _, _ => h
  | 7, _, _, _, _, h, _, _ => h
  | 8, _, _, _, _, h, _, _ => h
  | 9, _, _, _, _, h, _, _ => h
  | 10, j, x, w, w', h, hr, _ => by
    obtain ⟨q, e, h1, h2⟩ := h
    refine ⟨q, e, h1, ?_⟩
    by_cases hj : j = 11
    · rw [if_pos hj] at hr
      exact hr.blk h2 h1
    · rw [if_neg hj] at hr
      exact h2.later hr
  | 11, j, x, w, w', h, hr, hn => by
    rw [if_neg (fun e => hn e.symm)] at hr
    exact ⟨Out5.later h.1 hr, h.2⟩
  | 12, _, _, _, _, h, _, _ => h
  | 13, _, _, _, _, h, _, _ => h
  | _ + 14, _, _, _, _, _, _, _ => trivial
theorem list14m : ∀ xs : List Value, xs.length = 14 → ∃ x0 x1 x2 x3 x4 x5 x6 x7 x8 x9 x10 x11 x12 x13, xs = [x0, x1, x2, x3, x4, x5, x6, x7, x8, x9, x10, x11, x12, x13]
  | [x0, x1, x2, x3, x4, x5, x6, x7, x8, x9, x10, x11, x12, x13], _ => ⟨_, _, _, _, _, _, _, _, _, _, _, _, _, _, rfl⟩
end Go.Proofs.Ytkpcajmphhdmiaa
namespace Go.Proofs.Ytkpcajmphhdmiaa
open Go Go.RowKit
set_option linter.unusedVariables false
section
variable {P : Program}
theorem wp_region_two {R0 R : World → World → Prop} (hR0 : Later R0) (hR : Later R) (h01 : ∀ u v, R0 u v → R u v) (s : Nat) (Rj : Nat → World → World → Prop) (hRj : ∀ j u v, j ≠ s → Rj j u v → R0 u v) (hRs : ∀ u v, Rj s u v → R u v) {id : Nat} {Q : Exit → Act → World → Prop} {a : Act} {w : World} {l : List Oper} (n : Nat) (ds : List Nat) (Φ : Nat → List Value → World → Prop) (hm : P.follows .mixedOrders = true) (hB : headOkB l.toArray n = true) (hd : ds.length = n)
    (hmono : ∀ i j v xs w w', waitsB .any l.toArray i j = false → i ≠ j → Φ i xs w → Rj j w w' → Φ i (xs.set j v) w')
    (hstep : ∀ j, j < n → ∀ xs w', xs.length = n → R w w' → (j = s ∨ waitsB .any l.toArray s j = true → R0 w w') → (∀ i, waitsB .any l.toArray j i = true → Φ i xs w') →
      Runs P l.toArray Q j (fun a' w'' => ∃ v, a' = slotsOn a ds (xs.set j v) ∧ Φ j (xs.set j v) w'' ∧ Rj j w' w'') (slotsOn a ds xs) w')
    (hfin : ∀ xs w', xs.length = n → R w w' → (∀ i, i < n → Φ i xs w') → wpList P l.toArray Q (l.drop n) (slotsOn a ds xs) w') :
    (Code.region id l.toArray true).wp P Q a w := by
  simp only [headOkB, Bool.and_eq_true, decide_eq_true_eq] at hB
  obtain ⟨⟨⟨⟨hn, hs⟩, hc⟩, hb⟩, hq⟩ := hB
  have key : ∀ (c : Nat) (L : Array Bool) (xs : List Value) (w' : World), HeadInv .any l.toArray n L → xs.length = n → R w w' → (L.getD s false = false → R0 w w') → (∀ i, i < n → L.getD i false = true → Φ i xs w') → (L.toList.take n).count false = c →
      wpAny P .any l.toArray Q (c + (l.toArray.size - n)) L (slotsOn a ds xs) w' := by
    intro c
    induction c with
    | zero =>
      intro L xs w' inv hx hR' hS' hΦ h0
      have hall : ∀ i, i < n → L.getD i false = true := by
        intro i hi
        cases h : L.getD i false with
        | true => rfl
        | false =>
          exfalso
          have hlt : i < L.size := by rw [inv.size]; omega
          have : false ∈ L.toList.take n := by
            rw [List.mem_iff_getElem?]
            refine ⟨i, ?_⟩
            rw [List.getElem?_take_of_lt hi]
            simp [hlt] at h ⊢
            exact h
          have := List.count_pos_iff.2 this
          omega
      have e := headDone_eq (L := L) (n := n) (g := l.toArray.size - n) (by rw [inv.size]; omega) hall (fun i h1 h2 => inv.tail i h1 (by omega))
      have hdl : (l.drop n).length = l.toArray.size - n := by simp
      have := wpAny_of_seq (P := P) (md := .any) (Q' := Q) (l.drop n) n L (slotsOn a ds xs) w' (fun j => by simp [List.getElem?_drop]) (by rw [hdl, e]; exact hq) (hfin xs w' hx hR' fun i hi => hΦ i hi (hall i hi))
      rw [hdl] at this
      rw [Nat.zero_add]
      exact this
    | succ c ih =>
      intro L xs w' inv hx hR' hS' hΦ h0
      obtain ⟨q, hq1, hq2⟩ : ∃ q, q < n ∧ L.getD q true = false := by
        have : false ∈ L.toList.take n := List.count_pos_iff.1 (by omega)
        obtain ⟨i, hi⟩ := List.mem_iff_getElem?.1 this
        have hin : i < n := by
          have := (List.getElem?_eq_some_iff.1 hi).1
          simp at this
          omega
        rw [List.getElem?_take_of_lt hin] at hi
        have hlt : i < L.size := by rw [inv.size]; omega
        refine ⟨i, hin, ?_⟩
        simp [hlt] at hi ⊢
        exact hi
      have hlow : ∀ j ∈ Region.ready .any l.toArray L, j < n := fun j hj => Nat.lt_of_not_le fun h => tail_waits hs hc hn inv _ q rfl hq1 hq2 j h hj
      rw [show c + 1 + (l.toArray.size - n) = (c + (l.toArray.size - n)) + 1 by omega]
      refine ⟨fun hno => ?_, fun i hi => ?_⟩
      · exfalso
        have := all_up hb inv.size hno q (by omega)
        rw [getD_both hq2] at this
        cases this
      · have hin := hlow i hi
        obtain ⟨hl, o, ho, hall⟩ := mem_ready.1 hi
        have hback : ∀ k, L.getD k false = true → waitsB .any l.toArray k i = false := by
          intro k hLk
          cases hwt : waitsB .any l.toArray k i with
          | false => rfl
          | true =>
            exfalso
            unfold waitsB at hwt
            cases hok : l.toArray[k]? with
            | none => rw [hok] at hwt; simp at hwt
            | some ok =>
              rw [hok] at hwt
              obtain ⟨e, he, hbb⟩ := Array.any_eq_true'.1 hwt
              simp only [Bool.and_eq_true, beq_iff_eq] at hbb
              have := inv.closed k ok hok hLk e he hbb.1
              rw [hbb.2, getD_both hl] at this
              cases this
        have hr := hstep i hin xs w' hx hR' (fun hw => by
          refine hS' ?_
          rcases hw with rfl | hw
          · exact getD_both hl
          cases h : L.getD s false with
          | false => rfl
          | true =>
            have := hback s h
            rw [hw] at this
            cases this) (fun j hj => by
          simp only [waitsB, ho] at hj
          obtain ⟨e, he, hbb⟩ := Array.any_eq_true'.1 hj
          simp only [Bool.and_eq_true, beq_iff_eq] at hbb
          have hlt := edge_back hb ho he hbb.1
          rw [← hbb.2]
          exact hΦ e.on (by omega) (hall e he hbb.1))
        refine wpOp_mono ?_ hr.out
        rintro a' w'' ⟨v, rfl, hv, hR''⟩
        have hlt : i < L.size := by rw [inv.size]; omega
        have hRR : R w' w'' := by
          by_cases his : i = s
          · subst his; exact hRs _ _ hR''
          · exact h01 _ _ (hRj _ _ _ his hR'')
        refine ih (L.setIfInBounds i true) (xs.set i v) w'' (inv.set hi hin) (by simpa using hx) (hR.trans _ _ _ hR' hRR) ?_ ?_ ?_
        · intro hLs
          by_cases his : i = s
          · subst his
            exfalso
            simp [hlt] at hLs
          · rw [getD_set_ne false his] at hLs
            exact hR0.trans _ _ _ (hS' hLs) (hRj _ _ _ his hR'')
        · intro k hk hLk
          by_cases hik : i = k
          · subst hik
            exact hv
          · rw [getD_set_ne false hik] at hLk
            exact hmono k i v xs w' w'' (hback k hLk) (fun e => hik e.symm) (hΦ k hk hLk) hR''
        · rw [Array.toList_setIfInBounds]
          have hf : L.toList[i]? = some false := by
            simp [hlt] at hl ⊢
            exact hl
          have := count_head L.toList n i hf hin
          omega
  have inv0 : HeadInv .any l.toArray n (Array.replicate l.toArray.size false) :=
    ⟨by simp, fun j oj _ hl => (by rw [getD_replicate_false] at hl; cases hl), fun t _ ht => getD_in (by simpa using ht) (getD_replicate_false _ _)⟩
  refine wp_region_any hm ?_
  have hsz : n < l.length := by simpa using hn
  have h := key n (Array.replicate l.toArray.size false) (ds.map fun d => a.tmps.toList.getD d undef) _ inv0 (by simpa using hd) (hR.drew w) (fun _ => hR0.drew w) (fun i _ h => by rw [getD_replicate_false] at h; cases h) (by
    simp only [Array.toList_replicate, List.take_replicate, List.count_replicate_self]
    simp
    omega)
  rw [show n + (l.toArray.size - n) = l.toArray.size by omega, slotsOn_self] at h
  exact h
end
end Go.Proofs.Ytkpcajmphhdmiaa
namespace Go.Proofs.Ytkpcajmphhdmiaa
open Go.ChangeShapes Go.WideShapes Go.ChangeAt Go.RowKit
set_option linter.unusedVariables false
theorem size100 : (Try.prog.info? 102).map (·.size) = some 259 := by kernel_rfl
theorem Step5.later {w w1 w2 : World} {s t : S5} (h : Step5 w s w1 t) (hb : Below w1.heap.size w1 w2) : Step5 w s w2 t := by
  have hl : ∀ b, foot5 t b → b < w1.heap.size := by
    rintro b (hb | hb | hb)
    · rw [hb]; exact h.mem.lt
    · obtain ⟨c, hc⟩ := h.mem.blkP hb; exact hc.lt
    · obtain ⟨c, hc⟩ := h.mem.blkT hb; exact hc.lt
  refine ⟨⟨h.mem.self.later hb, ownsRow_same h.mem.pages fun g hg => hb.block g (hl g (.inr (.inl hg))), ownsRow_same h.mem.touched fun g hg => hb.block g (hl g (.inr (.inr hg))), h.mem.fit, h.mem.few⟩, h.keep.trans (Keep.of_below (F := nought) hb) fun b _ hn => hn.elim, h.grow⟩
theorem later_bel : Later (fun u x : World => Below u.heap.size u x) := ⟨fun w => Below.refl _ w, fun _ _ _ h k => bthen h k, fun w => (Below.refl _ w).drew⟩
theorem later_keep (g : Nat) : Later (Keep (· = g)) := ⟨fun w => Keep.refl _ w, fun _ _ _ h k => h.trans k fun _ _ hb => hb, fun w => (Keep.refl _ w).drewN 1⟩
section
variable {ρ : Operand → Value} {o : Oper}
theorem exec_index100 {x y : Operand} {b off n cap k : Nat} (hop : o.op = .indexAddr 86 x y) (hx : ρ x = .slice (some ⟨b, off, none⟩) n cap) (hy : ρ y = .int .i64 (k : Int)) (hk : k < n) (w : World) : (execOp ρ o).run Try.prog w = .ok (.value (.pointer (some ⟨b, off + k * 259, none⟩))) w := by
  have hs := size100
  cases hq : Try.prog.info? 102 with
  | none => simp [hq] at hs
  | some i =>
    have hs2 : i.size = 259 := by simpa [hq] using hs
    unfold execOp
    rw [hop]
    simp [hx, hy, Instr.indexAt, run_underlying Try.underlying86, sizeOf, typeInfo, hq, hs2, hk, Addr.add_lit, go_sem]
theorem exec_less1 {x : Operand} {k : Nat} (hop : o.op = .binOp .sub 3 x (.const (.int .i64 1)) 3) (hx : ρ x = .int .i64 ((k + 1 : Nat) : Int) ∧ ρ (.const (.int .i64 1)) = .int .i64 1) (hk : k < 100000) (w : World) : (execOp ρ o).run Try.prog w = .ok (.value (.int .i64 (k : Int))) w := by
  have e : IntKind.i64.wrap (((k + 1 : Nat) : Int) - 1) = (k : Int) := by rw [IntKind.wrap_i64]; omega
  unfold execOp
  rw [hop]
  simp only [hx.1, hx.2]
  simp [go_sem]
  rw [IntKind.wrap_i64]
  omega
end
theorem load100 {w : World} {b o : Nat} {p : P5} (hp : Fit5 p) (h : w.rangeAt b o (one5 p)) : (loadVar 102 ⟨b, o, none⟩).run Try.prog w = .ok (.agg (one5 p).toArray) w :=
  run_loadVar_mid w b o 102 (one5 p) _ h Try.underlying102 rfl (by rw [one5_len hp]; exact size100)
theorem wpOp_store100 {ops : Array Oper} {Q : Exit → Act → World → Prop} {a : Act} {w : World} {K : Act → World → Prop} {i b off : Nat} {p : P5} {o : Oper} {x y : Operand} (hp : Fit5 p) (hi : ops[i]? = some o) (hw : Region.wanted o (yielded ops a.tmps) = true) (ho : o.op = .store 102 x y) (hd : o.dst = none) (hx : a.eval x = .pointer (some ⟨b, off, none⟩)) (hy : a.eval y = .agg (one5 p).toArray) (ht : w.there b off 259) (h : K a (w.setCells b off (one5 p))) : Runs Try.prog ops Q i K a w := by
  have hs : (one5 p).toArray.size = 259 := by rw [List.size_toArray, one5_len hp]
  constructor
  unfold wpOp
  simp only [hi, hw, if_true]
  left
  exact wp_store_mid 102 x y ho b off (one5 p).toArray hx hy (by rw [hs]; exact ht) (by rw [hs]; exact size100) (all_oneCell_toArray (one5_one p)) (by rw [hd]; exact h)
theorem M5.there {w : World} {s : S5} (h : M5 w s) {k g off cap : Nat} (hk : k < s.l.length) (hv : s.vP = .slice (some ⟨g, off, none⟩) s.l.length cap) : w.there g (off + k * 259) 259 := by
  obtain ⟨g2, off2, cap2, h0, hv2, _, hth, _, hc⟩ := h.row hk
  rw [hv] at hv2
  simp only [Value.slice.injEq, Option.some.injEq, Addr.mk.injEq, and_true, true_and] at hv2
  obtain ⟨⟨rfl, rfl⟩, rfl⟩ := hv2
  intro j hj
  refine ⟨?_, hth _⟩
  rw [hc k j _ hk hj (List.getElem?_eq_getElem (by rw [one5_len (h.fitAt hk)]; exact hj))]
  rfl
theorem swap_list {l : List P5} {k : Nat} (h : k < l.length) (pg : P5) : ((l.take (k + 1) ++ pg :: l.drop (k + 1)).set (k + 1) (l.getD k nop5)).set k pg = l.take k ++ pg :: l.drop k := by
  have eg : l.getD k nop5 = l[k] := by rw [List.getD_eq_getElem?_getD, List.getElem?_eq_getElem h]; rfl
  have e1 : l.take (k + 1) = l.take k ++ [l[k]] := by rw [List.take_add_one, List.getElem?_eq_getElem h]; rfl
  have e2 : l.drop k = l[k] :: l.drop (k + 1) := List.drop_eq_getElem_cons h
  have e3 : (l.take k).length = k := by simp; omega
  rw [eg, e1, e2, List.append_assoc, List.set_append_right _ _ (by omega), e3, List.set_append_right _ _ (by omega), e3, Nat.sub_self, show k + 1 - k = 1 by omega]
  rfl
theorem bel_two {j g : Nat} {u x : World} (hj : j ≠ 27) (h : Below u.heap.size u x) : if j = 27 then Keep (· = g) u x else Below u.heap.size u x := by rw [if_neg hj]; exact h
/-- What the slots of the region hold, whatever the order. -/
def phiSw (m g off n1 cap k : Nat) (px py : P5) (wr : World) (st st1 : S5) : Nat → Value → World → Prop
  | 0, x, _ => x = .pointer (some ⟨m, 0, none⟩)
  | 1, x, _ => x = .pointer (some ⟨m, 0, none⟩)
  | 2, x, _ => x = .pointer (some ⟨m, 1, none⟩)
  | 3, x, _ => x = .slice (some ⟨g, off, none⟩) n1 cap
  | 4, x, _ => x = .int .i64 ((k + 1 : Nat) : Int)
  | 5, x, _ => x = .pointer (some ⟨m, 0, none⟩)
  | 6, x, _ => x = .pointer (some ⟨m, 0, none⟩)
  | 7, x, _ => x = .pointer (some ⟨m, 1, none⟩)
  | 8, x, _ => x = .slice (some ⟨g, off, none⟩) n1 cap
  | 9, x, _ => x = .int .i64 ((k + 1 : Nat) : Int)
  | 10, x, _ => x = .int .i64 (k : Int)
  | 11, x, _ => x = .pointer (some ⟨m, 0, none⟩)
  | 12, x, _ => x = .pointer (some ⟨m, 0, none⟩)
  | 13, x, _ => x = .pointer (some ⟨m, 1, none⟩)
  | 14, x, _ => x = .slice (some ⟨g, off, none⟩) n1 cap
  | 15, x, _ => x = .int .i64 ((k + 1 : Nat) : Int)
  | 16, x, _ => x = .int .i64 (k : Int)
  | 17, x, _ => x = .pointer (some ⟨g, off + k * 259, none⟩)
  | 18, x, _ => x = .agg (one5 px).toArray
  | 19, x, _ => x = .pointer (some ⟨m, 0, none⟩)
  | 20, x, _ => x = .pointer (some ⟨m, 0, none⟩)
  | 21, x, _ => x = .pointer (some ⟨m, 1, none⟩)
  | 22, x, _ => x = .slice (some ⟨g, off, none⟩) n1 cap
  | 23, x, _ => x = .int .i64 ((k + 1 : Nat) : Int)
  | 24, x, _ => x = .pointer (some ⟨g, off + (k + 1) * 259, none⟩)
  | 25, x, _ => x = .agg (one5 py).toArray
  | 26, x, _ => x = .pointer (some ⟨g, off + (k + 1) * 259, none⟩)
  | 27, _, w => Step5 wr st w st1
  | 28, x, _ => x = .pointer (some ⟨g, off + k * 259, none⟩)
  | _ + 29, _, _ => True
theorem phiSw_mono (m g off n1 cap k : Nat) (px py : P5) (wr : World) (st st1 : S5) : ∀ i j x y w w', phiSw m g off n1 cap k px py wr st st1 i x w → (if j = 27 then Keep (· = g) w w' else Below w.heap.size w w') → i ≠ j → (i ≠ 27 → x = y) → phiSw m g off n1 cap k px py wr st st1 i y w'
  | 0, _, _, _, _, _, h, _, _, e => (e (by decide)) ▸ h
  | 1, _, _, _, _, _, h, _, _, e => (e (by decide)) ▸ h
  | 2, _, _, _, _, _, h, _, _, e => (e (by decide)) ▸ h
  | 3, _, _, _, _, _, h, _, _, e => (e (by decide)) ▸ h
  | 4, _, _, _, _, _, h, _, _, e => (e (by decide)) ▸ h
  | 5, _, _, _, _, _, h, _, _, e => (e (by decide)) ▸ h
  | 6, _, _, _, _, _, h, _, _, e => (e (by decide)) ▸ h
  | 7, _, _, _, _, _, h, _, _, e => (e (by decide)) ▸ h
  | 8, _, _, _, _, _, h, _, _, e => (e (by decide)) ▸ h
  | 9, _, _, _, _, _, h, _, _, e => (e (by decide)) ▸ h
  | 10, _, _, _, _, _, h, _, _, e => (e (by decide)) ▸ h
  | 11, _, _, _, _, _, h, _, _, e => (e (by decide)) ▸ h
  | 12, _, _, _, _, _, h, _, _, e => (e (by decide)) ▸ h
  | 13, _, _, _, _, _, h, _, _, e => (e (by decide)) ▸ h
  | 14, _, _, _, _, _, h, _, _, e => (e (by decide)) ▸ h
  | 15, _, _, _, _, _, h, _, _, e => (e (by decide)) ▸ h
  | 16, _, _, _, _, _, h, _, _, e => (e (by decide)) ▸ h
  | 17, _, _, _, _, _, h, _, _, e => (e (by decide)) ▸ h
  | 18, _, _, _, _, _, h, _, _, e => (e (by decide)) ▸ h
  | 19, _, _, _, _, _, h, _, _, e => (e (by decide)) ▸ h
  | 20, _, _, _, _, _, h, _, _, e => (e (by decide)) ▸ h
  | 21, _, _, _, _, _, h, _, _, e => (e (by decide)) ▸ h
  | 22, _, _, _, _, _, h, _, _, e => (e (by decide)) ▸ h
  | 23, _, _, _, _, _, h, _, _, e => (e (by decide)) ▸ h
  | 24, _, _, _, _, _, h, _, _, e => (e (by decide)) ▸ h
  | 25, _, _, _, _, _, h, _, _, e => (e (by decide)) ▸ h
  | 26, _, _, _, _, _, h, _, _, e => (e (by decide)) ▸ h
  | 27, j, x, y, w, w', h, hr, hn, _ => by
    rw [if_neg (fun e => hn e.symm)] at hr
    exact Step5.later h hr
  | 28, _, _, _, _, _, h, _, _, e => (e (by decide)) ▸ h
  | _ + 29, _, _, _, _, _, _, _, _, _ => trivial
theorem list29 : ∀ xs : List Value, xs.length = 29 → ∃ x0 x1 x2 x3 x4 x5 x6 x7 x8 x9 x10 x11 x12 x13 x14 x15 x16 x17 x18 x19 x20 x21 x22 x23 x24 x25 x26 x27 x28, xs = [x0, x1, x2, x3, x4, x5, x6, x7, x8, x9, x10, x11, x12, x13, x14, x15, x16, x17, x18, x19, x20, x21, x22, x23, x24, x25, x26, x27, x28]
  | [x0, x1, x2, x3, x4, x5, x6, x7, x8, x9, x10, x11, x12, x13, x14, x15, x16, x17, x18, x19, x20, x21, x22, x23, x24, x25, x26, x27, x28], _ => ⟨_, _, _, _, _, _, _, _, _, _, _, _, _, _, _, _, _, _, _, _, _, _, _, _, _, _, _, _, _, rfl⟩
end Go.Proofs.Ytkpcajmphhdmiaa
