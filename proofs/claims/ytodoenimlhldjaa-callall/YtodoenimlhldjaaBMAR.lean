/- Chapter 5's own memory: a whole page put in the place of another. -/
import Derived.Test.YtodoenimlhldjaaBMAQ
import Derived.Deep.MidRow
import Derived.Deep.Upon
import Derived.Test.YtodoenimlhldjaaBMAG
import Derived.Deep.Cut
import Derived.Deep.CutRange
namespace Go.Proofs.Ytodoenimlhldjaa
open Go.ChangeShapes Go.WideShapes Go.ChangeAt Go.RowKit
set_option linter.unusedVariables false
def setL (l : List Value) : Nat → List Value → List Value
  | _, [] => l
  | o, v :: r => setL (l.set o v) (o + 1) r
theorem setL_len : ∀ (vs l : List Value) (o : Nat), (setL l o vs).length = l.length
  | [], _, _ => rfl
  | v :: r, l, o => by rw [setL, setL_len r, List.length_set]
theorem setL_take (n : Nat) : ∀ (vs l : List Value) (o : Nat), (setL l o vs).take n = setL (l.take n) o vs
  | [], _, _ => rfl
  | v :: r, l, o => by rw [setL, setL, setL_take n r, List.take_set]
theorem setL_mid : ∀ (vs a b c : List Value), b.length = vs.length → setL (a ++ (b ++ c)) a.length vs = a ++ (vs ++ c)
  | [], a, b, c, h => by rw [List.eq_nil_of_length_eq_zero h]; rfl
  | v :: r, a, b, c, h => by
    obtain ⟨x, t, rfl⟩ : ∃ x t, b = x :: t := by
      cases b with
      | nil => simp at h
      | cons x t => exact ⟨x, t, rfl⟩
    have e : (a ++ (x :: t ++ c)).set a.length v = (a ++ [v]) ++ (t ++ c) := by
      rw [List.set_append_right _ _ (Nat.le_refl _), Nat.sub_self]
      simp
    rw [setL, e, show a.length + 1 = (a ++ [v]).length by simp, setL_mid r (a ++ [v]) t c (by simpa using h)]
    simp
theorem heap_setCells_row {g : Nat} {T : TypeId} {fr : Nat × Nat} : ∀ (vs : List Value) (o : Nat) (w : World) (cs : Array Value), w.heap[g]? = some (.cells cs T fr) → (w.setCells g o vs).heap[g]? = some (.cells (setL cs.toList o vs).toArray T fr)
  | [], _, _, _, h => by simpa [World.setCells, setL] using h
  | v :: r, o, w, cs, h => by
    rw [World.setCells, heap_setCells_row r (o + 1) _ _ (Lib.heap_setCell_same h v), setL, Array.toList_setIfInBounds]
theorem size_setCells (g : Nat) : ∀ (vs : List Value) (o : Nat) (w : World), (w.setCells g o vs).heap.size = w.heap.size
  | [], _, _ => rfl
  | v :: r, o, w => by rw [World.setCells, size_setCells g r]; simp [World.setCell]
theorem tape_setCells (g : Nat) : ∀ (vs : List Value) (o : Nat) (w : World), (w.setCells g o vs).tape = w.tape
  | [], _, _ => rfl
  | v :: r, o, w => by rw [World.setCells, tape_setCells g r]; rfl
theorem keep_setCells (w : World) (g o : Nat) (vs : List Value) : Keep (· = g) w (w.setCells g o vs) :=
  ⟨World.os_setCells _ _ _ _, tape_setCells _ _ _ _, World.output_setCells _ _ _ _, Nat.le_of_eq (size_setCells g vs o w).symm, fun k hk hne => World.heap_setCells_other w g o vs hk hne⟩
theorem cells5_put {l : List P5} (hf : ∀ p ∈ l, Fit5 p) {k : Nat} (hk : k < l.length) {q : P5} (hq : Fit5 q) : setL (cells5 l) (k * 259) (one5 q) = cells5 (l.set k q) := by
  have e : l = l.take k ++ ([l[k]] ++ l.drop (k + 1)) := by simp
  have e2 : l.set k q = l.take k ++ ([q] ++ l.drop (k + 1)) := by rw [List.set_eq_take_append_cons_drop, if_pos hk]; rfl
  have e3 : (cells5 (l.take k)).length = k * 259 := by
    rw [cells5_len fun p hp => hf p (List.mem_of_mem_take hp), List.length_take, Nat.min_eq_left (Nat.le_of_lt hk)]
  have e4 : ∀ p : P5, cells5 [p] = one5 p := fun p => by simp [cells5]
  rw [e2]
  conv => lhs; rw [e]
  rw [cells5_append, cells5_append, cells5_append, cells5_append, e4, e4, ← e3, setL_mid _ _ _ _ (by rw [one5_len hq, one5_len (hf _ (List.getElem_mem hk))])]
/-- One page put in the place of another. -/
theorem M5.put {w : World} {s : S5} (h : M5 w s) {k : Nat} (hk : k < s.l.length) {q : P5} (hq : Fit5 q) {g off cap : Nat} (hv : s.vP = .slice (some ⟨g, off, none⟩) s.l.length cap) (h0 : off = 0) :
    Step5 w s (w.setCells g (off + k * 259) (one5 q)) { s with l := s.l.set k q } := by
  subst h0
  have hgP : s.vP.ownBlock = some g := by rw [hv]; rfl
  obtain ⟨c1, hb1⟩ := h.blkP hgP
  have hgm : s.m ≠ g := blk_ne h.self hb1 (by decide)
  have out : ∀ b, b < w.heap.size → b ≠ g → (w.setCells g (0 + k * 259) (one5 q)).heap[b]? = w.heap[b]? := fun b hb hne => World.heap_setCells_other _ _ _ _ hb hne
  refine ⟨⟨(out _ h.lt hgm).trans h.self, ?_, ownsRow_same h.touched fun t ht => ?_, ?_, ?_⟩, (keep_setCells w g _ _).mono fun b _ hb => ?_, fun b hb => .inl hb⟩
  · show (w.setCells g (0 + k * 259) (one5 q)).ownsRow 0 116 259 s.vP (s.l.set k q).length (cells5 (s.l.set k q))
    rw [List.length_set, ← cells5_put h.fit hk hq]
    refine ⟨by rw [setL_len]; exact h.pages.1, ?_⟩
    rcases h.pages.2 with ⟨e, hz⟩ | ⟨g', cap', cur, e, hb, hg, hnc, hcm, hsz, htk⟩
    · omega
    · rw [hv] at e
      simp at e
      obtain ⟨rfl, rfl⟩ := e
      refine .inr ⟨g, cap, _, hv, hb, heap_setCells_row _ _ _ _ hg, hnc, hcm, by rw [List.size_toArray, setL_len]; simpa using hsz, ?_⟩
      rw [← htk, setL_take, Nat.zero_add]
  · obtain ⟨c2, hb2⟩ := h.blkT ht
    exact out t hb2.lt (blk_ne hb2 hb1 (by decide))
  · intro p hp
    rcases List.mem_or_eq_of_mem_set hp with hp | rfl
    · exact h.fit p hp
    · exact hq
  · show (s.l.set k q).length ≤ 1000
    rw [List.length_set]
    exact h.few
  · exact .inr (.inl (by rw [hgP]; exact congrArg some hb.symm))
end Go.Proofs.Ytodoenimlhldjaa
namespace Go.Proofs.Ytodoenimlhldjaa
open Go Go.RowKit
set_option linter.unusedVariables false
section
variable {P : Program}
def headOkB (ops : Array Oper) (n : Nat) : Bool :=
  decide (n < ops.size) && Region.sinkB .any ops n && Region.chainB .any ops n && edgesB .any ops && Region.seqB .any ops (ops.size - n) n (headDone n (ops.size - n))
end
end Go.Proofs.Ytodoenimlhldjaa
namespace Go.Proofs.Ytodoenimlhldjaa
open Go Go.RowKit
set_option linter.unusedVariables false
section
variable {P : Program}
theorem wp_region_by {R : World → World → Prop} (hR : Later R) (Rj : Nat → World → World → Prop) (hRj : ∀ j u v, Rj j u v → R u v) {id : Nat} {Q : Exit → Act → World → Prop} {a : Act} {w : World} {l : List Oper} (n : Nat) (ds : List Nat) (Φ : Nat → List Value → World → Prop) (hm : P.follows .mixedOrders = true) (hB : headOkB l.toArray n = true) (hd : ds.length = n)
    (hmono : ∀ i j v xs w w', waitsB .any l.toArray i j = false → i ≠ j → Φ i xs w → Rj j w w' → Φ i (xs.set j v) w')
    (hstep : ∀ j, j < n → ∀ xs w', xs.length = n → R w w' → (∀ i, waitsB .any l.toArray j i = true → Φ i xs w') →
      Runs P l.toArray Q j (fun a' w'' => ∃ v, a' = slotsOn a ds (xs.set j v) ∧ Φ j (xs.set j v) w'' ∧ Rj j w' w'') (slotsOn a ds xs) w')
    (hfin : ∀ xs w', xs.length = n → R w w' → (∀ i, i < n → Φ i xs w') → wpList P l.toArray Q (l.drop n) (slotsOn a ds xs) w') :
    (Code.region id l.toArray true).wp P Q a w := by
  simp only [headOkB, Bool.and_eq_true, decide_eq_true_eq] at hB
  obtain ⟨⟨⟨⟨hn, hs⟩, hc⟩, hb⟩, hq⟩ := hB
  have key : ∀ (c : Nat) (L : Array Bool) (xs : List Value) (w' : World), HeadInv .any l.toArray n L → xs.length = n → R w w' → (∀ i, i < n → L.getD i false = true → Φ i xs w') → (L.toList.take n).count false = c →
      wpAny P .any l.toArray Q (c + (l.toArray.size - n)) L (slotsOn a ds xs) w' := by
    intro c
    induction c with
    | zero =>
      intro L xs w' inv hx hR' hΦ h0
      have hall : ∀ i, i < n → L.getD i false = true := by
        intro i hi
        cases h : L.getD i false with
        | true => rfl
        | false =>
          exfalso
          have hlt : i < L.size := by rw [inv.size]; omega
          have : false ∈ L.toList.take n := by
            rw [List.mem_iff_getElem?]
            refine ⟨i, ?_⟩
            rw [List.getElem?_take_of_lt hi]
            simp [hlt] at h ⊢
            exact h
          have := List.count_pos_iff.2 this
          omega
      have e := headDone_eq (L := L) (n := n) (g := l.toArray.size - n) (by rw [inv.size]; omega) hall (fun i h1 h2 => inv.tail i h1 (by omega))
      have hdl : (l.drop n).length = l.toArray.size - n := by simp
      have := wpAny_of_seq (P := P) (md := .any) (Q' := Q) (l.drop n) n L (slotsOn a ds xs) w' (fun j => by simp [List.getElem?_drop]) (by rw [hdl, e]; exact hq) (hfin xs w' hx hR' fun i hi => hΦ i hi (hall i hi))
      rw [hdl] at this
      rw [Nat.zero_add]
      exact this
    | succ c ih =>
      intro L xs w' inv hx hR' hΦ h0
      obtain ⟨q, hq1, hq2⟩ : ∃ q, q < n ∧ L.getD q true = false := by
        have : false ∈ L.toList.take n := List.count_pos_iff.1 (by omega)
        obtain ⟨i, hi⟩ := List.mem_iff_getElem?.1 this
        have hin : i < n := by
          have := (List.getElem?_eq_some_iff.1 hi).1
          simp at this
          omega
        rw [List.getElem?_take_of_lt hin] at hi
        have hlt : i < L.size := by rw [inv.size]; omega
        refine ⟨i, hin, ?_⟩
        simp [hlt] at hi ⊢
        exact hi
      have hlow : ∀ j ∈ Region.ready .any l.toArray L, j < n := fun j hj => Nat.lt_of_not_le fun h => tail_waits hs hc hn inv _ q rfl hq1 hq2 j h hj
      rw [show c + 1 + (l.toArray.size - n) = (c + (l.toArray.size - n)) + 1 by omega]
      refine ⟨fun hno => ?_, fun i hi => ?_⟩
      · exfalso
        have := all_up hb inv.size hno q (by omega)
        rw [getD_both hq2] at this
        cases this
      · have hin := hlow i hi
        obtain ⟨hl, o, ho, hall⟩ := mem_ready.1 hi
        have hr := hstep i hin xs w' hx hR' (fun j hj => by
          simp only [waitsB, ho] at hj
          obtain ⟨e, he, hbb⟩ := Array.any_eq_true'.1 hj
          simp only [Bool.and_eq_true, beq_iff_eq] at hbb
          have hlt := edge_back hb ho he hbb.1
          rw [← hbb.2]
          exact hΦ e.on (by omega) (hall e he hbb.1))
        refine wpOp_mono ?_ hr.out
        rintro a' w'' ⟨v, rfl, hv, hR''⟩
        have hlt : i < L.size := by rw [inv.size]; omega
        refine ih (L.setIfInBounds i true) (xs.set i v) w'' (inv.set hi hin) (by simpa using hx) (hR.trans _ _ _ hR' (hRj _ _ _ hR'')) ?_ ?_
        · intro k hk hLk
          by_cases hik : i = k
          · subst hik
            exact hv
          · rw [getD_set_ne false hik] at hLk
            refine hmono k i v xs w' w'' ?_ (fun e => hik e.symm) (hΦ k hk hLk) hR''
            cases hwt : waitsB .any l.toArray k i with
            | false => rfl
            | true =>
              exfalso
              unfold waitsB at hwt
              cases hok : l.toArray[k]? with
              | none => rw [hok] at hwt; simp at hwt
              | some ok =>
                rw [hok] at hwt
                obtain ⟨e, he, hbb⟩ := Array.any_eq_true'.1 hwt
                simp only [Bool.and_eq_true, beq_iff_eq] at hbb
                have := inv.closed k ok hok hLk e he hbb.1
                rw [hbb.2, getD_both hl] at this
                cases this
        · rw [Array.toList_setIfInBounds]
          have hf : L.toList[i]? = some false := by
            simp [hlt] at hl ⊢
            exact hl
          have := count_head L.toList n i hf hin
          omega
  have inv0 : HeadInv .any l.toArray n (Array.replicate l.toArray.size false) :=
    ⟨by simp, fun j oj _ hl => (by rw [getD_replicate_false] at hl; cases hl), fun t _ ht => getD_in (by simpa using ht) (getD_replicate_false _ _)⟩
  refine wp_region_any hm ?_
  have hsz : n < l.length := by simpa using hn
  have h := key n (Array.replicate l.toArray.size false) (ds.map fun d => a.tmps.toList.getD d undef) _ inv0 (by simpa using hd) (hR.drew w) (fun i _ h => by rw [getD_replicate_false] at h; cases h) (by
    simp only [Array.toList_replicate, List.take_replicate, List.count_replicate_self]
    simp
    omega)
  rw [show n + (l.toArray.size - n) = l.toArray.size by omega, slotsOn_self] at h
  exact h
end
end Go.Proofs.Ytodoenimlhldjaa
namespace Go.Proofs.Ytodoenimlhldjaa
open Go.ChangeShapes Go.WideShapes Go.ChangeAt Go.RowKit
set_option linter.unusedVariables false
def Out5 (w : World) (v : Value) (l : List P5) : Prop := w.ownsRow 0 116 259 v l.length (cells5 l)
theorem Out5.later {w w' : World} {v : Value} {l : List P5} (h : Out5 w v l) (hb : Below w.heap.size w w') : Out5 w' v l :=
  ownsRow_same h fun g hg => hb.block g (h.lt g hg).2
/-- Only the row v may have turned, and what it has it has still. -/
structure RM5 (v : Value) (u x : World) : Prop where
  grown : u.grownBy x v.ownBlock
  keep : ∀ l, (∀ p ∈ l, Fit5 p) → Out5 u v l → Out5 x v l
theorem RM5.blk {v : Value} {u x : World} (h : RM5 v u x) {k : Nat} {cs : Array Value} {T : TypeId} (hk : Blk u k cs T) (hne : some k ≠ v.ownBlock) : Blk x k cs T := (h.grown.block k hk.lt hne).trans hk
theorem grown5_refl (u : World) (e : Option Nat) : u.grownBy u e := ⟨rfl, rfl, rfl, Nat.le_refl _, fun _ _ _ => rfl⟩
theorem grown5_of {u x : World} (h : Below u.heap.size u x) (e : Option Nat) : u.grownBy x e := ⟨h.os, h.tape, h.output, h.size, fun k hk _ => h.block k hk⟩
theorem grown5_trans {u x y : World} {e : Option Nat} (h : u.grownBy x e) (k : x.grownBy y e) : u.grownBy y e := ⟨k.os.trans h.os, k.tape.trans h.tape, k.output.trans h.output, Nat.le_trans h.size k.size, fun i hi hn => (k.block i (Nat.lt_of_lt_of_le hi h.size) hn).trans (h.block i hi hn)⟩
theorem later_rm5 (v : Value) : Later (RM5 v) := ⟨fun w => ⟨grown5_refl w _, fun _ _ h => h⟩, fun _ _ _ h k => ⟨grown5_trans h.grown k.grown, fun l hf hl => k.keep l hf (h.keep l hf hl)⟩, fun w => ⟨grown5_of ((Below.refl _ w).drew) _, fun _ _ h => h⟩⟩
theorem rm5_below (v : Value) {u x : World} (h : Below u.heap.size u x) : RM5 v u x := ⟨grown5_of h _, fun _ _ hl => hl.later h⟩
theorem rm5_of (v : Value) : ∀ j u x, (if j = 11 then RM5 v u x else Below u.heap.size u x) → RM5 v u x := by
  intro j u x h
  by_cases hj : j = 11
  · rw [if_pos hj] at h; exact h
  · rw [if_neg hj] at h; exact rm5_below v h
theorem below5_if {j : Nat} {v : Value} {u x : World} (hj : j ≠ 11) (h : Below u.heap.size u x) : if j = 11 then RM5 v u x else Below u.heap.size u x := by rw [if_neg hj]; exact h
section
variable {ρ : Operand → Value} {o : Oper}
theorem exec_slice100 {x : Operand} {p : Nat} {z : Int} (hop : o.op = .buildSlice 94 1 #[(0, x)]) (hx : ρ x = .agg (one5 (page5 p z)).toArray) (w : World) : (execOp ρ o).run Try.prog w = .ok (.value (.slice (some ⟨w.heap.size, 0, none⟩) 1 1)) (w.alloc (.cells (one5 (page5 p z)).toArray 116)) := by
  unfold execOp
  rw [hop]
  simp only [List.map_toArray, List.map_cons, List.map_nil, hx]
  kernel_rfl
theorem exec_app95 {x y : Operand} {vx vy v : Value} {w w' : World} (hop : o.op = .call { callee := .builtin .append, args := #[x, y], argTypes := #[94, 94] }) (hx : ρ x = vx) (hy : ρ y = vy) (hr : (Builtin.append_ #[94, 94] o.type #[vx, vy]).run Try.prog w = .ok v w') : (execOp ρ o).run Try.prog w = .ok (.value v) w' := by
  unfold execOp
  simp only [hop, resolve, invoke, builtin, Sem.run_bind, Sem.run_pure, Result.andThen_ok, List.map_toArray, List.map_cons, List.map_nil, hx, hy, hr]
theorem exec_and7 {x : Operand} {z : Int} (hop : o.op = .binOp .and 3 x (.const (.int .i64 7)) 3) (hx : ρ x = .int .i64 z ∧ ρ (.const (.int .i64 7)) = .int .i64 7) (w : World) : (execOp ρ o).run Try.prog w = .ok (.value (.int .i64 (bits .and .i64 z 7))) w := by
  unfold execOp
  rw [hop]
  simp [hx.1, hx.2, go_sem]
theorem load95 {w : World} {a : Addr} {v : Value} (hc : w.cell? a = some v) : (loadVar 94 a).run Try.prog w = .ok v w := by
  simp [loadVar, isAgg, Sem.run_bind, run_underlying Try.underlying94, hc, go_sem]
end
theorem run_more5 {w : World} {v : Value} {l : List P5} {ty : TypeId} {q : Nat} {p : P5} (h : Out5 w v l) (hf : ∀ p ∈ l, Fit5 p) (hp : Fit5 p) (hs : Blk w q (one5 p).toArray 116) (hlen : l.length ≤ 1000) :
    ∃ v' w', (Builtin.append_ #[94, 94] ty #[v, .slice (some ⟨q, 0, none⟩) 1 1]).run Try.prog w = .ok v' w' ∧ Out5 w' v' (l ++ [p]) ∧ RM5 v w w' ∧ (v'.ownBlock = v.ownBlock ∨ v'.ownBlock = some w.heap.size) := by
  obtain ⟨i0, hi, hz0, hz1, hz2⟩ := info_parts info100
  have hol := one5_len hp
  have hc2 : ∀ j u, (one5 p)[j]? = some u → w.cell? ((⟨q, 0, none⟩ : Addr).add j) = some u := by
    intro j u hu
    rw [Addr.add_lit, Nat.zero_add]
    exact hs.cell (by rw [List.getElem?_toArray]; exact hu)
  obtain ⟨v', w', hr, h1, h2, _, hloc⟩ := run_append_own_at (P := Try.prog) w 0 94 ty 116 i0 _ 259 280 Try.underlying94 hi hz0 hz1 hz2 page0_size (by decide) v l.length (cells5 l) h ⟨q, 0, none⟩ 1 1 (one5 p) (by rw [hol]) hc2 (one5_one p) (by unfold maxLen; omega) (by omega) (Nat.zero_le _)
  refine ⟨v', w', hr, ?_, ⟨h2, fun l' hf' hl' => ?_⟩, hloc⟩
  · have e : cells5 (l ++ [p]) = cells5 l ++ one5 p := by rw [cells5_append]; simp [cells5]
    unfold Out5
    rw [List.length_append, e]
    exact h1
  · rcases h.2 with ⟨rfl, h0⟩ | ⟨g, cap, cur, rfl, hbg, hg, hnc, hcm, hcs, htake⟩
    · refine ⟨hl'.1, ?_⟩
      rcases hl'.2 with hl | ⟨g, cap, cur, e, _⟩
      · exact .inl hl
      · simp at e
    · by_cases hroom : l.length + 1 ≤ cap
      · have hr2 := run_append_room (P := Try.prog) w 94 ty 116 i0 Try.underlying94 hi g l.length cap cur hg ⟨q, 0, none⟩ 1 1 (one5 p) (by rw [hol, hz1]) hc2 (one5_one p) hroom (by rw [hol, hz1, hcs]; omega)
        rw [hr2] at hr
        cases hr
        refine ⟨hl'.1, ?_⟩
        rcases hl'.2 with hl | ⟨g', cap', cur', e, hb', hg', hn', hm', hs', ht'⟩
        · exact .inl hl
        · simp only [Value.slice.injEq, Option.some.injEq, Addr.mk.injEq, and_true] at e
          obtain ⟨rfl, hll, rfl⟩ := e
          have hcc := hg.symm.trans hg'
          simp only [Option.some.injEq, Obj.cells.injEq, and_true] at hcc
          subst hcc
          have hcl : cur.toList.length = cap * 259 := by rw [Array.length_toList]; exact hcs
          refine .inr ⟨g, cap, _, by rw [hll], hb', setRow_heap w g cur _ 116 _ hg, hn', hm', ?_, ?_⟩
          · simp only [List.size_toArray, List.length_append, List.length_take, List.length_drop, Array.length_toList, hol, hz1]
            rw [hcs]
            omega
          · rw [hz1, ← ht', hll, List.append_assoc, List.take_append_of_le_length (by rw [List.length_take, hcl]; omega), List.take_take, Nat.min_self]
      · have hr2 := run_append_grow (P := Try.prog) w 94 ty 116 i0 _ Try.underlying94 hi hz0 ⟨g, 0, none⟩ l.length cap (cells5 l) (by rw [cells5_len hf, hz1]) (h.cells (g := g) rfl) ⟨q, 0, none⟩ 1 1 (one5 p) (by rw [hol, hz1]) hc2 (by omega) (by omega) (growslice_fits (by omega) (by rw [hz2]; omega))
        rw [hr2] at hr
        cases hr
        exact Out5.later hl' ((Below.refl _ _).drew.alloc (by simp) _)
/-- What the slots of the region hold, whatever the order. -/
def phiM5 (m a p N : Nat) (z zz : Int) (v : Value) (l : List P5) : Nat → Value → World → Prop
  | 0, x, _ => x = .pointer (some ⟨m, 0, none⟩)
  | 1, x, _ => x = .pointer (some ⟨m, 0, none⟩)
  | 2, x, _ => x = .pointer (some ⟨m, 0, none⟩)
  | 3, x, _ => x = .pointer (some ⟨m, 1, none⟩)
  | 4, x, _ => x = v
  | 5, x, _ => x = .int .u32 (a : Int)
  | 6, x, _ => x = .int .u32 (p : Int)
  | 7, x, _ => x = .int .i64 z
  | 8, x, _ => x = .int .i64 zz
  | 9, x, _ => x = .agg (one5 (page5 p zz)).toArray
  | 10, x, w => ∃ q, x = .slice (some ⟨q, 0, none⟩) 1 1 ∧ some q ≠ v.ownBlock ∧ Blk w q (one5 (page5 p zz)).toArray 116
  | 11, x, w => Out5 w x (l ++ [page5 p zz]) ∧ (x.ownBlock = v.ownBlock ∨ ∃ q, N ≤ q ∧ x.ownBlock = some q)
  | 12, x, _ => x = .pointer (some ⟨m, 0, none⟩)
  | 13, x, _ => x = .pointer (some ⟨m, 1, none⟩)
  | _ + 14, _, _ => True
theorem phiM5_mono (m a p N : Nat) (z zz : Int) (v : Value) (l : List P5) : ∀ i j x w w', phiM5 m a p N z zz v l i x w → (if j = 11 then RM5 v w w' else Below w.heap.size w w') → i ≠ j → phiM5 m a p N z zz v l i x w'
  | 0, _, _, _, _, h, _, _ => h
  | 1, _, _, _, _, h, _, _ => h
  | 2, _, _, _, _, h, _, _ => h
  | 3, _, _, _, _, h, _, _ => h
  | 4, _, _, _, _, h, _, _ => h
  | 5, _, _, _, _, h, _, _ => h
  | 6, _, _, _, _, h, _, _ => h
  | 7, _, _, _, _, h, _, _ => h
  | 8, _, _, _, _, h, _, _ => h
  | 9, _, _, _, _, h, _, _ => h
  | 10, j, x, w, w', h, hr, _ => by
    obtain ⟨q, e, h1, h2⟩ := h
    refine ⟨q, e, h1, ?_⟩
    by_cases hj : j = 11
    · rw [if_pos hj] at hr
      exact hr.blk h2 h1
    · rw [if_neg hj] at hr
      exact h2.later hr
  | 11, j, x, w, w', h, hr, hn => by
    rw [if_neg (fun e => hn e.symm)] at hr
    exact ⟨Out5.later h.1 hr, h.2⟩
  | 12, _, _, _, _, h, _, _ => h
  | 13, _, _, _, _, h, _, _ => h
  | _ + 14, _, _, _, _, _, _, _ => trivial
theorem list14m : ∀ xs : List Value, xs.length = 14 → ∃ x0 x1 x2 x3 x4 x5 x6 x7 x8 x9 x10 x11 x12 x13, xs = [x0, x1, x2, x3, x4, x5, x6, x7, x8, x9, x10, x11, x12, x13]
  | [x0, x1, x2, x3, x4, x5, x6, x7, x8, x9, x10, x11, x12, x13], _ => ⟨_, _, _, _, _, _, _, _, _, _, _, _, _, _, rfl⟩
end Go.Proofs.Ytodoenimlhldjaa
