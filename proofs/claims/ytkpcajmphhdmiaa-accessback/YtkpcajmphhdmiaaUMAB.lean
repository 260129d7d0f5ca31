/- A page's copy. -/
import Derived.Test.YtkpcajmphhdmiaaUMAA
import Derived.RegionTactic
import Derived.RegionCalls
import Derived.Outline
import Derived.Orders
import Derived.Below
namespace Go.Proofs.Ytkpcajmphhdmiaa
open Go.ChangeShapes Go.WideShapes Go.ChangeAt Go.RowKit
set_option linter.unusedVariables false
theorem size31 : (Try.prog.info? 100).map (·.size) = some 256 := by kernel_rfl
/-- A page's bytes, read as a value. -/
theorem run_load31 {T : TypeId} {w : World} {b : Nat} {l : List UInt8} {p n : Int} (h : Pg T w b l p n) : (loadVar 100 ⟨b, 0, none⟩).run Try.prog w = .ok (.agg (cellsU l).toArray) w := by
  have hl : (loadCells ⟨b, 0, none⟩ (cellsU l).length).run Try.prog w = .ok (cellsU l).toArray w :=
    run_loadCells_list (P := Try.prog) w ⟨b, 0, none⟩ (cellsU l) (fun j v hv => by
      have hj : j < 256 := by
        have := (List.getElem?_eq_some_iff.1 hv).1
        rw [cellsU_len, h.len] at this
        exact this
      have hadd : (⟨b, 0, none⟩ : Addr).add j = ⟨b, j, none⟩ := by unfold Addr.add; split <;> simp_all
      rw [cellsU_get l j (by rw [h.len]; exact hj)] at hv
      rw [hadd, h.byte hj]
      exact hv)
  rw [cellsU_len, h.len] at hl
  cases hq : Try.prog.info? 100 with
  | none => have := size31; simp [hq] at this
  | some i =>
    have hs : i.size = 256 := by have := size31; simpa [hq] using this
    have hagg : (isAgg 100).run Try.prog w = .ok true w := by
      unfold isAgg
      rw [Sem.run_bind, run_underlying Try.underlying100 w]
      rfl
    simp [loadVar, Sem.run_bind, hagg, sizeOf, typeInfo, hq, hs, hl]
theorem fold_set (k : Nat) : ∀ (xs : List Value) (pre mid post : List Value), pre.length = k → mid.length = xs.length →
    ((xs.zipIdx k).foldl (fun cs (c, j) => Array.setIfInBounds cs (0 + j) c) (pre ++ mid ++ post).toArray) = (pre ++ xs ++ post).toArray := by
  intro xs
  induction xs generalizing k with
  | nil => intro pre mid post h1 h2; simp at h2; subst h2; simp
  | cons x xs ih =>
    intro pre mid post h1 h2
    cases mid with
    | nil => simp at h2
    | cons m mid =>
      simp only [List.zipIdx_cons, List.foldl_cons]
      have e : (pre ++ (m :: mid) ++ post).toArray.setIfInBounds (0 + k) x = ((pre ++ [x]) ++ mid ++ post).toArray := by
        subst h1
        rw [Nat.zero_add, List.setIfInBounds_toArray, List.append_assoc, List.set_append_right _ _ (Nat.le_refl _)]
        simp
      rw [e, ih (k + 1) (pre ++ [x]) mid post (by simp [h1]) (by simpa using h2)]
      simp
theorem pcells_size (l : List UInt8) (h : l.length = 256) (p n : Int) : (pcells l p n).size = 258 := by
  rw [pcells, List.size_toArray, List.length_append, cellsU_len, h]
  rfl
theorem fill51 (l : List UInt8) (h : l.length = 256) (p : Int) : Instr.fill (#[(0, 256), (256, 1), (257, 1)][·]?) (pcells zeros 0 0) [(0, .agg (cellsU l).toArray), (1, .int .i64 p)] = some (pcells l p 0) := by
  have hc : (Value.agg (cellsU l).toArray).cells = (cellsU l).toArray := rfl
  have hs : (cellsU l).toArray.size = 256 := by rw [List.size_toArray, cellsU_len, h]
  have hz := pcells_size zeros zeros_len 0 0
  have hp : (#[(0, 256), (256, 1), (257, 1)] : Array (Nat × Nat))[0]? = some (0, 256) := rfl
  have hp1 : (#[(0, 256), (256, 1), (257, 1)] : Array (Nat × Nat))[1]? = some (256, 1) := rfl
  have hf : (cellsU l).toArray.zipIdx.foldl (fun cs (c, j) => cs.setIfInBounds (0 + j) c) (pcells zeros 0 0) = pcells l 0 0 := by
    have e := fold_set 0 (cellsU l) [] (cellsU zeros) [Value.int .i64 0, Value.int .i64 0] rfl (by rw [cellsU_len, cellsU_len, h, zeros_len])
    rw [List.nil_append, List.nil_append] at e
    rw [Array.zipIdx_toArray, List.foldl_toArray]
    exact e
  rw [Instr.fill, hp]
  simp only [hc, hs, hz, hf]
  rw [if_neg (by decide), Instr.fill, hp1]
  have hz2 := pcells_size l h 0 0
  have hs2 : (Value.int .i64 p).cells.size = 1 := rfl
  simp only [hs2, hz2]
  rw [if_neg (by decide), Instr.fill]
  congr 1
  show (pcells l 0 0).setIfInBounds (256 + 0) (.int .i64 p) = pcells l p 0
  rw [pcells, pcells, List.setIfInBounds_toArray, List.set_append_right _ _ (by rw [cellsU_len, h]; omega), cellsU_len, h]
  rfl
theorem build51_run (parts : Array (Nat × Value)) (cells : Array Value) (w : World) (h : Instr.fill (#[(0, 256), (256, 1), (257, 1)][·]?) (pcells zeros 0 0) parts.toList = some cells) : (Instr.build 116 parts).run Try.prog w = .ok (.agg cells) w := by
  have hz : (zeroValue 116).run Try.prog w = .ok (.agg (pcells zeros 0 0)) w := by kernel_rfl
  unfold Instr.build
  simp only [Sem.run_bind, hz, Result.andThen_ok, run_underlying Try.underlying116]
  refine (congrArg (fun r => Result.andThen r _) (?hm : _ = Result.ok (#[(0, 256), (256, 1), (257, 1)] : Array (Nat × Nat)) w)).trans ?_
  case hm => kernel_rfl
  have hc : (Value.agg (pcells zeros 0 0)).cells = pcells zeros 0 0 := rfl
  simp only [Result.andThen_ok]
  rw [hc, h]
  rfl
theorem build51_copy (l : List UInt8) (h : l.length = 256) (p : Int) (w : World) : (Instr.build 116 #[(0, .agg (cellsU l).toArray), (1, .int .i64 p)]).run Try.prog w = .ok (.agg (pcells l p 0)) w :=
  build51_run _ _ w (fill51 l h p)
end Go.Proofs.Ytkpcajmphhdmiaa
namespace Go.Proofs.Ytkpcajmphhdmiaa
open Go Go.RowKit
set_option linter.unusedVariables false
section
variable {P : Program} {md : Region.Mode}
/-- Edges go back. -/
def edgesB (md : Region.Mode) (ops : Array Oper) : Bool :=
  (List.range ops.size).all fun i => match ops[i]? with
    | some o => o.after.all fun e => !Region.binds md e || decide (e.on < i)
    | none => true
theorem edge_back {ops : Array Oper} (h : edgesB md ops = true) {i : Nat} {o : Oper} (hi : ops[i]? = some o) {e : Edge} (he : e ∈ o.after) (hb : Region.binds md e = true) : e.on < i := by
  simp only [edgesB, List.all_eq_true, List.mem_range] at h
  have h1 := h i (Array.getElem?_eq_some_iff.1 hi).1
  simp only [hi] at h1
  have h2 := Array.all_eq_true'.1 h1 e he
  simpa [hb] using h2
theorem all_up {ops : Array Oper} {L : Array Bool} (hb : edgesB md ops = true) (hs : L.size = ops.size) (h : Region.ready md ops L = []) : ∀ i, i < ops.size → L.getD i false = true := by
  intro i
  induction i using Nat.strongRecOn with
  | ind i ih =>
    intro hi
    by_cases hl : L.getD i false = true
    · exact hl
    · exfalso
      have ho : ops[i]? = some ops[i] := Array.getElem?_eq_getElem hi
      have hm : i ∈ Region.ready md ops L := by
        refine mem_ready.2 ⟨?_, ops[i], ho, fun e he hbb => ih e.on (edge_back hb ho he hbb) (by have := edge_back hb ho he hbb; omega)⟩
        have hlt' : i < L.size := by omega
        simp [Array.getElem?_eq_getElem hlt'] at hl ⊢
        exact hl
      rw [h] at hm
      cases hm
theorem count_up : ∀ (l : List Bool) (i : Nat), l[i]? = some false → (l.set i true).count false + 1 = l.count false
  | [], _, h => by simp at h
  | b :: l, 0, h => by
    simp at h
    subst h
    simp
  | b :: l, i + 1, h => by
    have ih := count_up l i (by simpa using h)
    simp only [List.set_cons_succ, List.count_cons]
    omega
/-- What later memory keeps: a relation of worlds. -/
structure Later (R : World → World → Prop) : Prop where
  refl : ∀ w, R w w
  trans : ∀ u v w, R u v → R v w → R u w
  drew : ∀ w, R w w.drew
theorem later_below : Later fun w w' => Below w.heap.size w w' :=
  ⟨fun w => Below.refl _ w, fun u v w h k => h.trans (k.mono h.size), fun w => (Below.refl _ w).drew⟩
theorem wpAny_inv {R : World → World → Prop} (hR : Later R) {ops : Array Oper} {Q : Exit → Act → World → Prop} {F : List Value → Act} {Φ : Nat → Value → World → Prop} {w0 : World} (hb : edgesB md ops = true)
    (hmono : ∀ i v w w', Φ i v w → R w w' → Φ i v w')
    (hstep : ∀ j o, ops[j]? = some o → ∀ xs w, xs.length = ops.size → R w0 w → (∀ e ∈ o.after, Region.binds md e = true → Φ e.on (xs.getD e.on undef) w) →
      wpOp P ops Q j (fun a' w' => ∃ v, a' = F (xs.set j v) ∧ Φ j v w' ∧ R w w') (F xs) w)
    (hfin : ∀ xs w, xs.length = ops.size → R w0 w → (∀ i, i < ops.size → Φ i (xs.getD i undef) w) → Q .normal (F xs) w) :
    ∀ (fuel : Nat) (L : Array Bool) (xs : List Value) (w : World), L.size = ops.size → xs.length = ops.size → R w0 w → (∀ i, L.getD i false = true → Φ i (xs.getD i undef) w) → L.toList.count false ≤ fuel → wpAny P md ops Q fuel L (F xs) w := by
  intro fuel
  induction fuel with
  | zero =>
    intro L xs w h1 h2 hB hΦ hc
    have hno : Region.ready md ops L = [] := by
      rw [List.eq_nil_iff_forall_not_mem]
      intro i hi
      obtain ⟨hl, o, ho, _⟩ := mem_ready.1 hi
      have hlt : i < L.size := by have := (Array.getElem?_eq_some_iff.1 ho).1; omega
      have hf : L.toList[i]? = some false := by
        simp [Array.getElem?_eq_getElem hlt] at hl ⊢
        exact hl
      have := count_up L.toList i hf
      omega
    exact ⟨hno, hfin xs w h2 hB fun i hi => hΦ i (all_up hb h1 hno i hi)⟩
  | succ fuel ih =>
    intro L xs w h1 h2 hB hΦ hc
    refine ⟨fun hno => hfin xs w h2 hB fun i hi => hΦ i (all_up hb h1 hno i hi), fun i hi => ?_⟩
    obtain ⟨hl, o, ho, hall⟩ := mem_ready.1 hi
    have hlt : i < L.size := by have := (Array.getElem?_eq_some_iff.1 ho).1; omega
    refine wpOp_mono ?_ (hstep i o ho xs w h2 hB fun e he hbb => hΦ e.on (hall e he hbb))
    rintro a' w' ⟨v, rfl, hv, hB'⟩
    refine ih (L.setIfInBounds i true) (xs.set i v) w' (by simpa using h1) (by simpa using h2) (hR.trans _ _ _ hB hB') ?_ ?_
    · intro k hk
      by_cases hik : i = k
      · subst hik
        rw [List.getD_eq_getElem?_getD, List.getElem?_set_self (by omega), Option.getD_some]
        exact hv
      · rw [List.getD_eq_getElem?_getD, List.getElem?_set_ne hik, ← List.getD_eq_getElem?_getD]
        refine hmono k _ w w' (hΦ k ?_) hB'
        rw [getD_set_ne false hik] at hk
        exact hk
    · have hf : L.toList[i]? = some false := by
        simp [Array.getElem?_eq_getElem hlt] at hl ⊢
        exact hl
      have := count_up L.toList i hf
      rw [Array.toList_setIfInBounds]
      omega
/-- The region whole. -/
theorem wp_region_inv {R : World → World → Prop} (hR : Later R) {id : Nat} {Q : Exit → Act → World → Prop} {a : Act} {w : World} {ops : Array Oper} (F : List Value → Act) (Φ : Nat → Value → World → Prop) (xs : List Value) (hm : P.follows .mixedOrders = true) (hb : edgesB .any ops = true) (ha : a = F xs) (hxs : xs.length = ops.size)
    (hmono : ∀ i v w w', Φ i v w → R w w' → Φ i v w')
    (hstep : ∀ j o, ops[j]? = some o → ∀ xs w', xs.length = ops.size → R w w' → (∀ e ∈ o.after, Region.binds .any e = true → Φ e.on (xs.getD e.on undef) w') →
      wpOp P ops Q j (fun a' w'' => ∃ v, a' = F (xs.set j v) ∧ Φ j v w'' ∧ R w' w'') (F xs) w')
    (hfin : ∀ xs w', xs.length = ops.size → R w w' → (∀ i, i < ops.size → Φ i (xs.getD i undef) w') → Q .normal (F xs) w') :
    (Code.region id ops true).wp P Q a w := by
  subst ha
  refine wp_region_any hm ?_
  refine wpAny_inv (w0 := w) hR hb hmono hstep hfin ops.size _ xs _ (by simp) hxs (hR.drew w) ?_ ?_
  · intro i hi
    by_cases hlt : i < ops.size <;> simp [hlt] at hi
  · simp
/-- Does operation j wait for operation i? -/
def waitsB (md : Region.Mode) (ops : Array Oper) (j i : Nat) : Bool := match ops[j]? with
  | some o => o.after.any fun e => Region.binds md e && e.on == i
  | none => false
/-- Values put into slots, one behind the other. -/
def putAll : List Nat → List Value → List Value → List Value
  | d :: ds, v :: vs, t => putAll ds vs (t.set d v)
  | _, _, t => t
/-- The frame with other values in the slots ds. -/
def slotsOn (a : Act) (ds : List Nat) (xs : List Value) : Act := { a with tmps := (putAll ds xs a.tmps.toList).toArray }
theorem putAll_self (t : List Value) : ∀ ds : List Nat, putAll ds (ds.map fun d => t.getD d undef) t = t
  | [] => rfl
  | d :: ds => by
    have e : t.set d (t.getD d undef) = t := by
      apply List.ext_getElem (by simp)
      intro i h1 h2
      rw [List.getElem_set]
      split
      · subst_vars
        simp [List.getD_eq_getElem?_getD, List.getElem?_eq_getElem h2]
      · rfl
    rw [List.map_cons, putAll, e]
    exact putAll_self t ds
theorem slotsOn_self (a : Act) (ds : List Nat) : slotsOn a ds (ds.map fun d => a.tmps.toList.getD d undef) = a := by
  unfold slotsOn
  rw [putAll_self]
/-- One operation of the region, as a thing that nothing unfolds. -/
structure Runs (P : Program) (ops : Array Oper) (Q : Exit → Act → World → Prop) (i : Nat) (K : Act → World → Prop) (a : Act) (w : World) : Prop where
  out : wpOp P ops Q i K a w
/-- The region, the slots of its operations in ds (a great number where an operation has none). -/
theorem wp_region_on {R : World → World → Prop} (hR : Later R) {id : Nat} {Q : Exit → Act → World → Prop} {a : Act} {w : World} {ops : Array Oper} (ds : List Nat) (n : Nat) (Φ : Nat → Value → World → Prop) (hm : P.follows .mixedOrders = true) (hb : edgesB .any ops = true) (hn : ops.size = n) (hd : ds.length = n)
    (hmono : ∀ i v w w', Φ i v w → R w w' → Φ i v w')
    (hstep : ∀ j, j < n → ∀ xs w', xs.length = n → R w w' → (∀ i, waitsB .any ops j i = true → Φ i (xs.getD i undef) w') →
      Runs P ops Q j (fun a' w'' => ∃ v, a' = slotsOn a ds (xs.set j v) ∧ Φ j v w'' ∧ R w' w'') (slotsOn a ds xs) w')
    (hfin : ∀ xs w', xs.length = n → R w w' → (∀ i, i < n → Φ i (xs.getD i undef) w') → Q .normal (slotsOn a ds xs) w') :
    (Code.region id ops true).wp P Q a w := by
  subst hn
  refine wp_region_inv hR (slotsOn a ds) Φ (ds.map fun d => a.tmps.toList.getD d undef) hm hb (slotsOn_self a ds).symm (by simpa using hd) hmono ?_ hfin
  intro j o ho xs w' hxs hB hpre
  refine (hstep j (Array.getElem?_eq_some_iff.1 ho).1 xs w' hxs hB ?_).out
  intro i hi
  simp only [waitsB, ho] at hi
  obtain ⟨e, he, hbb⟩ := Array.any_eq_true'.1 hi
  simp only [Bool.and_eq_true, beq_iff_eq] at hbb
  rw [← hbb.2]
  exact hpre e he hbb.1
theorem cons_of_len {n : Nat} (xs : List Value) (h : xs.length = n + 1) : ∃ x ys, xs = x :: ys ∧ ys.length = n := by
  cases xs with
  | nil => simp at h
  | cons x ys => exact ⟨x, ys, rfl, by simpa using h⟩
/-- One value, in a world that may be another one behind it. -/
theorem wpOp_run {ops : Array Oper} {Q : Exit → Act → World → Prop} {a : Act} {w w' : World} {K : Act → World → Prop} {i : Nat} {o : Oper} (v : Value) (hi : ops[i]? = some o) (hw : Region.wanted o (yielded ops a.tmps) = true) (hrun : (execOp a.eval o).run P w = .ok (.value v) w') (h : K (a.put o.dst v) w') : Runs P ops Q i K a w := by
  constructor
  unfold wpOp
  simp only [hi, hw, if_true]
  left
  unfold Oper.wp
  rw [hrun]
  exact h
/-- One that is not wanted: its guard says no. -/
theorem wpOp_skip {ops : Array Oper} {Q : Exit → Act → World → Prop} {a : Act} {w : World} {K : Act → World → Prop} {i : Nat} {o : Oper} (hi : ops[i]? = some o) (hw : Region.wanted o (yielded ops a.tmps) = false) (h : K (a.put o.dst undef) w) : Runs P ops Q i K a w := by
  constructor
  unfold wpOp
  simp only [hi, hw]
  simpa using h
/-- One call, by its contract. -/
theorem wpOp_callR {ops : Array Oper} {Q : Exit → Act → World → Prop} {a : Act} {w : World} {K : Act → World → Prop} {i : Nat} {o : Oper} {R : Value → World → Prop} (f : FuncId) (args : Array Value) (hi : ops[i]? = some o) (hw : Region.wanted o (yielded ops a.tmps) = true) (hrun : (execOp a.eval o).run P w = .ok (.enter f args) w)
    (hc : Calls P f args w fun e w' => ∃ v, e = .returned v ∧ R v w') (h : ∀ v w', R v w' → K (a.put o.dst v) w') : Runs P ops Q i K a w := by
  constructor
  unfold wpOp
  simp only [hi, hw, if_true]
  left
  unfold Oper.wp
  rw [hrun]
  exact hc.mono fun e w' ⟨v, he, hR⟩ => by subst he; exact h v w' hR
end
end Go.Proofs.Ytkpcajmphhdmiaa
namespace Go.Proofs.Ytkpcajmphhdmiaa
open Go.ChangeShapes Go.WideShapes Go.ChangeAt Go.RowKit
set_option linter.unusedVariables false
section
variable {ρ : Operand → Value} {o : Oper}
theorem exec_move {x : Operand} {u : Value} (hop : o.op = .move x) (hx : ρ x = u) (w : World) : (execOp ρ o).run Try.prog w = .ok (.value u) w := by
  unfold execOp
  rw [hop]
  simp [hx, go_sem]
theorem exec_load {x : Operand} {a : Addr} {v : Value} (t : TypeId) (hop : o.op = .load t x) (hx : ρ x = .pointer (some a)) (w : World) (hv : (loadVar t a).run Try.prog w = .ok v w) : (execOp ρ o).run Try.prog w = .ok (.value v) w := by
  unfold execOp
  rw [hop]
  simp only [hx, Instr.loadAt, Instr.sureAddr, Sem.run_bind, Sem.run_pure, Result.andThen_ok, hv]
theorem load3 {w : World} {a : Addr} {v : Value} (hc : w.cell? a = some v) : (loadVar 3 a).run Try.prog w = .ok v w := by
  simp [loadVar, isAgg, Sem.run_bind, run_underlying Try.underlying3, hc, go_sem]
theorem load5 {w : World} {a : Addr} {v : Value} (hc : w.cell? a = some v) : (loadVar 5 a).run Try.prog w = .ok v w := by
  simp [loadVar, isAgg, Sem.run_bind, run_underlying Try.underlying5, hc, go_sem]
theorem exec_build {parts : Array (Nat × Operand)} {ps : Array (Nat × Value)} {v : Value} (t : TypeId) (hop : o.op = .build t parts) (hp : (parts.map fun (i, x) => (i, ρ x)) = ps) (w : World) (hr : (Instr.build t ps).run Try.prog w = .ok v w) : (execOp ρ o).run Try.prog w = .ok (.value v) w := by
  unfold execOp
  simp only [hop, hp, Sem.run_bind, Sem.run_pure, Result.andThen_ok, hr]
theorem exec_box {x : Operand} {c : Array Value} (t : TypeId) (hop : o.op = .box t x) (hx : ρ x = .agg c) (w : World) : (execOp ρ o).run Try.prog w = .ok (.value (.pointer (some ⟨w.heap.size, 0, none⟩))) (w.alloc (.cells c t)) := by
  unfold execOp
  rw [hop]
  simp [hx, Instr.box, newVar, Value.cells, go_sem]
theorem exec_neq {x y : Operand} {k : IntKind} {n : Int} (t : TypeId) (hop : o.op = .binOp .neq t x y t) (ht : Try.prog.underlying t = some (.int k)) (hx : ρ x = .int k n) (hy : ρ y = .int k n) (w : World) : (execOp ρ o).run Try.prog w = .ok (.value (.bool false)) w := by
  unfold execOp
  rw [hop]
  simp [hx, hy, go_sem]
theorem exec_eql {x y : Operand} {k : IntKind} {n : Int} (t : TypeId) (hop : o.op = .binOp .eql t x y t) (ht : Try.prog.underlying t = some (.int k)) (hx : ρ x = .int k n) (hy : ρ y = .int k n) (w : World) : (execOp ρ o).run Try.prog w = .ok (.value (.bool true)) w := by
  unfold execOp
  rw [hop]
  simp [hx, hy, go_sem]
end
end Go.Proofs.Ytkpcajmphhdmiaa
