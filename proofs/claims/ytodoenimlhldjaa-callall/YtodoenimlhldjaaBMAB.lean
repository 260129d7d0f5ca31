/- A region that draws its order, each operation of it looked at once: what each slot holds is said by a property that later memory keeps, and holds whatever the order. -/
import Derived.Orders
import Derived.Below
import Derived.Test.YtodoenimlhldjaaBMAA
import Derived.Laws.CopyOwn
import Derived.Outline
namespace Go.Proofs.Ytodoenimlhldjaa
open Go Go.RowKit
set_option linter.unusedVariables false
section
variable {P : Program} {md : Region.Mode}
/-- Edges go back. -/
def edgesB (md : Region.Mode) (ops : Array Oper) : Bool :=
  (List.range ops.size).all fun i => match ops[i]? with
    | some o => o.after.all fun e => !Region.binds md e || decide (e.on < i)
    | none => true
theorem edge_back {ops : Array Oper} (h : edgesB md ops = true) {i : Nat} {o : Oper} (hi : ops[i]? = some o) {e : Edge} (he : e ∈ o.after) (hb : Region.binds md e = true) : e.on < i := by
  simp only [edgesB, List.all_eq_true, List.mem_range] at h
  have h1 := h i (Array.getElem?_eq_some_iff.1 hi).1
  simp only [hi] at h1
  have h2 := Array.all_eq_true'.1 h1 e he
  simpa [hb] using h2
theorem all_up {ops : Array Oper} {L : Array Bool} (hb : edgesB md ops = true) (hs : L.size = ops.size) (h : Region.ready md ops L = []) : ∀ i, i < ops.size → L.getD i false = true := by
  intro i
  induction i using Nat.strongRecOn with
  | ind i ih =>
    intro hi
    by_cases hl : L.getD i false = true
    · exact hl
    · exfalso
      have ho : ops[i]? = some ops[i] := Array.getElem?_eq_getElem hi
      have hm : i ∈ Region.ready md ops L := by
        refine mem_ready.2 ⟨?_, ops[i], ho, fun e he hbb => ih e.on (edge_back hb ho he hbb) (by have := edge_back hb ho he hbb; omega)⟩
        have hlt' : i < L.size := by omega
        simp [Array.getElem?_eq_getElem hlt'] at hl ⊢
        exact hl
      rw [h] at hm
      cases hm
theorem count_up : ∀ (l : List Bool) (i : Nat), l[i]? = some false → (l.set i true).count false + 1 = l.count false
  | [], _, h => by simp at h
  | b :: l, 0, h => by
    simp at h
    subst h
    simp
  | b :: l, i + 1, h => by
    have ih := count_up l i (by simpa using h)
    simp only [List.set_cons_succ, List.count_cons]
    omega
/-- What later memory keeps: a relation of worlds. -/
structure Later (R : World → World → Prop) : Prop where
  refl : ∀ w, R w w
  trans : ∀ u v w, R u v → R v w → R u w
  drew : ∀ w, R w w.drew
theorem later_below : Later fun w w' => Below w.heap.size w w' :=
  ⟨fun w => Below.refl _ w, fun u v w h k => h.trans (k.mono h.size), fun w => (Below.refl _ w).drew⟩
theorem wpAny_inv {R : World → World → Prop} (hR : Later R) {ops : Array Oper} {Q : Exit → Act → World → Prop} {F : List Value → Act} {Φ : Nat → Value → World → Prop} {w0 : World} (hb : edgesB md ops = true)
    (hmono : ∀ i v w w', Φ i v w → R w w' → Φ i v w')
    (hstep : ∀ j o, ops[j]? = some o → ∀ xs w, xs.length = ops.size → R w0 w → (∀ e ∈ o.after, Region.binds md e = true → Φ e.on (xs.getD e.on undef) w) →
      wpOp P ops Q j (fun a' w' => ∃ v, a' = F (xs.set j v) ∧ Φ j v w' ∧ R w w') (F xs) w)
    (hfin : ∀ xs w, xs.length = ops.size → R w0 w → (∀ i, i < ops.size → Φ i (xs.getD i undef) w) → Q .normal (F xs) w) :
    ∀ (fuel : Nat) (L : Array Bool) (xs : List Value) (w : World), L.size = ops.size → xs.length = ops.size → R w0 w → (∀ i, L.getD i false = true → Φ i (xs.getD i undef) w) → L.toList.count false ≤ fuel → wpAny P md ops Q fuel L (F xs) w := by
  intro fuel
  induction fuel with
  | zero =>
    intro L xs w h1 h2 hB hΦ hc
    have hno : Region.ready md ops L = [] := by
      rw [List.eq_nil_iff_forall_not_mem]
      intro i hi
      obtain ⟨hl, o, ho, _⟩ := mem_ready.1 hi
      have hlt : i < L.size := by have := (Array.getElem?_eq_some_iff.1 ho).1; omega
      have hf : L.toList[i]? = some false := by
        simp [Array.getElem?_eq_getElem hlt] at hl ⊢
        exact hl
      have := count_up L.toList i hf
      omega
    exact ⟨hno, hfin xs w h2 hB fun i hi => hΦ i (all_up hb h1 hno i hi)⟩
  | succ fuel ih =>
    intro L xs w h1 h2 hB hΦ hc
    refine ⟨fun hno => hfin xs w h2 hB fun i hi => hΦ i (all_up hb h1 hno i hi), fun i hi => ?_⟩
    obtain ⟨hl, o, ho, hall⟩ := mem_ready.1 hi
    have hlt : i < L.size := by have := (Array.getElem?_eq_some_iff.1 ho).1; omega
    refine wpOp_mono ?_ (hstep i o ho xs w h2 hB fun e he hbb => hΦ e.on (hall e he hbb))
    rintro a' w' ⟨v, rfl, hv, hB'⟩
    refine ih (L.setIfInBounds i true) (xs.set i v) w' (by simpa using h1) (by simpa using h2) (hR.trans _ _ _ hB hB') ?_ ?_
    · intro k hk
      by_cases hik : i = k
      · subst hik
        rw [List.getD_eq_getElem?_getD, List.getElem?_set_self (by omega), Option.getD_some]
        exact hv
      · rw [List.getD_eq_getElem?_getD, List.getElem?_set_ne hik, ← List.getD_eq_getElem?_getD]
        refine hmono k _ w w' (hΦ k ?_) hB'
        rw [getD_set_ne false hik] at hk
        exact hk
    · have hf : L.toList[i]? = some false := by
        simp [Array.getElem?_eq_getElem hlt] at hl ⊢
        exact hl
      have := count_up L.toList i hf
      rw [Array.toList_setIfInBounds]
      omega
/-- The region whole. -/
theorem wp_region_inv {R : World → World → Prop} (hR : Later R) {id : Nat} {Q : Exit → Act → World → Prop} {a : Act} {w : World} {ops : Array Oper} (F : List Value → Act) (Φ : Nat → Value → World → Prop) (xs : List Value) (hm : P.follows .mixedOrders = true) (hb : edgesB .any ops = true) (ha : a = F xs) (hxs : xs.length = ops.size)
    (hmono : ∀ i v w w', Φ i v w → R w w' → Φ i v w')
    (hstep : ∀ j o, ops[j]? = some o → ∀ xs w', xs.length = ops.size → R w w' → (∀ e ∈ o.after, Region.binds .any e = true → Φ e.on (xs.getD e.on undef) w') →
      wpOp P ops Q j (fun a' w'' => ∃ v, a' = F (xs.set j v) ∧ Φ j v w'' ∧ R w' w'') (F xs) w')
    (hfin : ∀ xs w', xs.length = ops.size → R w w' → (∀ i, i < ops.size → Φ i (xs.getD i undef) w') → Q .normal (F xs) w') :
    (Code.region id ops true).wp P Q a w := by
  subst ha
  refine wp_region_any hm ?_
  refine wpAny_inv (w0 := w) hR hb hmono hstep hfin ops.size _ xs _ (by simp) hxs (hR.drew w) ?_ ?_
  · intro i hi
    by_cases hlt : i < ops.size <;> simp [hlt] at hi
  · simp
/-- Does operation j wait for operation i? -/
def waitsB (md : Region.Mode) (ops : Array Oper) (j i : Nat) : Bool := match ops[j]? with
  | some o => o.after.any fun e => Region.binds md e && e.on == i
  | none => false
/-- Values put into slots, one behind the other. -/
def putAll : List Nat → List Value → List Value → List Value
  | d :: ds, v :: vs, t => putAll ds vs (t.set d v)
  | _, _, t => t
/-- The frame with other values in the slots ds. -/
def slotsOn (a : Act) (ds : List Nat) (xs : List Value) : Act := { a with tmps := (putAll ds xs a.tmps.toList).toArray }
theorem putAll_self (t : List Value) : ∀ ds : List Nat, putAll ds (ds.map fun d => t.getD d undef) t = t
  | [] => rfl
  | d :: ds => by
    have e : t.set d (t.getD d undef) = t := by
      apply List.ext_getElem (by simp)
      intro i h1 h2
      rw [List.getElem_set]
      split
      · subst_vars
        simp [List.getD_eq_getElem?_getD, List.getElem?_eq_getElem h2]
      · rfl
    rw [List.map_cons, putAll, e]
    exact putAll_self t ds
theorem slotsOn_self (a : Act) (ds : List Nat) : slotsOn a ds (ds.map fun d => a.tmps.toList.getD d undef) = a := by
  unfold slotsOn
  rw [putAll_self]
/-- One operation of the region, as a thing that nothing unfolds. -/
structure Runs (P : Program) (ops : Array Oper) (Q : Exit → Act → World → Prop) (i : Nat) (K : Act → World → Prop) (a : Act) (w : World) : Prop where
  out : wpOp P ops Q i K a w
/-- The region, the slots of its operations in ds (a great number where an operation has none). -/
theorem wp_region_on {R : World → World → Prop} (hR : Later R) {id : Nat} {Q : Exit → Act → World → Prop} {a : Act} {w : World} {ops : Array Oper} (ds : List Nat) (n : Nat) (Φ : Nat → Value → World → Prop) (hm : P.follows .mixedOrders = true) (hb : edgesB .any ops = true) (hn : ops.size = n) (hd : ds.length = n)
    (hmono : ∀ i v w w', Φ i v w → R w w' → Φ i v w')
    (hstep : ∀ j, j < n → ∀ xs w', xs.length = n → R w w' → (∀ i, waitsB .any ops j i = true → Φ i (xs.getD i undef) w') →
      Runs P ops Q j (fun a' w'' => ∃ v, a' = slotsOn a ds (xs.set j v) ∧ Φ j v w'' ∧ R w' w'') (slotsOn a ds xs) w')
    (hfin : ∀ xs w', xs.length = n → R w w' → (∀ i, i < n → Φ i (xs.getD i undef) w') → Q .normal (slotsOn a ds xs) w') :
    (Code.region id ops true).wp P Q a w := by
  subst hn
  refine wp_region_inv hR (slotsOn a ds) Φ (ds.map fun d => a.tmps.toList.getD d undef) hm hb (slotsOn_self a ds).symm (by simpa using hd) hmono ?_ hfin
  intro j o ho xs w' hxs hB hpre
  refine (hstep j (Array.getElem?_eq_some_iff.1 ho).1 xs w' hxs hB ?_).out
  intro i hi
  simp only [waitsB, ho] at hi
  obtain ⟨e, he, hbb⟩ := Array.any_eq_true'.1 hi
  simp only [Bool.and_eq_true, beq_iff_eq] at hbb
  rw [← hbb.2]
  exact hpre e he hbb.1
theorem cons_of_len {n : Nat} (xs : List Value) (h : xs.length = n + 1) : ∃ x ys, xs = x :: ys ∧ ys.length = n := by
  cases xs with
  | nil => simp at h
  | cons x ys => exact ⟨x, ys, rfl, by simpa using h⟩
/-- One value, in a world that may be another one behind it. -/
theorem wpOp_run {ops : Array Oper} {Q : Exit → Act → World → Prop} {a : Act} {w w' : World} {K : Act → World → Prop} {i : Nat} {o : Oper} (v : Value) (hi : ops[i]? = some o) (hw : Region.wanted o (yielded ops a.tmps) = true) (hrun : (execOp a.eval o).run P w = .ok (.value v) w') (h : K (a.put o.dst v) w') : Runs P ops Q i K a w := by
  constructor
  unfold wpOp
  simp only [hi, hw, if_true]
  left
  unfold Oper.wp
  rw [hrun]
  exact h
/-- One that is not wanted: its guard says no. -/
theorem wpOp_skip {ops : Array Oper} {Q : Exit → Act → World → Prop} {a : Act} {w : World} {K : Act → World → Prop} {i : Nat} {o : Oper} (hi : ops[i]? = some o) (hw : Region.wanted o (yielded ops a.tmps) = false) (h : K (a.put o.dst undef) w) : Runs P ops Q i K a w := by
  constructor
  unfold wpOp
  simp only [hi, hw]
  simpa using h
/-- One call, by its contract. -/
theorem wpOp_callR {ops : Array Oper} {Q : Exit → Act → World → Prop} {a : Act} {w : World} {K : Act → World → Prop} {i : Nat} {o : Oper} {R : Value → World → Prop} (f : FuncId) (args : Array Value) (hi : ops[i]? = some o) (hw : Region.wanted o (yielded ops a.tmps) = true) (hrun : (execOp a.eval o).run P w = .ok (.enter f args) w)
    (hc : Calls P f args w fun e w' => ∃ v, e = .returned v ∧ R v w') (h : ∀ v w', R v w' → K (a.put o.dst v) w') : Runs P ops Q i K a w := by
  constructor
  unfold wpOp
  simp only [hi, hw, if_true]
  left
  unfold Oper.wp
  rw [hrun]
  exact hc.mono fun e w' ⟨v, he, hR⟩ => by subst he; exact h v w' hR
end
end Go.Proofs.Ytodoenimlhldjaa
namespace Go.Proofs.Ytodoenimlhldjaa
open Go.ChangeShapes Go.WideShapes Go.ChangeAt Go.RowKit
set_option linter.unusedVariables false
section
variable {ρ : Operand → Value} {o : Oper}
theorem exec_move {x : Operand} {u : Value} (hop : o.op = .move x) (hx : ρ x = u) (w : World) : (execOp ρ o).run Try.prog w = .ok (.value u) w := by
  unfold execOp
  rw [hop]
  simp [hx, go_sem]
theorem exec_load {x : Operand} {a : Addr} {v : Value} (t : TypeId) (hop : o.op = .load t x) (hx : ρ x = .pointer (some a)) (w : World) (hv : (loadVar t a).run Try.prog w = .ok v w) : (execOp ρ o).run Try.prog w = .ok (.value v) w := by
  unfold execOp
  rw [hop]
  simp only [hx, Instr.loadAt, Instr.sureAddr, Sem.run_bind, Sem.run_pure, Result.andThen_ok, hv]
theorem load3 {w : World} {a : Addr} {v : Value} (hc : w.cell? a = some v) : (loadVar 3 a).run Try.prog w = .ok v w := by
  simp [loadVar, isAgg, Sem.run_bind, run_underlying Try.underlying3, hc, go_sem]
theorem load5 {w : World} {a : Addr} {v : Value} (hc : w.cell? a = some v) : (loadVar 5 a).run Try.prog w = .ok v w := by
  simp [loadVar, isAgg, Sem.run_bind, run_underlying Try.underlying5, hc, go_sem]
theorem exec_build {parts : Array (Nat × Operand)} {ps : Array (Nat × Value)} {v : Value} (t : TypeId) (hop : o.op = .build t parts) (hp : (parts.map fun (i, x) => (i, ρ x)) = ps) (w : World) (hr : (Instr.build t ps).run Try.prog w = .ok v w) : (execOp ρ o).run Try.prog w = .ok (.value v) w := by
  unfold execOp
  simp only [hop, hp, Sem.run_bind, Sem.run_pure, Result.andThen_ok, hr]
theorem exec_box {x : Operand} {c : Array Value} (t : TypeId) (hop : o.op = .box t x) (hx : ρ x = .agg c) (w : World) : (execOp ρ o).run Try.prog w = .ok (.value (.pointer (some ⟨w.heap.size, 0, none⟩))) (w.alloc (.cells c t)) := by
  unfold execOp
  rw [hop]
  simp [hx, Instr.box, newVar, Value.cells, go_sem]
theorem exec_neq {x y : Operand} {k : IntKind} {n : Int} (t : TypeId) (hop : o.op = .binOp .neq t x y t) (ht : Try.prog.underlying t = some (.int k)) (hx : ρ x = .int k n) (hy : ρ y = .int k n) (w : World) : (execOp ρ o).run Try.prog w = .ok (.value (.bool false)) w := by
  unfold execOp
  rw [hop]
  simp [hx, hy, go_sem]
theorem exec_eql {x y : Operand} {k : IntKind} {n : Int} (t : TypeId) (hop : o.op = .binOp .eql t x y t) (ht : Try.prog.underlying t = some (.int k)) (hx : ρ x = .int k n) (hy : ρ y = .int k n) (w : World) : (execOp ρ o).run Try.prog w = .ok (.value (.bool true)) w := by
  unfold execOp
  rw [hop]
  simp [hx, hy, go_sem]
end
end Go.Proofs.Ytodoenimlhldjaa
namespace Go.Proofs.Ytodoenimlhldjaa
open Go.ChangeShapes Go.WideShapes Go.ChangeAt Go.RowKit
set_option linter.unusedVariables false
/-- The bytes l lie where the address says (nothing is said of none). -/
def Lies (w : World) (ao : Option Addr) (l : List UInt8) : Prop :=
  l = [] ∨ ∃ b off, ao = some ⟨b, off, none⟩ ∧ ∀ j, j < l.length → w.cell? ⟨b, off + j, none⟩ = some (.int .u8 ((l.getD j 0).toNat : Int))
/-- A slice of the bytes l. -/
structure Row (w : World) (ao : Option Addr) (l : List UInt8) (cap : Nat) : Prop where
  len : l.length ≤ cap
  max : cap ≤ maxLen
  nil : ao = none → cap = 0
  lies : Lies w ao l
theorem Lies.later {w w' : World} {ao : Option Addr} {l : List UInt8} (h : Lies w ao l) (hb : Below w.heap.size w w') : Lies w' ao l := by
  rcases h with h | ⟨b, off, rfl, hc⟩
  · exact .inl h
  · by_cases h0 : l = []
    · exact .inl h0
    · have hlt : b < w.heap.size := World.block_lt_of_cell? _ _ (hc 0 (by cases l <;> simp_all))
      exact .inr ⟨b, off, rfl, fun j hj => (hb.cell (by exact hlt)).trans (hc j hj)⟩
theorem Row.later {w w' : World} {ao : Option Addr} {l : List UInt8} {cap : Nat} (h : Row w ao l cap) (hb : Below w.heap.size w w') : Row w' ao l cap := ⟨h.len, h.max, h.nil, h.lies.later hb⟩
theorem Row.cut {w : World} {ao : Option Addr} {l : List UInt8} {cap : Nat} (h : Row w ao l cap) : Row w ao l l.length :=
  ⟨Nat.le_refl _, Nat.le_trans h.len h.max, fun e => by have := h.nil e; have := h.len; omega, h.lies⟩
theorem Row.none (w : World) : Row w none [] 0 := ⟨Nat.le_refl _, by simp [maxLen], fun _ => rfl, .inl rfl⟩
theorem Lies.cells {w : World} {b off : Nat} {l : List UInt8} (h : ∀ j, j < l.length → w.cell? ⟨b, off + j, none⟩ = some (.int .u8 ((l.getD j 0).toNat : Int))) : ∀ j u, (cellsU l)[j]? = some u → w.cell? ((⟨b, off, none⟩ : Addr).add j) = some u := by
  intro j u hu
  have hj : j < l.length := by
    have := (List.getElem?_eq_some_iff.1 hu).1
    simpa [cellsU] using this
  rw [cellsU_get l j hj] at hu
  simp only [Option.some.injEq] at hu
  rw [← hu, Addr.add_lit]
  exact h j hj
/-- What a row of the call's own says of itself. -/
theorem lies_of_own {w : World} {base g n cap : Nat} {l : List UInt8} (hn : n = l.length) (h : w.ownsRow base 5 1 (.slice (some ⟨g, 0, none⟩) n cap) n (cellsU l)) : Row w (some ⟨g, 0, none⟩) l cap := by
  subst hn
  rcases h.2 with ⟨h', _⟩ | ⟨g', cap', cur, h', _, hg, hnc, hcm, _, htake⟩
  · simp at h'
  · simp only [Value.slice.injEq, Option.some.injEq, Addr.mk.injEq, and_true, true_and] at h'
    obtain ⟨rfl, rfl⟩ := h'
    refine ⟨hnc, hcm, by simp, .inr ⟨g, 0, rfl, fun j hj => ?_⟩⟩
    have hc := h.cellAt j (by omega)
    rw [cellsU_get l j hj] at hc
    rw [Nat.zero_add]
    exact hc
theorem row_of_own {w : World} {base n : Nat} {v : Value} {l : List UInt8} (hn : n = l.length) (h : w.ownsRow base 5 1 v n (cellsU l)) : ∃ ao cap, v = .slice ao n cap ∧ Row w ao l cap := by
  have h2 := h
  rcases h.2 with ⟨rfl, h0⟩ | ⟨g, cap, cur, rfl, _⟩
  · have : l = [] := List.eq_nil_of_length_eq_zero (by omega)
    subst this
    subst h0
    exact ⟨none, 0, rfl, Row.none w⟩
  · exact ⟨_, cap, rfl, lies_of_own hn h2⟩
theorem below_grown {w w' : World} {row : Option Nat} (B : Nat) (hB : B ≤ w.heap.size) (hg : w.grownBy w' row) (hr : ∀ k, row = some k → B ≤ k) : Below B w w' := (Below.refl B w).grown hg hB hr
theorem run_str (w : World) (ao : Option Addr) (l : List UInt8) (cap : Nat) (h : Lies w ao l) : (convert 50 9 (.slice ao l.length cap)).run Try.prog w = .ok (.string ⟨l.toArray⟩) w := by
  by_cases h0 : l = []
  · subst h0
    rw [run_convert_bytes_string w 50 9 5 ao _ cap Try.underlying50 Try.underlying5 Try.underlying9]
    cases ao with
    | none => simp [Conv.bytesToString]; rfl
    | some a => simp [Conv.bytesToString, loadCells, loadCellsFrom]; rfl
  · rcases h with h | ⟨b, off, rfl, hc⟩
    · exact absurd h h0
    · refine run_convert_bytes_back w 50 9 5 ⟨b, off, none⟩ cap l Try.underlying50 Try.underlying5 Try.underlying9 ?_
      intro j hj
      rw [Addr.add_lit, hc j hj, List.getD_eq_getElem?_getD, List.getElem?_eq_getElem hj, Option.getD_some]
end Go.Proofs.Ytodoenimlhldjaa
namespace Go.Proofs.Ytodoenimlhldjaa
open Go.ChangeShapes Go.WideShapes Go.ChangeAt Go.RowKit
set_option linter.unusedVariables false
theorem made_any (M : Int) (h0 : 0 ≤ M) (h1 : M ≤ 256) (w : World) : (Instr.makeSlice 50 (.int .i64 M) (.int .i64 M)).run Try.prog w = .ok (.slice (some ⟨w.heap.size, 0, none⟩) M.toNat M.toNat) (w.alloc (.cells (madeCells #[.int .u8 0] M.toNat) 5)) := by
  obtain ⟨i0, hi, hz0, hz1, hz2⟩ := info_parts info5
  have h := run_make (P := Try.prog) w 50 5 i0 (.int .u8 0) Try.underlying50 hi hz0 .i64 .i64 M M h0 (Int.le_refl _) (by rw [hz2]; omega) (by omega)
  rw [hz1, Nat.mul_one] at h
  exact h
theorem arrayLen31 : Try.prog.arrayLen 114 = 256 := by kernel_rfl
theorem elemSize31 (w : World) : (sizeOf (Try.prog.elem 114)).run Try.prog w = .ok 1 w := by kernel_rfl
theorem sliced_any (b : Nat) (i m : Int) (h0 : 0 ≤ i) (h1 : i < 256) (h2 : i ≤ m) (h3 : m ≤ 256) (w : World) : (Instr.sliceAt 114 (.pointer (some ⟨b, 0, none⟩)) (some (.int .i64 i)) (some (.int .i64 m)) none).run Try.prog w = .ok (.slice (some ⟨b, i.toNat, none⟩) (m.toNat - i.toNat) (256 - i.toNat)) w := by
  have h := run_sliceAt_array_lh (P := Try.prog) w 114 ⟨b, 0, none⟩ (by kernel_rfl) .i64 .i64 i m h0 h2 (by rw [arrayLen31]; exact h3)
  rw [h, elemSize31, arrayLen31]
  simp only [Result.andThen_ok, slicedAt, Nat.mul_one]
  rw [if_neg (by omega), Addr.add_lit, Nat.zero_add]
theorem partB_len (l : List UInt8) (i M : Int) (hl : l.length = 256) (h0 : 0 ≤ i) (h1 : 0 ≤ M) (h2 : i + M ≤ 256) : (partB l i M).length = M.toNat := by
  unfold partB
  rw [List.length_take, List.length_drop, hl]
  omega
theorem partB_get (l : List UInt8) (i M : Int) (j : Nat) (hj : j < M.toNat) : (partB l i M).getD j 0 = l.getD (i.toNat + j) 0 := by
  unfold partB
  rw [List.getD_eq_getElem?_getD, List.getElem?_take_of_lt hj, List.getElem?_drop, List.getD_eq_getElem?_getD]
theorem part_cells {T : TypeId} {w : World} {b : Nat} {l : List UInt8} {p c : Int} (h : Pg T w b l p c) (i M : Int) (h0 : 0 ≤ i) (h1 : 0 ≤ M) (h2 : i + M ≤ 256) : ∀ j v, (cellsU (partB l i M))[j]? = some v → w.cell? ((⟨b, i.toNat, none⟩ : Addr).add j) = some v := by
  have hl := partB_len l i M h.len h0 h1 h2
  refine Lies.cells (fun j hj => ?_)
  rw [hl] at hj
  rw [partB_get l i M j hj]
  exact h.byte (by omega)
theorem copied {w : World} {g : Nat} {l : List UInt8} {i M : Int} {z : Array Value} (hl : (partB l i M).length = M.toNat) (hz : z.size = M.toNat) (hM : M ≤ 256) (h : w.heap[g]? = some (.cells (splice z.toList 0 (cellsU (partB l i M))).toArray 5 (0, 0))) : Row w (some ⟨g, 0, none⟩) (partB l i M) M.toNat := by
  refine ⟨Nat.le_of_eq hl, by simp only [maxLen]; omega, by simp, .inr ⟨g, 0, rfl, fun j hj => ?_⟩⟩
  rw [Nat.zero_add, cell_of_row _ _ _ _ _ _ h, List.getElem?_toArray, splice, List.take_zero, List.nil_append, List.getElem?_append_left (by rw [cellsU_len]; exact hj), cellsU_get _ _ hj]
theorem size5 : (Try.prog.info? 5).map (·.size) = some 1 := by kernel_rfl
theorem run_part {w : World} {b : Nat} {l : List UInt8} {p c : Int} (h : Pg 127 w b l p c) (i M : Int) (S : Nat) (h0 : 0 ≤ i) (h1 : 0 ≤ M) (h2 : i + M ≤ 256) (hS : S = M.toNat) :
    ∃ v w2, (Builtin.copy_ #[50, 50] 3 #[.slice (some ⟨w.heap.size, 0, none⟩) M.toNat M.toNat, .slice (some ⟨b, i.toNat, none⟩) S (256 - i.toNat)]).run Try.prog (w.alloc (.cells (madeCells #[.int .u8 0] M.toNat) 5)) = .ok v w2 ∧ Row w2 (some ⟨w.heap.size, 0, none⟩) (partB l i M) M.toNat ∧ Below w.heap.size w w2 := by
  have hpl := partB_len l i M h.len h0 h1 h2
  have hcl := part_cells (h.later ((Below.refl _ _).alloc (Nat.le_refl _) (.cells (madeCells #[.int .u8 0] M.toNat) 5))) i M h0 h1 h2
  have hms := size_madeCells #[.int .u8 0] M.toNat
  have hg := heap_alloc_new w (.cells (madeCells #[.int .u8 0] M.toNat) 5)
  have hr := run_copy_row (P := Try.prog) (w.alloc (.cells (madeCells #[.int .u8 0] M.toNat) 5)) 50 50 3 5 w.heap.size 0 M.toNat M.toNat ⟨b, i.toNat, none⟩ S (256 - i.toNat) _ 5 (cellsU (partB l i M)) Try.underlying50 size5 hg (by rw [cellsU_len, hpl, hS]; show _ = min _ _; omega) hcl (by rw [cellsU_len, hpl, hms]; omega) (cellsU_one _)
  refine ⟨_, _, hr, ?_, below_setRow ((Below.refl _ _).alloc (Nat.le_refl _) _) (Nat.le_refl _) _⟩
  refine copied hpl hms (by omega) ?_
  rw [setRow_heap _ _ _ _ 5 _ hg]
  rfl
end Go.Proofs.Ytodoenimlhldjaa
