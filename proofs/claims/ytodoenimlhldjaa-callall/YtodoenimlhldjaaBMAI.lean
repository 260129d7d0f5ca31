/- What MemBytes makes ahead of its memory. -/
import Derived.Test.YtodoenimlhldjaaBMAH
import Derived.Test.YtodoenimlhldjaaBMAF
import Derived.Deep.AppendSrc
import Derived.Test.YtodoenimlhldjaaBMAE
import Derived.Test.YtodoenimlhldjaaBMAG
import Derived.Great.Walk
import Derived.Laws.Tables
import Derived.Laws.Rows
import Derived.Deep.MidRow
import Derived.ChangeKeysEq
namespace Go.Proofs.Ytodoenimlhldjaa
open Go.ChangeShapes Go.WideShapes Go.ChangeAt Go.RowKit
set_option linter.unusedVariables false
theorem append0 (w : World) (bo : Option Addr) (l : List UInt8) (cap : Nat) (ty : TypeId) (hl : Row w bo l cap) (hlen : l.length ≤ 400) :
    ∃ ao' cap' w2, (Builtin.append_ #[50, 50] ty #[.slice (some ⟨w.heap.size, 0, none⟩) 1 1, .slice bo l.length cap]).run Try.prog (w.alloc (.cells #[.int .u8 0] 5)) = .ok (.slice ao' (0 :: l).length cap') w2 ∧ Row w2 ao' (0 :: l) cap' ∧ Below w.heap.size w w2 := by
  obtain ⟨i0, hi, hz0, hz1, hz2⟩ := info_parts info5
  have hb1 : Below w.heap.size w (w.alloc (.cells #[.int .u8 0] 5)) := (Below.refl _ w).alloc (Nat.le_refl _) _
  have hown : (w.alloc (.cells #[.int .u8 0] 5)).ownsRow w.heap.size 5 1 (.slice (some ⟨w.heap.size, 0, none⟩) 1 1) 1 (cellsU [0]) :=
    ⟨rfl, .inr ⟨w.heap.size, 1, _, rfl, Nat.le_refl _, heap_alloc_new w _, Nat.le_refl _, by unfold maxLen; omega, rfl, rfl⟩⟩
  cases bo with
  | none =>
    have h0 := hl.nil rfl
    have h1 := hl.len
    obtain rfl : l = [] := List.eq_nil_of_length_eq_zero (by omega)
    subst h0
    have := run_append_room_src (P := Try.prog) (w.alloc (.cells #[.int .u8 0] 5)) 50 50 ty 5 i0 Try.underlying50 hi w.heap.size 0 1 1 (.slice none 0 0) 0 [] (Src.ofNil _ Try.underlying50 0) (by omega) (by simp) (by simp)
    refine ⟨_, _, _, this, ?_, ?_⟩
    · exact (lies_of_own (l := [0]) rfl hown)
    · exact hb1
  | some ad =>
    have hc : ∀ j u, (cellsU l)[j]? = some u → (w.alloc (.cells #[.int .u8 0] 5)).cell? (ad.add j) = some u := by
      rcases (hl.later hb1).lies with h | ⟨b, off, e, h⟩
      · intro j u hu
        rw [h] at hu
        simp [cellsU] at hu
      · simp only [Option.some.injEq] at e
        subst e
        exact Lies.cells h
    obtain ⟨v', w', hr, ho, hgr, _, _⟩ := run_append_own_at (P := Try.prog) (w.alloc (.cells #[.int .u8 0] 5)) w.heap.size 50 ty 5 i0 (.int .u8 0) 1 1 Try.underlying50 hi hz0 hz1 hz2 rfl (by decide) _ _ _ hown ad l.length cap (cellsU l) (by rw [cellsU_len, Nat.mul_one]) hc (cellsU_one l) (by unfold maxLen; omega) (by omega) (by simp)
    rw [← cellsU_append] at ho
    obtain ⟨ao, cap', rfl, hrow⟩ := row_of_own (l := 0 :: l) (by simp; omega) ho
    refine ⟨ao, cap', w', by rw [hr]; simp [Nat.add_comm], hrow, hb1.grown hgr hb1.size fun g hg => ?_⟩
    simp [Value.ownBlock] at hg
    omega
theorem build57 (x : Int) (ao : Option Addr) (n c : Nat) (w : World) : (Instr.build 52 #[(0, .int .u32 x), (1, .slice ao n c), (2, .int .i64 6)]).run Try.prog w = .ok (.agg #[.int .u32 x, .slice ao n c, .int .i64 6, .bool false]) w := by kernel_rfl
/-- The one part, as it lies there. -/
theorem piece_one (w : World) (fr : Nat) (hfr : fr < 256) (ao : Option Addr) (l : List UInt8) (cap : Nat) (hr : Row w ao l cap) : Pieces (w.alloc (.cells #[.int .u32 (fr : Int), .slice ao l.length cap, .int .i64 6, .bool false] 52)) (some ⟨w.heap.size, 0, none⟩) [⟨fr, l, 6, false, ao, cap⟩] := by
  have hb := heap_alloc_new w (.cells #[.int .u32 (fr : Int), .slice ao l.length cap, .int .i64 6, .bool false] 52)
  refine .inr ⟨w.heap.size, 0, rfl, (Array.getElem?_eq_some_iff.1 hb).1, fun j hj => ?_⟩
  obtain rfl : j = 0 := by simpa using hj
  refine ⟨?_, ?_, ?_, ?_, hr.later ((Below.refl _ w).alloc (Nat.le_refl _) _), by show fr < _; omega⟩
  · rw [cell_of_row _ _ _ _ _ _ hb]; rfl
  · rw [cell_of_row _ _ _ _ _ _ hb]; rfl
  · rw [cell_of_row _ _ _ _ _ _ hb]; rfl
  · rw [cell_of_row _ _ _ _ _ _ hb]; rfl
theorem exec_add1 {ρ : Operand → Value} {o : Oper} {x : Operand} {fr : Nat} (hop : o.op = .binOp .add 23 x (.const (.int .u32 1)) 23) (hx : ρ x = .int .u32 (fr : Int) ∧ ρ (.const (.int .u32 1)) = .int .u32 1) (hfr : fr < 256) (w : World) : (execOp ρ o).run Try.prog w = .ok (.value (.int .u32 ((fr : Int) + 1))) w := by
  have e : ((fr : Int) + 1) % 4294967296 = (fr : Int) + 1 := by omega
  unfold execOp
  rw [hop]
  simp [hx.1, hx.2, go_sem, IntKind.wrap_u32, e]
theorem exec_str {ρ : Operand → Value} {o : Oper} {x : Operand} {a : Option Addr} {c : Nat} (L : List UInt8) (hop : o.op = .convert 50 9 x) (hx : ρ x = .slice a L.length c) (w : World) (h : Lies w a L) : (execOp ρ o).run Try.prog w = .ok (.value (.string ⟨L.toArray⟩)) w := by
  unfold execOp
  rw [hop]
  have := run_str w a L c h
  simp [hx, this, go_sem]
theorem exec_neqS {ρ : Operand → Value} {o : Oper} {x y : Operand} (A : ByteArray) (hop : o.op = .binOp .neq 9 x y 9) (hx : ρ x = .string A) (hy : ρ y = .string A) (w : World) : (execOp ρ o).run Try.prog w = .ok (.value (.bool false)) w := by
  unfold execOp
  rw [hop]
  simp [hx, hy, go_sem]
theorem wpList_append_run {P : Program} {w : World} {ops : Array Oper} {rest : List Oper} {o : Oper} {a : Act} {Q : Exit → Act → World → Prop} (hgd : o.guard = none) (s x : Operand) (t tx : TypeId)
    (ho : o.op = .call { callee := .builtin .append, args := #[s, x], argTypes := #[t, tx] }) {vs vx v' : Value} {w' : World} (hs : a.eval s = vs) (hx : a.eval x = vx)
    (hr : (Builtin.append_ #[t, tx] o.type #[vs, vx]).run P w = .ok v' w') (h : wpList P ops Q rest (a.put o.dst v') w') : wpList P ops Q (o :: rest) a w :=
  wpList_plain hgd fun _ hK => by
    unfold Oper.wp execOp
    simp only [ho, resolve, invoke, builtin, Sem.run_bind, Sem.run_pure, Result.andThen_ok, List.map_toArray, List.map_cons, List.map_nil, hs, hx, hr]
    exact hK _ _ h
end Go.Proofs.Ytodoenimlhldjaa
namespace Go.Proofs.Ytodoenimlhldjaa
open Go.ChangeShapes Go.WideShapes Go.ChangeAt Go.RowKit
set_option linter.unusedVariables false
def Blk (w : World) (n : Nat) (cs : Array Value) (T : TypeId) : Prop := w.heap[n]? = some (.cells cs T (0, 0))
theorem Blk.lt {w : World} {n : Nat} {cs : Array Value} {T : TypeId} (h : Blk w n cs T) : n < w.heap.size := (Array.getElem?_eq_some_iff.1 h).1
theorem Blk.cell {w : World} {n : Nat} {cs : Array Value} {T : TypeId} (h : Blk w n cs T) {j : Nat} {v : Value} (hj : cs[j]? = some v) : w.cell? ⟨n, j, none⟩ = some v := (cell_of_row _ _ _ _ _ _ h).trans hj
theorem Blk.later {w w' : World} {n : Nat} {cs : Array Value} {T : TypeId} (h : Blk w n cs T) (hb : Below w.heap.size w w') : Blk w' n cs T := (hb.block n h.lt).trans h
theorem Blk.new (w : World) (cs : Array Value) (T : TypeId) : Blk (w.alloc (.cells cs T)) w.heap.size cs T := heap_alloc_new w _
theorem below_new (w : World) (o : Obj) : Below w.heap.size w (w.alloc o) := (Below.refl _ w).alloc (Nat.le_refl _) _
theorem bthen {u v w : World} (h : Below u.heap.size u v) (k : Below v.heap.size v w) : Below u.heap.size u w := h.trans (k.mono h.size)
end Go.Proofs.Ytodoenimlhldjaa
namespace Go.Proofs.Ytodoenimlhldjaa
open Go.ChangeShapes Go.WideShapes Go.ChangeAt Go.RowKit
set_option linter.unusedVariables false
/-- A state. -/
structure SV where
  R : List Int
  hi : Int
  lo : Int
  pc : Int
  nx : Int
  sl : Bool
def SV.l (s : SV) : List Value := s.R.map (Value.int .u32) ++ [.int .u32 s.hi, .int .u32 s.lo, .int .u32 s.pc, .int .u32 s.nx, .bool s.sl]
/-- Its cells. -/
def SV.c (s : SV) : Array Value := s.l.toArray
def SV.zero : SV := ⟨List.replicate 32 0, 0, 0, 0, 0, false⟩
theorem SV.len {s : SV} (h : s.R.length = 32) : s.l.length = 37 := by
  unfold SV.l
  simp [h]
theorem SV.size {s : SV} (h : s.R.length = 32) : s.c.size = 37 := by
  unfold SV.c
  rw [List.size_toArray]
  exact SV.len h
theorem ints_one (l : List Int) : (l.map (Value.int .u32)).all (·.oneCell') = true := by
  rw [List.all_eq_true]
  intro x hx
  rw [List.mem_map] at hx
  obtain ⟨y, _, rfl⟩ := hx
  rfl
theorem SV.one (s : SV) : s.c.all (·.oneCell') = true := by
  unfold SV.c SV.l
  rw [List.all_toArray, List.all_append, ints_one]
  rfl
theorem SV.get (s : SV) (k : Nat) : s.c[k]? = s.l[k]? := by
  unfold SV.c
  simp
theorem SV.getR {s : SV} (h : s.R.length = 32) {k : Nat} (hk : k < 32) : s.c[k]? = some (.int .u32 (s.R.getD k 0)) := by
  rw [SV.get]
  unfold SV.l
  rw [List.getElem?_append_left (by simp [h, hk]), List.getElem?_map, List.getD_eq_getElem?_getD, List.getElem?_eq_getElem (by omega)]
  rfl
theorem SV.get_hi {s : SV} (h : s.R.length = 32) : s.c[32]? = some (.int .u32 s.hi) := by
  rw [SV.get]
  unfold SV.l
  rw [List.getElem?_append_right (by simp [h])]
  simp [h]
theorem SV.get_lo {s : SV} (h : s.R.length = 32) : s.c[33]? = some (.int .u32 s.lo) := by
  rw [SV.get]
  unfold SV.l
  rw [List.getElem?_append_right (by simp [h])]
  simp [h]
theorem SV.get_pc {s : SV} (h : s.R.length = 32) : s.c[34]? = some (.int .u32 s.pc) := by
  rw [SV.get]
  unfold SV.l
  rw [List.getElem?_append_right (by simp [h])]
  simp [h]
theorem SV.get_nx {s : SV} (h : s.R.length = 32) : s.c[35]? = some (.int .u32 s.nx) := by
  rw [SV.get]
  unfold SV.l
  rw [List.getElem?_append_right (by simp [h])]
  simp [h]
theorem SV.get_sl {s : SV} (h : s.R.length = 32) : s.c[36]? = some (.bool s.sl) := by
  rw [SV.get]
  unfold SV.l
  rw [List.getElem?_append_right (by simp [h])]
  simp [h]
theorem SV.setAt (s : SV) (k : Nat) (v : Value) : s.c.setIfInBounds k v = (s.l.set k v).toArray := by
  unfold SV.c
  simp
theorem SV.setR {s : SV} (h : s.R.length = 32) {k : Nat} (hk : k < 32) (v : Int) : s.c.setIfInBounds k (.int .u32 v) = SV.c { s with R := s.R.set k v } := by
  rw [SV.setAt]
  unfold SV.c SV.l
  rw [List.set_append_left _ _ (by simp [h, hk]), List.map_set]
theorem SV.set_hi {s : SV} (h : s.R.length = 32) (v : Int) : s.c.setIfInBounds 32 (.int .u32 v) = SV.c { s with hi := v } := by
  rw [SV.setAt]
  unfold SV.c SV.l
  rw [List.set_append_right _ _ (by simp [h])]
  simp [h]
theorem SV.set_lo {s : SV} (h : s.R.length = 32) (v : Int) : s.c.setIfInBounds 33 (.int .u32 v) = SV.c { s with lo := v } := by
  rw [SV.setAt]
  unfold SV.c SV.l
  rw [List.set_append_right _ _ (by simp [h])]
  simp [h]
theorem SV.set_pc {s : SV} (h : s.R.length = 32) (v : Int) : s.c.setIfInBounds 34 (.int .u32 v) = SV.c { s with pc := v } := by
  rw [SV.setAt]
  unfold SV.c SV.l
  rw [List.set_append_right _ _ (by simp [h])]
  simp [h]
theorem SV.set_nx {s : SV} (h : s.R.length = 32) (v : Int) : s.c.setIfInBounds 35 (.int .u32 v) = SV.c { s with nx := v } := by
  rw [SV.setAt]
  unfold SV.c SV.l
  rw [List.set_append_right _ _ (by simp [h])]
  simp [h]
theorem SV.set_sl {s : SV} (h : s.R.length = 32) (v : Bool) : s.c.setIfInBounds 36 (.bool v) = SV.c { s with sl := v } := by
  rw [SV.setAt]
  unfold SV.c SV.l
  rw [List.set_append_right _ _ (by simp [h])]
  simp [h]
theorem sizeSV : (Try.prog.info? 26).map (·.size) = some 37 := by kernel_rfl
/-- A state that is made anew. -/
theorem wpList_allocV {ops : Array Oper} {rest : List Oper} {o : Oper} {a : Act} {w : World} {Q : Exit → Act → World → Prop} (hgd : o.guard = none) (ho : o.op = .alloc 26)
    (h : ∀ w1, Blk w1 w.heap.size SV.zero.c 26 → w1.heap.size = w.heap.size + 1 → Below w.heap.size w w1 → wpList Try.prog ops Q rest (a.put o.dst (.pointer (some ⟨w.heap.size, 0, none⟩))) w1) : wpList Try.prog ops Q (o :: rest) a w := by
  refine Great.wpList_runTo hgd o.dst rfl (.pointer (some ⟨w.heap.size, 0, none⟩)) (w.alloc (.cells SV.zero.c 26)) ?_ (h _ (Blk.new w _ _) (by simp) (below_new w _))
  obtain ⟨dst, op, ty, pos, aft, gd⟩ := o
  simp only at ho
  subst ho
  kernel_rfl
theorem only_rowV (w : World) (g : Nat) (cs : Array Value) : Only g w (w.setRow g cs) := by
  refine ⟨rfl, rfl, rfl, by simp [World.setRow], fun k hk => ?_⟩
  simp only [World.setRow, Array.getElem?_modify]
  rw [if_neg (fun e => hk e.symm)]
/-- A state that is put. -/
theorem wpList_storeV {ops : Array Oper} {rest : List Oper} {o : Oper} {a : Act} {w : World} {Q : Exit → Act → World → Prop} (hgd : o.guard = none) (hd : o.dst = none) (x y : Operand) (ho : o.op = .store 26 x y)
    (g : Nat) (s t : SV) (hx : a.eval x = .pointer (some ⟨g, 0, none⟩)) (hy : a.eval y = .agg t.c) (hg : Blk w g s.c 26) (hs : s.R.length = 32) (ht : t.R.length = 32)
    (h : ∀ w1, Blk w1 g t.c 26 → Only g w w1 → wpList Try.prog ops Q rest a w1) : wpList Try.prog ops Q (o :: rest) a w := by
  refine wpList_store_row hgd 26 x y ho g t.c hx hy 26 s.c hg (by rw [SV.size ht]; exact sizeSV) (by rw [SV.size hs, SV.size ht]) (SV.one t) ?_
  rw [hd]
  exact h _ (setRow_heap w g s.c t.c 26 (0, 0) hg) (only_rowV w g t.c)
theorem wpList_loadV {ops : Array Oper} {rest : List Oper} {o : Oper} {a : Act} {w : World} {Q : Exit → Act → World → Prop} (hgd : o.guard = none) (x : Operand) (ho : o.op = .load 26 x)
    (g : Nat) (s : SV) (hx : a.eval x = .pointer (some ⟨g, 0, none⟩)) (hg : Blk w g s.c 26) (hs : s.R.length = 32)
    (h : wpList Try.prog ops Q rest (a.put o.dst (.agg s.c)) w) : wpList Try.prog ops Q (o :: rest) a w :=
  wpList_load_row hgd 26 x ho g hx 26 s.c (0, 0) _ hg Try.underlying26 rfl (by rw [SV.size hs]; exact sizeSV) h
/-- A cell of a state that is put. -/
theorem setCell_V {w : World} {g : Nat} {s : SV} (h : Blk w g s.c 26) (hs : s.R.length = 32) {k : Nat} (hk : k < 32) (v : Int) : Blk (w.setCell ⟨g, k, none⟩ (.int .u32 v)) g (SV.c { s with R := s.R.set k v }) 26 := by
  have h2 := heap_setCell_same w g k s.c 26 (.int .u32 v) h
  rw [SV.setR hs hk] at h2
  exact h2
theorem setCell_hi {w : World} {g : Nat} {s : SV} (h : Blk w g s.c 26) (hs : s.R.length = 32) (v : Int) : Blk (w.setCell ⟨g, 32, none⟩ (.int .u32 v)) g (SV.c { s with hi := v }) 26 := by
  have h2 := heap_setCell_same w g 32 s.c 26 (.int .u32 v) h
  rw [SV.set_hi hs] at h2
  exact h2
theorem setCell_lo {w : World} {g : Nat} {s : SV} (h : Blk w g s.c 26) (hs : s.R.length = 32) (v : Int) : Blk (w.setCell ⟨g, 33, none⟩ (.int .u32 v)) g (SV.c { s with lo := v }) 26 := by
  have h2 := heap_setCell_same w g 33 s.c 26 (.int .u32 v) h
  rw [SV.set_lo hs] at h2
  exact h2
theorem setCell_pc {w : World} {g : Nat} {s : SV} (h : Blk w g s.c 26) (hs : s.R.length = 32) (v : Int) : Blk (w.setCell ⟨g, 34, none⟩ (.int .u32 v)) g (SV.c { s with pc := v }) 26 := by
  have h2 := heap_setCell_same w g 34 s.c 26 (.int .u32 v) h
  rw [SV.set_pc hs] at h2
  exact h2
theorem setCell_nx {w : World} {g : Nat} {s : SV} (h : Blk w g s.c 26) (hs : s.R.length = 32) (v : Int) : Blk (w.setCell ⟨g, 35, none⟩ (.int .u32 v)) g (SV.c { s with nx := v }) 26 := by
  have h2 := heap_setCell_same w g 35 s.c 26 (.int .u32 v) h
  rw [SV.set_nx hs] at h2
  exact h2
theorem setCell_sl {w : World} {g : Nat} {s : SV} (h : Blk w g s.c 26) (hs : s.R.length = 32) (v : Bool) : Blk (w.setCell ⟨g, 36, none⟩ (.bool v)) g (SV.c { s with sl := v }) 26 := by
  have h2 := heap_setCell_same w g 36 s.c 26 (.bool v) h
  rw [SV.set_sl hs] at h2
  exact h2
/-- The registers as a row. -/
def SV.r (s : SV) : Array Value := (s.R.map (Value.int .u32)).toArray
theorem sizeRV : (Try.prog.info? 24).map (·.size) = some 32 := by kernel_rfl
theorem wpList_loadRV {ops : Array Oper} {rest : List Oper} {o : Oper} {a : Act} {w : World} {Q : Exit → Act → World → Prop} (hgd : o.guard = none) (x : Operand) (ho : o.op = .load 24 x)
    (g : Nat) (s : SV) (hx : a.eval x = .pointer (some ⟨g, 0, none⟩)) (hg : Blk w g s.c 26) (hs : s.R.length = 32)
    (h : wpList Try.prog ops Q rest (a.put o.dst (.agg s.r)) w) : wpList Try.prog ops Q (o :: rest) a w := by
  refine wpList_load_mid hgd 24 x ho g 0 hx (s.R.map (Value.int .u32)) _ ?_ Try.underlying24 rfl (by rw [List.length_map, hs]; exact sizeRV) h
  intro j v hv
  rw [Nat.zero_add]
  refine hg.cell ?_
  have hj : j < 32 := by
    have := (List.getElem?_eq_some_iff.1 hv).1
    rw [List.length_map, hs] at this
    exact this
  rw [SV.get]
  unfold SV.l
  rw [List.getElem?_append_left (by simp [hs, hj])]
  exact hv
theorem plainUV : Try.prog.plainKey 23 = true := by kernel_rfl
theorem cellsUV : Try.prog.cellsOf 23 = 1 := by kernel_rfl
theorem infoUV : ∃ i, Try.prog.info? 23 = some i := info_of_underlying Try.underlying23
theorem SV.rget {s : SV} (hs : s.R.length = 32) {k : Nat} (hk : k < 32) : s.r[k]? = some (.int .u32 (s.R.getD k 0)) := by
  unfold SV.r
  rw [List.getElem?_toArray, List.getElem?_map, List.getD_eq_getElem?_getD, List.getElem?_eq_getElem (by omega)]
  rfl
theorem eqItemsV (d : Nat) {s t : SV} (hs : s.R.length = 32) (ht : t.R.length = 32) (w : World) : ∀ is : List Nat, (∀ i ∈ is, i < 32) → (Op.eqItems (d + 1) 23 (Try.prog.cellsOf 23) s.r t.r is).run Try.prog w = .ok (is.all fun i => s.R.getD i 0 == t.R.getD i 0) w
  | [], _ => by simp [Op.eqItems]
  | i :: is, h => by
    have hi := h i (List.mem_cons_self ..)
    have ih := eqItemsV d hs ht w is (fun j hj => h j (List.mem_cons_of_mem _ hj))
    rw [cellsUV] at ih ⊢
    have p1 := run_part_plain (P := Try.prog) w plainUV (off := i * 1) (by rw [Nat.mul_one]; exact SV.rget hs hi)
    have p2 := run_part_plain (P := Try.prog) w plainUV (off := i * 1) (by rw [Nat.mul_one]; exact SV.rget ht hi)
    have p3 := run_equalIn_int (P := Try.prog) w d 23 .u32 .u32 (s.R.getD i 0) (t.R.getD i 0) Try.underlying23
    simp only [Op.eqItems, Sem.run_bind, p1, p2, p3, Result.andThen_ok, List.all_cons]
    cases hb : (s.R.getD i 0 == t.R.getD i 0) with
    | false => simp
    | true => simpa using ih
theorem all_getD {l m : List Int} (hl : l.length = 32) (hm : m.length = 32) : ((List.range 32).all fun i => l.getD i 0 == m.getD i 0) = decide (l = m) := by
  rw [Bool.eq_iff_iff, List.all_eq_true, decide_eq_true_eq]
  constructor
  · intro h
    refine List.ext_getElem (by rw [hl, hm]) fun i h1 h2 => ?_
    have := h i (List.mem_range.2 (by omega))
    rw [beq_iff_eq, List.getD_eq_getElem?_getD, List.getD_eq_getElem?_getD, List.getElem?_eq_getElem h1, List.getElem?_eq_getElem h2] at this
    exact this
  · rintro rfl i _
    exact beq_self_eq_true _
theorem run_eqRV {s t : SV} (hs : s.R.length = 32) (ht : t.R.length = 32) (w : World) : (binOp .eql 24 (.agg s.r) (.agg t.r)).run Try.prog w = .ok (.bool (decide (s.R = t.R))) w := by
  obtain ⟨i, hi⟩ := infoUV
  rw [run_eql_struct, run_equalIn_array (P := Try.prog) w 9999 s.r t.r Try.underlying24 hi, eqItemsV 9998 hs ht w (List.range 32) (fun j hj => List.mem_range.1 hj), all_getD hs ht]
  rfl
theorem wpList_eqRV {ops : Array Oper} {rest : List Oper} {o : Oper} {a : Act} {w : World} {Q : Exit → Act → World → Prop} (hgd : o.guard = none) (x y : Operand) (ho : o.op = .binOp .eql 24 x y 24)
    (s t : SV) (hs : s.R.length = 32) (ht : t.R.length = 32) (hx : a.eval x = .agg s.r) (hy : a.eval y = .agg t.r)
    (h : wpList Try.prog ops Q rest (a.put o.dst (.bool (decide (s.R = t.R)))) w) : wpList Try.prog ops Q (o :: rest) a w := by
  refine Great.wpList_runTo hgd o.dst rfl (.bool (decide (s.R = t.R))) w ?_ h
  have he : (eqGuard .eql 24 x y (.agg s.r) (.agg t.r)).run Try.prog w = .ok () w := run_eqGuard_agg (P := Try.prog) w .eql 24 x y s.r t.r (by kernel_rfl)
  unfold execOp
  simp only [ho, hx, hy, Sem.run_bind, he, run_eqRV hs ht, Result.andThen_ok, Sem.run_pure]
set_option maxRecDepth 20000 in
set_option maxHeartbeats 1000000 in
theorem sameState_eq (w : World) (s : SV) (hs : s.R.length = 32) : Calls Try.prog 15 #[.agg s.c, .agg s.c] w fun e w' => e = .returned (.bool true) ∧ Below w.heap.size w w' := by
  obtain ⟨n, hn⟩ : ∃ n, w.heap.size = n := ⟨_, rfl⟩
  obtain ⟨C, hC⟩ : ∃ C, s.c = C := ⟨_, rfl⟩
  obtain ⟨W, hW⟩ : ∃ W, (w.alloc (.cells C 26)).alloc (.cells C 26) = W := ⟨_, rfl⟩
  have k1 : Blk W n s.c 26 := by rw [← hW, ← hn, hC]; exact (heap_alloc_old _ _ (by simp)).trans (Blk.new w _ _)
  have k2 : Blk W (n + 1) s.c 26 := by
    have := Blk.new (w.alloc (.cells C 26)) C 26
    rw [World.size_alloc, hn] at this
    rw [← hW, hC]; exact this
  have hB : Below n w W := by rw [← hW, ← hn]; exact ((Below.refl _ w).alloc (Nat.le_refl _) _).alloc (by simp) _
  have c32 : W.cell? ⟨n, 32, none⟩ = some (.int .u32 s.hi) := k1.cell (SV.get_hi hs)
  have c33 : W.cell? ⟨n, 33, none⟩ = some (.int .u32 s.lo) := k1.cell (SV.get_lo hs)
  have c34 : W.cell? ⟨n, 34, none⟩ = some (.int .u32 s.pc) := k1.cell (SV.get_pc hs)
  have c35 : W.cell? ⟨n, 35, none⟩ = some (.int .u32 s.nx) := k1.cell (SV.get_nx hs)
  have c36 : W.cell? ⟨n, 36, none⟩ = some (.bool s.sl) := k1.cell (SV.get_sl hs)
  have d32 : W.cell? ⟨n + 1, 32, none⟩ = some (.int .u32 s.hi) := k2.cell (SV.get_hi hs)
  have d33 : W.cell? ⟨n + 1, 33, none⟩ = some (.int .u32 s.lo) := k2.cell (SV.get_lo hs)
  have d34 : W.cell? ⟨n + 1, 34, none⟩ = some (.int .u32 s.pc) := k2.cell (SV.get_pc hs)
  have d35 : W.cell? ⟨n + 1, 35, none⟩ = some (.int .u32 s.nx) := k2.cell (SV.get_nx hs)
  have d36 : W.cell? ⟨n + 1, 36, none⟩ = some (.bool s.sl) := k2.cell (SV.get_sl hs)
  have K1 := hidden k1
  have K2 := hidden k2
  have HB := hidden hB
  have HS := hidden hs
  have T1 : Hid True := trivial
  have hee := decide_eq_true (rfl : s.R = s.R)
  clear k1 k2 hB hs
  rw [hC]
  go_enter Try.func15, Try.ntmps15
  go_wp2_with (first
    | (clear T1; refine wpList_loadRV rfl _ rfl n s rfl (Hid.out K1) (Hid.out HS) ?_)
    | (refine wpList_loadRV rfl _ rfl (n + 1) s rfl (Hid.out K2) (Hid.out HS) ?_)
    | (refine wpList_eqRV rfl _ _ rfl s s (Hid.out HS) (Hid.out HS) rfl rfl ?_; rw [hee]))
  go_ret
  exact ⟨rfl, Hid.out HB⟩
end Go.Proofs.Ytodoenimlhldjaa
namespace Go.Proofs.Ytodoenimlhldjaa
open Go.ChangeShapes Go.WideShapes Go.ChangeAt Go.RowKit
set_option linter.unusedVariables false
theorem Blk.only {w w' : World} {b g : Nat} {cs : Array Value} {T : TypeId} (h : Blk w b cs T) (ho : Only g w w') (hn : b ≠ g) : Blk w' b cs T := (ho.block b hn).trans h
theorem Below.only {B g : Nat} {u w w' : World} (h : Below B u w) (ho : Only g w w') (hB : B ≤ g) : Below B u w' := h.trans (ho.below hB)
theorem Blk.frozen {w : World} {g : Nat} {cs : Array Value} {T : TypeId} (h : Blk w g cs T) (k : Nat) : w.frozen? ⟨g, k, none⟩ = false := by
  have h2 : w.heap[g]? = some (.cells cs T (0, 0)) := h
  simp [World.frozen?, h2]
theorem Only.setCells {g : Nat} {w : World} (j : Nat) (v : Value) : Only g w (w.setCell ⟨g, j, none⟩ v) := (Only.refl g w).setCell j v
/-- A value that is boxed. -/
theorem wpList_boxG {ops : Array Oper} {rest : List Oper} {o : Oper} {a : Act} {w : World} {Q : Exit → Act → World → Prop} (hgd : o.guard = none) (T : TypeId) (x : Operand) (ho : o.op = .box T x) (cs : Array Value) (hx : a.eval x = .agg cs)
    (h : ∀ w1, Blk w1 w.heap.size cs T → w1.heap.size = w.heap.size + 1 → Below w.heap.size w w1 → wpList Try.prog ops Q rest (a.put o.dst (.pointer (some ⟨w.heap.size, 0, none⟩))) w1) : wpList Try.prog ops Q (o :: rest) a w := by
  refine Great.wpList_runTo hgd o.dst rfl (.pointer (some ⟨w.heap.size, 0, none⟩)) (w.alloc (.cells cs T)) ?_ (h _ (Blk.new w _ _) (by simp) (below_new w _))
  unfold execOp
  simp only [ho, hx]
  simp [go_sem]
/-- A row of any type that is put over one of its size. -/
theorem wpList_storeG {ops : Array Oper} {rest : List Oper} {o : Oper} {a : Act} {w : World} {Q : Exit → Act → World → Prop} (hgd : o.guard = none) (hd : o.dst = none) (T : TypeId) (x y : Operand) (ho : o.op = .store T x y)
    (g : Nat) (old cs : Array Value) (hx : a.eval x = .pointer (some ⟨g, 0, none⟩)) (hy : a.eval y = .agg cs) (hg : Blk w g old T) (hi : (Try.prog.info? T).map (·.size) = some cs.size) (hs : old.size = cs.size) (h1 : cs.all (·.oneCell') = true)
    (h : ∀ w1, Blk w1 g cs T → Only g w w1 → wpList Try.prog ops Q rest a w1) : wpList Try.prog ops Q (o :: rest) a w := by
  refine wpList_store_row hgd T x y ho g cs hx hy T old hg hi hs h1 ?_
  rw [hd]
  exact h _ (setRow_heap w g old cs T (0, 0) hg) (only_rowV w g cs)
def zLn : Array Value := #[.string ⟨#[]⟩, .int .i64 0, .int .u32 0, .int .i64 0]
def zRw : Array Value := #[.string ⟨#[]⟩, .int .i64 0, .int .u32 0, .int .u32 0, .int .u32 0, .int .i64 0, .int .u32 0, .int .i64 0, .int .i64 0, .bool false, .int .i64 0, .bool false]
def zFa : Array Value := #[.int .i64 0, .int .u32 0, .bool false, .int .u32 0]
def zIn : Array Value := #[.int .i64 0, .int .i64 0, .int .i64 0, .int .i64 0, .int .i64 0, .int .u32 0]
def zTa : Array Value := #[.int .i64 0, .int .i64 0, .int .i64 0, .int .i64 0, .int .i64 0, .int .u32 0, .int .u32 0, .int .u32 0, .int .u32 0, .int .u32 0, .int .u32 0, .int .u32 0, .int .u32 0, .int .u32 0, .int .u32 0, .int .u32 0, .int .u32 0, .int .u32 0, .int .u32 0, .int .u32 0, .int .u32 0, .int .u32 0, .int .u32 0, .int .u32 0, .int .u32 0, .int .u32 0, .int .u32 0, .int .u32 0, .int .u32 0, .int .u32 0, .int .u32 0, .int .u32 0, .int .u32 0, .int .u32 0, .int .u32 0, .int .u32 0, .int .u32 0, .int .u32 0, .int .u32 0, .int .u32 0, .int .u32 0, .int .u32 0, .bool false, .int .u32 0, .int .u32 0, .int .u32 0]
end Go.Proofs.Ytodoenimlhldjaa
