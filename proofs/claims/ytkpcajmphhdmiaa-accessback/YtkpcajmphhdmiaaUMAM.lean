/- A block of cells in memory. -/
import Derived.Test.YtkpcajmphhdmiaaUMAK
import Derived.Test.YtkpcajmphhdmiaaUMAG
import Derived.Test.YtkpcajmphhdmiaaUMAH
import Derived.Test.YtkpcajmphhdmiaaUMAL
import Derived.Test.YtkpcajmphhdmiaaUMAJ
import Derived.Great.Walk
import Derived.Laws.Tables
import Derived.Laws.Rows
import Derived.Deep.MidRow
import Derived.Deep.CutBlock
namespace Go.Proofs.Ytkpcajmphhdmiaa
open Go.ChangeShapes Go.WideShapes Go.ChangeAt Go.RowKit
set_option linter.unusedVariables false
def Blk (w : World) (n : Nat) (cs : Array Value) (T : TypeId) : Prop := w.heap[n]? = some (.cells cs T (0, 0))
theorem Blk.lt {w : World} {n : Nat} {cs : Array Value} {T : TypeId} (h : Blk w n cs T) : n < w.heap.size := (Array.getElem?_eq_some_iff.1 h).1
theorem Blk.cell {w : World} {n : Nat} {cs : Array Value} {T : TypeId} (h : Blk w n cs T) {j : Nat} {v : Value} (hj : cs[j]? = some v) : w.cell? ⟨n, j, none⟩ = some v := (cell_of_row _ _ _ _ _ _ h).trans hj
theorem Blk.later {w w' : World} {n : Nat} {cs : Array Value} {T : TypeId} (h : Blk w n cs T) (hb : Below w.heap.size w w') : Blk w' n cs T := (hb.block n h.lt).trans h
theorem Blk.new (w : World) (cs : Array Value) (T : TypeId) : Blk (w.alloc (.cells cs T)) w.heap.size cs T := heap_alloc_new w _
theorem below_new (w : World) (o : Obj) : Below w.heap.size w (w.alloc o) := (Below.refl _ w).alloc (Nat.le_refl _) _
theorem bthen {u v w : World} (h : Below u.heap.size u v) (k : Below v.heap.size v w) : Below u.heap.size u w := h.trans (k.mono h.size)
end Go.Proofs.Ytkpcajmphhdmiaa
namespace Go.Proofs.Ytkpcajmphhdmiaa
open Go.ChangeShapes Go.WideShapes Go.ChangeAt Go.RowKit
set_option linter.unusedVariables false
/-- A line of the code's table: name, form, number, kind. -/
structure Ln where
  name : ByteArray
  form : Int
  num : Int
  kind : Int
def lineC (r : Ln) : List Value := [.string r.name, .int .i64 r.form, .int .u32 r.num, .int .i64 r.kind]
def flatL : List Ln → List Value
  | [] => []
  | r :: l => lineC r ++ flatL l
def noLn : Ln := ⟨⟨#[]⟩, 0, 0, 0⟩
def linL : List Ln := [
  ⟨⟨#[97, 100, 100, 117]⟩, 0, 33, 1⟩,
  ⟨⟨#[115, 117, 98, 117]⟩, 0, 35, 1⟩,
  ⟨⟨#[97, 110, 100]⟩, 0, 36, 1⟩,
  ⟨⟨#[111, 114]⟩, 0, 37, 1⟩,
  ⟨⟨#[120, 111, 114]⟩, 0, 38, 1⟩,
  ⟨⟨#[110, 111, 114]⟩, 0, 39, 1⟩,
  ⟨⟨#[115, 108, 116]⟩, 0, 42, 1⟩,
  ⟨⟨#[115, 108, 116, 117]⟩, 0, 43, 1⟩,
  ⟨⟨#[97, 100, 100]⟩, 0, 32, 6⟩,
  ⟨⟨#[115, 117, 98]⟩, 0, 34, 6⟩,
  ⟨⟨#[115, 108, 108, 118]⟩, 0, 4, 1⟩,
  ⟨⟨#[115, 114, 108, 118]⟩, 0, 6, 1⟩,
  ⟨⟨#[115, 114, 97, 118]⟩, 0, 7, 1⟩,
  ⟨⟨#[109, 111, 118, 122]⟩, 0, 10, 1⟩,
  ⟨⟨#[109, 111, 118, 110]⟩, 0, 11, 1⟩,
  ⟨⟨#[115, 108, 108]⟩, 1, 0, 1⟩,
  ⟨⟨#[115, 114, 108]⟩, 1, 2, 1⟩,
  ⟨⟨#[115, 114, 97]⟩, 1, 3, 1⟩,
  ⟨⟨#[109, 117, 108, 116]⟩, 2, 24, 1⟩,
  ⟨⟨#[109, 117, 108, 116, 117]⟩, 2, 25, 1⟩,
  ⟨⟨#[100, 105, 118]⟩, 2, 26, 1⟩,
  ⟨⟨#[100, 105, 118, 117]⟩, 2, 27, 1⟩,
  ⟨⟨#[109, 102, 104, 105]⟩, 3, 16, 1⟩,
  ⟨⟨#[109, 102, 108, 111]⟩, 3, 18, 1⟩,
  ⟨⟨#[109, 116, 104, 105]⟩, 4, 17, 1⟩,
  ⟨⟨#[109, 116, 108, 111]⟩, 4, 19, 1⟩,
  ⟨⟨#[106, 114]⟩, 4, 8, 2⟩,
  ⟨⟨#[106, 97, 108, 114]⟩, 5, 9, 2⟩,
  ⟨⟨#[116, 103, 101]⟩, 6, 48, 6⟩,
  ⟨⟨#[116, 103, 101, 117]⟩, 6, 49, 6⟩,
  ⟨⟨#[116, 108, 116]⟩, 6, 50, 6⟩,
  ⟨⟨#[116, 108, 116, 117]⟩, 6, 51, 6⟩,
  ⟨⟨#[116, 101, 113]⟩, 6, 52, 6⟩,
  ⟨⟨#[116, 110, 101]⟩, 6, 54, 6⟩,
  ⟨⟨#[115, 121, 115, 99, 97, 108, 108]⟩, 7, 12, 3⟩,
  ⟨⟨#[98, 114, 101, 97, 107]⟩, 7, 13, 3⟩,
  ⟨⟨#[109, 117, 108]⟩, 8, 2, 1⟩,
  ⟨⟨#[99, 108, 122]⟩, 9, 32, 1⟩,
  ⟨⟨#[99, 108, 111]⟩, 9, 33, 1⟩,
  ⟨⟨#[97, 100, 100, 105, 117]⟩, 10, 9, 1⟩,
  ⟨⟨#[97, 100, 100, 105]⟩, 10, 8, 6⟩,
  ⟨⟨#[115, 108, 116, 105]⟩, 10, 10, 1⟩,
  ⟨⟨#[115, 108, 116, 105, 117]⟩, 10, 11, 1⟩,
  ⟨⟨#[97, 110, 100, 105]⟩, 11, 12, 1⟩,
  ⟨⟨#[111, 114, 105]⟩, 11, 13, 1⟩,
  ⟨⟨#[120, 111, 114, 105]⟩, 11, 14, 1⟩,
  ⟨⟨#[108, 117, 105]⟩, 12, 15, 1⟩,
  ⟨⟨#[108, 98]⟩, 13, 32, 4⟩,
  ⟨⟨#[108, 104]⟩, 13, 33, 4⟩,
  ⟨⟨#[108, 119, 108]⟩, 13, 34, 4⟩,
  ⟨⟨#[108, 119]⟩, 13, 35, 4⟩,
  ⟨⟨#[108, 98, 117]⟩, 13, 36, 4⟩,
  ⟨⟨#[108, 104, 117]⟩, 13, 37, 4⟩,
  ⟨⟨#[108, 119, 114]⟩, 13, 38, 4⟩,
  ⟨⟨#[115, 98]⟩, 13, 40, 5⟩,
  ⟨⟨#[115, 104]⟩, 13, 41, 5⟩,
  ⟨⟨#[115, 119, 108]⟩, 13, 42, 5⟩,
  ⟨⟨#[115, 119]⟩, 13, 43, 5⟩,
  ⟨⟨#[115, 119, 114]⟩, 13, 46, 5⟩,
  ⟨⟨#[98, 101, 113]⟩, 14, 4, 2⟩,
  ⟨⟨#[98, 110, 101]⟩, 14, 5, 2⟩,
  ⟨⟨#[98, 108, 101, 122]⟩, 15, 6, 2⟩,
  ⟨⟨#[98, 103, 116, 122]⟩, 15, 7, 2⟩,
  ⟨⟨#[98, 108, 116, 122]⟩, 16, 0, 2⟩,
  ⟨⟨#[98, 103, 101, 122]⟩, 16, 1, 2⟩,
  ⟨⟨#[98, 108, 116, 122, 97, 108]⟩, 16, 16, 2⟩,
  ⟨⟨#[98, 103, 101, 122, 97, 108]⟩, 16, 17, 2⟩,
  ⟨⟨#[106]⟩, 17, 2, 2⟩,
  ⟨⟨#[106, 97, 108]⟩, 17, 3, 2⟩
  ]
def linC : Array Value := (flatL linL).toArray
def lin0 : Array Value := (flatL (List.replicate 69 noLn)).toArray
def lineA (k : Nat) : Array Value := (lineC (linL.getD k noLn)).toArray
theorem sizeLs : (Try.prog.info? 124).map (·.size) = some 276 := by kernel_rfl
theorem sizeLn : (Try.prog.info? 123).map (·.size) = some 4 := by kernel_rfl
theorem linC_size : linC.size = 276 := by kernel_rfl
theorem lin0_size : lin0.size = 276 := by kernel_rfl
theorem linC_one : linC.all (·.oneCell') = true := by kernel_rfl
theorem linL_len : linL.length = 69 := by kernel_rfl
/-- Operations that each build a value, one behind the other, done at once. -/
def doBuilds (P : Program) : List Oper → Act → Option Act
  | [], a => some a
  | ⟨dst, .build t parts, _, _, _, none⟩ :: l, a => match P.built t (parts.map fun (i, x) => (i, a.eval x)).toList with
    | some cs => doBuilds P l (a.put dst (.agg cs))
    | none => none
  | _ :: _, _ => none
theorem wpList_builds {P : Program} {ops : Array Oper} {Q : Exit → Act → World → Prop} {w : World} {rest : List Oper} {a' : Act} : ∀ (l : List Oper) (a : Act), doBuilds P l a = some a' → wpList P ops Q rest a' w → wpList P ops Q (l ++ rest) a w
  | [], a, h, k => by
    cases h
    exact k
  | ⟨dst, op, ty, pos, aft, gd⟩ :: l, a, h, k => by
    cases op with
    | build t parts =>
      cases gd with
      | some g => cases h
      | none =>
        simp only [doBuilds] at h
        cases hb : P.built t (parts.map fun (i, x) => (i, a.eval x)).toList with
        | none => rw [hb] at h; cases h
        | some cs =>
          rw [hb] at h
          have ih := wpList_builds l (a.put dst (.agg cs)) h k
          refine Go.wpList_build rfl t parts rfl (by rw [hb]; rfl) ?_
          rw [hb]
          exact ih
    | _ => cases h
theorem wpList_builds_at {P : Program} {ops : Array Oper} {Q : Exit → Act → World → Prop} {w : World} {l : List Oper} {a : Act} (n : Nat) (a' : Act) (h : doBuilds P (l.take n) a = some a') (k : wpList P ops Q (l.drop n) a' w) : wpList P ops Q l a w := by
  have := wpList_builds (l.take n) a h k
  rwa [List.take_append_drop] at this
theorem wpList_allocL {ops : Array Oper} {rest : List Oper} {o : Oper} {a : Act} {w : World} {Q : Exit → Act → World → Prop} (hgd : o.guard = none) (ho : o.op = .alloc 124)
    (h : ∀ w1, Blk w1 w.heap.size lin0 124 → Below w.heap.size w w1 → wpList Try.prog ops Q rest (a.put o.dst (.pointer (some ⟨w.heap.size, 0, none⟩))) w1) : wpList Try.prog ops Q (o :: rest) a w := by
  refine Great.wpList_runTo hgd o.dst rfl (.pointer (some ⟨w.heap.size, 0, none⟩)) (w.alloc (.cells lin0 124)) ?_ (h _ (Blk.new w _ _) (below_new w _))
  obtain ⟨dst, op, ty, pos, aft, gd⟩ := o
  simp only at ho
  subst ho
  kernel_rfl
theorem below_setRow {B : Nat} {u w : World} (h : Below B u w) {g : Nat} (hg : B ≤ g) (cs : Array Value) : Below B u (w.setRow g cs) := by
  refine ⟨h.os, h.tape, h.output, by simpa [World.setRow] using h.size, fun k hk => ?_⟩
  simp only [World.setRow, Array.getElem?_modify]
  rw [if_neg (by omega)]
  exact h.block k hk
theorem wpList_storeL {ops : Array Oper} {rest : List Oper} {o : Oper} {a : Act} {w : World} {Q : Exit → Act → World → Prop} (hgd : o.guard = none) {x y : Operand} (ho : o.op = .store 124 x y)
    (g : Nat) (hx : a.eval x = .pointer (some ⟨g, 0, none⟩)) (hy : a.eval y = .agg linC) (hg : Blk w g lin0 124)
    (h : ∀ w1, Blk w1 g linC 124 → (∀ B u, Below B u w → B ≤ g → Below B u w1) → wpList Try.prog ops Q rest (a.put o.dst undef) w1) : wpList Try.prog ops Q (o :: rest) a w :=
  wpList_store_row hgd 124 x y ho g linC hx hy 124 lin0 hg (by rw [linC_size]; exact sizeLs) (by rw [lin0_size, linC_size]) linC_one (h _ (setRow_heap w g lin0 linC 124 (0, 0) hg) (fun B u hb hB => below_setRow hb hB linC))
set_option maxRecDepth 100000 in
set_option maxHeartbeats 4000000 in
theorem lines_any (w : World) : Calls Try.prog 70 #[] w fun e w' => e = .returned (.agg linC) ∧ Below w.heap.size w w' := by
  obtain ⟨n, hn⟩ : ∃ n, w.heap.size = n := ⟨_, rfl⟩
  go_enter Try.func70, Try.ntmps70
  go_upto_region 0 with fail
  repeat (first | (refine wpList_allocL rfl rfl ?_) | go_step)
  rw [hn]
  rintro w1 hk1 hb1
  have HK1 := hidden hk1
  have HB1 := hidden hb1
  clear hk1 hb1
  go_upto_region 1 with fail
  simp only [List.append_eq, List.cons_append, List.nil_append]
  go_step
  refine wpList_builds_at 70 ⟨#[.pointer (some ⟨n, 0, none⟩), .agg (lineA 0), .agg (lineA 1), .agg (lineA 2), .agg (lineA 3), .agg (lineA 4), .agg (lineA 5), .agg (lineA 6), .agg (lineA 7), .agg (lineA 8), .agg (lineA 9), .agg (lineA 10), .agg (lineA 11), .agg (lineA 12), .agg (lineA 13), .agg (lineA 14), .agg (lineA 15), .agg (lineA 16), .agg (lineA 17), .agg (lineA 18), .agg (lineA 19), .agg (lineA 20), .agg (lineA 21), .agg (lineA 22), .agg (lineA 23), .agg (lineA 24), .agg (lineA 25), .agg (lineA 26), .agg (lineA 27), .agg (lineA 28), .agg (lineA 29), .agg (lineA 30), .agg (lineA 31), .agg (lineA 32), .agg (lineA 33), .agg (lineA 34), .agg (lineA 35), .agg (lineA 36), .agg (lineA 37), .agg (lineA 38), .agg (lineA 39), .agg (lineA 40), .agg (lineA 41), .agg (lineA 42), .agg (lineA 43), .agg (lineA 44), .agg (lineA 45), .agg (lineA 46), .agg (lineA 47), .agg (lineA 48), .agg (lineA 49), .agg (lineA 50), .agg (lineA 51), .agg (lineA 52), .agg (lineA 53), .agg (lineA 54), .agg (lineA 55), .agg (lineA 56), .agg (lineA 57), .agg (lineA 58), .agg (lineA 59), .agg (lineA 60), .agg (lineA 61), .agg (lineA 62), .agg (lineA 63), .agg (lineA 64), .agg (lineA 65), .agg (lineA 66), .agg (lineA 67), .agg (lineA 68), .agg linC], []⟩ (by kernel_rfl) ?_
  simp only [List.drop_succ_cons, List.drop_zero]
  refine wpList_storeL (x := .tmp 0) (y := .tmp 70) rfl rfl n (by kernel_rfl) (by kernel_rfl) HK1.out ?_
  rintro w2 hk2 hb2
  have HK2 := hidden hk2
  have HB2 := hidden (hb2 n w HB1.out (Nat.le_refl _))
  clear hk2 hb2
  go_wp2
  refine bodyPost_ret (results_cell_row rfl _ _ n 124 linC (0, 0) _ rfl HK2.out Try.underlying124 rfl (by rw [linC_size]; exact sizeLs)) rfl ⟨rfl, ?_⟩
  rw [hn]
  exact HB2.out
end Go.Proofs.Ytkpcajmphhdmiaa
namespace Go.Proofs.Ytkpcajmphhdmiaa
open Go.ChangeShapes Go.WideShapes Go.ChangeAt Go.RowKit
set_option linter.unusedVariables false
/-- A shape: opcode, where the row's number stands, the registers' bits, where Imm stands, its bits, its sign, its shift, whether t and d must be the same. -/
structure Sh where
  opc : Int
  rowAt : Int
  regs : Int
  nat : Int
  nbits : Int
  nsg : Bool
  nsh : Int
  same : Bool
def shL : List Sh := [⟨0, 0, 67106816, 0, 0, false, 0, false⟩, ⟨0, 0, 2097088, 0, 0, false, 0, false⟩, ⟨0, 0, 67043328, 0, 0, false, 0, false⟩, ⟨0, 0, 63488, 0, 0, false, 0, false⟩, ⟨0, 0, 65011712, 0, 0, false, 0, false⟩, ⟨0, 0, 65075200, 0, 0, false, 0, false⟩, ⟨0, 0, 67043328, 6, 10, false, 0, false⟩, ⟨0, 0, 0, 6, 20, false, 0, false⟩, ⟨28, 0, 67106816, 0, 0, false, 0, false⟩, ⟨28, 0, 67106816, 0, 0, false, 0, true⟩, ⟨0, 26, 67043328, 0, 16, true, 0, false⟩, ⟨0, 26, 67043328, 0, 16, false, 0, false⟩, ⟨0, 26, 2031616, 0, 16, false, 0, false⟩, ⟨0, 26, 67043328, 0, 16, true, 0, false⟩, ⟨0, 26, 67043328, 0, 16, true, 2, false⟩, ⟨0, 26, 65011712, 0, 16, true, 2, false⟩, ⟨1, 16, 65011712, 0, 16, true, 2, false⟩, ⟨0, 26, 0, 0, 26, false, 2, false⟩]
def shN : Sh := ⟨0, 26, 67043328, 0, 16, true, 0, false⟩
def shOf (f : Int) : Sh := shL.getD f.toNat shN
def shC (s : Sh) : Array Value := #[.int .u32 s.opc, .int .i64 s.rowAt, .int .u32 s.regs, .int .i64 s.nat, .int .i64 s.nbits, .bool s.nsg, .int .i64 s.nsh, .bool s.same]
def numC (s : Sh) : Array Value := #[.int .i64 s.nat, .int .i64 s.nbits, .bool s.nsg, .int .i64 s.nsh]
abbrev numV (a b : Int) (s : Bool) (h : Int) : Array Value := #[.int .i64 a, .int .i64 b, .bool s, .int .i64 h]
theorem sizeSh : (Try.prog.info? 106).map (·.size) = some 8 := by kernel_rfl
theorem shape_end (w : World) (s : Sh) : Blk ((((w.alloc (.cells (shC s) 106)).alloc (.cells (numV 0 16 true 0) 104)).alloc (.cells (numV 0 16 false 0) 104)).alloc (.cells (numV 0 16 true 2) 104)) w.heap.size (shC s) 106 ∧ Below w.heap.size w ((((w.alloc (.cells (shC s) 106)).alloc (.cells (numV 0 16 true 0) 104)).alloc (.cells (numV 0 16 false 0) 104)).alloc (.cells (numV 0 16 true 2) 104)) := by
  have h0 := Blk.new w (shC s) 106
  have b0 := below_new w (.cells (shC s) 106)
  have b1 := below_new (w.alloc (.cells (shC s) 106)) (.cells (numV 0 16 true 0) 104)
  have b2 := below_new ((w.alloc (.cells (shC s) 106)).alloc (.cells (numV 0 16 true 0) 104)) (.cells (numV 0 16 false 0) 104)
  have b3 := below_new (((w.alloc (.cells (shC s) 106)).alloc (.cells (numV 0 16 true 0) 104)).alloc (.cells (numV 0 16 false 0) 104)) (.cells (numV 0 16 true 2) 104)
  have h1 := h0.later b1
  have h2 := h1.later b2
  have h3 := h2.later b3
  refine ⟨h3, ?_⟩
  exact b0.trans ((b1.mono b0.size).trans ((b2.mono (Nat.le_trans b0.size b1.size)).trans (b3.mono (Nat.le_trans b0.size (Nat.le_trans b1.size b2.size)))))
set_option maxRecDepth 20000 in
theorem shape_0 (w : World) : Calls Try.prog 76 #[.int .i64 0] w fun e w' => e = .returned (.agg (shC (shOf 0))) ∧ Below w.heap.size w w' := by
  go_enter Try.func76, Try.ntmps76
  go_wp2
  exact bodyPost_ret (results_cell_row rfl _ _ w.heap.size 106 (shC (shOf 0)) (0, 0) _ rfl (shape_end w (shOf 0)).1 Try.underlying106 rfl sizeSh) rfl ⟨rfl, (shape_end w (shOf 0)).2⟩
set_option maxRecDepth 20000 in
theorem shape_1 (w : World) : Calls Try.prog 76 #[.int .i64 1] w fun e w' => e = .returned (.agg (shC (shOf 1))) ∧ Below w.heap.size w w' := by
  go_enter Try.func76, Try.ntmps76
  go_wp2
  exact bodyPost_ret (results_cell_row rfl _ _ w.heap.size 106 (shC (shOf 1)) (0, 0) _ rfl (shape_end w (shOf 1)).1 Try.underlying106 rfl sizeSh) rfl ⟨rfl, (shape_end w (shOf 1)).2⟩
set_option maxRecDepth 20000 in
theorem shape_2 (w : World) : Calls Try.prog 76 #[.int .i64 2] w fun e w' => e = .returned (.agg (shC (shOf 2))) ∧ Below w.heap.size w w' := by
  go_enter Try.func76, Try.ntmps76
  go_wp2
  exact bodyPost_ret (results_cell_row rfl _ _ w.heap.size 106 (shC (shOf 2)) (0, 0) _ rfl (shape_end w (shOf 2)).1 Try.underlying106 rfl sizeSh) rfl ⟨rfl, (shape_end w (shOf 2)).2⟩
set_option maxRecDepth 20000 in
theorem shape_3 (w : World) : Calls Try.prog 76 #[.int .i64 3] w fun e w' => e = .returned (.agg (shC (shOf 3))) ∧ Below w.heap.size w w' := by
  go_enter Try.func76, Try.ntmps76
  go_wp2
  exact bodyPost_ret (results_cell_row rfl _ _ w.heap.size 106 (shC (shOf 3)) (0, 0) _ rfl (shape_end w (shOf 3)).1 Try.underlying106 rfl sizeSh) rfl ⟨rfl, (shape_end w (shOf 3)).2⟩
set_option maxRecDepth 20000 in
theorem shape_4 (w : World) : Calls Try.prog 76 #[.int .i64 4] w fun e w' => e = .returned (.agg (shC (shOf 4))) ∧ Below w.heap.size w w' := by
  go_enter Try.func76, Try.ntmps76
  go_wp2
  exact bodyPost_ret (results_cell_row rfl _ _ w.heap.size 106 (shC (shOf 4)) (0, 0) _ rfl (shape_end w (shOf 4)).1 Try.underlying106 rfl sizeSh) rfl ⟨rfl, (shape_end w (shOf 4)).2⟩
set_option maxRecDepth 20000 in
theorem shape_5 (w : World) : Calls Try.prog 76 #[.int .i64 5] w fun e w' => e = .returned (.agg (shC (shOf 5))) ∧ Below w.heap.size w w' := by
  go_enter Try.func76, Try.ntmps76
  go_wp2
  exact bodyPost_ret (results_cell_row rfl _ _ w.heap.size 106 (shC (shOf 5)) (0, 0) _ rfl (shape_end w (shOf 5)).1 Try.underlying106 rfl sizeSh) rfl ⟨rfl, (shape_end w (shOf 5)).2⟩
set_option maxRecDepth 20000 in
theorem shape_6 (w : World) : Calls Try.prog 76 #[.int .i64 6] w fun e w' => e = .returned (.agg (shC (shOf 6))) ∧ Below w.heap.size w w' := by
  go_enter Try.func76, Try.ntmps76
  go_wp2
  exact bodyPost_ret (results_cell_row rfl _ _ w.heap.size 106 (shC (shOf 6)) (0, 0) _ rfl (shape_end w (shOf 6)).1 Try.underlying106 rfl sizeSh) rfl ⟨rfl, (shape_end w (shOf 6)).2⟩
set_option maxRecDepth 20000 in
theorem shape_7 (w : World) : Calls Try.prog 76 #[.int .i64 7] w fun e w' => e = .returned (.agg (shC (shOf 7))) ∧ Below w.heap.size w w' := by
  go_enter Try.func76, Try.ntmps76
  go_wp2
  exact bodyPost_ret (results_cell_row rfl _ _ w.heap.size 106 (shC (shOf 7)) (0, 0) _ rfl (shape_end w (shOf 7)).1 Try.underlying106 rfl sizeSh) rfl ⟨rfl, (shape_end w (shOf 7)).2⟩
set_option maxRecDepth 20000 in
theorem shape_8 (w : World) : Calls Try.prog 76 #[.int .i64 8] w fun e w' => e = .returned (.agg (shC (shOf 8))) ∧ Below w.heap.size w w' := by
  go_enter Try.func76, Try.ntmps76
  go_wp2
  exact bodyPost_ret (results_cell_row rfl _ _ w.heap.size 106 (shC (shOf 8)) (0, 0) _ rfl (shape_end w (shOf 8)).1 Try.underlying106 rfl sizeSh) rfl ⟨rfl, (shape_end w (shOf 8)).2⟩
set_option maxRecDepth 20000 in
theorem shape_9 (w : World) : Calls Try.prog 76 #[.int .i64 9] w fun e w' => e = .returned (.agg (shC (shOf 9))) ∧ Below w.heap.size w w' := by
  go_enter Try.func76, Try.ntmps76
  go_wp2
  exact bodyPost_ret (results_cell_row rfl _ _ w.heap.size 106 (shC (shOf 9)) (0, 0) _ rfl (shape_end w (shOf 9)).1 Try.underlying106 rfl sizeSh) rfl ⟨rfl, (shape_end w (shOf 9)).2⟩
set_option maxRecDepth 20000 in
theorem shape_10 (w : World) : Calls Try.prog 76 #[.int .i64 10] w fun e w' => e = .returned (.agg (shC (shOf 10))) ∧ Below w.heap.size w w' := by
  go_enter Try.func76, Try.ntmps76
  go_wp2
  exact bodyPost_ret (results_cell_row rfl _ _ w.heap.size 106 (shC (shOf 10)) (0, 0) _ rfl (shape_end w (shOf 10)).1 Try.underlying106 rfl sizeSh) rfl ⟨rfl, (shape_end w (shOf 10)).2⟩
set_option maxRecDepth 20000 in
theorem shape_11 (w : World) : Calls Try.prog 76 #[.int .i64 11] w fun e w' => e = .returned (.agg (shC (shOf 11))) ∧ Below w.heap.size w w' := by
  go_enter Try.func76, Try.ntmps76
  go_wp2
  exact bodyPost_ret (results_cell_row rfl _ _ w.heap.size 106 (shC (shOf 11)) (0, 0) _ rfl (shape_end w (shOf 11)).1 Try.underlying106 rfl sizeSh) rfl ⟨rfl, (shape_end w (shOf 11)).2⟩
set_option maxRecDepth 20000 in
theorem shape_12 (w : World) : Calls Try.prog 76 #[.int .i64 12] w fun e w' => e = .returned (.agg (shC (shOf 12))) ∧ Below w.heap.size w w' := by
  go_enter Try.func76, Try.ntmps76
  go_wp2
  exact bodyPost_ret (results_cell_row rfl _ _ w.heap.size 106 (shC (shOf 12)) (0, 0) _ rfl (shape_end w (shOf 12)).1 Try.underlying106 rfl sizeSh) rfl ⟨rfl, (shape_end w (shOf 12)).2⟩
set_option maxRecDepth 20000 in
theorem shape_13 (w : World) : Calls Try.prog 76 #[.int .i64 13] w fun e w' => e = .returned (.agg (shC (shOf 13))) ∧ Below w.heap.size w w' := by
  go_enter Try.func76, Try.ntmps76
  go_wp2
  exact bodyPost_ret (results_cell_row rfl _ _ w.heap.size 106 (shC (shOf 13)) (0, 0) _ rfl (shape_end w (shOf 13)).1 Try.underlying106 rfl sizeSh) rfl ⟨rfl, (shape_end w (shOf 13)).2⟩
set_option maxRecDepth 20000 in
theorem shape_14 (w : World) : Calls Try.prog 76 #[.int .i64 14] w fun e w' => e = .returned (.agg (shC (shOf 14))) ∧ Below w.heap.size w w' := by
  go_enter Try.func76, Try.ntmps76
  go_wp2
  exact bodyPost_ret (results_cell_row rfl _ _ w.heap.size 106 (shC (shOf 14)) (0, 0) _ rfl (shape_end w (shOf 14)).1 Try.underlying106 rfl sizeSh) rfl ⟨rfl, (shape_end w (shOf 14)).2⟩
set_option maxRecDepth 20000 in
theorem shape_15 (w : World) : Calls Try.prog 76 #[.int .i64 15] w fun e w' => e = .returned (.agg (shC (shOf 15))) ∧ Below w.heap.size w w' := by
  go_enter Try.func76, Try.ntmps76
  go_wp2
  exact bodyPost_ret (results_cell_row rfl _ _ w.heap.size 106 (shC (shOf 15)) (0, 0) _ rfl (shape_end w (shOf 15)).1 Try.underlying106 rfl sizeSh) rfl ⟨rfl, (shape_end w (shOf 15)).2⟩
set_option maxRecDepth 20000 in
theorem shape_16 (w : World) : Calls Try.prog 76 #[.int .i64 16] w fun e w' => e = .returned (.agg (shC (shOf 16))) ∧ Below w.heap.size w w' := by
  go_enter Try.func76, Try.ntmps76
  go_wp2
  exact bodyPost_ret (results_cell_row rfl _ _ w.heap.size 106 (shC (shOf 16)) (0, 0) _ rfl (shape_end w (shOf 16)).1 Try.underlying106 rfl sizeSh) rfl ⟨rfl, (shape_end w (shOf 16)).2⟩
set_option maxRecDepth 20000 in
theorem shape_17 (w : World) : Calls Try.prog 76 #[.int .i64 17] w fun e w' => e = .returned (.agg (shC (shOf 17))) ∧ Below w.heap.size w w' := by
  go_enter Try.func76, Try.ntmps76
  go_wp2
  exact bodyPost_ret (results_cell_row rfl _ _ w.heap.size 106 (shC (shOf 17)) (0, 0) _ rfl (shape_end w (shOf 17)).1 Try.underlying106 rfl sizeSh) rfl ⟨rfl, (shape_end w (shOf 17)).2⟩
end Go.Proofs.Ytkpcajmphhdmiaa
