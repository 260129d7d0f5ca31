/- The code's own table of instructions, made at once and never written out in a walk. -/
import Derived.Test.YtobnocioefchlaaPMAA
import Derived.Test.YtobnocioefchlaaPMAL
import Derived.Great.Walk
import Derived.Laws.Tables
import Derived.Laws.Rows
import Derived.Deep.MidRow
import Derived.Deep.CutBlock
import Derived.Test.YtobnocioefchlaaPMAI
import Derived.Test.YtobnocioefchlaaPMAC
namespace Go.Proofs.Ytobnocioefchlaa
open Go.ChangeShapes Go.WideShapes Go.ChangeAt Go.RowKit
set_option linter.unusedVariables false
/-- A line of the code's table: name, form, number, kind. -/
structure Ln where
  name : ByteArray
  form : Int
  num : Int
  kind : Int
def lineC (r : Ln) : List Value := [.string r.name, .int .i64 r.form, .int .u32 r.num, .int .i64 r.kind]
def flatL : List Ln → List Value
  | [] => []
  | r :: l => lineC r ++ flatL l
def noLn : Ln := ⟨⟨#[]⟩, 0, 0, 0⟩
def linL : List Ln := [
  ⟨⟨#[97, 100, 100, 117]⟩, 0, 33, 1⟩,
  ⟨⟨#[115, 117, 98, 117]⟩, 0, 35, 1⟩,
  ⟨⟨#[97, 110, 100]⟩, 0, 36, 1⟩,
  ⟨⟨#[111, 114]⟩, 0, 37, 1⟩,
  ⟨⟨#[120, 111, 114]⟩, 0, 38, 1⟩,
  ⟨⟨#[110, 111, 114]⟩, 0, 39, 1⟩,
  ⟨⟨#[115, 108, 116]⟩, 0, 42, 1⟩,
  ⟨⟨#[115, 108, 116, 117]⟩, 0, 43, 1⟩,
  ⟨⟨#[97, 100, 100]⟩, 0, 32, 6⟩,
  ⟨⟨#[115, 117, 98]⟩, 0, 34, 6⟩,
  ⟨⟨#[115, 108, 108, 118]⟩, 0, 4, 1⟩,
  ⟨⟨#[115, 114, 108, 118]⟩, 0, 6, 1⟩,
  ⟨⟨#[115, 114, 97, 118]⟩, 0, 7, 1⟩,
  ⟨⟨#[109, 111, 118, 122]⟩, 0, 10, 1⟩,
  ⟨⟨#[109, 111, 118, 110]⟩, 0, 11, 1⟩,
  ⟨⟨#[115, 108, 108]⟩, 1, 0, 1⟩,
  ⟨⟨#[115, 114, 108]⟩, 1, 2, 1⟩,
  ⟨⟨#[115, 114, 97]⟩, 1, 3, 1⟩,
  ⟨⟨#[109, 117, 108, 116]⟩, 2, 24, 1⟩,
  ⟨⟨#[109, 117, 108, 116, 117]⟩, 2, 25, 1⟩,
  ⟨⟨#[100, 105, 118]⟩, 2, 26, 1⟩,
  ⟨⟨#[100, 105, 118, 117]⟩, 2, 27, 1⟩,
  ⟨⟨#[109, 102, 104, 105]⟩, 3, 16, 1⟩,
  ⟨⟨#[109, 102, 108, 111]⟩, 3, 18, 1⟩,
  ⟨⟨#[109, 116, 104, 105]⟩, 4, 17, 1⟩,
  ⟨⟨#[109, 116, 108, 111]⟩, 4, 19, 1⟩,
  ⟨⟨#[106, 114]⟩, 4, 8, 2⟩,
  ⟨⟨#[106, 97, 108, 114]⟩, 5, 9, 2⟩,
  ⟨⟨#[116, 103, 101]⟩, 6, 48, 6⟩,
  ⟨⟨#[116, 103, 101, 117]⟩, 6, 49, 6⟩,
  ⟨⟨#[116, 108, 116]⟩, 6, 50, 6⟩,
  ⟨⟨#[116, 108, 116, 117]⟩, 6, 51, 6⟩,
  ⟨⟨#[116, 101, 113]⟩, 6, 52, 6⟩,
  ⟨⟨#[116, 110, 101]⟩, 6, 54, 6⟩,
  ⟨⟨#[115, 121, 115, 99, 97, 108, 108]⟩, 7, 12, 3⟩,
  ⟨⟨#[98, 114, 101, 97, 107]⟩, 7, 13, 3⟩,
  ⟨⟨#[109, 117, 108]⟩, 8, 2, 1⟩,
  ⟨⟨#[99, 108, 122]⟩, 9, 32, 1⟩,
  ⟨⟨#[99, 108, 111]⟩, 9, 33, 1⟩,
  ⟨⟨#[97, 100, 100, 105, 117]⟩, 10, 9, 1⟩,
  ⟨⟨#[97, 100, 100, 105]⟩, 10, 8, 6⟩,
  ⟨⟨#[115, 108, 116, 105]⟩, 10, 10, 1⟩,
  ⟨⟨#[115, 108, 116, 105, 117]⟩, 10, 11, 1⟩,
  ⟨⟨#[97, 110, 100, 105]⟩, 11, 12, 1⟩,
  ⟨⟨#[111, 114, 105]⟩, 11, 13, 1⟩,
  ⟨⟨#[120, 111, 114, 105]⟩, 11, 14, 1⟩,
  ⟨⟨#[108, 117, 105]⟩, 12, 15, 1⟩,
  ⟨⟨#[108, 98]⟩, 13, 32, 4⟩,
  ⟨⟨#[108, 104]⟩, 13, 33, 4⟩,
  ⟨⟨#[108, 119, 108]⟩, 13, 34, 4⟩,
  ⟨⟨#[108, 119]⟩, 13, 35, 4⟩,
  ⟨⟨#[108, 98, 117]⟩, 13, 36, 4⟩,
  ⟨⟨#[108, 104, 117]⟩, 13, 37, 4⟩,
  ⟨⟨#[108, 119, 114]⟩, 13, 38, 4⟩,
  ⟨⟨#[115, 98]⟩, 13, 40, 5⟩,
  ⟨⟨#[115, 104]⟩, 13, 41, 5⟩,
  ⟨⟨#[115, 119, 108]⟩, 13, 42, 5⟩,
  ⟨⟨#[115, 119]⟩, 13, 43, 5⟩,
  ⟨⟨#[115, 119, 114]⟩, 13, 46, 5⟩,
  ⟨⟨#[98, 101, 113]⟩, 14, 4, 2⟩,
  ⟨⟨#[98, 110, 101]⟩, 14, 5, 2⟩,
  ⟨⟨#[98, 108, 101, 122]⟩, 15, 6, 2⟩,
  ⟨⟨#[98, 103, 116, 122]⟩, 15, 7, 2⟩,
  ⟨⟨#[98, 108, 116, 122]⟩, 16, 0, 2⟩,
  ⟨⟨#[98, 103, 101, 122]⟩, 16, 1, 2⟩,
  ⟨⟨#[98, 108, 116, 122, 97, 108]⟩, 16, 16, 2⟩,
  ⟨⟨#[98, 103, 101, 122, 97, 108]⟩, 16, 17, 2⟩,
  ⟨⟨#[106]⟩, 17, 2, 2⟩,
  ⟨⟨#[106, 97, 108]⟩, 17, 3, 2⟩
  ]
def linC : Array Value := (flatL linL).toArray
def lin0 : Array Value := (flatL (List.replicate 69 noLn)).toArray
def lineA (k : Nat) : Array Value := (lineC (linL.getD k noLn)).toArray
theorem sizeLs : (Try.prog.info? 131).map (·.size) = some 276 := by kernel_rfl
theorem sizeLn : (Try.prog.info? 130).map (·.size) = some 4 := by kernel_rfl
theorem linC_size : linC.size = 276 := by kernel_rfl
theorem lin0_size : lin0.size = 276 := by kernel_rfl
theorem linC_one : linC.all (·.oneCell') = true := by kernel_rfl
theorem linL_len : linL.length = 69 := by kernel_rfl
/-- Operations that each build a value, one behind the other, done at once. -/
def doBuilds (P : Program) : List Oper → Act → Option Act
  | [], a => some a
  | ⟨dst, .build t parts, _, _, _, none⟩ :: l, a => match P.built t (parts.map fun (i, x) => (i, a.eval x)).toList with
    | some cs => doBuilds P l (a.put dst (.agg cs))
    | none => none
  | _ :: _, _ => none
theorem wpList_builds {P : Program} {ops : Array Oper} {Q : Exit → Act → World → Prop} {w : World} {rest : List Oper} {a' : Act} : ∀ (l : List Oper) (a : Act), doBuilds P l a = some a' → wpList P ops Q rest a' w → wpList P ops Q (l ++ rest) a w
  | [], a, h, k => by
    cases h
    exact k
  | ⟨dst, op, ty, pos, aft, gd⟩ :: l, a, h, k => by
    cases op with
    | build t parts =>
      cases gd with
      | some g => cases h
      | none =>
        simp only [doBuilds] at h
        cases hb : P.built t (parts.map fun (i, x) => (i, a.eval x)).toList with
        | none => rw [hb] at h; cases h
        | some cs =>
          rw [hb] at h
          have ih := wpList_builds l (a.put dst (.agg cs)) h k
          refine Go.wpList_build rfl t parts rfl (by rw [hb]; rfl) ?_
          rw [hb]
          exact ih
    | _ => cases h
theorem wpList_builds_at {P : Program} {ops : Array Oper} {Q : Exit → Act → World → Prop} {w : World} {l : List Oper} {a : Act} (n : Nat) (a' : Act) (h : doBuilds P (l.take n) a = some a') (k : wpList P ops Q (l.drop n) a' w) : wpList P ops Q l a w := by
  have := wpList_builds (l.take n) a h k
  rwa [List.take_append_drop] at this
theorem wpList_allocL {ops : Array Oper} {rest : List Oper} {o : Oper} {a : Act} {w : World} {Q : Exit → Act → World → Prop} (hgd : o.guard = none) (ho : o.op = .alloc 131)
    (h : ∀ w1, Blk w1 w.heap.size lin0 131 → Below w.heap.size w w1 → wpList Try.prog ops Q rest (a.put o.dst (.pointer (some ⟨w.heap.size, 0, none⟩))) w1) : wpList Try.prog ops Q (o :: rest) a w := by
  refine Great.wpList_runTo hgd o.dst rfl (.pointer (some ⟨w.heap.size, 0, none⟩)) (w.alloc (.cells lin0 131)) ?_ (h _ (Blk.new w _ _) (below_new w _))
  obtain ⟨dst, op, ty, pos, aft, gd⟩ := o
  simp only at ho
  subst ho
  kernel_rfl
theorem below_setRow {B : Nat} {u w : World} (h : Below B u w) {g : Nat} (hg : B ≤ g) (cs : Array Value) : Below B u (w.setRow g cs) := by
  refine ⟨h.os, h.tape, h.output, by simpa [World.setRow] using h.size, fun k hk => ?_⟩
  simp only [World.setRow, Array.getElem?_modify]
  rw [if_neg (by omega)]
  exact h.block k hk
theorem wpList_storeL {ops : Array Oper} {rest : List Oper} {o : Oper} {a : Act} {w : World} {Q : Exit → Act → World → Prop} (hgd : o.guard = none) {x y : Operand} (ho : o.op = .store 131 x y)
    (g : Nat) (hx : a.eval x = .pointer (some ⟨g, 0, none⟩)) (hy : a.eval y = .agg linC) (hg : Blk w g lin0 131)
    (h : ∀ w1, Blk w1 g linC 131 → (∀ B u, Below B u w → B ≤ g → Below B u w1) → wpList Try.prog ops Q rest (a.put o.dst undef) w1) : wpList Try.prog ops Q (o :: rest) a w :=
  wpList_store_row hgd 131 x y ho g linC hx hy 131 lin0 hg (by rw [linC_size]; exact sizeLs) (by rw [lin0_size, linC_size]) linC_one (h _ (setRow_heap w g lin0 linC 131 (0, 0) hg) (fun B u hb hB => below_setRow hb hB linC))
set_option maxRecDepth 100000 in
set_option maxHeartbeats 4000000 in
theorem lines_any (w : World) : Calls Try.prog 66 #[] w fun e w' => e = .returned (.agg linC) ∧ Below w.heap.size w w' := by
  obtain ⟨n, hn⟩ : ∃ n, w.heap.size = n := ⟨_, rfl⟩
  go_enter Try.func66, Try.ntmps66
  go_upto_region 0 with fail
  repeat (first | (refine wpList_allocL rfl rfl ?_) | go_step)
  rw [hn]
  rintro w1 hk1 hb1
  have HK1 := hidden hk1
  have HB1 := hidden hb1
  clear hk1 hb1
  go_upto_region 1 with fail
  simp only [List.append_eq, List.cons_append, List.nil_append]
  go_step
  refine wpList_builds_at 70 ⟨#[.pointer (some ⟨n, 0, none⟩), .agg (lineA 0), .agg (lineA 1), .agg (lineA 2), .agg (lineA 3), .agg (lineA 4), .agg (lineA 5), .agg (lineA 6), .agg (lineA 7), .agg (lineA 8), .agg (lineA 9), .agg (lineA 10), .agg (lineA 11), .agg (lineA 12), .agg (lineA 13), .agg (lineA 14), .agg (lineA 15), .agg (lineA 16), .agg (lineA 17), .agg (lineA 18), .agg (lineA 19), .agg (lineA 20), .agg (lineA 21), .agg (lineA 22), .agg (lineA 23), .agg (lineA 24), .agg (lineA 25), .agg (lineA 26), .agg (lineA 27), .agg (lineA 28), .agg (lineA 29), .agg (lineA 30), .agg (lineA 31), .agg (lineA 32), .agg (lineA 33), .agg (lineA 34), .agg (lineA 35), .agg (lineA 36), .agg (lineA 37), .agg (lineA 38), .agg (lineA 39), .agg (lineA 40), .agg (lineA 41), .agg (lineA 42), .agg (lineA 43), .agg (lineA 44), .agg (lineA 45), .agg (lineA 46), .agg (lineA 47), .agg (lineA 48), .agg (lineA 49), .agg (lineA 50), .agg (lineA 51), .agg (lineA 52), .agg (lineA 53), .agg (lineA 54), .agg (lineA 55), .agg (lineA 56), .agg (lineA 57), .agg (lineA 58), .agg (lineA 59), .agg (lineA 60), .agg (lineA 61), .agg (lineA 62), .agg (lineA 63), .agg (lineA 64), .agg (lineA 65), .agg (lineA 66), .agg (lineA 67), .agg (lineA 68), .agg linC], []⟩ (by kernel_rfl) ?_
  simp only [List.drop_succ_cons, List.drop_zero]
  refine wpList_storeL (x := .tmp 0) (y := .tmp 70) rfl rfl n (by kernel_rfl) (by kernel_rfl) HK1.out ?_
  rintro w2 hk2 hb2
  have HK2 := hidden hk2
  have HB2 := hidden (hb2 n w HB1.out (Nat.le_refl _))
  clear hk2 hb2
  go_wp2
  refine bodyPost_ret (results_cell_row rfl _ _ n 131 linC (0, 0) _ rfl HK2.out Try.underlying131 rfl (by rw [linC_size]; exact sizeLs)) rfl ⟨rfl, ?_⟩
  rw [hn]
  exact HB2.out
end Go.Proofs.Ytobnocioefchlaa
namespace Go.Proofs.Ytobnocioefchlaa
open Go.ChangeShapes Go.WideShapes Go.ChangeAt Go.RowKit
set_option linter.unusedVariables false
/-- A shape: opcode, where the row's number stands, the registers' bits, where Imm stands, its bits, its sign, its shift, whether t and d must be the same. -/
structure Sh where
  opc : Int
  rowAt : Int
  regs : Int
  nat : Int
  nbits : Int
  nsg : Bool
  nsh : Int
  same : Bool
def shL : List Sh := [⟨0, 0, 67106816, 0, 0, false, 0, false⟩, ⟨0, 0, 2097088, 0, 0, false, 0, false⟩, ⟨0, 0, 67043328, 0, 0, false, 0, false⟩, ⟨0, 0, 63488, 0, 0, false, 0, false⟩, ⟨0, 0, 65011712, 0, 0, false, 0, false⟩, ⟨0, 0, 65075200, 0, 0, false, 0, false⟩, ⟨0, 0, 67043328, 6, 10, false, 0, false⟩, ⟨0, 0, 0, 6, 20, false, 0, false⟩, ⟨28, 0, 67106816, 0, 0, false, 0, false⟩, ⟨28, 0, 67106816, 0, 0, false, 0, true⟩, ⟨0, 26, 67043328, 0, 16, true, 0, false⟩, ⟨0, 26, 67043328, 0, 16, false, 0, false⟩, ⟨0, 26, 2031616, 0, 16, false, 0, false⟩, ⟨0, 26, 67043328, 0, 16, true, 0, false⟩, ⟨0, 26, 67043328, 0, 16, true, 2, false⟩, ⟨0, 26, 65011712, 0, 16, true, 2, false⟩, ⟨1, 16, 65011712, 0, 16, true, 2, false⟩, ⟨0, 26, 0, 0, 26, false, 2, false⟩]
def shN : Sh := ⟨0, 26, 67043328, 0, 16, true, 0, false⟩
def shOf (f : Int) : Sh := shL.getD f.toNat shN
def shC (s : Sh) : Array Value := #[.int .u32 s.opc, .int .i64 s.rowAt, .int .u32 s.regs, .int .i64 s.nat, .int .i64 s.nbits, .bool s.nsg, .int .i64 s.nsh, .bool s.same]
def numC (s : Sh) : Array Value := #[.int .i64 s.nat, .int .i64 s.nbits, .bool s.nsg, .int .i64 s.nsh]
abbrev numV (a b : Int) (s : Bool) (h : Int) : Array Value := #[.int .i64 a, .int .i64 b, .bool s, .int .i64 h]
theorem sizeSh : (Try.prog.info? 97).map (·.size) = some 8 := by kernel_rfl
theorem shape_end (w : World) (s : Sh) : Blk ((((w.alloc (.cells (shC s) 97)).alloc (.cells (numV 0 16 true 0) 95)).alloc (.cells (numV 0 16 false 0) 95)).alloc (.cells (numV 0 16 true 2) 95)) w.heap.size (shC s) 97 ∧ Below w.heap.size w ((((w.alloc (.cells (shC s) 97)).alloc (.cells (numV 0 16 true 0) 95)).alloc (.cells (numV 0 16 false 0) 95)).alloc (.cells (numV 0 16 true 2) 95)) := by
  have h0 := Blk.new w (shC s) 97
  have b0 := below_new w (.cells (shC s) 97)
  have b1 := below_new (w.alloc (.cells (shC s) 97)) (.cells (numV 0 16 true 0) 95)
  have b2 := below_new ((w.alloc (.cells (shC s) 97)).alloc (.cells (numV 0 16 true 0) 95)) (.cells (numV 0 16 false 0) 95)
  have b3 := below_new (((w.alloc (.cells (shC s) 97)).alloc (.cells (numV 0 16 true 0) 95)).alloc (.cells (numV 0 16 false 0) 95)) (.cells (numV 0 16 true 2) 95)
  have h1 := h0.later b1
  have h2 := h1.later b2
  have h3 := h2.later b3
  refine ⟨h3, ?_⟩
  exact b0.trans ((b1.mono b0.size).trans ((b2.mono (Nat.le_trans b0.size b1.size)).trans (b3.mono (Nat.le_trans b0.size (Nat.le_trans b1.size b2.size)))))
set_option maxRecDepth 20000 in
theorem shape_0 (w : World) : Calls Try.prog 90 #[.int .i64 0] w fun e w' => e = .returned (.agg (shC (shOf 0))) ∧ Below w.heap.size w w' := by
  go_enter Try.func90, Try.ntmps90
  go_wp2
  exact bodyPost_ret (results_cell_row rfl _ _ w.heap.size 97 (shC (shOf 0)) (0, 0) _ rfl (shape_end w (shOf 0)).1 Try.underlying97 rfl sizeSh) rfl ⟨rfl, (shape_end w (shOf 0)).2⟩
set_option maxRecDepth 20000 in
theorem shape_1 (w : World) : Calls Try.prog 90 #[.int .i64 1] w fun e w' => e = .returned (.agg (shC (shOf 1))) ∧ Below w.heap.size w w' := by
  go_enter Try.func90, Try.ntmps90
  go_wp2
  exact bodyPost_ret (results_cell_row rfl _ _ w.heap.size 97 (shC (shOf 1)) (0, 0) _ rfl (shape_end w (shOf 1)).1 Try.underlying97 rfl sizeSh) rfl ⟨rfl, (shape_end w (shOf 1)).2⟩
set_option maxRecDepth 20000 in
theorem shape_2 (w : World) : Calls Try.prog 90 #[.int .i64 2] w fun e w' => e = .returned (.agg (shC (shOf 2))) ∧ Below w.heap.size w w' := by
  go_enter Try.func90, Try.ntmps90
  go_wp2
  exact bodyPost_ret (results_cell_row rfl _ _ w.heap.size 97 (shC (shOf 2)) (0, 0) _ rfl (shape_end w (shOf 2)).1 Try.underlying97 rfl sizeSh) rfl ⟨rfl, (shape_end w (shOf 2)).2⟩
set_option maxRecDepth 20000 in
theorem shape_3 (w : World) : Calls Try.prog 90 #[.int .i64 3] w fun e w' => e = .returned (.agg (shC (shOf 3))) ∧ Below w.heap.size w w' := by
  go_enter Try.func90, Try.ntmps90
  go_wp2
  exact bodyPost_ret (results_cell_row rfl _ _ w.heap.size 97 (shC (shOf 3)) (0, 0) _ rfl (shape_end w (shOf 3)).1 Try.underlying97 rfl sizeSh) rfl ⟨rfl, (shape_end w (shOf 3)).2⟩
set_option maxRecDepth 20000 in
theorem shape_4 (w : World) : Calls Try.prog 90 #[.int .i64 4] w fun e w' => e = .returned (.agg (shC (shOf 4))) ∧ Below w.heap.size w w' := by
  go_enter Try.func90, Try.ntmps90
  go_wp2
  exact bodyPost_ret (results_cell_row rfl _ _ w.heap.size 97 (shC (shOf 4)) (0, 0) _ rfl (shape_end w (shOf 4)).1 Try.underlying97 rfl sizeSh) rfl ⟨rfl, (shape_end w (shOf 4)).2⟩
set_option maxRecDepth 20000 in
theorem shape_5 (w : World) : Calls Try.prog 90 #[.int .i64 5] w fun e w' => e = .returned (.agg (shC (shOf 5))) ∧ Below w.heap.size w w' := by
  go_enter Try.func90, Try.ntmps90
  go_wp2
  exact bodyPost_ret (results_cell_row rfl _ _ w.heap.size 97 (shC (shOf 5)) (0, 0) _ rfl (shape_end w (shOf 5)).1 Try.underlying97 rfl sizeSh) rfl ⟨rfl, (shape_end w (shOf 5)).2⟩
set_option maxRecDepth 20000 in
theorem shape_6 (w : World) : Calls Try.prog 90 #[.int .i64 6] w fun e w' => e = .returned (.agg (shC (shOf 6))) ∧ Below w.heap.size w w' := by
  go_enter Try.func90, Try.ntmps90
  go_wp2
  exact bodyPost_ret (results_cell_row rfl _ _ w.heap.size 97 (shC (shOf 6)) (0, 0) _ rfl (shape_end w (shOf 6)).1 Try.underlying97 rfl sizeSh) rfl ⟨rfl, (shape_end w (shOf 6)).2⟩
set_option maxRecDepth 20000 in
theorem shape_7 (w : World) : Calls Try.prog 90 #[.int .i64 7] w fun e w' => e = .returned (.agg (shC (shOf 7))) ∧ Below w.heap.size w w' := by
  go_enter Try.func90, Try.ntmps90
  go_wp2
  exact bodyPost_ret (results_cell_row rfl _ _ w.heap.size 97 (shC (shOf 7)) (0, 0) _ rfl (shape_end w (shOf 7)).1 Try.underlying97 rfl sizeSh) rfl ⟨rfl, (shape_end w (shOf 7)).2⟩
set_option maxRecDepth 20000 in
theorem shape_8 (w : World) : Calls Try.prog 90 #[.int .i64 8] w fun e w' => e = .returned (.agg (shC (shOf 8))) ∧ Below w.heap.size w w' := by
  go_enter Try.func90, Try.ntmps90
  go_wp2
  exact bodyPost_ret (results_cell_row rfl _ _ w.heap.size 97 (shC (shOf 8)) (0, 0) _ rfl (shape_end w (shOf 8)).1 Try.underlying97 rfl sizeSh) rfl ⟨rfl, (shape_end w (shOf 8)).2⟩
set_option maxRecDepth 20000 in
theorem shape_9 (w : World) : Calls Try.prog 90 #[.int .i64 9] w fun e w' => e = .returned (.agg (shC (shOf 9))) ∧ Below w.heap.size w w' := by
  go_enter Try.func90, Try.ntmps90
  go_wp2
  exact bodyPost_ret (results_cell_row rfl _ _ w.heap.size 97 (shC (shOf 9)) (0, 0) _ rfl (shape_end w (shOf 9)).1 Try.underlying97 rfl sizeSh) rfl ⟨rfl, (shape_end w (shOf 9)).2⟩
set_option maxRecDepth 20000 in
theorem shape_10 (w : World) : Calls Try.prog 90 #[.int .i64 10] w fun e w' => e = .returned (.agg (shC (shOf 10))) ∧ Below w.heap.size w w' := by
  go_enter Try.func90, Try.ntmps90
  go_wp2
  exact bodyPost_ret (results_cell_row rfl _ _ w.heap.size 97 (shC (shOf 10)) (0, 0) _ rfl (shape_end w (shOf 10)).1 Try.underlying97 rfl sizeSh) rfl ⟨rfl, (shape_end w (shOf 10)).2⟩
set_option maxRecDepth 20000 in
theorem shape_11 (w : World) : Calls Try.prog 90 #[.int .i64 11] w fun e w' => e = .returned (.agg (shC (shOf 11))) ∧ Below w.heap.size w w' := by
  go_enter Try.func90, Try.ntmps90
  go_wp2
  exact bodyPost_ret (results_cell_row rfl _ _ w.heap.size 97 (shC (shOf 11)) (0, 0) _ rfl (shape_end w (shOf 11)).1 Try.underlying97 rfl sizeSh) rfl ⟨rfl, (shape_end w (shOf 11)).2⟩
set_option maxRecDepth 20000 in
theorem shape_12 (w : World) : Calls Try.prog 90 #[.int .i64 12] w fun e w' => e = .returned (.agg (shC (shOf 12))) ∧ Below w.heap.size w w' := by
  go_enter Try.func90, Try.ntmps90
  go_wp2
  exact bodyPost_ret (results_cell_row rfl _ _ w.heap.size 97 (shC (shOf 12)) (0, 0) _ rfl (shape_end w (shOf 12)).1 Try.underlying97 rfl sizeSh) rfl ⟨rfl, (shape_end w (shOf 12)).2⟩
set_option maxRecDepth 20000 in
theorem shape_13 (w : World) : Calls Try.prog 90 #[.int .i64 13] w fun e w' => e = .returned (.agg (shC (shOf 13))) ∧ Below w.heap.size w w' := by
  go_enter Try.func90, Try.ntmps90
  go_wp2
  exact bodyPost_ret (results_cell_row rfl _ _ w.heap.size 97 (shC (shOf 13)) (0, 0) _ rfl (shape_end w (shOf 13)).1 Try.underlying97 rfl sizeSh) rfl ⟨rfl, (shape_end w (shOf 13)).2⟩
set_option maxRecDepth 20000 in
theorem shape_14 (w : World) : Calls Try.prog 90 #[.int .i64 14] w fun e w' => e = .returned (.agg (shC (shOf 14))) ∧ Below w.heap.size w w' := by
  go_enter Try.func90, Try.ntmps90
  go_wp2
  exact bodyPost_ret (results_cell_row rfl _ _ w.heap.size 97 (shC (shOf 14)) (0, 0) _ rfl (shape_end w (shOf 14)).1 Try.underlying97 rfl sizeSh) rfl ⟨rfl, (shape_end w (shOf 14)).2⟩
set_option maxRecDepth 20000 in
theorem shape_15 (w : World) : Calls Try.prog 90 #[.int .i64 15] w fun e w' => e = .returned (.agg (shC (shOf 15))) ∧ Below w.heap.size w w' := by
  go_enter Try.func90, Try.ntmps90
  go_wp2
  exact bodyPost_ret (results_cell_row rfl _ _ w.heap.size 97 (shC (shOf 15)) (0, 0) _ rfl (shape_end w (shOf 15)).1 Try.underlying97 rfl sizeSh) rfl ⟨rfl, (shape_end w (shOf 15)).2⟩
set_option maxRecDepth 20000 in
theorem shape_16 (w : World) : Calls Try.prog 90 #[.int .i64 16] w fun e w' => e = .returned (.agg (shC (shOf 16))) ∧ Below w.heap.size w w' := by
  go_enter Try.func90, Try.ntmps90
  go_wp2
  exact bodyPost_ret (results_cell_row rfl _ _ w.heap.size 97 (shC (shOf 16)) (0, 0) _ rfl (shape_end w (shOf 16)).1 Try.underlying97 rfl sizeSh) rfl ⟨rfl, (shape_end w (shOf 16)).2⟩
set_option maxRecDepth 20000 in
theorem shape_17 (w : World) : Calls Try.prog 90 #[.int .i64 17] w fun e w' => e = .returned (.agg (shC (shOf 17))) ∧ Below w.heap.size w w' := by
  go_enter Try.func90, Try.ntmps90
  go_wp2
  exact bodyPost_ret (results_cell_row rfl _ _ w.heap.size 97 (shC (shOf 17)) (0, 0) _ rfl (shape_end w (shOf 17)).1 Try.underlying97 rfl sizeSh) rfl ⟨rfl, (shape_end w (shOf 17)).2⟩
end Go.Proofs.Ytobnocioefchlaa
namespace Go.Proofs.Ytobnocioefchlaa
open Go.ChangeShapes Go.WideShapes Go.ChangeAt Go.RowKit
set_option linter.unusedVariables false
theorem nput_any (a b : Int) (s : Bool) (h v : Int) (ha : 0 ≤ a) (hv1 : 0 ≤ v) (hv2 : v < 4294967296) (w : World) : Calls Try.prog 102 #[.agg (numV a b s h), .int .u32 v] w fun e w' => e = .returned (.int .u32 (field32 v h b * 2 ^ min a.toNat 32 % 4294967296)) ∧ Below w.heap.size w w' := by
  have hB := hidden (below_new w (.cells (numV a b s h) 95))
  have hF := hidden (fun u => field_any v h b hv1 hv2 u)
  go_enter Try.func102, Try.ntmps102
  go_wp2
  go_quiet ((go_at_call 89; exact Calls.quiet_of_same (Hid.out hF _)))
  go_wp2
  go_ret
  exact ⟨rfl, below_drewN hB.out nq⟩
/-- The bits that are not the same in all words of a shape. -/
def putV (s : Sh) (v : Int) : Int := field32 v s.nsh s.nbits * 2 ^ min s.nat.toNat 32 % 4294967296
def freeV (s : Sh) : Int := bits .or .u32 s.regs (putV s 4294967295)
def wordV (s : Sh) (n : Int) : Int := bits .or .u32 (s.opc * 67108864 % 4294967296) (n * 2 ^ min s.rowAt.toNat 32 % 4294967296)
def rowV (l : Ln) (s : Sh) : Array Value := #[.string l.name, .int .i64 l.kind, .int .u32 (bits .xor .u32 IntKind.u32.max (freeV s)), .int .u32 (wordV s l.num), .int .u32 s.opc, .int .i64 s.rowAt, .int .u32 s.regs, .int .i64 s.nat, .int .i64 s.nbits, .bool s.nsg, .int .i64 s.nsh, .bool s.same]
section
variable {ρ : Operand → Value} {o : Oper}
theorem exec_or32 {x y : Operand} {a b : Int} (hop : o.op = .binOp .or 23 x y 23) (hx : ρ x = .int .u32 a) (hy : ρ y = .int .u32 b) (w : World) : (execOp ρ o).run Try.prog w = .ok (.value (.int .u32 (bits .or .u32 a b))) w := by
  unfold execOp
  rw [hop]
  simp [hx, hy, go_sem]
theorem exec_not32 {x : Operand} {a : Int} (hop : o.op = .unOp .xor 23 x) (hx : ρ x = .int .u32 a) (w : World) : (execOp ρ o).run Try.prog w = .ok (.value (.int .u32 (bits .xor .u32 IntKind.u32.max a))) w := by
  unfold execOp
  rw [hop]
  simp [hx, go_sem]
  rfl
theorem exec_shl26 {x : Operand} {a : Int} (hop : o.op = .binOp .shl 23 x (.const (.int .u64 26)) 51) (hx : ρ x = .int .u32 a) (hc : ρ (.const (.int .u64 26)) = .int .u64 26) (w : World) : (execOp ρ o).run Try.prog w = .ok (.value (.int .u32 (a * 67108864 % 4294967296))) w := by
  unfold execOp
  rw [hop]
  simp [hx, hc, go_sem]
  rfl
theorem exec_shlI {x y : Operand} {a n : Int} (hop : o.op = .binOp .shl 23 x y 3) (hx : ρ x = .int .u32 a) (hy : ρ y = .int .i64 n) (hn : 0 ≤ n) (w : World) : (execOp ρ o).run Try.prog w = .ok (.value (.int .u32 (a * 2 ^ min n.toNat 32 % 4294967296))) w := by
  unfold execOp
  rw [hop]
  simp [hx, hy, go_sem, hn]
  rfl
end
theorem loadNm {w : World} {b : Nat} {s : Sh} (h : Blk w b (shC s) 97) : (loadVar 95 ⟨b, 3, none⟩).run Try.prog w = .ok (.agg (numC s)) w := by
  have := run_loadVar_mid (P := Try.prog) w b 3 95 (numC s).toList _ (fun j v hv => h.cell (by
    rcases j with _ | _ | _ | _ | j
    · exact hv
    · exact hv
    · exact hv
    · exact hv
    · cases hv)) Try.underlying95 rfl (by kernel_rfl)
  simpa using this
theorem loadSh {w : World} {b : Nat} {s : Sh} (h : Blk w b (shC s) 97) : (loadVar 97 ⟨b, 0, none⟩).run Try.prog w = .ok (.agg (shC s)) w :=
  run_loadVar_row w b 97 97 (shC s) (0, 0) _ h Try.underlying97 rfl sizeSh
theorem loadU {w : World} {a : Addr} {v : Value} (hc : w.cell? a = some v) : (loadVar 23 a).run Try.prog w = .ok v w := by simp [loadVar, isAgg, Sem.run_bind, run_underlying Try.underlying23, hc, go_sem]
theorem loadS {w : World} {a : Addr} {v : Value} (hc : w.cell? a = some v) : (loadVar 9 a).run Try.prog w = .ok v w := by simp [loadVar, isAgg, Sem.run_bind, run_underlying Try.underlying9, hc, go_sem]
/-- What the slots of the region hold, whatever the order. -/
def phiFr (qb : Nat) (s : Sh) : Nat → Value → World → Prop
  | 0, x, _ => x = .pointer (some ⟨qb, 2, none⟩)
  | 1, x, _ => x = .int .u32 s.regs
  | 2, x, _ => x = .pointer (some ⟨qb, 3, none⟩)
  | 3, x, _ => x = .agg (numC s)
  | 4, x, _ => x = .int .u32 (putV s 4294967295)
  | 5, x, _ => x = .int .u32 (freeV s)
  | 6, x, _ => x = .int .u32 (freeV s)
  | _ + 7, _, _ => True
theorem phiFr_mono (qb : Nat) (s : Sh) : ∀ i x w w', phiFr qb s i x w → Below w.heap.size w w' → phiFr qb s i x w'
  | 0, _, _, _, h, _ => h
  | 1, _, _, _, h, _ => h
  | 2, _, _, _, h, _ => h
  | 3, _, _, _, h, _ => h
  | 4, _, _, _, h, _ => h
  | 5, _, _, _, h, _ => h
  | 6, _, _, _, h, _ => h
  | _ + 7, _, _, _, _, _ => trivial
theorem list7 : ∀ xs : List Value, xs.length = 7 → ∃ x0 x1 x2 x3 x4 x5 x6, xs = [x0, x1, x2, x3, x4, x5, x6]
  | [x0, x1, x2, x3, x4, x5, x6], _ => ⟨_, _, _, _, _, _, _, rfl⟩
set_option maxRecDepth 20000 in
set_option maxHeartbeats 1000000 in
theorem free_any (s : Sh) (hn : 0 ≤ s.nat) (w : World) : Calls Try.prog 91 #[.agg (shC s)] w fun e w' => e = .returned (.int .u32 (freeV s)) ∧ Below w.heap.size w w' := by
  have hQ0 := hidden (Blk.new w (shC s) 97)
  have hB0 := hidden (below_new w (.cells (shC s) 97))
  go_enter Try.func91, Try.ntmps91
  go_upto_region 1 with fail
  obtain ⟨qn, hqn⟩ : ∃ qn, qn = w.heap.size := ⟨_, rfl⟩
  obtain ⟨wr, hwr⟩ : ∃ wr, wr = w.alloc (.cells (shC s) 97) := ⟨_, rfl⟩
  rw [← hqn, ← hwr] at hQ0
  rw [← hwr] at hB0
  try rw [← hwr]
  try rw [← hqn]
  refine wp_region_on later_below [3, 4, 5, 6, 7, 8, 2] 7 (phiFr qn s) (by kernel_rfl) (by kernel_rfl) rfl rfl (phiFr_mono qn s) ?_ ?_
  · intro j hj xs w3 hxs hR hpre
    obtain ⟨x0, x1, x2, x3, x4, x5, x6, rfl⟩ := list7 xs hxs
    have hQ : Blk w3 qn (shC s) 97 := hQ0.out.later hR
    rcases (show j = 0 ∨ j = 1 ∨ j = 2 ∨ j = 3 ∨ j = 4 ∨ j = 5 ∨ j = 6 by omega) with rfl | rfl | rfl | rfl | rfl | rfl | rfl
    · exact wpOp_run (.pointer (some ⟨qn, 2, none⟩)) rfl (by kernel_rfl) (by kernel_rfl) ⟨_, by kernel_rfl, rfl, Below.refl _ _⟩
    · have e0 : x0 = .pointer (some ⟨qn, 2, none⟩) := hpre 0 (by kernel_rfl)
      subst e0
      exact wpOp_run (.int .u32 s.regs) rfl (by kernel_rfl) (exec_load 23 rfl (by kernel_rfl) w3 (loadU (hQ.cell (j := 2) rfl))) ⟨_, by kernel_rfl, rfl, Below.refl _ _⟩
    · exact wpOp_run (.pointer (some ⟨qn, 3, none⟩)) rfl (by kernel_rfl) (by kernel_rfl) ⟨_, by kernel_rfl, rfl, Below.refl _ _⟩
    · have e2 : x2 = .pointer (some ⟨qn, 3, none⟩) := hpre 2 (by kernel_rfl)
      subst e2
      exact wpOp_run (.agg (numC s)) rfl (by kernel_rfl) (exec_load 95 rfl (by kernel_rfl) w3 (loadNm hQ)) ⟨_, by kernel_rfl, rfl, Below.refl _ _⟩
    · have e3 : x3 = .agg (numC s) := hpre 3 (by kernel_rfl)
      subst e3
      refine wpOp_callR (R := fun u w4 => u = .int .u32 (putV s 4294967295) ∧ Below w3.heap.size w3 w4) 102 #[.agg (numC s), .int .u32 4294967295] rfl (by kernel_rfl) (by kernel_rfl) ((nput_any s.nat s.nbits s.nsg s.nsh 4294967295 hn (by omega) (by omega) w3).mono fun e w4 ⟨he, hb⟩ => ⟨_, he, rfl, hb⟩) ?_
      rintro _ w4 ⟨rfl, hb⟩
      exact ⟨_, by kernel_rfl, rfl, hb⟩
    · have e1 : x1 = .int .u32 s.regs := hpre 1 (by kernel_rfl)
      subst e1
      have e4 : x4 = .int .u32 (putV s 4294967295) := hpre 4 (by kernel_rfl)
      subst e4
      exact wpOp_run (.int .u32 (freeV s)) rfl (by kernel_rfl) (exec_or32 rfl (by kernel_rfl) (by kernel_rfl) w3) ⟨_, by kernel_rfl, rfl, Below.refl _ _⟩
    · have e5 : x5 = .int .u32 (freeV s) := hpre 5 (by kernel_rfl)
      subst e5
      exact wpOp_run (.int .u32 (freeV s)) rfl (by kernel_rfl) (by kernel_rfl) ⟨_, by kernel_rfl, rfl, Below.refl _ _⟩
  · intro xs w3 hxs hR hall
    obtain ⟨x0, x1, x2, x3, x4, x5, x6, rfl⟩ := list7 xs hxs
    have e6 : x6 = .int .u32 (freeV s) := hall 6 (by omega)
    subst e6
    have HR := hidden hR
    clear hall hR hxs
    simp only [slotsOn, putAll, List.set_cons_succ, List.set_cons_zero]
    go_wp2
    go_ret
    exact ⟨rfl, hB0.out.trans (HR.out.mono hB0.out.size)⟩
theorem buildRow (l : Ln) (s : Sh) (w : World) : (Instr.build 99 #[(0, .string l.name), (1, .int .i64 l.kind), (2, .int .u32 (bits .xor .u32 IntKind.u32.max (freeV s))), (3, .int .u32 (wordV s l.num)), (4, .agg (shC s))]).run Try.prog w = .ok (.agg (rowV l s)) w := by kernel_rfl
def row0 : Array Value := #[.string ⟨#[]⟩, .int .i64 0, .int .u32 0, .int .u32 0, .int .u32 0, .int .i64 0, .int .u32 0, .int .i64 0, .int .i64 0, .bool false, .int .i64 0, .bool false]
theorem sizeRow : (Try.prog.info? 99).map (·.size) = some 12 := by kernel_rfl
theorem rowV_one (l : Ln) (s : Sh) : (rowV l s).all (·.oneCell') = true := by kernel_rfl
theorem wpList_storeRow {ops : Array Oper} {rest : List Oper} {o : Oper} {a : Act} {w : World} {Q : Exit → Act → World → Prop} (hgd : o.guard = none) (hd : o.dst = none) {x y : Operand} (ho : o.op = .store 99 x y) (l : Ln) (s : Sh)
    (g : Nat) (hx : a.eval x = .pointer (some ⟨g, 0, none⟩)) (hy : a.eval y = .agg (rowV l s)) (hg : Blk w g row0 99)
    (h : ∀ w1, Blk w1 g (rowV l s) 99 → (∀ B u, Below B u w → B ≤ g → Below B u w1) → wpList Try.prog ops Q rest a w1) : wpList Try.prog ops Q (o :: rest) a w := by
  have e : a.put o.dst undef = a := by rw [hd]; rfl
  refine wpList_store_row hgd 99 x y ho g (rowV l s) hx hy 99 row0 hg sizeRow rfl (rowV_one l s) (by rw [e]; exact h _ (setRow_heap w g row0 (rowV l s) 99 (0, 0) hg) (fun B u hb hB => below_setRow hb hB (rowV l s)))
/-- What the slots of the region hold, whatever the order. -/
def phiRw (qb qr qs : Nat) (l : Ln) (s : Sh) : Nat → Value → World → Prop
  | 0, x, _ => x = .pointer (some ⟨qb, 0, none⟩)
  | 1, x, _ => x = .string l.name
  | 2, x, _ => x = .pointer (some ⟨qb, 3, none⟩)
  | 3, x, _ => x = .int .i64 l.kind
  | 4, x, _ => x = .agg (shC s)
  | 5, x, _ => x = .int .u32 (freeV s)
  | 6, x, _ => x = .int .u32 (bits .xor .u32 IntKind.u32.max (freeV s))
  | 7, x, _ => x = .pointer (some ⟨qs, 0, none⟩)
  | 8, x, _ => x = .int .u32 s.opc
  | 9, x, _ => x = .int .u32 (s.opc * 67108864 % 4294967296)
  | 10, x, _ => x = .pointer (some ⟨qb, 2, none⟩)
  | 11, x, _ => x = .int .u32 l.num
  | 12, x, _ => x = .pointer (some ⟨qs, 1, none⟩)
  | 13, x, _ => x = .int .i64 s.rowAt
  | 14, x, _ => x = .int .u32 (l.num * 2 ^ min s.rowAt.toNat 32 % 4294967296)
  | 15, x, _ => x = .int .u32 (wordV s l.num)
  | 16, x, _ => x = .agg (shC s)
  | 17, x, _ => x = .agg (rowV l s)
  | _ + 18, _, _ => True
theorem phiRw_mono (qb qr qs : Nat) (l : Ln) (s : Sh) : ∀ i x w w', phiRw qb qr qs l s i x w → Below w.heap.size w w' → phiRw qb qr qs l s i x w'
  | 0, _, _, _, h, _ => h
  | 1, _, _, _, h, _ => h
  | 2, _, _, _, h, _ => h
  | 3, _, _, _, h, _ => h
  | 4, _, _, _, h, _ => h
  | 5, _, _, _, h, _ => h
  | 6, _, _, _, h, _ => h
  | 7, _, _, _, h, _ => h
  | 8, _, _, _, h, _ => h
  | 9, _, _, _, h, _ => h
  | 10, _, _, _, h, _ => h
  | 11, _, _, _, h, _ => h
  | 12, _, _, _, h, _ => h
  | 13, _, _, _, h, _ => h
  | 14, _, _, _, h, _ => h
  | 15, _, _, _, h, _ => h
  | 16, _, _, _, h, _ => h
  | 17, _, _, _, h, _ => h
  | _ + 18, _, _, _, _, _ => trivial
theorem list18 : ∀ xs : List Value, xs.length = 18 → ∃ x0 x1 x2 x3 x4 x5 x6 x7 x8 x9 x10 x11 x12 x13 x14 x15 x16 x17, xs = [x0, x1, x2, x3, x4, x5, x6, x7, x8, x9, x10, x11, x12, x13, x14, x15, x16, x17]
  | [x0, x1, x2, x3, x4, x5, x6, x7, x8, x9, x10, x11, x12, x13, x14, x15, x16, x17], _ => ⟨_, _, _, _, _, _, _, _, _, _, _, _, _, _, _, _, _, _, rfl⟩
def sh0 : Array Value := #[.int .u32 0, .int .i64 0, .int .u32 0, .int .i64 0, .int .i64 0, .bool false, .int .i64 0, .bool false]
theorem shC_one (s : Sh) : (shC s).all (·.oneCell') = true := by kernel_rfl
theorem wpList_storeSh {ops : Array Oper} {rest : List Oper} {o : Oper} {a : Act} {w : World} {Q : Exit → Act → World → Prop} (hgd : o.guard = none) (hd : o.dst = none) {x y : Operand} (ho : o.op = .store 97 x y) (s : Sh)
    (g : Nat) (hx : a.eval x = .pointer (some ⟨g, 0, none⟩)) (hy : a.eval y = .agg (shC s)) (hg : Blk w g sh0 97)
    (h : ∀ w1, Blk w1 g (shC s) 97 → (∀ B u, Below B u w → B ≤ g → Below B u w1) → (∀ b, b ≠ g → w1.heap[b]? = w.heap[b]?) → wpList Try.prog ops Q rest a w1) : wpList Try.prog ops Q (o :: rest) a w := by
  have e : a.put o.dst undef = a := by rw [hd]; rfl
  refine wpList_store_row hgd 97 x y ho g (shC s) hx hy 97 sh0 hg sizeSh rfl (shC_one s) (by rw [e]; exact h _ (setRow_heap w g sh0 (shC s) 97 (0, 0) hg) (fun B u hb hB => below_setRow hb hB (shC s)) (fun b hb => by
    simp only [World.setRow, Array.getElem?_modify]
    rw [if_neg (fun e => hb e.symm)]))
set_option maxRecDepth 20000 in
set_option maxHeartbeats 2000000 in
theorem lineRow_any (l : Ln) (s : Sh) (hn : 0 ≤ s.nat) (hr : 0 ≤ s.rowAt) (hsh : ∀ u, Calls Try.prog 90 #[.int .i64 l.form] u fun e w' => e = .returned (.agg (shC s)) ∧ Below u.heap.size u w') (w : World) : Calls Try.prog 67 #[.agg (lineC l).toArray] w fun e w' => e = .returned (.agg (rowV l s)) ∧ Below w.heap.size w w' := by
  have HS := hidden hsh
  clear hsh
  obtain ⟨qn, hqn⟩ : ∃ qn, w.heap.size = qn := ⟨_, rfl⟩
  obtain ⟨wa, hwa⟩ : ∃ wa, w.alloc (.cells (lineC l).toArray 130) = wa := ⟨_, rfl⟩
  have hQa : Blk wa qn (lineC l).toArray 130 := by rw [← hwa, ← hqn]; exact Blk.new w _ _
  have hBa : Below w.heap.size w wa := by rw [← hwa]; exact below_new w _
  obtain ⟨rn, hrn⟩ : ∃ rn, wa.heap.size = rn := ⟨_, rfl⟩
  obtain ⟨wb, hwb⟩ : ∃ wb, wa.alloc (.cells #[.string ⟨#[]⟩, .int .i64 0, .int .u32 0, .int .u32 0, .int .u32 0, .int .i64 0, .int .u32 0, .int .i64 0, .int .i64 0, .bool false, .int .i64 0, .bool false] 99) = wb := ⟨_, rfl⟩
  have hRb : Blk wb rn row0 99 := by rw [← hwb, ← hrn]; exact Blk.new wa _ _
  have hBb : Below wa.heap.size wa wb := by rw [← hwb]; exact below_new wa _
  have HQb := hidden (hQa.later hBb)
  have HBw := hidden (hBa.trans (hBb.mono hBa.size))
  have HRB := hidden hRb
  have hle : w.heap.size ≤ rn := by rw [← hrn]; exact hBa.size
  have HLE := hidden hle
  clear hQa hBa hRb hBb hle
  go_enter Try.func67, Try.ntmps67
  go_upto_region 1 with fail
  have c1 : wb.cell? ⟨qn, 1, none⟩ = some (.int .i64 l.form) := HQb.out.cell rfl
  clear hwa hrn hwb
  go_upto_region 2 with (first | (go_at_call 90; refine (HS.out _).mono ?_; rintro e w1 ⟨rfl, hb1⟩; have HB1 := hidden hb1; clear hb1) | (refine wpList_storeSh (s := s) rfl rfl rfl _ rfl rfl (Blk.new _ _ _) ?_; rintro w2 hk2 hb2 hs2; have HK2 := hidden hk2; have HB2 := hidden hb2; have Hs2 := hidden hs2; clear hk2 hb2 hs2))
  obtain ⟨sn, hsn⟩ : ∃ sn, sn = w1.heap.size := ⟨_, rfl⟩
  rw [← hsn] at HK2 ⊢
  have hba := below_new w1 (.cells sh0 97)
  have hQ2 := HQb.out.later HB1.out
  have hR2 := HRB.out.later HB1.out
  have hQ3 := hQ2.later hba
  have hR3 := hR2.later hba
  have hqs : qn ≠ sn := by have := hQ2.lt; omega
  have hrs : rn ≠ sn := by have := hR2.lt; omega
  have HQ := hidden (show Blk w2 qn (lineC l).toArray 130 from (Hs2.out qn (by rw [← hsn]; exact hqs)).trans hQ3)
  have HR0 := hidden (show Blk w2 rn row0 99 from (Hs2.out rn (by rw [← hsn]; exact hrs)).trans hR3)
  have hb12 := HBw.out.trans (HB1.out.mono HBw.out.size)
  have hb13 := hb12.trans (hba.mono hb12.size)
  have HBL := hidden (HB2.out w.heap.size w hb13 hb12.size)
  clear hba hQ2 hR2 hQ3 hR3 hqs hrs hb12 hb13 HB2 HB1 HQb HRB HBw c1 Hs2 hsn hqn
  refine wp_region_head later_below 18 [7, 8, 9, 10, 11, 12, 13, 14, 15, 16, 17, 18, 19, 20, 21, 22, 23, 24] (phiRw qn rn sn l s) (by kernel_rfl) (by kernel_rfl) rfl (phiRw_mono qn rn sn l s) ?_ ?_
  · intro j hj xs w3 hxs hR hpre
    obtain ⟨x0, x1, x2, x3, x4, x5, x6, x7, x8, x9, x10, x11, x12, x13, x14, x15, x16, x17, rfl⟩ := list18 xs hxs
    have hQ : Blk w3 qn (lineC l).toArray 130 := HQ.out.later hR
    have hS : Blk w3 sn (shC s) 97 := HK2.out.later hR
    rcases (show j = 0 ∨ j = 1 ∨ j = 2 ∨ j = 3 ∨ j = 4 ∨ j = 5 ∨ j = 6 ∨ j = 7 ∨ j = 8 ∨ j = 9 ∨ j = 10 ∨ j = 11 ∨ j = 12 ∨ j = 13 ∨ j = 14 ∨ j = 15 ∨ j = 16 ∨ j = 17 by omega) with rfl | rfl | rfl | rfl | rfl | rfl | rfl | rfl | rfl | rfl | rfl | rfl | rfl | rfl | rfl | rfl | rfl | rfl
    · exact wpOp_run (.pointer (some ⟨qn, 0, none⟩)) rfl (by kernel_rfl) (by kernel_rfl) ⟨_, by kernel_rfl, rfl, Below.refl _ _⟩
    · have e0 : x0 = .pointer (some ⟨qn, 0, none⟩) := hpre 0 (by kernel_rfl)
      subst e0
      exact wpOp_run (.string l.name) rfl (by kernel_rfl) (exec_load 9 rfl (by kernel_rfl) w3 (loadS (hQ.cell (j := 0) rfl))) ⟨_, by kernel_rfl, rfl, Below.refl _ _⟩
    · exact wpOp_run (.pointer (some ⟨qn, 3, none⟩)) rfl (by kernel_rfl) (by kernel_rfl) ⟨_, by kernel_rfl, rfl, Below.refl _ _⟩
    · have e2 : x2 = .pointer (some ⟨qn, 3, none⟩) := hpre 2 (by kernel_rfl)
      subst e2
      exact wpOp_run (.int .i64 l.kind) rfl (by kernel_rfl) (exec_load 3 rfl (by kernel_rfl) w3 (load3 (hQ.cell (j := 3) rfl))) ⟨_, by kernel_rfl, rfl, Below.refl _ _⟩
    · exact wpOp_run (.agg (shC s)) rfl (by kernel_rfl) (exec_load 97 rfl (by kernel_rfl) w3 (loadSh hS)) ⟨_, by kernel_rfl, rfl, Below.refl _ _⟩
    · have e4 : x4 = .agg (shC s) := hpre 4 (by kernel_rfl)
      subst e4
      refine wpOp_callR (R := fun u w4 => u = .int .u32 (freeV s) ∧ Below w3.heap.size w3 w4) 91 #[.agg (shC s)] rfl (by kernel_rfl) (by kernel_rfl) ((free_any s hn w3).mono fun e w4 ⟨he, hb⟩ => ⟨_, he, rfl, hb⟩) ?_
      rintro _ w4 ⟨rfl, hb⟩
      exact ⟨_, by kernel_rfl, rfl, hb⟩
    · have e5 : x5 = .int .u32 (freeV s) := hpre 5 (by kernel_rfl)
      subst e5
      exact wpOp_run (.int .u32 (bits .xor .u32 IntKind.u32.max (freeV s))) rfl (by kernel_rfl) (exec_not32 rfl (by kernel_rfl) w3) ⟨_, by kernel_rfl, rfl, Below.refl _ _⟩
    · exact wpOp_run (.pointer (some ⟨sn, 0, none⟩)) rfl (by kernel_rfl) (by kernel_rfl) ⟨_, by kernel_rfl, rfl, Below.refl _ _⟩
    · have e7 : x7 = .pointer (some ⟨sn, 0, none⟩) := hpre 7 (by kernel_rfl)
      subst e7
      exact wpOp_run (.int .u32 s.opc) rfl (by kernel_rfl) (exec_load 23 rfl (by kernel_rfl) w3 (loadU (hS.cell (j := 0) rfl))) ⟨_, by kernel_rfl, rfl, Below.refl _ _⟩
    · have e8 : x8 = .int .u32 s.opc := hpre 8 (by kernel_rfl)
      subst e8
      exact wpOp_run (.int .u32 (s.opc * 67108864 % 4294967296)) rfl (by kernel_rfl) (exec_shl26 rfl (by kernel_rfl) (by kernel_rfl) w3) ⟨_, by kernel_rfl, rfl, Below.refl _ _⟩
    · exact wpOp_run (.pointer (some ⟨qn, 2, none⟩)) rfl (by kernel_rfl) (by kernel_rfl) ⟨_, by kernel_rfl, rfl, Below.refl _ _⟩
    · have e10 : x10 = .pointer (some ⟨qn, 2, none⟩) := hpre 10 (by kernel_rfl)
      subst e10
      exact wpOp_run (.int .u32 l.num) rfl (by kernel_rfl) (exec_load 23 rfl (by kernel_rfl) w3 (loadU (hQ.cell (j := 2) rfl))) ⟨_, by kernel_rfl, rfl, Below.refl _ _⟩
    · exact wpOp_run (.pointer (some ⟨sn, 1, none⟩)) rfl (by kernel_rfl) (by kernel_rfl) ⟨_, by kernel_rfl, rfl, Below.refl _ _⟩
    · have e12 : x12 = .pointer (some ⟨sn, 1, none⟩) := hpre 12 (by kernel_rfl)
      subst e12
      exact wpOp_run (.int .i64 s.rowAt) rfl (by kernel_rfl) (exec_load 3 rfl (by kernel_rfl) w3 (load3 (hS.cell (j := 1) rfl))) ⟨_, by kernel_rfl, rfl, Below.refl _ _⟩
    · have e11 : x11 = .int .u32 l.num := hpre 11 (by kernel_rfl)
      subst e11
      have e13 : x13 = .int .i64 s.rowAt := hpre 13 (by kernel_rfl)
      subst e13
      exact wpOp_run (.int .u32 (l.num * 2 ^ min s.rowAt.toNat 32 % 4294967296)) rfl (by kernel_rfl) (exec_shlI rfl (by kernel_rfl) (by kernel_rfl) hr w3) ⟨_, by kernel_rfl, rfl, Below.refl _ _⟩
    · have e9 : x9 = .int .u32 (s.opc * 67108864 % 4294967296) := hpre 9 (by kernel_rfl)
      subst e9
      have e14 : x14 = .int .u32 (l.num * 2 ^ min s.rowAt.toNat 32 % 4294967296) := hpre 14 (by kernel_rfl)
      subst e14
      exact wpOp_run (.int .u32 (wordV s l.num)) rfl (by kernel_rfl) (exec_or32 rfl (by kernel_rfl) (by kernel_rfl) w3) ⟨_, by kernel_rfl, rfl, Below.refl _ _⟩
    · exact wpOp_run (.agg (shC s)) rfl (by kernel_rfl) (exec_load 97 rfl (by kernel_rfl) w3 (loadSh hS)) ⟨_, by kernel_rfl, rfl, Below.refl _ _⟩
    · have e1 : x1 = .string l.name := hpre 1 (by kernel_rfl)
      subst e1
      have e3 : x3 = .int .i64 l.kind := hpre 3 (by kernel_rfl)
      subst e3
      have e6 : x6 = .int .u32 (bits .xor .u32 IntKind.u32.max (freeV s)) := hpre 6 (by kernel_rfl)
      subst e6
      have e15 : x15 = .int .u32 (wordV s l.num) := hpre 15 (by kernel_rfl)
      subst e15
      have e16 : x16 = .agg (shC s) := hpre 16 (by kernel_rfl)
      subst e16
      exact wpOp_run (.agg (rowV l s)) rfl (by kernel_rfl) (exec_build 99 rfl (by kernel_rfl) w3 (buildRow l s w3)) ⟨_, by kernel_rfl, rfl, Below.refl _ _⟩
  · intro xs w3 hxs hR hall
    obtain ⟨x0, x1, x2, x3, x4, x5, x6, x7, x8, x9, x10, x11, x12, x13, x14, x15, x16, x17, rfl⟩ := list18 xs hxs
    have e17 : x17 = .agg (rowV l s) := hall 17 (by omega)
    subst e17
    have HR := hidden hR
    clear hall hR hxs
    simp only [slotsOn, putAll, List.set_cons_succ, List.set_cons_zero, List.drop_succ_cons, List.drop_zero]
    refine wpList_storeRow (l := l) (s := s) rfl rfl rfl rn (by kernel_rfl) (by kernel_rfl) (HR0.out.later HR.out) ?_
    rintro w5 hk5 hb5
    have HK5 := hidden hk5
    have HB5 := hidden (hb5 w.heap.size w (HBL.out.trans (HR.out.mono HBL.out.size)) HLE.out)
    clear hk5 hb5
    go_wp2
    exact bodyPost_ret (results_cell_row rfl _ _ rn 99 (rowV l s) (0, 0) _ rfl HK5.out Try.underlying99 rfl sizeRow) rfl ⟨rfl, HB5.out⟩
end Go.Proofs.Ytobnocioefchlaa
