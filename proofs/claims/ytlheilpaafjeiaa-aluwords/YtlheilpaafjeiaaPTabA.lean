/- Chapter 8's own table, made at once and never written out in a walk. -/
import Derived.Test.YtlheilpaafjeiaaPAluExec
import Derived.Great.Walk
import Derived.Laws.Tables
import Derived.Laws.Rows
import Derived.Deep.MidRow
import Derived.Deep.CutBlock
namespace Go.Proofs.Ytlheilpaafjeiaa
open Go.ChangeShapes Go.WideShapes Go.ChangeAt Go.RowKit
set_option linter.unusedVariables false
/-- A row of the table: Op, form, o, f (or t), name. -/
structure Rw where
  op : Int
  form : Int
  o : Int
  f : Int
  name : ByteArray
def rowC (r : Rw) : List Value := [.int .i64 r.op, .int .u8 r.form, .int .i64 r.o, .int .i64 r.f, .string r.name]
def flatC : List Rw → List Value
  | [] => []
  | r :: l => rowC r ++ flatC l
def noRw : Rw := ⟨0, 0, 0, 0, ⟨#[]⟩⟩
def tabL : List Rw := [
  ⟨1, 68, 0, 33, ⟨#[97, 100, 100, 117]⟩⟩,
  ⟨2, 68, 0, 35, ⟨#[115, 117, 98, 117]⟩⟩,
  ⟨3, 68, 0, 36, ⟨#[97, 110, 100]⟩⟩,
  ⟨4, 68, 0, 37, ⟨#[111, 114]⟩⟩,
  ⟨5, 68, 0, 38, ⟨#[120, 111, 114]⟩⟩,
  ⟨6, 68, 0, 39, ⟨#[110, 111, 114]⟩⟩,
  ⟨7, 68, 0, 42, ⟨#[115, 108, 116]⟩⟩,
  ⟨8, 68, 0, 43, ⟨#[115, 108, 116, 117]⟩⟩,
  ⟨9, 68, 0, 32, ⟨#[97, 100, 100]⟩⟩,
  ⟨10, 68, 0, 34, ⟨#[115, 117, 98]⟩⟩,
  ⟨11, 68, 0, 4, ⟨#[115, 108, 108, 118]⟩⟩,
  ⟨12, 68, 0, 6, ⟨#[115, 114, 108, 118]⟩⟩,
  ⟨13, 68, 0, 7, ⟨#[115, 114, 97, 118]⟩⟩,
  ⟨14, 68, 0, 10, ⟨#[109, 111, 118, 122]⟩⟩,
  ⟨15, 68, 0, 11, ⟨#[109, 111, 118, 110]⟩⟩,
  ⟨16, 72, 0, 0, ⟨#[115, 108, 108]⟩⟩,
  ⟨17, 72, 0, 2, ⟨#[115, 114, 108]⟩⟩,
  ⟨18, 72, 0, 3, ⟨#[115, 114, 97]⟩⟩,
  ⟨19, 77, 0, 24, ⟨#[109, 117, 108, 116]⟩⟩,
  ⟨20, 77, 0, 25, ⟨#[109, 117, 108, 116, 117]⟩⟩,
  ⟨21, 77, 0, 26, ⟨#[100, 105, 118]⟩⟩,
  ⟨22, 77, 0, 27, ⟨#[100, 105, 118, 117]⟩⟩,
  ⟨23, 70, 0, 16, ⟨#[109, 102, 104, 105]⟩⟩,
  ⟨24, 70, 0, 18, ⟨#[109, 102, 108, 111]⟩⟩,
  ⟨25, 76, 0, 17, ⟨#[109, 116, 104, 105]⟩⟩,
  ⟨26, 76, 0, 19, ⟨#[109, 116, 108, 111]⟩⟩,
  ⟨27, 76, 0, 8, ⟨#[106, 114]⟩⟩,
  ⟨28, 71, 0, 9, ⟨#[106, 97, 108, 114]⟩⟩,
  ⟨29, 84, 0, 48, ⟨#[116, 103, 101]⟩⟩,
  ⟨30, 84, 0, 49, ⟨#[116, 103, 101, 117]⟩⟩,
  ⟨31, 84, 0, 50, ⟨#[116, 108, 116]⟩⟩,
  ⟨32, 84, 0, 51, ⟨#[116, 108, 116, 117]⟩⟩,
  ⟨33, 84, 0, 52, ⟨#[116, 101, 113]⟩⟩,
  ⟨34, 84, 0, 54, ⟨#[116, 110, 101]⟩⟩,
  ⟨35, 67, 0, 12, ⟨#[115, 121, 115, 99, 97, 108, 108]⟩⟩,
  ⟨36, 67, 0, 13, ⟨#[98, 114, 101, 97, 107]⟩⟩,
  ⟨37, 88, 28, 2, ⟨#[109, 117, 108]⟩⟩,
  ⟨38, 89, 28, 32, ⟨#[99, 108, 122]⟩⟩,
  ⟨39, 89, 28, 33, ⟨#[99, 108, 111]⟩⟩,
  ⟨40, 73, 9, 0, ⟨#[97, 100, 100, 105, 117]⟩⟩,
  ⟨41, 73, 8, 0, ⟨#[97, 100, 100, 105]⟩⟩,
  ⟨42, 73, 10, 0, ⟨#[115, 108, 116, 105]⟩⟩,
  ⟨43, 73, 11, 0, ⟨#[115, 108, 116, 105, 117]⟩⟩,
  ⟨44, 85, 12, 0, ⟨#[97, 110, 100, 105]⟩⟩,
  ⟨45, 85, 13, 0, ⟨#[111, 114, 105]⟩⟩,
  ⟨46, 85, 14, 0, ⟨#[120, 111, 114, 105]⟩⟩,
  ⟨47, 86, 15, 0, ⟨#[108, 117, 105]⟩⟩,
  ⟨48, 80, 32, 0, ⟨#[108, 98]⟩⟩,
  ⟨49, 80, 33, 0, ⟨#[108, 104]⟩⟩,
  ⟨50, 80, 34, 0, ⟨#[108, 119, 108]⟩⟩,
  ⟨51, 80, 35, 0, ⟨#[108, 119]⟩⟩,
  ⟨52, 80, 36, 0, ⟨#[108, 98, 117]⟩⟩,
  ⟨53, 80, 37, 0, ⟨#[108, 104, 117]⟩⟩,
  ⟨54, 80, 38, 0, ⟨#[108, 119, 114]⟩⟩,
  ⟨55, 80, 40, 0, ⟨#[115, 98]⟩⟩,
  ⟨56, 80, 41, 0, ⟨#[115, 104]⟩⟩,
  ⟨57, 80, 42, 0, ⟨#[115, 119, 108]⟩⟩,
  ⟨58, 80, 43, 0, ⟨#[115, 119]⟩⟩,
  ⟨59, 80, 46, 0, ⟨#[115, 119, 114]⟩⟩,
  ⟨60, 66, 4, 0, ⟨#[98, 101, 113]⟩⟩,
  ⟨61, 66, 5, 0, ⟨#[98, 110, 101]⟩⟩,
  ⟨62, 90, 6, 0, ⟨#[98, 108, 101, 122]⟩⟩,
  ⟨63, 90, 7, 0, ⟨#[98, 103, 116, 122]⟩⟩,
  ⟨64, 82, 1, 0, ⟨#[98, 108, 116, 122]⟩⟩,
  ⟨65, 82, 1, 1, ⟨#[98, 103, 101, 122]⟩⟩,
  ⟨66, 82, 1, 16, ⟨#[98, 108, 116, 122, 97, 108]⟩⟩,
  ⟨67, 82, 1, 17, ⟨#[98, 103, 101, 122, 97, 108]⟩⟩,
  ⟨68, 74, 2, 0, ⟨#[106]⟩⟩,
  ⟨69, 74, 3, 0, ⟨#[106, 97, 108]⟩⟩
  ]
def tabC : Array Value := (flatC tabL).toArray
def tab0 : Array Value := (flatC (List.replicate 69 noRw)).toArray
def rowA (k : Nat) : Array Value := (rowC (tabL.getD k noRw)).toArray
theorem size49 : (Try.prog.info? 49).map (·.size) = some 345 := by kernel_rfl
theorem size48 : (Try.prog.info? 48).map (·.size) = some 5 := by kernel_rfl
theorem tabC_size : tabC.size = 345 := by kernel_rfl
theorem tab0_size : tab0.size = 345 := by kernel_rfl
theorem tabC_one : tabC.all (·.oneCell') = true := by kernel_rfl
theorem tabL_len : tabL.length = 69 := by kernel_rfl
theorem flatC_get : ∀ (l : List Rw) (k : Nat), k < l.length → (flatC l)[k * 5]? = some (.int .i64 (l.getD k noRw).op) ∧ (flatC l)[k * 5 + 1]? = some (.int .u8 (l.getD k noRw).form) ∧ (flatC l)[k * 5 + 2]? = some (.int .i64 (l.getD k noRw).o) ∧ (flatC l)[k * 5 + 3]? = some (.int .i64 (l.getD k noRw).f) ∧ (flatC l)[k * 5 + 4]? = some (.string (l.getD k noRw).name)
  | [], k, h => by simp at h
  | r :: l, 0, _ => ⟨rfl, rfl, rfl, rfl, rfl⟩
  | r :: l, k + 1, h => by
    have := flatC_get l k (by simpa using h)
    rw [show (k + 1) * 5 = k * 5 + 5 by omega, show k * 5 + 5 + 1 = k * 5 + 1 + 5 by omega, show k * 5 + 5 + 2 = k * 5 + 2 + 5 by omega, show k * 5 + 5 + 3 = k * 5 + 3 + 5 by omega, show k * 5 + 5 + 4 = k * 5 + 4 + 5 by omega]
    exact this
theorem tab_cells {w : World} {n : Nat} (h : Blk w n tabC 49) {k : Nat} (hk : k < 69) : w.cell? ⟨n, k * 5, none⟩ = some (.int .i64 (tabL.getD k noRw).op) ∧ w.cell? ⟨n, k * 5 + 1, none⟩ = some (.int .u8 (tabL.getD k noRw).form) ∧ w.cell? ⟨n, k * 5 + 2, none⟩ = some (.int .i64 (tabL.getD k noRw).o) ∧ w.cell? ⟨n, k * 5 + 3, none⟩ = some (.int .i64 (tabL.getD k noRw).f) ∧ w.cell? ⟨n, k * 5 + 4, none⟩ = some (.string (tabL.getD k noRw).name) := by
  have := flatC_get tabL k (by rw [tabL_len]; exact hk)
  have e : ∀ j : Nat, tabC[j]? = (flatC tabL)[j]? := fun j => by simp [tabC]
  exact ⟨h.cell (by rw [e]; exact this.1), h.cell (by rw [e]; exact this.2.1), h.cell (by rw [e]; exact this.2.2.1), h.cell (by rw [e]; exact this.2.2.2.1), h.cell (by rw [e]; exact this.2.2.2.2)⟩
/-- Operations that each build a value, one behind the other, done at once. -/
def doBuilds (P : Program) : List Oper → Act → Option Act
  | [], a => some a
  | ⟨dst, .build t parts, _, _, _, none⟩ :: l, a => match P.built t (parts.map fun (i, x) => (i, a.eval x)).toList with
    | some cs => doBuilds P l (a.put dst (.agg cs))
    | none => none
  | _ :: _, _ => none
theorem wpList_builds {P : Program} {ops : Array Oper} {Q : Exit → Act → World → Prop} {w : World} {rest : List Oper} {a' : Act} : ∀ (l : List Oper) (a : Act), doBuilds P l a = some a' → wpList P ops Q rest a' w → wpList P ops Q (l ++ rest) a w
  | [], a, h, k => by
    cases h
    exact k
  | ⟨dst, op, ty, pos, aft, gd⟩ :: l, a, h, k => by
    cases op with
    | build t parts =>
      cases gd with
      | some g => cases h
      | none =>
        simp only [doBuilds] at h
        cases hb : P.built t (parts.map fun (i, x) => (i, a.eval x)).toList with
        | none => rw [hb] at h; cases h
        | some cs =>
          rw [hb] at h
          have ih := wpList_builds l (a.put dst (.agg cs)) h k
          refine wpList_build rfl t parts rfl (by rw [hb]; rfl) ?_
          rw [hb]
          exact ih
    | _ => cases h
theorem wpList_builds_at {P : Program} {ops : Array Oper} {Q : Exit → Act → World → Prop} {w : World} {l : List Oper} {a : Act} (n : Nat) (a' : Act) (h : doBuilds P (l.take n) a = some a') (k : wpList P ops Q (l.drop n) a' w) : wpList P ops Q l a w := by
  have := wpList_builds (l.take n) a h k
  rwa [List.take_append_drop] at this
theorem wpList_allocT {ops : Array Oper} {rest : List Oper} {o : Oper} {a : Act} {w : World} {Q : Exit → Act → World → Prop} (hgd : o.guard = none) (ho : o.op = .alloc 49)
    (h : ∀ w1, Blk w1 w.heap.size tab0 49 → Below w.heap.size w w1 → wpList Try.prog ops Q rest (a.put o.dst (.pointer (some ⟨w.heap.size, 0, none⟩))) w1) : wpList Try.prog ops Q (o :: rest) a w := by
  refine Great.wpList_runTo hgd o.dst rfl (.pointer (some ⟨w.heap.size, 0, none⟩)) (w.alloc (.cells tab0 49)) ?_ (h _ (Blk.new w _ _) (below_new w _))
  obtain ⟨dst, op, ty, pos, aft, gd⟩ := o
  simp only at ho
  subst ho
  kernel_rfl
theorem below_setRow {B : Nat} {u w : World} (h : Below B u w) {g : Nat} (hg : B ≤ g) (cs : Array Value) : Below B u (w.setRow g cs) := by
  refine ⟨h.os, h.tape, h.output, by simpa [World.setRow] using h.size, fun k hk => ?_⟩
  simp only [World.setRow, Array.getElem?_modify]
  rw [if_neg (by omega)]
  exact h.block k hk
theorem wpList_storeT {ops : Array Oper} {rest : List Oper} {o : Oper} {a : Act} {w : World} {Q : Exit → Act → World → Prop} (hgd : o.guard = none) {x y : Operand} (ho : o.op = .store 49 x y)
    (g : Nat) (hx : a.eval x = .pointer (some ⟨g, 0, none⟩)) (hy : a.eval y = .agg tabC) (hg : Blk w g tab0 49)
    (h : ∀ w1, Blk w1 g tabC 49 → (∀ B u, Below B u w → B ≤ g → Below B u w1) → wpList Try.prog ops Q rest (a.put o.dst undef) w1) : wpList Try.prog ops Q (o :: rest) a w :=
  wpList_store_row hgd 49 x y ho g tabC hx hy 49 tab0 hg (by rw [tabC_size]; exact size49) (by rw [tab0_size, tabC_size]) tabC_one (h _ (setRow_heap w g tab0 tabC 49 (0, 0) hg) (fun B u hb hB => below_setRow hb hB tabC))
set_option maxRecDepth 100000 in
set_option maxHeartbeats 4000000 in
theorem table_any (w : World) : Calls Try.prog 40 #[] w fun e w' => e = .returned (.agg tabC) ∧ Below w.heap.size w w' := by
  obtain ⟨n, hn⟩ : ∃ n, w.heap.size = n := ⟨_, rfl⟩
  go_enter Try.func40, Try.ntmps40
  go_upto_region 0 with fail
  repeat (first | (refine wpList_allocT rfl rfl ?_) | go_step)
  rw [hn]
  rintro w1 hk1 hb1
  have HK1 := hidden hk1
  have HB1 := hidden hb1
  clear hk1 hb1
  go_upto_region 1 with fail
  simp only [List.append_eq, List.cons_append, List.nil_append]
  go_step
  refine wpList_builds_at 70 ⟨#[.pointer (some ⟨n, 0, none⟩), .agg (rowA 0), .agg (rowA 1), .agg (rowA 2), .agg (rowA 3), .agg (rowA 4), .agg (rowA 5), .agg (rowA 6), .agg (rowA 7), .agg (rowA 8), .agg (rowA 9), .agg (rowA 10), .agg (rowA 11), .agg (rowA 12), .agg (rowA 13), .agg (rowA 14), .agg (rowA 15), .agg (rowA 16), .agg (rowA 17), .agg (rowA 18), .agg (rowA 19), .agg (rowA 20), .agg (rowA 21), .agg (rowA 22), .agg (rowA 23), .agg (rowA 24), .agg (rowA 25), .agg (rowA 26), .agg (rowA 27), .agg (rowA 28), .agg (rowA 29), .agg (rowA 30), .agg (rowA 31), .agg (rowA 32), .agg (rowA 33), .agg (rowA 34), .agg (rowA 35), .agg (rowA 36), .agg (rowA 37), .agg (rowA 38), .agg (rowA 39), .agg (rowA 40), .agg (rowA 41), .agg (rowA 42), .agg (rowA 43), .agg (rowA 44), .agg (rowA 45), .agg (rowA 46), .agg (rowA 47), .agg (rowA 48), .agg (rowA 49), .agg (rowA 50), .agg (rowA 51), .agg (rowA 52), .agg (rowA 53), .agg (rowA 54), .agg (rowA 55), .agg (rowA 56), .agg (rowA 57), .agg (rowA 58), .agg (rowA 59), .agg (rowA 60), .agg (rowA 61), .agg (rowA 62), .agg (rowA 63), .agg (rowA 64), .agg (rowA 65), .agg (rowA 66), .agg (rowA 67), .agg (rowA 68), .agg tabC], []⟩ (by kernel_rfl) ?_
  simp only [List.drop_succ_cons, List.drop_zero]
  refine wpList_storeT (x := .tmp 0) (y := .tmp 70) rfl rfl n (by kernel_rfl) (by kernel_rfl) HK1.out ?_
  rintro w2 hk2 hb2
  have HK2 := hidden hk2
  have HB2 := hidden (hb2 n w HB1.out (Nat.le_refl _))
  clear hk2 hb2
  go_wp2
  refine bodyPost_ret (results_cell_row rfl _ _ n 49 tabC (0, 0) _ rfl HK2.out Try.underlying49 rfl (by rw [tabC_size]; exact size49)) rfl ⟨rfl, ?_⟩
  rw [hn]
  exact HB2.out
end Go.Proofs.Ytlheilpaafjeiaa
