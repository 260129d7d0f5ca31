/- Chapter 8's own table, made at once and never written out in a walk. -/
import Derived.Test.YtobnocioefchlaaPMAM
import Derived.Test.YtobnocioefchlaaPMAQ
import Derived.Great.Walk
import Derived.Laws.Tables
import Derived.Laws.Rows
import Derived.Deep.MidRow
import Derived.Deep.CutBlock
import Derived.Test.YtobnocioefchlaaPMAA
namespace Go.Proofs.Ytobnocioefchlaa
open Go.ChangeShapes Go.WideShapes Go.ChangeAt Go.RowKit
set_option linter.unusedVariables false
/-- A row of the table: Op, form, o, f (or t), name. -/
structure Rw where
  op : Int
  form : Int
  o : Int
  f : Int
  name : ByteArray
def rowC (r : Rw) : List Value := [.int .i64 r.op, .int .u8 r.form, .int .i64 r.o, .int .i64 r.f, .string r.name]
def flatC : List Rw → List Value
  | [] => []
  | r :: l => rowC r ++ flatC l
def noRw : Rw := ⟨0, 0, 0, 0, ⟨#[]⟩⟩
def tabL : List Rw := [
  ⟨1, 68, 0, 33, ⟨#[97, 100, 100, 117]⟩⟩,
  ⟨2, 68, 0, 35, ⟨#[115, 117, 98, 117]⟩⟩,
  ⟨3, 68, 0, 36, ⟨#[97, 110, 100]⟩⟩,
  ⟨4, 68, 0, 37, ⟨#[111, 114]⟩⟩,
  ⟨5, 68, 0, 38, ⟨#[120, 111, 114]⟩⟩,
  ⟨6, 68, 0, 39, ⟨#[110, 111, 114]⟩⟩,
  ⟨7, 68, 0, 42, ⟨#[115, 108, 116]⟩⟩,
  ⟨8, 68, 0, 43, ⟨#[115, 108, 116, 117]⟩⟩,
  ⟨9, 68, 0, 32, ⟨#[97, 100, 100]⟩⟩,
  ⟨10, 68, 0, 34, ⟨#[115, 117, 98]⟩⟩,
  ⟨11, 68, 0, 4, ⟨#[115, 108, 108, 118]⟩⟩,
  ⟨12, 68, 0, 6, ⟨#[115, 114, 108, 118]⟩⟩,
  ⟨13, 68, 0, 7, ⟨#[115, 114, 97, 118]⟩⟩,
  ⟨14, 68, 0, 10, ⟨#[109, 111, 118, 122]⟩⟩,
  ⟨15, 68, 0, 11, ⟨#[109, 111, 118, 110]⟩⟩,
  ⟨16, 72, 0, 0, ⟨#[115, 108, 108]⟩⟩,
  ⟨17, 72, 0, 2, ⟨#[115, 114, 108]⟩⟩,
  ⟨18, 72, 0, 3, ⟨#[115, 114, 97]⟩⟩,
  ⟨19, 77, 0, 24, ⟨#[109, 117, 108, 116]⟩⟩,
  ⟨20, 77, 0, 25, ⟨#[109, 117, 108, 116, 117]⟩⟩,
  ⟨21, 77, 0, 26, ⟨#[100, 105, 118]⟩⟩,
  ⟨22, 77, 0, 27, ⟨#[100, 105, 118, 117]⟩⟩,
  ⟨23, 70, 0, 16, ⟨#[109, 102, 104, 105]⟩⟩,
  ⟨24, 70, 0, 18, ⟨#[109, 102, 108, 111]⟩⟩,
  ⟨25, 76, 0, 17, ⟨#[109, 116, 104, 105]⟩⟩,
  ⟨26, 76, 0, 19, ⟨#[109, 116, 108, 111]⟩⟩,
  ⟨27, 76, 0, 8, ⟨#[106, 114]⟩⟩,
  ⟨28, 71, 0, 9, ⟨#[106, 97, 108, 114]⟩⟩,
  ⟨29, 84, 0, 48, ⟨#[116, 103, 101]⟩⟩,
  ⟨30, 84, 0, 49, ⟨#[116, 103, 101, 117]⟩⟩,
  ⟨31, 84, 0, 50, ⟨#[116, 108, 116]⟩⟩,
  ⟨32, 84, 0, 51, ⟨#[116, 108, 116, 117]⟩⟩,
  ⟨33, 84, 0, 52, ⟨#[116, 101, 113]⟩⟩,
  ⟨34, 84, 0, 54, ⟨#[116, 110, 101]⟩⟩,
  ⟨35, 67, 0, 12, ⟨#[115, 121, 115, 99, 97, 108, 108]⟩⟩,
  ⟨36, 67, 0, 13, ⟨#[98, 114, 101, 97, 107]⟩⟩,
  ⟨37, 88, 28, 2, ⟨#[109, 117, 108]⟩⟩,
  ⟨38, 89, 28, 32, ⟨#[99, 108, 122]⟩⟩,
  ⟨39, 89, 28, 33, ⟨#[99, 108, 111]⟩⟩,
  ⟨40, 73, 9, 0, ⟨#[97, 100, 100, 105, 117]⟩⟩,
  ⟨41, 73, 8, 0, ⟨#[97, 100, 100, 105]⟩⟩,
  ⟨42, 73, 10, 0, ⟨#[115, 108, 116, 105]⟩⟩,
  ⟨43, 73, 11, 0, ⟨#[115, 108, 116, 105, 117]⟩⟩,
  ⟨44, 85, 12, 0, ⟨#[97, 110, 100, 105]⟩⟩,
  ⟨45, 85, 13, 0, ⟨#[111, 114, 105]⟩⟩,
  ⟨46, 85, 14, 0, ⟨#[120, 111, 114, 105]⟩⟩,
  ⟨47, 86, 15, 0, ⟨#[108, 117, 105]⟩⟩,
  ⟨48, 80, 32, 0, ⟨#[108, 98]⟩⟩,
  ⟨49, 80, 33, 0, ⟨#[108, 104]⟩⟩,
  ⟨50, 80, 34, 0, ⟨#[108, 119, 108]⟩⟩,
  ⟨51, 80, 35, 0, ⟨#[108, 119]⟩⟩,
  ⟨52, 80, 36, 0, ⟨#[108, 98, 117]⟩⟩,
  ⟨53, 80, 37, 0, ⟨#[108, 104, 117]⟩⟩,
  ⟨54, 80, 38, 0, ⟨#[108, 119, 114]⟩⟩,
  ⟨55, 80, 40, 0, ⟨#[115, 98]⟩⟩,
  ⟨56, 80, 41, 0, ⟨#[115, 104]⟩⟩,
  ⟨57, 80, 42, 0, ⟨#[115, 119, 108]⟩⟩,
  ⟨58, 80, 43, 0, ⟨#[115, 119]⟩⟩,
  ⟨59, 80, 46, 0, ⟨#[115, 119, 114]⟩⟩,
  ⟨60, 66, 4, 0, ⟨#[98, 101, 113]⟩⟩,
  ⟨61, 66, 5, 0, ⟨#[98, 110, 101]⟩⟩,
  ⟨62, 90, 6, 0, ⟨#[98, 108, 101, 122]⟩⟩,
  ⟨63, 90, 7, 0, ⟨#[98, 103, 116, 122]⟩⟩,
  ⟨64, 82, 1, 0, ⟨#[98, 108, 116, 122]⟩⟩,
  ⟨65, 82, 1, 1, ⟨#[98, 103, 101, 122]⟩⟩,
  ⟨66, 82, 1, 16, ⟨#[98, 108, 116, 122, 97, 108]⟩⟩,
  ⟨67, 82, 1, 17, ⟨#[98, 103, 101, 122, 97, 108]⟩⟩,
  ⟨68, 74, 2, 0, ⟨#[106]⟩⟩,
  ⟨69, 74, 3, 0, ⟨#[106, 97, 108]⟩⟩
  ]
def tabC : Array Value := (flatC tabL).toArray
def tab0 : Array Value := (flatC (List.replicate 69 noRw)).toArray
def rowA (k : Nat) : Array Value := (rowC (tabL.getD k noRw)).toArray
theorem size49 : (Try.prog.info? 120).map (·.size) = some 345 := by kernel_rfl
theorem size48 : (Try.prog.info? 119).map (·.size) = some 5 := by kernel_rfl
theorem tabC_size : tabC.size = 345 := by kernel_rfl
theorem tab0_size : tab0.size = 345 := by kernel_rfl
theorem tabC_one : tabC.all (·.oneCell') = true := by kernel_rfl
theorem tabL_len : tabL.length = 69 := by kernel_rfl
theorem flatC_get : ∀ (l : List Rw) (k : Nat), k < l.length → (flatC l)[k * 5]? = some (.int .i64 (l.getD k noRw).op) ∧ (flatC l)[k * 5 + 1]? = some (.int .u8 (l.getD k noRw).form) ∧ (flatC l)[k * 5 + 2]? = some (.int .i64 (l.getD k noRw).o) ∧ (flatC l)[k * 5 + 3]? = some (.int .i64 (l.getD k noRw).f) ∧ (flatC l)[k * 5 + 4]? = some (.string (l.getD k noRw).name)
  | [], k, h => by simp at h
  | r :: l, 0, _ => ⟨rfl, rfl, rfl, rfl, rfl⟩
  | r :: l, k + 1, h => by
    have := flatC_get l k (by simpa using h)
    rw [show (k + 1) * 5 = k * 5 + 5 by omega, show k * 5 + 5 + 1 = k * 5 + 1 + 5 by omega, show k * 5 + 5 + 2 = k * 5 + 2 + 5 by omega, show k * 5 + 5 + 3 = k * 5 + 3 + 5 by omega, show k * 5 + 5 + 4 = k * 5 + 4 + 5 by omega]
    exact this
theorem tab_cells {w : World} {n : Nat} (h : Blk w n tabC 120) {k : Nat} (hk : k < 69) : w.cell? ⟨n, k * 5, none⟩ = some (.int .i64 (tabL.getD k noRw).op) ∧ w.cell? ⟨n, k * 5 + 1, none⟩ = some (.int .u8 (tabL.getD k noRw).form) ∧ w.cell? ⟨n, k * 5 + 2, none⟩ = some (.int .i64 (tabL.getD k noRw).o) ∧ w.cell? ⟨n, k * 5 + 3, none⟩ = some (.int .i64 (tabL.getD k noRw).f) ∧ w.cell? ⟨n, k * 5 + 4, none⟩ = some (.string (tabL.getD k noRw).name) := by
  have := flatC_get tabL k (by rw [tabL_len]; exact hk)
  have e : ∀ j : Nat, tabC[j]? = (flatC tabL)[j]? := fun j => by simp [tabC]
  exact ⟨h.cell (by rw [e]; exact this.1), h.cell (by rw [e]; exact this.2.1), h.cell (by rw [e]; exact this.2.2.1), h.cell (by rw [e]; exact this.2.2.2.1), h.cell (by rw [e]; exact this.2.2.2.2)⟩
theorem wpList_allocT {ops : Array Oper} {rest : List Oper} {o : Oper} {a : Act} {w : World} {Q : Exit → Act → World → Prop} (hgd : o.guard = none) (ho : o.op = .alloc 120)
    (h : ∀ w1, Blk w1 w.heap.size tab0 120 → Below w.heap.size w w1 → wpList Try.prog ops Q rest (a.put o.dst (.pointer (some ⟨w.heap.size, 0, none⟩))) w1) : wpList Try.prog ops Q (o :: rest) a w := by
  refine Great.wpList_runTo hgd o.dst rfl (.pointer (some ⟨w.heap.size, 0, none⟩)) (w.alloc (.cells tab0 120)) ?_ (h _ (Blk.new w _ _) (below_new w _))
  obtain ⟨dst, op, ty, pos, aft, gd⟩ := o
  simp only at ho
  subst ho
  kernel_rfl
theorem wpList_storeT {ops : Array Oper} {rest : List Oper} {o : Oper} {a : Act} {w : World} {Q : Exit → Act → World → Prop} (hgd : o.guard = none) {x y : Operand} (ho : o.op = .store 120 x y)
    (g : Nat) (hx : a.eval x = .pointer (some ⟨g, 0, none⟩)) (hy : a.eval y = .agg tabC) (hg : Blk w g tab0 120)
    (h : ∀ w1, Blk w1 g tabC 120 → (∀ B u, Below B u w → B ≤ g → Below B u w1) → wpList Try.prog ops Q rest (a.put o.dst undef) w1) : wpList Try.prog ops Q (o :: rest) a w :=
  wpList_store_row hgd 120 x y ho g tabC hx hy 120 tab0 hg (by rw [tabC_size]; exact size49) (by rw [tab0_size, tabC_size]) tabC_one (h _ (setRow_heap w g tab0 tabC 120 (0, 0) hg) (fun B u hb hB => below_setRow hb hB tabC))
set_option maxRecDepth 100000 in
set_option maxHeartbeats 4000000 in
theorem table_any (w : World) : Calls Try.prog 59 #[] w fun e w' => e = .returned (.agg tabC) ∧ Below w.heap.size w w' := by
  obtain ⟨n, hn⟩ : ∃ n, w.heap.size = n := ⟨_, rfl⟩
  go_enter Try.func59, Try.ntmps59
  go_upto_region 0 with fail
  repeat (first | (refine wpList_allocT rfl rfl ?_) | go_step)
  rw [hn]
  rintro w1 hk1 hb1
  have HK1 := hidden hk1
  have HB1 := hidden hb1
  clear hk1 hb1
  go_upto_region 1 with fail
  simp only [List.append_eq, List.cons_append, List.nil_append]
  go_step
  refine wpList_builds_at 70 ⟨#[.pointer (some ⟨n, 0, none⟩), .agg (rowA 0), .agg (rowA 1), .agg (rowA 2), .agg (rowA 3), .agg (rowA 4), .agg (rowA 5), .agg (rowA 6), .agg (rowA 7), .agg (rowA 8), .agg (rowA 9), .agg (rowA 10), .agg (rowA 11), .agg (rowA 12), .agg (rowA 13), .agg (rowA 14), .agg (rowA 15), .agg (rowA 16), .agg (rowA 17), .agg (rowA 18), .agg (rowA 19), .agg (rowA 20), .agg (rowA 21), .agg (rowA 22), .agg (rowA 23), .agg (rowA 24), .agg (rowA 25), .agg (rowA 26), .agg (rowA 27), .agg (rowA 28), .agg (rowA 29), .agg (rowA 30), .agg (rowA 31), .agg (rowA 32), .agg (rowA 33), .agg (rowA 34), .agg (rowA 35), .agg (rowA 36), .agg (rowA 37), .agg (rowA 38), .agg (rowA 39), .agg (rowA 40), .agg (rowA 41), .agg (rowA 42), .agg (rowA 43), .agg (rowA 44), .agg (rowA 45), .agg (rowA 46), .agg (rowA 47), .agg (rowA 48), .agg (rowA 49), .agg (rowA 50), .agg (rowA 51), .agg (rowA 52), .agg (rowA 53), .agg (rowA 54), .agg (rowA 55), .agg (rowA 56), .agg (rowA 57), .agg (rowA 58), .agg (rowA 59), .agg (rowA 60), .agg (rowA 61), .agg (rowA 62), .agg (rowA 63), .agg (rowA 64), .agg (rowA 65), .agg (rowA 66), .agg (rowA 67), .agg (rowA 68), .agg tabC], []⟩ (by kernel_rfl) ?_
  simp only [List.drop_succ_cons, List.drop_zero]
  refine wpList_storeT (x := .tmp 0) (y := .tmp 70) rfl rfl n (by kernel_rfl) (by kernel_rfl) HK1.out ?_
  rintro w2 hk2 hb2
  have HK2 := hidden hk2
  have HB2 := hidden (hb2 n w HB1.out (Nat.le_refl _))
  clear hk2 hb2
  go_wp2
  refine bodyPost_ret (results_cell_row rfl _ _ n 120 tabC (0, 0) _ rfl HK2.out Try.underlying120 rfl (by rw [tabC_size]; exact size49)) rfl ⟨rfl, ?_⟩
  rw [hn]
  exact HB2.out
end Go.Proofs.Ytobnocioefchlaa
namespace Go.Proofs.Ytobnocioefchlaa
open Go.ChangeShapes Go.WideShapes Go.ChangeAt Go.RowKit
set_option linter.unusedVariables false
theorem field32_range (v a n : Int) (h1 : 0 ≤ v) (h2 : v < 4294967296) : 0 ≤ field32 v a n ∧ field32 v a n < 4294967296 := by
  unfold field32
  have hx := div_pow_range (clip a 0 31).toNat h1 h2
  have hp : (0 : Int) < 2 ^ (clip n 0 (32 - clip a 0 31)).toNat := Int.pow_pos (by omega)
  have h3 := Int.emod_nonneg (v / 2 ^ (clip a 0 31).toNat) (Int.ne_of_gt hp)
  have h4 : v / 2 ^ (clip a 0 31).toNat % 2 ^ (clip n 0 (32 - clip a 0 31)).toNat ≤ v / 2 ^ (clip a 0 31).toNat := by
    obtain ⟨y, hy⟩ := Int.eq_ofNat_of_zero_le hx.1
    obtain ⟨q, hq⟩ := Int.eq_ofNat_of_zero_le (Int.le_of_lt hp)
    rw [hy, hq, ← Int.natCast_emod]
    exact Int.ofNat_le.2 (Nat.mod_le y q)
  omega
theorem fldW (v a n : Int) (h1 : 0 ≤ v) (h2 : v < 4294967296) (w : World) : Calls Try.prog 99 #[.int .u32 v, .int .i64 a, .int .i64 n] w fun e w' => (∃ x : Int, e = .returned (.int .u32 x) ∧ 0 ≤ x ∧ x < 4294967296) ∧ w' = w :=
  (refField_any v a n h1 h2 w).mono fun e w' ⟨he, hw⟩ => ⟨⟨_, he, (field32_range v a n h1 h2).1, (field32_range v a n h1 h2).2⟩, hw⟩
theorem sextW (v n : Int) (h1 : 0 ≤ v) (h2 : v < 4294967296) (w : World) : Calls Try.prog 100 #[.int .u32 v, .int .i64 n] w fun e w' => (∃ x : Int, e = .returned (.int .u32 x) ∧ 0 ≤ x ∧ x < 4294967296) ∧ w' = w :=
  (refSext_any v n h1 h2 w).mono fun e w' ⟨he, hw⟩ => ⟨⟨_, he, (sext32_range v n).1, (sext32_range v n).2⟩, hw⟩
theorem u32i64 (x : Int) (h0 : 0 ≤ x) (h1 : x < 4294967296) : wrap64 x = x := by unfold wrap64; omega
abbrev rwC (op f o n : Int) (nm : ByteArray) : Array Value := #[.int .i64 op, .int .u8 f, .int .i64 o, .int .i64 n, .string nm]
end Go.Proofs.Ytobnocioefchlaa
namespace Go.Proofs.Ytobnocioefchlaa
open Go.RowKit
set_option linter.unusedVariables false
/-- A word's fields. -/
def fO (w : Nat) : Nat := w / 67108864
def fS (w : Nat) : Nat := w / 2097152 % 32
def fT (w : Nat) : Nat := w / 65536 % 32
def fD (w : Nat) : Nat := w / 2048 % 32
def fA (w : Nat) : Nat := w / 64 % 32
def fF (w : Nat) : Nat := w % 64
theorem word_fields (w : Nat) : w = 2 ^ 26 * fO w + (2 ^ 21 * fS w + (2 ^ 16 * fT w + (2 ^ 11 * fD w + (2 ^ 6 * fA w + fF w)))) := by
  unfold fO fS fT fD fA fF
  omega
theorem fields_lt (w : Nat) : fS w < 32 ∧ fT w < 32 ∧ fD w < 32 ∧ fA w < 32 ∧ fF w < 64 := by
  unfold fS fT fD fA fF
  omega
/-- What a row asks of each field: under which bits, which number. -/
structure Dg where
  mo : Nat
  ms : Nat
  mt : Nat
  md : Nat
  ma : Nat
  mf : Nat
  wo : Nat
  ws : Nat
  wt : Nat
  wd : Nat
  wa : Nat
  wf : Nat
def dfit (g : Dg) (w : Nat) : Bool := (fO w &&& g.mo) == g.wo && ((fS w &&& g.ms) == g.ws && ((fT w &&& g.mt) == g.wt && ((fD w &&& g.md) == g.wd && ((fA w &&& g.ma) == g.wa && (fF w &&& g.mf) == g.wf))))
/-- The chapter's rows: Op, form (its letter), o, f (or t). -/
def rowsR : List (Nat × Nat × Nat × Nat) := [(1, 68, 0, 33), (2, 68, 0, 35), (3, 68, 0, 36), (4, 68, 0, 37), (5, 68, 0, 38), (6, 68, 0, 39), (7, 68, 0, 42), (8, 68, 0, 43), (9, 68, 0, 32), (10, 68, 0, 34), (11, 68, 0, 4), (12, 68, 0, 6), (13, 68, 0, 7), (14, 68, 0, 10), (15, 68, 0, 11), (16, 72, 0, 0), (17, 72, 0, 2), (18, 72, 0, 3), (19, 77, 0, 24), (20, 77, 0, 25), (21, 77, 0, 26), (22, 77, 0, 27), (23, 70, 0, 16), (24, 70, 0, 18), (25, 76, 0, 17), (26, 76, 0, 19), (27, 76, 0, 8), (28, 71, 0, 9), (29, 84, 0, 48), (30, 84, 0, 49), (31, 84, 0, 50), (32, 84, 0, 51), (33, 84, 0, 52), (34, 84, 0, 54), (35, 67, 0, 12), (36, 67, 0, 13), (37, 88, 28, 2), (38, 89, 28, 32), (39, 89, 28, 33), (40, 73, 9, 0), (41, 73, 8, 0), (42, 73, 10, 0), (43, 73, 11, 0), (44, 85, 12, 0), (45, 85, 13, 0), (46, 85, 14, 0), (47, 86, 15, 0), (48, 80, 32, 0), (49, 80, 33, 0), (50, 80, 34, 0), (51, 80, 35, 0), (52, 80, 36, 0), (53, 80, 37, 0), (54, 80, 38, 0), (55, 80, 40, 0), (56, 80, 41, 0), (57, 80, 42, 0), (58, 80, 43, 0), (59, 80, 46, 0), (60, 66, 4, 0), (61, 66, 5, 0), (62, 90, 6, 0), (63, 90, 7, 0), (64, 82, 1, 0), (65, 82, 1, 1), (66, 82, 1, 16), (67, 82, 1, 17), (68, 74, 2, 0), (69, 74, 3, 0)]
def rowR (k : Nat) : Nat × Nat × Nat × Nat := rowsR.getD k (0, 0, 0, 0)
/-- What a row asks. -/
def rdg (c o f : Nat) : Dg :=
  if c = 68 then ⟨63, 0, 0, 0, 31, 63, o, 0, 0, 0, 0, f⟩
  else if c = 88 then ⟨63, 0, 0, 0, 31, 63, o, 0, 0, 0, 0, f⟩
  else if c = 89 then ⟨63, 0, 0, 0, 31, 63, o, 0, 0, 0, 0, f⟩
  else if c = 72 then ⟨63, 31, 0, 0, 0, 63, o, 0, 0, 0, 0, f⟩
  else if c = 77 then ⟨63, 0, 0, 31, 31, 63, o, 0, 0, 0, 0, f⟩
  else if c = 70 then ⟨63, 31, 31, 0, 31, 63, o, 0, 0, 0, 0, f⟩
  else if c = 76 then ⟨63, 0, 31, 31, 31, 63, o, 0, 0, 0, 0, f⟩
  else if c = 71 then ⟨63, 0, 31, 0, 31, 63, o, 0, 0, 0, 0, f⟩
  else if c = 84 then ⟨63, 0, 0, 0, 0, 63, o, 0, 0, 0, 0, f⟩
  else if c = 67 then ⟨63, 0, 0, 0, 0, 63, o, 0, 0, 0, 0, f⟩
  else if c = 86 then ⟨63, 31, 0, 0, 0, 0, o, 0, 0, 0, 0, 0⟩
  else if c = 90 then ⟨63, 0, 31, 0, 0, 0, o, 0, 0, 0, 0, 0⟩
  else if c = 82 then ⟨63, 0, 31, 0, 0, 0, o, 0, f, 0, 0, 0⟩
  else ⟨63, 0, 0, 0, 0, 0, o, 0, 0, 0, 0, 0⟩
def dgR (k : Nat) : Dg := rdg (rowR k).2.1 (rowR k).2.2.1 (rowR k).2.2.2
def rfit (w k : Nat) : Bool := dfit (dgR k) w && (decide ((rowR k).2.1 ≠ 89) || (fT w == fD w))
/-- The first row that a word is of. -/
def findP (p : Nat → Bool) : Option Nat := (List.range 69).find? p
theorem findP_some {p : Nat → Bool} {k : Nat} : findP p = some k ↔ p k = true ∧ k < 69 ∧ ∀ j, j < k → p j = false := by
  unfold findP
  rw [List.find?_range_eq_some]
  simp
theorem findP_none {p : Nat → Bool} : findP p = none ↔ ∀ j, j < 69 → p j = false := by
  unfold findP
  rw [List.find?_eq_none]
  simp
theorem and63 {x : Nat} (h : x < 64) : x &&& 63 = x := by rw [show (63 : Nat) = 2 ^ 6 - 1 from rfl, Nat.and_two_pow_sub_one_eq_mod]; exact Nat.mod_eq_of_lt h
theorem and31n {x : Nat} (h : x < 32) : x &&& 31 = x := by rw [show (31 : Nat) = 2 ^ 5 - 1 from rfl, Nat.and_two_pow_sub_one_eq_mod]; exact Nat.mod_eq_of_lt h
/-- S, T, D, A, Imm. -/
structure Tk where
  s : Nat
  t : Nat
  d : Nat
  a : Nat
  imm : Nat
/-- A half with its sign. -/
def sxw (w : Nat) : Nat := if w % 65536 < 32768 then w % 65536 else w % 65536 + 4294901760
def tk0 (w : Nat) : Tk := ⟨0, 0, 0, 0, 0⟩
def tkR (c : Nat) (w : Nat) : Tk :=
  if c = 68 then ⟨fS w, fT w, fD w, 0, 0⟩ else
  if c = 72 then ⟨0, fT w, fD w, fA w, 0⟩ else
  if c = 77 then ⟨fS w, fT w, 0, 0, 0⟩ else
  if c = 70 then ⟨0, 0, fD w, 0, 0⟩ else
  if c = 76 then ⟨fS w, 0, 0, 0, 0⟩ else
  if c = 71 then ⟨fS w, 0, fD w, 0, 0⟩ else
  if c = 84 then ⟨fS w, fT w, 0, 0, w / 64 % 1024⟩ else
  if c = 67 then ⟨0, 0, 0, 0, w / 64 % 1048576⟩ else
  if c = 88 then ⟨fS w, fT w, fD w, 0, 0⟩ else
  if c = 89 then ⟨fS w, fT w, fD w, 0, 0⟩ else
  if c = 73 then ⟨fS w, fT w, 0, 0, sxw w⟩ else
  if c = 85 then ⟨fS w, fT w, 0, 0, w % 65536⟩ else
  if c = 86 then ⟨0, fT w, 0, 0, w % 65536⟩ else
  if c = 80 then ⟨fS w, fT w, 0, 0, sxw w⟩ else
  if c = 66 then ⟨fS w, fT w, 0, 0, sxw w * 4 % 4294967296⟩ else
  if c = 90 then ⟨fS w, 0, 0, 0, sxw w * 4 % 4294967296⟩ else
  if c = 82 then ⟨fS w, 0, 0, 0, sxw w * 4 % 4294967296⟩ else
  if c = 74 then ⟨0, 0, 0, 0, w % 67108864 * 4⟩ else
  ⟨0, 0, 0, 0, 0⟩
theorem field_nat (x a n : Nat) (ha : a ≤ 31) (hn : n + a ≤ 32) : field32 (x : Int) (a : Int) (n : Int) = ((x / 2 ^ a % 2 ^ n : Nat) : Int) := by
  have e1 : clip (a : Int) 0 31 = (a : Int) := by unfold clip; split <;> (try split) <;> omega
  unfold field32
  rw [e1]
  have e2 : clip (n : Int) 0 (32 - (a : Int)) = (n : Int) := by unfold clip; split <;> (try split) <;> omega
  rw [e2, Int.toNat_natCast, Int.toNat_natCast]
  rw [Int.natCast_emod, Int.natCast_ediv, pow_cast, pow_cast]
theorem sext_half (w : Nat) : sext32 ((w % 65536 : Nat) : Int) 16 = (sxw w : Int) := by
  unfold sxw sext32
  rw [show clip 16 1 32 = 16 by decide]
  show sg (((w % 65536 : Nat) : Int) * 2 ^ 16 % 4294967296) / 2 ^ 16 % 4294967296 = _
  unfold sg
  split <;> split <;> omega
theorem sxw_lt (w : Nat) : sxw w < 4294967296 := by unfold sxw; split <;> omega
theorem div1 (w m : Nat) : w / 1 % m = w % m := by rw [Nat.div_one]
theorem cast_eq2 {a b : Nat} (h : a = b) : (a : Int) = (b : Int) := by rw [h]
/-- The chapter's own answer for a word: an instruction's fields. -/
structure Fl where
  op : Nat
  tk : Tk
def insR (w : Nat) : Fl := match findP (rfit w) with
  | none => ⟨0, ⟨0, 0, 0, 0, 0⟩⟩
  | some k => ⟨(rowR k).1, tkR (rowR k).2.1 w⟩
/-- Whether a word is of a row, as the chapter tells it. -/
def fitX (c o f w : Nat) : Bool :=
  if fO w = o then
    if c = 68 ∨ c = 88 then decide (fF w = f ∧ fA w = 0) else
    if c = 72 then decide (fF w = f ∧ fS w = 0) else
    if c = 77 then decide (fF w = f ∧ fD w = 0 ∧ fA w = 0) else
    if c = 70 then decide (fF w = f ∧ fS w = 0 ∧ fT w = 0 ∧ fA w = 0) else
    if c = 76 then decide (fF w = f ∧ fT w = 0 ∧ fD w = 0 ∧ fA w = 0) else
    if c = 71 then decide (fF w = f ∧ fT w = 0 ∧ fA w = 0) else
    if c = 84 ∨ c = 67 then decide (fF w = f) else
    if c = 89 then decide (fF w = f ∧ fA w = 0 ∧ fT w = fD w) else
    if c = 86 then decide (fS w = 0) else
    if c = 90 then decide (fT w = 0) else
    if c = 82 then decide (fT w = f) else true
  else false
theorem dfit_iff (g : Dg) (w : Nat) : dfit g w = true ↔ (fO w &&& g.mo = g.wo ∧ fS w &&& g.ms = g.ws ∧ fT w &&& g.mt = g.wt ∧ fD w &&& g.md = g.wd ∧ fA w &&& g.ma = g.wa ∧ fF w &&& g.mf = g.wf) := by
  unfold dfit
  simp only [Bool.and_eq_true, beq_iff_eq]
theorem fO_lt {w : Nat} (hw : w < 4294967296) : fO w < 64 := by unfold fO; omega
theorem rdg_o (c o f : Nat) : (rdg c o f).mo = 63 ∧ (rdg c o f).wo = o := by
  by_cases k68 : c = 68
  · subst k68
    exact ⟨rfl, rfl⟩
  by_cases k88 : c = 88
  · subst k88
    exact ⟨rfl, rfl⟩
  by_cases k89 : c = 89
  · subst k89
    exact ⟨rfl, rfl⟩
  by_cases k72 : c = 72
  · subst k72
    exact ⟨rfl, rfl⟩
  by_cases k77 : c = 77
  · subst k77
    exact ⟨rfl, rfl⟩
  by_cases k70 : c = 70
  · subst k70
    exact ⟨rfl, rfl⟩
  by_cases k76 : c = 76
  · subst k76
    exact ⟨rfl, rfl⟩
  by_cases k71 : c = 71
  · subst k71
    exact ⟨rfl, rfl⟩
  by_cases k84 : c = 84
  · subst k84
    exact ⟨rfl, rfl⟩
  by_cases k67 : c = 67
  · subst k67
    exact ⟨rfl, rfl⟩
  by_cases k86 : c = 86
  · subst k86
    exact ⟨rfl, rfl⟩
  by_cases k90 : c = 90
  · subst k90
    exact ⟨rfl, rfl⟩
  by_cases k82 : c = 82
  · subst k82
    exact ⟨rfl, rfl⟩
  unfold rdg
  rw [if_neg k68, if_neg k88, if_neg k89, if_neg k72, if_neg k77, if_neg k70, if_neg k76, if_neg k71, if_neg k84, if_neg k67, if_neg k86, if_neg k90, if_neg k82]
  exact ⟨rfl, rfl⟩
theorem fitX_eq (c o f w : Nat) (hw : w < 4294967296) : fitX c o f w = (dfit (rdg c o f) w && (decide (c ≠ 89) || (fT w == fD w))) := by
  obtain ⟨b1, b2, b3, b4, b5⟩ := fields_lt w
  have b0 := fO_lt hw
  rw [Bool.eq_iff_iff, Bool.and_eq_true, dfit_iff, Bool.or_eq_true, decide_eq_true_eq, beq_iff_eq]
  unfold fitX rdg
  by_cases e0 : fO w = o
  · rw [if_pos e0]
    by_cases k68 : c = 68
    · subst k68
      simp only [Nat.reduceEqDiff, or_self, true_or, or_false, if_true, if_false, ne_eq, not_false_eq_true, true_and, and_true, decide_eq_true_eq, and63 b0, and63 b5, and31n b4, Nat.and_zero]
      omega
    by_cases k88 : c = 88
    · subst k88
      simp only [Nat.reduceEqDiff, or_self, or_true, true_or, if_true, if_false, ne_eq, not_false_eq_true, true_and, and_true, decide_eq_true_eq, and63 b0, and63 b5, and31n b4, Nat.and_zero]
      omega
    by_cases k89 : c = 89
    · subst k89
      simp only [Nat.reduceEqDiff, or_self, false_or, if_true, if_false, ne_eq, not_true_eq_false, true_and, decide_eq_true_eq, and63 b0, and63 b5, and31n b4, Nat.and_zero]
      omega
    by_cases k72 : c = 72
    · subst k72
      simp only [Nat.reduceEqDiff, or_self, true_or, if_true, if_false, ne_eq, not_false_eq_true, true_and, and_true, decide_eq_true_eq, and63 b0, and63 b5, and31n b1, Nat.and_zero]
      omega
    by_cases k77 : c = 77
    · subst k77
      simp only [Nat.reduceEqDiff, or_self, true_or, if_true, if_false, ne_eq, not_false_eq_true, true_and, and_true, decide_eq_true_eq, and63 b0, and63 b5, and31n b3, and31n b4, Nat.and_zero]
      omega
    by_cases k70 : c = 70
    · subst k70
      simp only [Nat.reduceEqDiff, or_self, true_or, if_true, if_false, ne_eq, not_false_eq_true, true_and, and_true, decide_eq_true_eq, and63 b0, and63 b5, and31n b1, and31n b2, and31n b4, Nat.and_zero]
      omega
    by_cases k76 : c = 76
    · subst k76
      simp only [Nat.reduceEqDiff, or_self, true_or, if_true, if_false, ne_eq, not_false_eq_true, true_and, and_true, decide_eq_true_eq, and63 b0, and63 b5, and31n b2, and31n b3, and31n b4, Nat.and_zero]
      omega
    by_cases k71 : c = 71
    · subst k71
      simp only [Nat.reduceEqDiff, or_self, true_or, if_true, if_false, ne_eq, not_false_eq_true, true_and, and_true, decide_eq_true_eq, and63 b0, and63 b5, and31n b2, and31n b4, Nat.and_zero]
      omega
    by_cases k84 : c = 84
    · subst k84
      simp only [Nat.reduceEqDiff, or_self, true_or, or_false, if_true, if_false, ne_eq, not_false_eq_true, true_and, and_true, decide_eq_true_eq, and63 b0, and63 b5, Nat.and_zero]
      omega
    by_cases k67 : c = 67
    · subst k67
      simp only [Nat.reduceEqDiff, or_self, or_true, true_or, if_true, if_false, ne_eq, not_false_eq_true, true_and, and_true, decide_eq_true_eq, and63 b0, and63 b5, Nat.and_zero]
      omega
    by_cases k86 : c = 86
    · subst k86
      simp only [Nat.reduceEqDiff, or_self, true_or, if_true, if_false, ne_eq, not_false_eq_true, and_true, decide_eq_true_eq, and63 b0, and31n b1, Nat.and_zero]
      omega
    by_cases k90 : c = 90
    · subst k90
      simp only [Nat.reduceEqDiff, or_self, true_or, if_true, if_false, ne_eq, not_false_eq_true, true_and, and_true, decide_eq_true_eq, and63 b0, and31n b2, Nat.and_zero]
      omega
    by_cases k82 : c = 82
    · subst k82
      simp only [Nat.reduceEqDiff, or_self, true_or, if_true, if_false, ne_eq, not_false_eq_true, true_and, and_true, decide_eq_true_eq, and63 b0, and31n b2, Nat.and_zero]
      omega
    simp only [if_neg k72, if_neg k77, if_neg k70, if_neg k76, if_neg k71, if_neg k86, if_neg k90, if_neg k82, if_neg (show ¬ (c = 68 ∨ c = 88) by omega), if_neg (show ¬ (c = 84 ∨ c = 67) by omega), if_neg k68, if_neg k88, if_neg k84, if_neg k67, and63 b0, Nat.and_zero, ne_eq, k89, if_false, not_false_eq_true, and_true, true_or]
    simp [e0]
  · rw [if_neg e0]
    constructor
    · intro h
      cases h
    · rintro ⟨⟨h, _⟩, _⟩
      have h2 := rdg_o c o f
      unfold rdg at h2
      rw [h2.1, h2.2, and63 b0] at h
      exact absurd h e0
end Go.Proofs.Ytobnocioefchlaa
