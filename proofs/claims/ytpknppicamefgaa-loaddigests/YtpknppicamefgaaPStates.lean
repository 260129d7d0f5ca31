/- States as rows of 37 cells, never written out in a walk. -/
import Derived.Test.YtpknppicamefgaaPFill
import Derived.Great.Walk
import Derived.Laws.Tables
import Derived.Laws.Rows
import Derived.Deep.MidRow
namespace Go.Proofs.Ytpknppicamefgaa
open Go.ChangeShapes Go.WideShapes Go.ChangeAt Go.RowKit
set_option linter.unusedVariables false
/-- The cells of a state whose other registers are 0. -/
def stC (sp pc nx : Int) : Array Value := #[.int .u32 0, .int .u32 0, .int .u32 0, .int .u32 0, .int .u32 0, .int .u32 0, .int .u32 0, .int .u32 0, .int .u32 0, .int .u32 0, .int .u32 0, .int .u32 0, .int .u32 0, .int .u32 0, .int .u32 0, .int .u32 0, .int .u32 0, .int .u32 0, .int .u32 0, .int .u32 0, .int .u32 0, .int .u32 0, .int .u32 0, .int .u32 0, .int .u32 0, .int .u32 0, .int .u32 0, .int .u32 0, .int .u32 0, .int .u32 sp, .int .u32 0, .int .u32 0, .int .u32 0, .int .u32 0, .int .u32 pc, .int .u32 nx, .bool false]
theorem sizeSt : (Try.prog.info? 31).map (·.size) = some 37 := by kernel_rfl
theorem stC_size (sp pc nx : Int) : (stC sp pc nx).size = 37 := rfl
theorem stC_one (sp pc nx : Int) : (stC sp pc nx).all (·.oneCell') = true := by kernel_rfl
theorem stC_set (pc nx sp : Int) : (stC 0 pc nx).setIfInBounds 29 (.int .u32 sp) = stC sp pc nx := by kernel_rfl
theorem info31 (sp pc nx : Int) : (Try.prog.info? 31).map (·.size) = some (stC sp pc nx).size := sizeSt
theorem run_build31 (w : World) : (Instr.build 31 #[]).run Try.prog w = .ok (.agg (stC 0 0 0)) w := by kernel_rfl
theorem run_build31b (w : World) (pc nx : Int) : (Instr.build 31 #[(3, .int .u32 pc), (4, .int .u32 nx)]).run Try.prog w = .ok (.agg (stC 0 pc nx)) w := by kernel_rfl
/-- A state that is made anew. -/
theorem wpList_allocSt {ops : Array Oper} {rest : List Oper} {o : Oper} {a : Act} {w : World} {Q : Exit → Act → World → Prop} (hgd : o.guard = none) (ho : o.op = .alloc 31)
    (h : ∀ w1, Blk w1 w.heap.size (stC 0 0 0) 31 → w1.heap.size = w.heap.size + 1 → Below w.heap.size w w1 → wpList Try.prog ops Q rest (a.put o.dst (.pointer (some ⟨w.heap.size, 0, none⟩))) w1) : wpList Try.prog ops Q (o :: rest) a w := by
  refine Great.wpList_runTo hgd o.dst rfl (.pointer (some ⟨w.heap.size, 0, none⟩)) (w.alloc (.cells (stC 0 0 0) 31)) ?_ (h _ (Blk.new w _ _) (by simp) (below_new w _))
  obtain ⟨dst, op, ty, pos, aft, gd⟩ := o
  simp only at ho
  subst ho
  kernel_rfl
theorem wpList_buildSt {ops : Array Oper} {rest : List Oper} {o : Oper} {a : Act} {w : World} {Q : Exit → Act → World → Prop} (hgd : o.guard = none) (ho : o.op = .build 31 #[])
    (h : wpList Try.prog ops Q rest (a.put o.dst (.agg (stC 0 0 0))) w) : wpList Try.prog ops Q (o :: rest) a w := wpList_build hgd 31 _ ho (ps := #[]) (by simp) (run_build31 w) h
theorem wpList_buildSt2 {ops : Array Oper} {rest : List Oper} {o : Oper} {a : Act} {w : World} {Q : Exit → Act → World → Prop} (hgd : o.guard = none) (x y : Operand) (ho : o.op = .build 31 #[(3, x), (4, y)]) (pc nx : Int) (hx : a.eval x = .int .u32 pc) (hy : a.eval y = .int .u32 nx)
    (h : wpList Try.prog ops Q rest (a.put o.dst (.agg (stC 0 pc nx))) w) : wpList Try.prog ops Q (o :: rest) a w := wpList_build hgd 31 _ ho (by simp [hx, hy]) (run_build31b w pc nx) h
theorem only_setRow (w : World) (g : Nat) (cs : Array Value) : Only g w (w.setRow g cs) := by
  refine ⟨rfl, rfl, rfl, by simp [World.setRow], fun k hk => ?_⟩
  simp only [World.setRow, Array.getElem?_modify]
  rw [if_neg (fun e => hk e.symm)]
/-- A state that is put. -/
theorem wpList_storeSt {ops : Array Oper} {rest : List Oper} {o : Oper} {a : Act} {w : World} {Q : Exit → Act → World → Prop} (hgd : o.guard = none) (x y : Operand) (ho : o.op = .store 31 x y)
    (g : Nat) (cs : Array Value) (hx : a.eval x = .pointer (some ⟨g, 0, none⟩)) (hy : a.eval y = .agg cs) (old : Array Value) (hg : Blk w g old 31) (ho2 : old.size = 37) (hc : cs.size = 37) (h1 : cs.all (·.oneCell') = true)
    (h : ∀ w1, Blk w1 g cs 31 → Only g w w1 → wpList Try.prog ops Q rest (a.put o.dst undef) w1) : wpList Try.prog ops Q (o :: rest) a w :=
  wpList_store_row hgd 31 x y ho g cs hx hy 31 old hg (by rw [hc]; exact sizeSt) (by omega) h1 (h _ (setRow_heap w g old cs 31 (0, 0) hg) (only_setRow w g cs))
theorem wpList_loadSt {ops : Array Oper} {rest : List Oper} {o : Oper} {a : Act} {w : World} {Q : Exit → Act → World → Prop} (hgd : o.guard = none) (x : Operand) (ho : o.op = .load 31 x)
    (g : Nat) (cs : Array Value) (hx : a.eval x = .pointer (some ⟨g, 0, none⟩)) (hg : Blk w g cs 31) (hc : cs.size = 37)
    (h : wpList Try.prog ops Q rest (a.put o.dst (.agg cs)) w) : wpList Try.prog ops Q (o :: rest) a w :=
  wpList_load_row hgd 31 x ho g hx 31 cs (0, 0) _ hg Try.underlying31 rfl (by rw [hc]; exact sizeSt) h
theorem Blk.only {w w' : World} {g n : Nat} {cs : Array Value} {T : TypeId} (h : Blk w n cs T) (ho : Only g w w') (hne : n ≠ g) : Blk w' n cs T := (ho.block n hne).trans h
theorem only_below {B g : Nat} {u w w' : World} (h : Below B u w) (ho : Only g w w') (hg : B ≤ g) : Below B u w' :=
  ⟨ho.os.trans h.os, ho.tape.trans h.tape, ho.output.trans h.output, by rw [ho.size]; exact h.size, fun k hk => (ho.block k (by omega)).trans (h.block k hk)⟩
theorem setCell_blk {w : World} {g j : Nat} {cs : Array Value} {T : TypeId} (h : Blk w g cs T) (v : Value) : Blk (w.setCell ⟨g, j, none⟩ v) g (cs.setIfInBounds j v) T := heap_setCell_same w g j cs T v h
theorem Blk.frozen {w : World} {g j : Nat} {cs : Array Value} {T : TypeId} (h : Blk w g cs T) : w.frozen? ⟨g, j, none⟩ = false := frozen_of_row _ _ _ _ _ h
theorem beginSet {w : World} {g : Nat} {pc nx : Int} (h : Blk w g (stC 0 pc nx) 31) (sp : Int) : Blk (w.setCell ⟨g, 29, none⟩ (.int .u32 sp)) g (stC sp pc nx) 31 := by
  have h2 := setCell_blk (j := 29) h (.int .u32 sp)
  rw [stC_set] at h2
  exact h2
theorem begin0 {w1 w2 w3 : World} {n : Nat} {cs : Array Value} (h : Blk w1 n cs 31) (hb : Below (n + 1) w1 w2) (ho : Only (n + 1) w2 w3) (v : Value) : Blk (w3.setCell ⟨n + 1, 29, none⟩ v) n cs 31 :=
  (Below.heap_setCell _ _ _ _ (by simp)).trans ((ho.block n (by omega)).trans ((hb.block n (by omega)).trans h))
set_option maxRecDepth 20000 in
set_option maxHeartbeats 1000000 in
theorem begin_any (w : World) (ent : Nat) (he : ent ≤ 2147483648) : Calls Try.prog 29 #[.int .u32 (ent : Int)] w fun e w' => e = .returned (.agg (stC 2147479536 (ent : Int) ((ent : Int) + 4))) ∧ Below w.heap.size w w' := by
  have T1 : Hid True := trivial
  have T2 : Hid True := trivial
  have T3 : Hid True := trivial
  obtain ⟨n, hn⟩ : ∃ n, w.heap.size = n := ⟨_, rfl⟩
  go_enter Try.func29, Try.ntmps29
  go_wp2_with (first
    | (clear T1; refine wpList_allocSt rfl rfl ?_; rw [hn]; rintro w1 hk1 hs1 hb1; have HK1 := hidden hk1; have HB1 := hidden hb1; clear hk1 hb1)
    | (refine wpList_buildSt2 rfl _ _ rfl (ent : Int) ((ent : Int) + 4) ?_ ?_ ?_; kernel_rfl; kernel_rfl)
    | (clear T2; refine wpList_allocSt rfl rfl ?_; rw [hs1]; rintro w2 hk2 hs2 hb2; have HK2 := hidden hk2; have HB2 := hidden hb2; clear hk2 hb2)
    | (clear T3; refine wpList_storeSt rfl _ _ rfl (n + 1) (stC 0 (ent : Int) ((ent : Int) + 4)) rfl rfl _ (Hid.out HK2) (stC_size _ _ _) (stC_size _ _ _) (stC_one _ _ _) ?_; rintro w3 hk3 ho3; have c29 : w3.cell? ⟨n + 1, 29, none⟩ = some (.int .u32 0) := hk3.cell rfl; have f29 : w3.frozen? ⟨n + 1, 29, none⟩ = false := hk3.frozen; have HK3 := hidden hk3; have HO3 := hidden ho3; clear hk3 ho3)
    | (refine wpList_loadSt rfl _ rfl (n + 1) (stC 2147479536 (ent : Int) ((ent : Int) + 4)) rfl (beginSet (Hid.out HK3) _) (stC_size _ _ _) ?_)
    | (refine wpList_storeSt rfl _ _ rfl n (stC 2147479536 (ent : Int) ((ent : Int) + 4)) rfl rfl (stC 0 0 0) (begin0 (Hid.out HK1) (Hid.out HB2) (Hid.out HO3) _) (stC_size _ _ _) (stC_size _ _ _) (stC_one _ _ _) ?_; rintro w5 hk5 ho5; have HK5 := hidden hk5; have HO5 := hidden ho5; clear hk5 ho5))
  refine bodyPost_ret (results_cell_row rfl _ _ n 31 (stC 2147479536 (ent : Int) ((ent : Int) + 4)) (0, 0) _ rfl (Hid.out HK5) Try.underlying31 rfl (info31 _ _ _)) rfl ⟨rfl, ?_⟩
  have b1 : Below n w w2 := (Hid.out HB1).trans ((Hid.out HB2).mono (by omega))
  have b3 : Below n w w3 := only_below b1 (Hid.out HO3) (by omega)
  have b4 := b3.setCell (p := ⟨n + 1, 29, none⟩) (by show n ≤ n + 1; omega) (.int .u32 2147479536)
  rw [hn]
  exact only_below b4 (Hid.out HO5) (Nat.le_refl _)
/-- The registers of such a state. -/
def stR (sp : Int) : List Value := (stC sp 0 0).toList.take 32
theorem stR_eq (sp pc nx : Int) : (stC sp pc nx).toList.take 32 = stR sp := by kernel_rfl
theorem sizeR : (Try.prog.info? 29).map (·.size) = some 32 := by kernel_rfl
theorem wpList_loadR {ops : Array Oper} {rest : List Oper} {o : Oper} {a : Act} {w : World} {Q : Exit → Act → World → Prop} (hgd : o.guard = none) (x : Operand) (ho : o.op = .load 29 x)
    (g : Nat) (sp pc nx : Int) (hx : a.eval x = .pointer (some ⟨g, 0, none⟩)) (hg : Blk w g (stC sp pc nx) 31)
    (h : wpList Try.prog ops Q rest (a.put o.dst (.agg (stR sp).toArray)) w) : wpList Try.prog ops Q (o :: rest) a w := by
  refine wpList_load_mid hgd 29 x ho g 0 hx (stR sp) _ ?_ Try.underlying29 rfl sizeR h
  intro j v hv
  rw [Nat.zero_add]
  refine hg.cell ?_
  rw [← stR_eq sp pc nx, List.getElem?_take] at hv
  split at hv
  · simpa using hv
  · cases hv
theorem run_eqR (w : World) : (binOp .eql 29 (.agg (stR 0).toArray) (.agg (stR 0).toArray)).run Try.prog w = .ok (.bool true) w := by kernel_rfl
theorem wpList_eqR {ops : Array Oper} {rest : List Oper} {o : Oper} {a : Act} {w : World} {Q : Exit → Act → World → Prop} (hgd : o.guard = none) (x y : Operand) (ho : o.op = .binOp .eql 29 x y 29)
    (hx : a.eval x = .agg (stR 0).toArray) (hy : a.eval y = .agg (stR 0).toArray)
    (h : wpList Try.prog ops Q rest (a.put o.dst (.bool true)) w) : wpList Try.prog ops Q (o :: rest) a w := by
  refine Great.wpList_runTo hgd o.dst rfl (.bool true) w ?_ h
  have he : (eqGuard .eql 29 x y (.agg (stR 0).toArray) (.agg (stR 0).toArray)).run Try.prog w = .ok () w := by kernel_rfl
  unfold execOp
  simp only [ho, hx, hy, Sem.run_bind, he, run_eqR, Result.andThen_ok, Sem.run_pure]
set_option maxRecDepth 20000 in
set_option maxHeartbeats 1000000 in
theorem sameState_zero (w : World) : Calls Try.prog 11 #[.agg (stC 0 0 0), .agg (stC 0 0 0)] w fun e w' => e = .returned (.bool true) ∧ Below w.heap.size w w' := by
  obtain ⟨n, hn⟩ : ∃ n, w.heap.size = n := ⟨_, rfl⟩
  obtain ⟨W, hW⟩ : ∃ W, (w.alloc (.cells (stC 0 0 0) 31)).alloc (.cells (stC 0 0 0) 31) = W := ⟨_, rfl⟩
  have k1 : Blk W n (stC 0 0 0) 31 := by rw [← hW, ← hn]; exact (heap_alloc_old _ _ (by simp)).trans (Blk.new w _ _)
  have k2 : Blk W (n + 1) (stC 0 0 0) 31 := by
    have := Blk.new (w.alloc (.cells (stC 0 0 0) 31)) (stC 0 0 0) 31
    rw [World.size_alloc, hn] at this
    rw [← hW]; exact this
  have hB : Below n w W := by rw [← hW, ← hn]; exact ((Below.refl _ w).alloc (Nat.le_refl _) _).alloc (by simp) _
  have c32 : W.cell? ⟨n, 32, none⟩ = some (.int .u32 0) := k1.cell rfl
  have c33 : W.cell? ⟨n, 33, none⟩ = some (.int .u32 0) := k1.cell rfl
  have c34 : W.cell? ⟨n, 34, none⟩ = some (.int .u32 0) := k1.cell rfl
  have c35 : W.cell? ⟨n, 35, none⟩ = some (.int .u32 0) := k1.cell rfl
  have c36 : W.cell? ⟨n, 36, none⟩ = some (.bool false) := k1.cell rfl
  have d32 : W.cell? ⟨n + 1, 32, none⟩ = some (.int .u32 0) := k2.cell rfl
  have d33 : W.cell? ⟨n + 1, 33, none⟩ = some (.int .u32 0) := k2.cell rfl
  have d34 : W.cell? ⟨n + 1, 34, none⟩ = some (.int .u32 0) := k2.cell rfl
  have d35 : W.cell? ⟨n + 1, 35, none⟩ = some (.int .u32 0) := k2.cell rfl
  have d36 : W.cell? ⟨n + 1, 36, none⟩ = some (.bool false) := k2.cell rfl
  have K1 := hidden k1
  have K2 := hidden k2
  have HB := hidden hB
  have T1 : Hid True := trivial
  clear k1 k2 hB
  go_enter Try.func11, Try.ntmps11
  go_wp2_with (first
    | (clear T1; refine wpList_loadR rfl _ rfl n 0 0 0 rfl (Hid.out K1) ?_)
    | (refine wpList_loadR rfl _ rfl (n + 1) 0 0 0 rfl (Hid.out K2) ?_)
    | (refine wpList_eqR rfl _ _ rfl rfl rfl ?_))
  go_ret
  exact ⟨rfl, by rw [hn]; exact Hid.out HB⟩
end Go.Proofs.Ytpknppicamefgaa
