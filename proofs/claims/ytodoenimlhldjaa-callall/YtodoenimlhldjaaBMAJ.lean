/- Relations of worlds that say what a region has put. -/
import Derived.Test.YtodoenimlhldjaaBMAI
import Derived.Test.YtodoenimlhldjaaBMAG
import Derived.Test.YtodoenimlhldjaaBMAB
import Derived.Deep.Slices
import Derived.OpenShut
import Derived.Deep.CutBlock
import Derived.Test.YtodoenimlhldjaaBMAE
namespace Go.Proofs.Ytodoenimlhldjaa
open Go.ChangeShapes Go.WideShapes Go.ChangeAt Go.RowKit
set_option linter.unusedVariables false
/-- Blocks are as they were, but those of F, which may have become what F says; above there may be new ones. -/
structure RF (F : List (Nat × Obj)) (u w : World) : Prop where
  os : w.os = u.os
  tape : w.tape = u.tape
  output : w.output = u.output
  size : u.heap.size ≤ w.heap.size
  block : ∀ b, b < u.heap.size → w.heap[b]? = u.heap[b]? ∨ ∃ o, (b, o) ∈ F ∧ w.heap[b]? = some o
theorem later_rf (F : List (Nat × Obj)) : Later (RF F) :=
  ⟨fun w => ⟨rfl, rfl, rfl, Nat.le_refl _, fun _ _ => .inl rfl⟩, fun u v w h k => ⟨k.os.trans h.os, k.tape.trans h.tape, k.output.trans h.output, Nat.le_trans h.size k.size, fun b hb => by
    rcases k.block b (Nat.lt_of_lt_of_le hb h.size) with e | e
    · rw [e]; exact h.block b hb
    · exact .inr e⟩, fun w => ⟨rfl, rfl, rfl, Nat.le_refl _, fun _ _ => .inl rfl⟩⟩
theorem RF.of_below {F : List (Nat × Obj)} {u w : World} (h : Below u.heap.size u w) : RF F u w := ⟨h.os, h.tape, h.output, h.size, fun b hb => .inl (h.block b hb)⟩
theorem RF.of_only {F : List (Nat × Obj)} {u w : World} {g : Nat} {cs : Array Value} {T : TypeId} (h : Only g u w) (hg : Blk w g cs T) (hF : (g, Obj.cells cs T (0, 0)) ∈ F) : RF F u w :=
  ⟨h.os, h.tape, h.output, Nat.le_of_eq h.size.symm, fun b hb => by
    by_cases e : b = g
    · subst e; exact .inr ⟨_, hF, hg⟩
    · exact .inl (h.block b e)⟩
theorem RF.blk {F : List (Nat × Obj)} {u w : World} (h : RF F u w) {b : Nat} {cs : Array Value} {T : TypeId} (hb : Blk u b cs T) (hF : ∀ o, (b, o) ∈ F → o = Obj.cells cs T (0, 0)) : Blk w b cs T := by
  rcases h.block b hb.lt with e | ⟨o, ho, e⟩
  · exact e.trans hb
  · rw [hF o ho] at e; exact e
theorem RF.below {F : List (Nat × Obj)} {u w : World} (h : RF F u w) {N : Nat} (hN : N ≤ u.heap.size) (hF : ∀ x ∈ F, N ≤ x.1) : Below N u w := ⟨h.os, h.tape, h.output, h.size, fun b hb => by
  rcases h.block b (by omega) with e | ⟨o, ho, _⟩
  · exact e
  · have := hF _ ho; simp at this; omega⟩
theorem RF.some {F : List (Nat × Obj)} {u w : World} (h : RF F u w) {b n : Nat} {T : TypeId} (hb : ∃ old : Array Value, old.size = n ∧ Blk u b old T) (hF : ∀ o, (b, o) ∈ F → ∃ cs : Array Value, cs.size = n ∧ o = Obj.cells cs T (0, 0)) : ∃ old : Array Value, old.size = n ∧ Blk w b old T := by
  obtain ⟨old, hs, hb⟩ := hb
  rcases h.block b hb.lt with e | ⟨o, ho, e⟩
  · exact ⟨old, hs, e.trans hb⟩
  · obtain ⟨cs, h1, h2⟩ := hF o ho
    rw [h2] at e; exact ⟨cs, h1, e⟩
/-- Blocks from N on may turn from z to c. -/
structure RZ (N : Nat) (z c : Obj) (u w : World) : Prop where
  os : w.os = u.os
  tape : w.tape = u.tape
  output : w.output = u.output
  size : u.heap.size ≤ w.heap.size
  block : ∀ b, b < u.heap.size → w.heap[b]? = u.heap[b]? ∨ (N ≤ b ∧ u.heap[b]? = some z ∧ w.heap[b]? = some c)
theorem later_rz (N : Nat) (z c : Obj) : Later (RZ N z c) :=
  ⟨fun w => ⟨rfl, rfl, rfl, Nat.le_refl _, fun _ _ => .inl rfl⟩, fun u v w h k => ⟨k.os.trans h.os, k.tape.trans h.tape, k.output.trans h.output, Nat.le_trans h.size k.size, fun b hb => by
    rcases k.block b (Nat.lt_of_lt_of_le hb h.size) with e | ⟨e0, e1, e2⟩
    · rw [e]; exact h.block b hb
    · rcases h.block b hb with f | ⟨f0, f1, f2⟩
      · exact .inr ⟨e0, f.symm.trans e1, e2⟩
      · exact .inr ⟨f0, f1, e2⟩⟩, fun w => ⟨rfl, rfl, rfl, Nat.le_refl _, fun _ _ => .inl rfl⟩⟩
theorem RZ.of_below {N : Nat} {z c : Obj} {u w : World} (h : Below u.heap.size u w) : RZ N z c u w := ⟨h.os, h.tape, h.output, h.size, fun b hb => .inl (h.block b hb)⟩
theorem RZ.of_only {N : Nat} {u w : World} {g : Nat} {z cs : Array Value} {T : TypeId} (h : Only g u w) (hz : Blk u g z T) (hg : Blk w g cs T) (hN : N ≤ g) : RZ N (.cells z T (0, 0)) (.cells cs T (0, 0)) u w :=
  ⟨h.os, h.tape, h.output, Nat.le_of_eq h.size.symm, fun b hb => by
    by_cases e : b = g
    · subst e; exact .inr ⟨hN, hz, hg⟩
    · exact .inl (h.block b e)⟩
theorem RZ.of_put {N : Nat} {u w : World} {g : Nat} {z cs : Array Value} {T : TypeId} (h : Only g u w) (hz : Blk u g z T ∨ Blk u g cs T) (hg : Blk w g cs T) (hN : N ≤ g) : RZ N (.cells z T (0, 0)) (.cells cs T (0, 0)) u w := by
  rcases hz with hz | hz
  · exact RZ.of_only h hz hg hN
  · exact ⟨h.os, h.tape, h.output, Nat.le_of_eq h.size.symm, fun b hb => by
      by_cases e : b = g
      · subst e; exact .inl (hg.trans hz.symm)
      · exact .inl (h.block b e)⟩
theorem RZ.blk {N : Nat} {z c : Obj} {u w : World} (h : RZ N z c u w) {b : Nat} {cs : Array Value} {T : TypeId} (hb : Blk u b cs T) (hn : Obj.cells cs T (0, 0) ≠ z) : Blk w b cs T := by
  rcases h.block b hb.lt with e | ⟨_, e, _⟩
  · exact e.trans hb
  · have h2 : some (Obj.cells cs T (0, 0)) = some z := hb.symm.trans e
    exact absurd (Option.some.inj h2) hn
theorem RZ.last {N : Nat} {z : Obj} {u w : World} {b : Nat} {cs : Array Value} {T : TypeId} (h : RZ N z (.cells cs T (0, 0)) u w) (hb : Blk u b cs T) : Blk w b cs T := by
  rcases h.block b hb.lt with e | ⟨_, _, e⟩
  · exact e.trans hb
  · exact e
theorem RZ.one {N : Nat} {z cs : Array Value} {T : TypeId} {u w : World} {b : Nat} (h : RZ N (.cells z T (0, 0)) (.cells cs T (0, 0)) u w) (hb : Blk u b z T ∨ Blk u b cs T) : Blk w b z T ∨ Blk w b cs T := by
  rcases hb with hb | hb
  · rcases h.block b hb.lt with e | ⟨_, _, e⟩
    · exact .inl (e.trans hb)
    · exact .inr e
  · exact .inr (h.last hb)
theorem RZ.below {N : Nat} {z c : Obj} {u w : World} (h : RZ N z c u w) (hN : N ≤ u.heap.size) : Below N u w := ⟨h.os, h.tape, h.output, h.size, fun b hb => by
  rcases h.block b (by omega) with e | ⟨e, _⟩
  · exact e
  · omega⟩
theorem wpOp_put {P : Program} {ops : Array Oper} {Q : Exit → Act → World → Prop} {a : Act} {w w' : World} {K : Act → World → Prop} {i : Nat} {o : Oper} (hi : ops[i]? = some o) (hw : Region.wanted o (yielded ops a.tmps) = true) (hrun : (execOp a.eval o).run P w = .ok .skip w') (h : K (a.put o.dst undef) w') : Runs P ops Q i K a w := by
  constructor
  unfold wpOp
  simp only [hi, hw, if_true]
  left
  unfold Oper.wp
  rw [hrun]
  exact h
theorem exec_storeG {ρ : Operand → Value} {o : Oper} {x y : Operand} {T : TypeId} {g : Nat} {cs old : Array Value} (hop : o.op = .store T x y) (hx : ρ x = .pointer (some ⟨g, 0, none⟩)) (hy : ρ y = .agg cs) (w : World) (hg : Blk w g old T) (hi : (Try.prog.info? T).map (·.size) = some cs.size) (hs : old.size = cs.size) (h1 : cs.all (·.oneCell') = true) : (execOp ρ o).run Try.prog w = .ok .skip (w.setRow g cs) := by
  unfold execOp
  simp only [hop, hx, hy, Instr.storeAt, Instr.sureAddr, Sem.run_bind, Sem.run_pure, Result.andThen_ok, run_storeVar_row w g T T old cs hg hi hs h1]
/-- One cell that is put. -/
theorem run_storeVar_one (w : World) (g k : Nat) (ty : TypeId) (v : Value) (cs : Array Value) (T : TypeId) (hv : v.oneCell' = true) (hi : (Try.prog.info? ty).map (·.size) = some 1) (hg : Blk w g cs T) (hk : k < cs.size) : (storeVar ty ⟨g, k, none⟩ v).run Try.prog w = .ok () (w.setCell ⟨g, k, none⟩ v) := by
  have hc : w.cell? ⟨g, k, none⟩ = some cs[k] := hg.cell (Array.getElem?_eq_getElem hk)
  have hf := hg.frozen k
  have e : storeVar ty ⟨g, k, none⟩ v = storeVar ty ⟨g, k, none⟩ (.agg #[v]) := by
    cases v <;> first | rfl | (simp [Value.oneCell'] at hv; done)
  have ht : w.there g k (#[v] : Array Value).size := fun j hj => by
    have h0 : j = 0 := by simpa using hj
    subst h0
    exact ⟨by rw [Nat.add_zero, hc]; rfl, by rw [Nat.add_zero]; exact hf⟩
  rw [e, run_storeVar_mid w g k ty #[v] ht (by simpa using hi) (by simp [hv])]
  rfl
theorem wpList_storeC {ops : Array Oper} {rest : List Oper} {o : Oper} {a : Act} {w : World} {Q : Exit → Act → World → Prop} (hgd : o.guard = none) (hd : o.dst = none) (ty : TypeId) (x y : Operand) (ho : o.op = .store ty x y)
    (g k : Nat) (cs : Array Value) (T : TypeId) (v : Value) (hx : a.eval x = .pointer (some ⟨g, k, none⟩)) (hy : a.eval y = v) (hv : v.oneCell' = true) (hi : (Try.prog.info? ty).map (·.size) = some 1) (hg : Blk w g cs T) (hk : k < cs.size)
    (h : ∀ w1, Blk w1 g (cs.setIfInBounds k v) T → Only g w w1 → wpList Try.prog ops Q rest a w1) : wpList Try.prog ops Q (o :: rest) a w := by
  refine wpList_plain hgd fun _ hK => ?_
  have h2 := hK (a.put o.dst undef) (w.setCell ⟨g, k, none⟩ v) (by rw [hd]; exact h _ (heap_setCell_same w g k cs T v hg) (Only.setCells k v))
  unfold Oper.wp execOp
  simp only [ho, hx, hy, Instr.storeAt, Instr.sureAddr, Sem.run_bind, Sem.run_pure, Result.andThen_ok, run_storeVar_one w g k ty v cs T hv hi hg hk]
  exact h2
end Go.Proofs.Ytodoenimlhldjaa
namespace Go.Proofs.Ytodoenimlhldjaa
open Go.ChangeShapes Go.WideShapes Go.ChangeAt Go.RowKit Go.Deep
set_option linter.unusedVariables false
/-- What a state's numbers may be. -/
def SV.ok (s : SV) : Prop := s.R.length = 32 ∧ (∀ k, k < 32 → 0 ≤ s.R.getD k 0 ∧ s.R.getD k 0 < 4294967296) ∧ (0 ≤ s.hi ∧ s.hi < 4294967296) ∧ (0 ≤ s.lo ∧ s.lo < 4294967296) ∧ (0 ≤ s.pc ∧ s.pc < 4294967296) ∧ (0 ≤ s.nx ∧ s.nx < 4294967296)
theorem wf_sv {a : Int} (h : (Lit.int .u32 a).wf = true) : 0 ≤ a ∧ a < 4294967296 := by
  have : 0 ≤ a ∧ a ≤ 4294967295 := by simpa [Lit.wf, IntKind.min, IntKind.max, IntKind.signed, IntKind.bits] using h
  exact ⟨this.1, by omega⟩
theorem cells26 : Try.prog.cellsOf 26 = 37 := by kernel_rfl
theorem cellsRV : Try.prog.cellsOf 24 = 32 := by kernel_rfl
theorem cellsBV : Try.prog.cellsOf 4 = 1 := by kernel_rfl
theorem one_at {m : List Value} {i : Nat} {v : Value} (h : (m.drop i).take 1 = [v]) : m[i]? = some v := by
  have e : ((m.drop i).take 1)[0]? = some v := by rw [h]; rfl
  rw [List.getElem?_take, List.getElem?_drop] at e
  simpa using e
def numOf : Value → Int
  | .int _ n => n
  | _ => 0
theorem open_regs {H : Type} {enc : TypeId × Value → H} {w : World} {fuel : Nat} {held : Bool} {l : List Value} {x : DataW H × List MemPlace} {spare : Nat → Bool}
    (h : DataW.trod enc Try.prog w 0 spare held fuel 24 l = some x) : ∀ i, i < 32 → ∃ n : Int, l[i]? = some (.int .u32 n) ∧ 0 ≤ n ∧ n < 4294967296 := by
  obtain ⟨ys, m, _, _, _, hyl, hf⟩ := DataW.trod_array Try.underlying24 h
  intro i hi
  have g := hf i hi
  rw [cellsUV, Nat.mul_one] at g
  rw [List.getElem?_eq_getElem (by omega)] at g
  obtain ⟨n, e, _, hw⟩ := DataW.trod_int Try.underlying23 g
  exact ⟨n, one_at e, wf_sv hw⟩
theorem open_u32 {H : Type} {enc : TypeId × Value → H} {w : World} {fuel : Nat} {held : Bool} {l : List Value} {i : Nat} {x : DataW H × List MemPlace} {spare : Nat → Bool}
    (h : DataW.trod enc Try.prog w 0 spare held fuel 23 ((l.drop i).take (Try.prog.cellsOf 23)) = some x) : ∃ n : Int, l[i]? = some (.int .u32 n) ∧ 0 ≤ n ∧ n < 4294967296 := by
  rw [cellsUV] at h
  obtain ⟨n, e, _, hw⟩ := DataW.trod_int Try.underlying23 h
  exact ⟨n, one_at e, wf_sv hw⟩
set_option maxRecDepth 20000 in
theorem open_state {H : Type} {enc : TypeId × Value → H} {w : World} {fuel : Nat} {held : Bool} {cs : Array Value} {x : DataW H × List MemPlace} {spare : Nat → Bool}
    (hs : cs.size = 37) (h : DataW.trod enc Try.prog w 0 spare held fuel 26 cs.toList = some x) : ∃ s : SV, cs = s.c ∧ s.ok := by
  obtain ⟨xs, k, hk, hxy, _, hxl, hf⟩ := DataW.trod_struct Try.underlying26 h
  match xs, hxl with
  | [y0, y1, y2, y3, y4, y5], _ =>
    obtain ⟨nh, e1, w1⟩ := open_u32 (hf 1 _ rfl)
    obtain ⟨nl, e2, w2⟩ := open_u32 (hf 2 _ rfl)
    obtain ⟨np, e3, w3⟩ := open_u32 (hf 3 _ rfl)
    obtain ⟨nn, e4, w4⟩ := open_u32 (hf 4 _ rfl)
    obtain ⟨bs, e5, _⟩ := DataW.trod_bool Try.underlying4 (show _ = some y5 from hf 5 _ rfl)
    have e5b : cs.toList[36]? = some (.bool bs) := one_at (by rw [← e5]; show _ = (cs.toList.drop 36).take (Try.prog.cellsOf 4); rw [cellsBV])
    have hR := open_regs (show DataW.trod enc Try.prog w 0 spare held k 24 _ = some y0 from hf 0 _ rfl)
    have hR2 : ∀ i, i < 32 → ∃ n : Int, cs.toList[i]? = some (.int .u32 n) ∧ 0 ≤ n ∧ n < 4294967296 := fun i hi => by
      obtain ⟨n, e, hw⟩ := hR i hi
      refine ⟨n, ?_, hw⟩
      have e2 : (((cs.toList.drop 0).take (Try.prog.cellsOf 24)))[i]? = some (.int .u32 n) := e
      rw [cellsRV, List.drop_zero, List.getElem?_take, if_pos hi] at e2
      exact e2
    have hlen : ((cs.toList.take 32).map numOf).length = 32 := by simp [hs]
    have hget : ∀ i, i < 32 → ∃ n : Int, cs.toList[i]? = some (.int .u32 n) ∧ ((cs.toList.take 32).map numOf).getD i 0 = n ∧ 0 ≤ n ∧ n < 4294967296 := fun i hi => by
      obtain ⟨n, e, hw⟩ := hR2 i hi
      refine ⟨n, e, ?_, hw⟩
      rw [List.getD_eq_getElem?_getD, List.getElem?_map, List.getElem?_take, if_pos hi, e]
      rfl
    refine ⟨⟨(cs.toList.take 32).map numOf, nh, nl, np, nn, bs⟩, ?_, hlen, fun i hi => ?_, w1, w2, w3, w4⟩
    · apply Array.ext_getElem?
      intro i
      rw [← Array.getElem?_toList]
      by_cases hi : i < 32
      · obtain ⟨n, e, e2, _⟩ := hget i hi
        rw [SV.getR hlen hi, e]
        show _ = some (Value.int .u32 (((cs.toList.take 32).map numOf).getD i 0))
        rw [e2]
      · rcases (show i = 32 ∨ i = 33 ∨ i = 34 ∨ i = 35 ∨ i = 36 ∨ 37 ≤ i by omega) with rfl | rfl | rfl | rfl | rfl | h37
        · exact e1.trans (SV.get_hi (s := ⟨(cs.toList.take 32).map numOf, nh, nl, np, nn, bs⟩) hlen).symm
        · exact e2.trans (SV.get_lo (s := ⟨(cs.toList.take 32).map numOf, nh, nl, np, nn, bs⟩) hlen).symm
        · exact e3.trans (SV.get_pc (s := ⟨(cs.toList.take 32).map numOf, nh, nl, np, nn, bs⟩) hlen).symm
        · exact e4.trans (SV.get_nx (s := ⟨(cs.toList.take 32).map numOf, nh, nl, np, nn, bs⟩) hlen).symm
        · exact e5b.trans (SV.get_sl (s := ⟨(cs.toList.take 32).map numOf, nh, nl, np, nn, bs⟩) hlen).symm
        · rw [List.getElem?_eq_none (by rw [Array.length_toList, hs]; exact h37), Array.getElem?_eq_none (by rw [SV.size hlen]; exact h37)]
    · obtain ⟨n, _, e2, hw⟩ := hget i hi
      rw [e2]
      exact hw
end Go.Proofs.Ytodoenimlhldjaa
namespace Go.Proofs.Ytodoenimlhldjaa
open Go.ChangeShapes Go.WideShapes Go.ChangeAt Go.RowKit
set_option linter.unusedVariables false
/-- On. -/
def SV.on (v : SV) : SV := { v with R := v.R.set 0 0, pc := v.nx, nx := (v.nx + 4) % 4294967296, sl := false }
theorem sizeU1 : (Try.prog.info? 23).map (·.size) = some 1 := by kernel_rfl
theorem sizeB1 : (Try.prog.info? 4).map (·.size) = some 1 := by kernel_rfl
theorem SV.set0 {v : SV} (h : v.R.length = 32) : v.c.setIfInBounds 0 (.int .u32 0) = SV.c { v with R := v.R.set 0 0 } := SV.setR h (by omega) 0
/-- A register's place. -/
theorem index_reg (g k : Nat) (hk : k < 32) (u : World) : (Instr.indexAt 24 (.pointer (some ⟨g, 0, none⟩)) (.int .i64 (k : Int))).run Try.prog u = .ok (.pointer (some ⟨g, k, none⟩)) u := by
  have h1 : (k : Int) < ((32 : Nat) : Int) := by omega
  have hz : (sizeOf (Try.prog.elem 24)).run Try.prog u = .ok 1 u := by kernel_rfl
  have ha : Try.prog.arrayLen 24 = 32 := by kernel_rfl
  simp [Instr.indexAt, Sem.run_bind, run_underlying Try.underlying24, asIntOf, hk, go_sem, Addr.add]
  try (intro e; exact e.symm)
theorem wpList_setR {ops : Array Oper} {rest : List Oper} {o : Oper} {a : Act} {w : World} {Q : Exit → Act → World → Prop} (hgd : o.guard = none) (hd : o.dst = none) (x y : Operand) (ho : o.op = .store 23 x y)
    (g k : Nat) (v : SV) (z : Int) (hx : a.eval x = .pointer (some ⟨g, k, none⟩)) (hy : a.eval y = .int .u32 z) (hg : Blk w g v.c 26) (hv : v.R.length = 32) (hk : k < 32)
    (h : ∀ w1, Blk w1 g (SV.c { v with R := v.R.set k z }) 26 → Only g w w1 → wpList Try.prog ops Q rest a w1) : wpList Try.prog ops Q (o :: rest) a w :=
  wpList_storeC hgd hd 23 x y ho g k v.c 26 (.int .u32 z) hx hy rfl sizeU1 hg (by rw [SV.size hv]; omega) (fun w1 k1 o1 => h w1 (by rw [SV.setR hv hk] at k1; exact k1) o1)
theorem wpList_set_hi {ops : Array Oper} {rest : List Oper} {o : Oper} {a : Act} {w : World} {Q : Exit → Act → World → Prop} (hgd : o.guard = none) (hd : o.dst = none) (x y : Operand) (ho : o.op = .store 23 x y)
    (g : Nat) (v : SV) (z : Int) (hx : a.eval x = .pointer (some ⟨g, 32, none⟩)) (hy : a.eval y = .int .u32 z) (hg : Blk w g v.c 26) (hv : v.R.length = 32)
    (h : ∀ w1, Blk w1 g (SV.c { v with hi := z }) 26 → Only g w w1 → wpList Try.prog ops Q rest a w1) : wpList Try.prog ops Q (o :: rest) a w :=
  wpList_storeC hgd hd 23 x y ho g 32 v.c 26 (.int .u32 z) hx hy rfl sizeU1 hg (by rw [SV.size hv]; omega) (fun w1 k1 o1 => h w1 (by rw [SV.set_hi hv] at k1; exact k1) o1)
theorem wpList_set_lo {ops : Array Oper} {rest : List Oper} {o : Oper} {a : Act} {w : World} {Q : Exit → Act → World → Prop} (hgd : o.guard = none) (hd : o.dst = none) (x y : Operand) (ho : o.op = .store 23 x y)
    (g : Nat) (v : SV) (z : Int) (hx : a.eval x = .pointer (some ⟨g, 33, none⟩)) (hy : a.eval y = .int .u32 z) (hg : Blk w g v.c 26) (hv : v.R.length = 32)
    (h : ∀ w1, Blk w1 g (SV.c { v with lo := z }) 26 → Only g w w1 → wpList Try.prog ops Q rest a w1) : wpList Try.prog ops Q (o :: rest) a w :=
  wpList_storeC hgd hd 23 x y ho g 33 v.c 26 (.int .u32 z) hx hy rfl sizeU1 hg (by rw [SV.size hv]; omega) (fun w1 k1 o1 => h w1 (by rw [SV.set_lo hv] at k1; exact k1) o1)
theorem wpList_set_pc {ops : Array Oper} {rest : List Oper} {o : Oper} {a : Act} {w : World} {Q : Exit → Act → World → Prop} (hgd : o.guard = none) (hd : o.dst = none) (x y : Operand) (ho : o.op = .store 23 x y)
    (g : Nat) (v : SV) (z : Int) (hx : a.eval x = .pointer (some ⟨g, 34, none⟩)) (hy : a.eval y = .int .u32 z) (hg : Blk w g v.c 26) (hv : v.R.length = 32)
    (h : ∀ w1, Blk w1 g (SV.c { v with pc := z }) 26 → Only g w w1 → wpList Try.prog ops Q rest a w1) : wpList Try.prog ops Q (o :: rest) a w :=
  wpList_storeC hgd hd 23 x y ho g 34 v.c 26 (.int .u32 z) hx hy rfl sizeU1 hg (by rw [SV.size hv]; omega) (fun w1 k1 o1 => h w1 (by rw [SV.set_pc hv] at k1; exact k1) o1)
theorem wpList_set_nx {ops : Array Oper} {rest : List Oper} {o : Oper} {a : Act} {w : World} {Q : Exit → Act → World → Prop} (hgd : o.guard = none) (hd : o.dst = none) (x y : Operand) (ho : o.op = .store 23 x y)
    (g : Nat) (v : SV) (z : Int) (hx : a.eval x = .pointer (some ⟨g, 35, none⟩)) (hy : a.eval y = .int .u32 z) (hg : Blk w g v.c 26) (hv : v.R.length = 32)
    (h : ∀ w1, Blk w1 g (SV.c { v with nx := z }) 26 → Only g w w1 → wpList Try.prog ops Q rest a w1) : wpList Try.prog ops Q (o :: rest) a w :=
  wpList_storeC hgd hd 23 x y ho g 35 v.c 26 (.int .u32 z) hx hy rfl sizeU1 hg (by rw [SV.size hv]; omega) (fun w1 k1 o1 => h w1 (by rw [SV.set_nx hv] at k1; exact k1) o1)
theorem wpList_set_sl {ops : Array Oper} {rest : List Oper} {o : Oper} {a : Act} {w : World} {Q : Exit → Act → World → Prop} (hgd : o.guard = none) (hd : o.dst = none) (x y : Operand) (ho : o.op = .store 4 x y)
    (g : Nat) (v : SV) (z : Bool) (hx : a.eval x = .pointer (some ⟨g, 36, none⟩)) (hy : a.eval y = .bool z) (hg : Blk w g v.c 26) (hv : v.R.length = 32)
    (h : ∀ w1, Blk w1 g (SV.c { v with sl := z }) 26 → Only g w w1 → wpList Try.prog ops Q rest a w1) : wpList Try.prog ops Q (o :: rest) a w :=
  wpList_storeC hgd hd 4 x y ho g 36 v.c 26 (.bool z) hx hy rfl sizeB1 hg (by rw [SV.size hv]; omega) (fun w1 k1 o1 => h w1 (by rw [SV.set_sl hv] at k1; exact k1) o1)
theorem SV.ok_set {v : SV} (h : v.ok) (k : Nat) (z : Int) (h0 : 0 ≤ z) (h1 : z < 4294967296) : SV.ok { v with R := v.R.set k z } := by
  refine ⟨by simpa using h.1, fun j hj => ?_, h.2.2⟩
  show 0 ≤ (v.R.set k z).getD j 0 ∧ (v.R.set k z).getD j 0 < 4294967296
  rw [List.getD_eq_getElem?_getD, List.getElem?_set]
  have hl := h.1
  by_cases e : k = j
  · rw [if_pos e]
    split
    · exact ⟨h0, h1⟩
    · omega
  · rw [if_neg e, ← List.getD_eq_getElem?_getD]
    exact h.2.1 j hj
theorem SV.ok_on {v : SV} (h : v.ok) : v.on.ok := by
  have h2 := SV.ok_set h 0 0 (by omega) (by omega)
  exact ⟨h2.1, h2.2.1, h.2.2.1, h.2.2.2.1, h.2.2.2.2.2, by show 0 ≤ (v.nx + 4) % 4294967296 ∧ (v.nx + 4) % 4294967296 < 4294967296; omega⟩
set_option maxRecDepth 20000 in
set_option maxHeartbeats 1000000 in
theorem on_any (v : SV) (hv : v.R.length = 32) (w : World) : Calls Try.prog 35 #[.agg v.c] w fun e w' => e = .returned (.agg v.on.c) ∧ Below w.heap.size w w' := by
  obtain ⟨n, hn⟩ : ∃ n, w.heap.size = n := ⟨_, rfl⟩
  have HV := hidden hv
  have hix : ∀ u, (Instr.indexAt 24 (.pointer (some ⟨n, 0, none⟩)) (.int .i64 0)).run Try.prog u = .ok (.pointer (some ⟨n, 0, none⟩)) u := fun u => index_reg n 0 (by omega) u
  obtain ⟨C, hC⟩ : ∃ C, v.c = C := ⟨_, rfl⟩
  rw [hC]
  have HC := hidden hC
  clear hC hv
  go_enter Try.func35, Try.ntmps35
  go_wp2_with (first
    | (refine wpList_boxG rfl 26 _ rfl C rfl ?_; rintro w1 k1 s1 b1; rw [hn] at k1 s1 b1 ⊢; have K1 : Hid (Blk w1 n v.c 26) := hidden (by rw [HC.out]; exact k1); have S1 := hidden s1; have B1 := hidden b1; clear k1 s1 b1)
    | (refine wpList_allocV rfl rfl ?_; rintro w2 k2 s2 b2; rw [S1.out] at k2 s2 b2 ⊢; have K2 := hidden (K1.out.later (by rw [S1.out]; exact b2)); have R2 := hidden k2; have B2 := hidden (B1.out.trans (b2.mono (by omega))); clear k2 s2 b2)
    | (refine wpList_setR rfl rfl _ _ rfl n 0 v 0 rfl rfl K2.out HV.out (by omega) ?_; rintro w3 k3 o3; have K3 := hidden k3; have R3 := hidden (R2.out.only o3 (by omega)); have B3 := hidden (Below.only B2.out o3 (Nat.le_refl n)); have L3 : Hid ((v.R.set 0 0).length = 32) := hidden (by rw [List.length_set]; exact HV.out); have c3 : w3.cell? ⟨n, 35, none⟩ = some (.int .u32 v.nx) := k3.cell (SV.get_nx (s := { v with R := v.R.set 0 0 }) L3.out); clear k3 o3)
    | (refine wpList_set_pc rfl rfl _ _ rfl n { v with R := v.R.set 0 0 } v.nx rfl rfl K3.out L3.out ?_; rintro w4 k4 o4; have K4 := hidden k4; have R4 := hidden (R3.out.only o4 (by omega)); have B4 := hidden (Below.only B3.out o4 (Nat.le_refl n)); clear k4 o4 c3)
    | (refine wpList_set_nx rfl rfl _ _ rfl n { v with R := v.R.set 0 0, pc := v.nx } ((v.nx + 4) % 4294967296) rfl rfl K4.out L3.out ?_; rintro w5 k5 o5; have K5 := hidden k5; have R5 := hidden (R4.out.only o5 (by omega)); have B5 := hidden (Below.only B4.out o5 (Nat.le_refl n)); clear k5 o5)
    | (refine wpList_set_sl rfl rfl _ _ rfl n { v with R := v.R.set 0 0, pc := v.nx, nx := (v.nx + 4) % 4294967296 } false rfl rfl K5.out L3.out ?_; rintro w6 k6 o6; have K6 := hidden k6; have R6 := hidden (R5.out.only o6 (by omega)); have B6 := hidden (Below.only B5.out o6 (Nat.le_refl n)); clear k6 o6)
    | (refine wpList_loadV rfl _ rfl n v.on rfl K6.out L3.out ?_)
    | (refine wpList_storeV rfl rfl _ _ rfl (n + 1) SV.zero v.on rfl rfl R6.out rfl L3.out ?_; rintro w7 k7 o7; have K7 := hidden k7; have B7 := hidden (Below.only B6.out o7 (by omega)); clear k7 o7))
  exact bodyPost_ret (results_cell_row rfl _ _ (n + 1) 26 v.on.c (0, 0) _ rfl K7.out Try.underlying26 rfl (by rw [SV.size L3.out]; exact sizeSV)) rfl ⟨rfl, (by first | exact B7.out | (rw [hn]; exact B7.out))⟩
end Go.Proofs.Ytodoenimlhldjaa
namespace Go.Proofs.Ytodoenimlhldjaa
open Go.ChangeShapes Go.WideShapes Go.ChangeAt Go.RowKit
set_option linter.unusedVariables false
theorem getD_ext {d m : List Nat} (hl : m.length = d.length) (h : ∀ p, p < d.length → m.getD p 0 = d.getD p 0) : m = d := by
  refine List.ext_getElem hl fun p h1 h2 => ?_
  have := h p h2
  rw [List.getD_eq_getElem?_getD, List.getD_eq_getElem?_getD, List.getElem?_eq_getElem h1, List.getElem?_eq_getElem h2] at this
  simpa using this
theorem Turned.len {d m : List Nat} {a b : Nat} (h : Turned d m a b) : m.length = d.length := h.perm.length_eq
theorem Turned.inner {d m : List Nat} {a b : Nat} (h : Turned d m a b) (hab : a ≤ b) : ((m.drop a).take (b - a)).Perm ((d.drop a).take (b - a)) := by
  have hl := h.len
  have e1 : m.take a = d.take a := by
    refine getD_ext (by simp [hl]) fun p hp => ?_
    have hp2 : p < a := by simp at hp; omega
    have := h.out p (Or.inl hp2)
    simpa [List.getD_eq_getElem?_getD, List.getElem?_take, hp2] using this
  have e2 : m.drop b = d.drop b := by
    refine getD_ext (by simp [hl]) fun p hp => ?_
    have := h.out (b + p) (Or.inr (by omega))
    simpa [List.getD_eq_getElem?_getD, List.getElem?_drop] using this
  have s : ∀ l : List Nat, l = l.take a ++ ((l.drop a).take (b - a) ++ l.drop b) := fun l => by
    have h2 : (l.drop a).drop (b - a) = l.drop b := by rw [List.drop_drop]; congr 1; omega
    rw [← h2, List.take_append_drop, List.take_append_drop]
  have hp := h.perm
  rw [s m, s d, e1, e2] at hp
  exact (List.perm_append_right_iff _).1 ((List.perm_append_left_iff _).1 hp)
theorem mem_inner {l : List Nat} {a b : Nat} (hb : b ≤ l.length) (x : Nat) : x ∈ (l.drop a).take (b - a) ↔ ∃ p, a ≤ p ∧ p < b ∧ l.getD p 0 = x := by
  constructor
  · intro h
    obtain ⟨k, hk, rfl⟩ := List.getElem_of_mem h
    have hk2 : k < b - a := by simp at hk; omega
    refine ⟨a + k, by omega, by omega, ?_⟩
    rw [List.getElem_take, List.getElem_drop, List.getD_eq_getElem?_getD, List.getElem?_eq_getElem (by omega)]
    rfl
  · rintro ⟨p, h1, h2, rfl⟩
    have h3 : p - a < ((l.drop a).take (b - a)).length := by simp; omega
    have h4 := List.getElem_mem h3
    rw [List.getElem_take, List.getElem_drop] at h4
    have e : a + (p - a) = p := by omega
    rw [List.getD_eq_getElem?_getD, List.getElem?_eq_getElem (by omega)]
    simpa [e] using h4
/-- What holds of all between a and b holds of them when turned. -/
theorem Turned.all {d m : List Nat} {a b : Nat} (h : Turned d m a b) (hab : a ≤ b) (hb : b ≤ d.length) (P : Nat → Prop) (hP : ∀ p, a ≤ p → p < b → P (d.getD p 0)) : ∀ p, a ≤ p → p < b → P (m.getD p 0) := by
  intro p h1 h2
  have h3 : m.getD p 0 ∈ (m.drop a).take (b - a) := (mem_inner (by rw [h.len]; exact hb) _).2 ⟨p, h1, h2, rfl⟩
  obtain ⟨q, h4, h5, h6⟩ := (mem_inner hb _).1 ((h.inner hab).mem_iff.1 h3)
  rw [← h6]
  exact hP q h4 h5
theorem Turned.wide {d m : List Nat} {a b a2 b2 : Nat} (h : Turned d m a b) (ha : a2 ≤ a) (hb : b ≤ b2) : Turned d m a2 b2 := ⟨h.perm, fun p hp => h.out p (by omega)⟩
/-- A heap at f: from lo on, ahead of hi, none is above the one that it hangs at. -/
def Heap (d : List Nat) (f lo hi : Nat) : Prop := ∀ p c, lo ≤ p → c < hi → (c = 2 * p + 1 ∨ c = 2 * p + 2) → d.getD (f + c) 0 ≤ d.getD (f + p) 0
/-- On the way: the one at r goes down. -/
structure Sift (d : List Nat) (f lo hi r : Nat) : Prop where
  le : lo ≤ r
  others : ∀ p c, lo ≤ p → p ≠ r → c < hi → (c = 2 * p + 1 ∨ c = 2 * p + 2) → d.getD (f + c) 0 ≤ d.getD (f + p) 0
  over : ∀ p c, lo ≤ p → (r = 2 * p + 1 ∨ r = 2 * p + 2) → c < hi → (c = 2 * r + 1 ∨ c = 2 * r + 2) → d.getD (f + c) 0 ≤ d.getD (f + p) 0
theorem Sift.start {d : List Nat} {f lo hi : Nat} (h : Heap d f (lo + 1) hi) : Sift d f lo hi lo := ⟨Nat.le_refl _, fun p c h1 h2 h3 h4 => h p c (by omega) h3 h4, fun p c h1 h2 h3 h4 => by omega⟩
theorem Sift.leaf {d : List Nat} {f lo hi r : Nat} (h : Sift d f lo hi r) (hr : hi ≤ 2 * r + 1) : Heap d f lo hi := by
  intro p c h1 h2 h3
  by_cases e : p = r
  · omega
  · exact h.others p c h1 e h2 h3
theorem Sift.stop {d : List Nat} {f lo hi r : Nat} (h : Sift d f lo hi r) (hs : ∀ c, c < hi → (c = 2 * r + 1 ∨ c = 2 * r + 2) → d.getD (f + c) 0 ≤ d.getD (f + r) 0) : Heap d f lo hi := by
  intro p c h1 h2 h3
  by_cases e : p = r
  · subst e; exact hs c h2 h3
  · exact h.others p c h1 e h2 h3
theorem Sift.step {d : List Nat} {f lo hi r x : Nat} (h : Sift d f lo hi r) (hx : x < hi) (hx2 : x = 2 * r + 1 ∨ x = 2 * r + 2) (hl : f + hi ≤ d.length) (hs : d.getD (f + r) 0 < d.getD (f + x) 0)
    (hbig : ∀ c, c < hi → (c = 2 * r + 1 ∨ c = 2 * r + 2) → d.getD (f + c) 0 ≤ d.getD (f + x) 0) : Sift (swp d (f + r) (f + x)) f lo hi x := by
  have hle := h.le
  have hg := fun k => swp_get d (i := f + r) (j := f + x) (by omega) (by omega) k
  refine ⟨by omega, fun p c h1 h2 h3 h4 => ?_, fun p c h1 h2 h3 h4 => ?_⟩
  · rw [hg (f + c), hg (f + p), if_neg (c := f + p = f + x) (by omega)]
    by_cases e : p = r
    · subst e
      rw [if_pos (c := f + p = f + p) rfl]
      by_cases e2 : c = x
      · rw [if_pos (by omega)]; omega
      · rw [if_neg (by omega), if_neg (by omega)]
        exact hbig c h3 h4
    · rw [if_neg (c := f + p = f + r) (by omega), if_neg (c := f + c = f + x) (by omega)]
      by_cases e3 : c = r
      · rw [if_pos (by omega)]
        exact h.over p x h1 (by omega) hx hx2
      · rw [if_neg (by omega)]
        exact h.others p c h1 e h3 h4
  · have e : p = r := by omega
    subst e
    rw [hg (f + c), hg (f + p), if_neg (by omega), if_neg (by omega), if_neg (by omega), if_pos rfl]
    exact h.others x c (by omega) (by omega) h3 h4
theorem Heap.top {d : List Nat} {f hi : Nat} (h : Heap d f 0 hi) : ∀ c, c < hi → d.getD (f + c) 0 ≤ d.getD f 0 := by
  intro c
  induction c using Nat.strongRecOn with
  | _ c ih =>
    intro hc
    by_cases e : c = 0
    · subst e; exact Nat.le_refl _
    · exact Nat.le_trans (h ((c - 1) / 2) c (by omega) hc (by omega)) (ih ((c - 1) / 2) (by omega) (by omega))
/-- The greatest goes behind the rest: what the popping keeps. -/
structure Pop (m : List Nat) (a n i : Nat) : Prop where
  heap : Heap m a 0 i
  sorted : SortedOn m (a + i) (a + n)
  cross : ∀ p q, a ≤ p → p < a + i → a + i ≤ q → q < a + n → m.getD p 0 ≤ m.getD q 0
theorem Pop.sift {m : List Nat} {a n j : Nat} (h : Pop m a n (j + 1)) (hj : j < n) (hl : a + n ≤ m.length) : Heap (swp m a (a + j)) a 1 j := by
  intro p c h1 h2 h3
  have hg := fun k => swp_get m (i := a) (j := a + j) (by omega) (by omega) k
  rw [hg (a + c), hg (a + p), if_neg (by omega), if_neg (by omega), if_neg (by omega), if_neg (by omega)]
  exact h.heap p c (by omega) (by omega) h3
theorem Pop.step {m k : List Nat} {a n j : Nat} (h : Pop m a n (j + 1)) (hj : j < n) (hl : a + n ≤ m.length) (hT : Turned (swp m a (a + j)) k a (a + j)) (hk : Heap k a 0 j) : Pop k a n j := by
  have hg := fun k => swp_get m (i := a) (j := a + j) (by omega) (by omega) k
  have hout := fun q (hq : a + j ≤ q) => (hT.out q (Or.inr hq)).trans (hg q)
  refine ⟨hk, fun p q h1 h2 h3 => ?_, fun p q h1 h2 h3 h4 => ?_⟩
  · rw [hout p h1, hout q (by omega), if_neg (c := q = a + j) (by omega), if_neg (c := q = a) (by omega)]
    by_cases e : p = a + j
    · rw [if_pos e]
      exact h.cross a q (Nat.le_refl _) (by omega) (by omega) h3
    · rw [if_neg e, if_neg (by omega)]
      exact h.sorted p q (by omega) h2 h3
  · rw [hout q h3]
    refine hT.all (by omega) (by rw [swp_len]; omega) (fun x => x ≤ _) (fun p' g1 g2 => ?_) p h1 h2
    show (swp m a (a + j)).getD p' 0 ≤ _
    have htop := h.heap.top
    rw [hg p', if_neg (c := p' = a + j) (by omega)]
    by_cases e : q = a + j
    · rw [if_pos e]
      by_cases e2 : p' = a
      · rw [if_pos e2]; exact htop j (by omega)
      · rw [if_neg e2]
        have := htop (p' - a) (by omega)
        rwa [show a + (p' - a) = p' from by omega] at this
    · rw [if_neg e, if_neg (c := q = a) (by omega)]
      by_cases e2 : p' = a
      · rw [if_pos e2]; exact h.cross (a + j) q (by omega) (by omega) (by omega) h4
      · rw [if_neg e2]; exact h.cross p' q (by omega) (by omega) (by omega) h4
end Go.Proofs.Ytodoenimlhldjaa
