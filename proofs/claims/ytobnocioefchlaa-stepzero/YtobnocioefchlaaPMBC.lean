/- Relations of worlds that say what a region has put. -/
import Derived.Test.YtobnocioefchlaaPMAY
import Derived.Test.YtobnocioefchlaaPMAI
import Derived.Test.YtobnocioefchlaaPMAC
import Derived.Test.YtobnocioefchlaaPAluPlain
namespace Go.Proofs.Ytobnocioefchlaa
open Go.ChangeShapes Go.WideShapes Go.ChangeAt Go.RowKit
set_option linter.unusedVariables false
/-- Blocks are as they were, but those of F, which may have become what F says; above there may be new ones. -/
structure RF (F : List (Nat × Obj)) (u w : World) : Prop where
  os : w.os = u.os
  tape : w.tape = u.tape
  output : w.output = u.output
  size : u.heap.size ≤ w.heap.size
  block : ∀ b, b < u.heap.size → w.heap[b]? = u.heap[b]? ∨ ∃ o, (b, o) ∈ F ∧ w.heap[b]? = some o
theorem later_rf (F : List (Nat × Obj)) : Later (RF F) :=
  ⟨fun w => ⟨rfl, rfl, rfl, Nat.le_refl _, fun _ _ => .inl rfl⟩, fun u v w h k => ⟨k.os.trans h.os, k.tape.trans h.tape, k.output.trans h.output, Nat.le_trans h.size k.size, fun b hb => by
    rcases k.block b (Nat.lt_of_lt_of_le hb h.size) with e | e
    · rw [e]; exact h.block b hb
    · exact .inr e⟩, fun w => ⟨rfl, rfl, rfl, Nat.le_refl _, fun _ _ => .inl rfl⟩⟩
theorem RF.of_below {F : List (Nat × Obj)} {u w : World} (h : Below u.heap.size u w) : RF F u w := ⟨h.os, h.tape, h.output, h.size, fun b hb => .inl (h.block b hb)⟩
theorem RF.of_only {F : List (Nat × Obj)} {u w : World} {g : Nat} {cs : Array Value} {T : TypeId} (h : Only g u w) (hg : Blk w g cs T) (hF : (g, Obj.cells cs T (0, 0)) ∈ F) : RF F u w :=
  ⟨h.os, h.tape, h.output, Nat.le_of_eq h.size.symm, fun b hb => by
    by_cases e : b = g
    · subst e; exact .inr ⟨_, hF, hg⟩
    · exact .inl (h.block b e)⟩
theorem RF.blk {F : List (Nat × Obj)} {u w : World} (h : RF F u w) {b : Nat} {cs : Array Value} {T : TypeId} (hb : Blk u b cs T) (hF : ∀ o, (b, o) ∈ F → o = Obj.cells cs T (0, 0)) : Blk w b cs T := by
  rcases h.block b hb.lt with e | ⟨o, ho, e⟩
  · exact e.trans hb
  · rw [hF o ho] at e; exact e
theorem RF.below {F : List (Nat × Obj)} {u w : World} (h : RF F u w) {N : Nat} (hN : N ≤ u.heap.size) (hF : ∀ x ∈ F, N ≤ x.1) : Below N u w := ⟨h.os, h.tape, h.output, h.size, fun b hb => by
  rcases h.block b (by omega) with e | ⟨o, ho, _⟩
  · exact e
  · have := hF _ ho; simp at this; omega⟩
theorem RF.some {F : List (Nat × Obj)} {u w : World} (h : RF F u w) {b n : Nat} {T : TypeId} (hb : ∃ old : Array Value, old.size = n ∧ Blk u b old T) (hF : ∀ o, (b, o) ∈ F → ∃ cs : Array Value, cs.size = n ∧ o = Obj.cells cs T (0, 0)) : ∃ old : Array Value, old.size = n ∧ Blk w b old T := by
  obtain ⟨old, hs, hb⟩ := hb
  rcases h.block b hb.lt with e | ⟨o, ho, e⟩
  · exact ⟨old, hs, e.trans hb⟩
  · obtain ⟨cs, h1, h2⟩ := hF o ho
    rw [h2] at e; exact ⟨cs, h1, e⟩
/-- Blocks from N on may turn from z to c. -/
structure RZ (N : Nat) (z c : Obj) (u w : World) : Prop where
  os : w.os = u.os
  tape : w.tape = u.tape
  output : w.output = u.output
  size : u.heap.size ≤ w.heap.size
  block : ∀ b, b < u.heap.size → w.heap[b]? = u.heap[b]? ∨ (N ≤ b ∧ u.heap[b]? = some z ∧ w.heap[b]? = some c)
theorem later_rz (N : Nat) (z c : Obj) : Later (RZ N z c) :=
  ⟨fun w => ⟨rfl, rfl, rfl, Nat.le_refl _, fun _ _ => .inl rfl⟩, fun u v w h k => ⟨k.os.trans h.os, k.tape.trans h.tape, k.output.trans h.output, Nat.le_trans h.size k.size, fun b hb => by
    rcases k.block b (Nat.lt_of_lt_of_le hb h.size) with e | ⟨e0, e1, e2⟩
    · rw [e]; exact h.block b hb
    · rcases h.block b hb with f | ⟨f0, f1, f2⟩
      · exact .inr ⟨e0, f.symm.trans e1, e2⟩
      · exact .inr ⟨f0, f1, e2⟩⟩, fun w => ⟨rfl, rfl, rfl, Nat.le_refl _, fun _ _ => .inl rfl⟩⟩
theorem RZ.of_below {N : Nat} {z c : Obj} {u w : World} (h : Below u.heap.size u w) : RZ N z c u w := ⟨h.os, h.tape, h.output, h.size, fun b hb => .inl (h.block b hb)⟩
theorem RZ.of_only {N : Nat} {u w : World} {g : Nat} {z cs : Array Value} {T : TypeId} (h : Only g u w) (hz : Blk u g z T) (hg : Blk w g cs T) (hN : N ≤ g) : RZ N (.cells z T (0, 0)) (.cells cs T (0, 0)) u w :=
  ⟨h.os, h.tape, h.output, Nat.le_of_eq h.size.symm, fun b hb => by
    by_cases e : b = g
    · subst e; exact .inr ⟨hN, hz, hg⟩
    · exact .inl (h.block b e)⟩
theorem RZ.of_put {N : Nat} {u w : World} {g : Nat} {z cs : Array Value} {T : TypeId} (h : Only g u w) (hz : Blk u g z T ∨ Blk u g cs T) (hg : Blk w g cs T) (hN : N ≤ g) : RZ N (.cells z T (0, 0)) (.cells cs T (0, 0)) u w := by
  rcases hz with hz | hz
  · exact RZ.of_only h hz hg hN
  · exact ⟨h.os, h.tape, h.output, Nat.le_of_eq h.size.symm, fun b hb => by
      by_cases e : b = g
      · subst e; exact .inl (hg.trans hz.symm)
      · exact .inl (h.block b e)⟩
theorem RZ.blk {N : Nat} {z c : Obj} {u w : World} (h : RZ N z c u w) {b : Nat} {cs : Array Value} {T : TypeId} (hb : Blk u b cs T) (hn : Obj.cells cs T (0, 0) ≠ z) : Blk w b cs T := by
  rcases h.block b hb.lt with e | ⟨_, e, _⟩
  · exact e.trans hb
  · have h2 : some (Obj.cells cs T (0, 0)) = some z := hb.symm.trans e
    exact absurd (Option.some.inj h2) hn
theorem RZ.last {N : Nat} {z : Obj} {u w : World} {b : Nat} {cs : Array Value} {T : TypeId} (h : RZ N z (.cells cs T (0, 0)) u w) (hb : Blk u b cs T) : Blk w b cs T := by
  rcases h.block b hb.lt with e | ⟨_, _, e⟩
  · exact e.trans hb
  · exact e
theorem RZ.one {N : Nat} {z cs : Array Value} {T : TypeId} {u w : World} {b : Nat} (h : RZ N (.cells z T (0, 0)) (.cells cs T (0, 0)) u w) (hb : Blk u b z T ∨ Blk u b cs T) : Blk w b z T ∨ Blk w b cs T := by
  rcases hb with hb | hb
  · rcases h.block b hb.lt with e | ⟨_, _, e⟩
    · exact .inl (e.trans hb)
    · exact .inr e
  · exact .inr (h.last hb)
theorem RZ.below {N : Nat} {z c : Obj} {u w : World} (h : RZ N z c u w) (hN : N ≤ u.heap.size) : Below N u w := ⟨h.os, h.tape, h.output, h.size, fun b hb => by
  rcases h.block b (by omega) with e | ⟨e, _⟩
  · exact e
  · omega⟩
theorem wpOp_put {P : Program} {ops : Array Oper} {Q : Exit → Act → World → Prop} {a : Act} {w w' : World} {K : Act → World → Prop} {i : Nat} {o : Oper} (hi : ops[i]? = some o) (hw : Region.wanted o (yielded ops a.tmps) = true) (hrun : (execOp a.eval o).run P w = .ok .skip w') (h : K (a.put o.dst undef) w') : Runs P ops Q i K a w := by
  constructor
  unfold wpOp
  simp only [hi, hw, if_true]
  left
  unfold Oper.wp
  rw [hrun]
  exact h
theorem exec_storeG {ρ : Operand → Value} {o : Oper} {x y : Operand} {T : TypeId} {g : Nat} {cs old : Array Value} (hop : o.op = .store T x y) (hx : ρ x = .pointer (some ⟨g, 0, none⟩)) (hy : ρ y = .agg cs) (w : World) (hg : Blk w g old T) (hi : (Try.prog.info? T).map (·.size) = some cs.size) (hs : old.size = cs.size) (h1 : cs.all (·.oneCell') = true) : (execOp ρ o).run Try.prog w = .ok .skip (w.setRow g cs) := by
  unfold execOp
  simp only [hop, hx, hy, Instr.storeAt, Instr.sureAddr, Sem.run_bind, Sem.run_pure, Result.andThen_ok, run_storeVar_row w g T T old cs hg hi hs h1]
/-- One cell that is put. -/
theorem run_storeVar_one (w : World) (g k : Nat) (ty : TypeId) (v : Value) (cs : Array Value) (T : TypeId) (hv : v.oneCell' = true) (hi : (Try.prog.info? ty).map (·.size) = some 1) (hg : Blk w g cs T) (hk : k < cs.size) : (storeVar ty ⟨g, k, none⟩ v).run Try.prog w = .ok () (w.setCell ⟨g, k, none⟩ v) := by
  have hc : w.cell? ⟨g, k, none⟩ = some cs[k] := hg.cell (Array.getElem?_eq_getElem hk)
  have hf := hg.frozen k
  have e : storeVar ty ⟨g, k, none⟩ v = storeVar ty ⟨g, k, none⟩ (.agg #[v]) := by
    cases v <;> first | rfl | (simp [Value.oneCell'] at hv; done)
  have ht : w.there g k (#[v] : Array Value).size := fun j hj => by
    have h0 : j = 0 := by simpa using hj
    subst h0
    exact ⟨by rw [Nat.add_zero, hc]; rfl, by rw [Nat.add_zero]; exact hf⟩
  rw [e, run_storeVar_mid w g k ty #[v] ht (by simpa using hi) (by simp [hv])]
  rfl
theorem wpList_storeC {ops : Array Oper} {rest : List Oper} {o : Oper} {a : Act} {w : World} {Q : Exit → Act → World → Prop} (hgd : o.guard = none) (hd : o.dst = none) (ty : TypeId) (x y : Operand) (ho : o.op = .store ty x y)
    (g k : Nat) (cs : Array Value) (T : TypeId) (v : Value) (hx : a.eval x = .pointer (some ⟨g, k, none⟩)) (hy : a.eval y = v) (hv : v.oneCell' = true) (hi : (Try.prog.info? ty).map (·.size) = some 1) (hg : Blk w g cs T) (hk : k < cs.size)
    (h : ∀ w1, Blk w1 g (cs.setIfInBounds k v) T → Only g w w1 → wpList Try.prog ops Q rest a w1) : wpList Try.prog ops Q (o :: rest) a w := by
  refine wpList_plain hgd fun _ hK => ?_
  have h2 := hK (a.put o.dst undef) (w.setCell ⟨g, k, none⟩ v) (by rw [hd]; exact h _ (heap_setCell_same w g k cs T v hg) (Only.setCells k v))
  unfold Oper.wp execOp
  simp only [ho, hx, hy, Instr.storeAt, Instr.sureAddr, Sem.run_bind, Sem.run_pure, Result.andThen_ok, run_storeVar_one w g k ty v cs T hv hi hg hk]
  exact h2
end Go.Proofs.Ytobnocioefchlaa
namespace Go.Proofs.Ytobnocioefchlaa
open Go.ChangeShapes Go.WideShapes Go.ChangeAt Go.RowKit
set_option linter.unusedVariables false
theorem mix_3 (s t : Int) (h1 : 0 ≤ s) (h2 : s < 4294967296) (h3 : 0 ≤ t) (h4 : t < 4294967296) (w : World) : Calls Try.prog 80 #[.int .i64 3, .int .u32 s, .int .u32 t] w fun e w' => e = .returned (.int .u32 (bits .and .u32 s t)) ∧ w' = w := by
  go_enter Try.func80, Try.ntmps80
  go_wp2
  go_ret
  exact ⟨ret_int rfl, rfl⟩
theorem mix_4 (s t : Int) (h1 : 0 ≤ s) (h2 : s < 4294967296) (h3 : 0 ≤ t) (h4 : t < 4294967296) (w : World) : Calls Try.prog 80 #[.int .i64 4, .int .u32 s, .int .u32 t] w fun e w' => e = .returned (.int .u32 (bits .or .u32 s t)) ∧ w' = w := by
  go_enter Try.func80, Try.ntmps80
  go_wp2
  go_ret
  exact ⟨ret_int rfl, rfl⟩
theorem mix_5 (s t : Int) (h1 : 0 ≤ s) (h2 : s < 4294967296) (h3 : 0 ≤ t) (h4 : t < 4294967296) (w : World) : Calls Try.prog 80 #[.int .i64 5, .int .u32 s, .int .u32 t] w fun e w' => e = .returned (.int .u32 (bits .xor .u32 s t)) ∧ w' = w := by
  go_enter Try.func80, Try.ntmps80
  go_wp2
  go_ret
  exact ⟨ret_int rfl, rfl⟩
theorem mix_6 (s t : Int) (h1 : 0 ≤ s) (h2 : s < 4294967296) (h3 : 0 ≤ t) (h4 : t < 4294967296) (w : World) : Calls Try.prog 80 #[.int .i64 6, .int .u32 s, .int .u32 t] w fun e w' => e = .returned (.int .u32 (norV s t)) ∧ w' = w := by
  have hs : IntKind.u32.signed = false := rfl
  have hx := u32_or_range s t h1 h2 h3 h4
  have hn := not32 (bits .or .u32 s t) hx.1 hx.2
  go_enter Try.func80, Try.ntmps80
  go_wp2
  go_ret
  exact ⟨ret_int rfl, rfl⟩
theorem mix_44 (s t : Int) (h1 : 0 ≤ s) (h2 : s < 4294967296) (h3 : 0 ≤ t) (h4 : t < 4294967296) (w : World) : Calls Try.prog 80 #[.int .i64 44, .int .u32 s, .int .u32 t] w fun e w' => e = .returned (.int .u32 (bits .and .u32 s t)) ∧ w' = w := by
  go_enter Try.func80, Try.ntmps80
  go_wp2
  go_ret
  exact ⟨ret_int rfl, rfl⟩
theorem mix_45 (s t : Int) (h1 : 0 ≤ s) (h2 : s < 4294967296) (h3 : 0 ≤ t) (h4 : t < 4294967296) (w : World) : Calls Try.prog 80 #[.int .i64 45, .int .u32 s, .int .u32 t] w fun e w' => e = .returned (.int .u32 (bits .or .u32 s t)) ∧ w' = w := by
  go_enter Try.func80, Try.ntmps80
  go_wp2
  go_ret
  exact ⟨ret_int rfl, rfl⟩
theorem mix_46 (s t : Int) (h1 : 0 ≤ s) (h2 : s < 4294967296) (h3 : 0 ≤ t) (h4 : t < 4294967296) (w : World) : Calls Try.prog 80 #[.int .i64 46, .int .u32 s, .int .u32 t] w fun e w' => e = .returned (.int .u32 (bits .xor .u32 s t)) ∧ w' = w := by
  go_enter Try.func80, Try.ntmps80
  go_wp2
  go_ret
  exact ⟨ret_int rfl, rfl⟩
theorem shift_11 (t s : Int) (h1 : 0 ≤ s) (h2 : s < 4294967296) (h3 : 0 ≤ t) (h4 : t < 4294967296) (w : World) : Calls Try.prog 82 #[.int .i64 11, .int .u32 t, .int .u32 s] w fun e w' => e = .returned (.int .u32 (shl32 t s)) ∧ w' = w := by
  go_enter Try.func82, Try.ntmps82
  go_wp2_with (go_at_call 95; refine (shl_any _ _ h3 h4 h1 h2 _).mono ?_; rintro e w' ⟨rfl, rfl⟩)
  go_ret
  exact ⟨ret_int rfl, rfl⟩
theorem shift_12 (t s : Int) (h1 : 0 ≤ s) (h2 : s < 4294967296) (h3 : 0 ≤ t) (h4 : t < 4294967296) (w : World) : Calls Try.prog 82 #[.int .i64 12, .int .u32 t, .int .u32 s] w fun e w' => e = .returned (.int .u32 (shr32 t s)) ∧ w' = w := by
  go_enter Try.func82, Try.ntmps82
  go_wp2_with (go_at_call 96; refine (shr_any _ _ h3 h4 h1 h2 _).mono ?_; rintro e w' ⟨rfl, rfl⟩)
  go_ret
  exact ⟨ret_int rfl, rfl⟩
theorem shift_13 (t s : Int) (h1 : 0 ≤ s) (h2 : s < 4294967296) (h3 : 0 ≤ t) (h4 : t < 4294967296) (w : World) : Calls Try.prog 82 #[.int .i64 13, .int .u32 t, .int .u32 s] w fun e w' => e = .returned (.int .u32 (sar32 t s)) ∧ w' = w := by
  go_enter Try.func82, Try.ntmps82
  go_wp2_with (go_at_call 97; refine (sar_any _ _ h3 h4 h1 h2 _).mono ?_; rintro e w' ⟨rfl, rfl⟩)
  go_ret
  exact ⟨ret_int rfl, rfl⟩
theorem shift_16 (t s : Int) (h1 : 0 ≤ s) (h2 : s < 4294967296) (h3 : 0 ≤ t) (h4 : t < 4294967296) (w : World) : Calls Try.prog 82 #[.int .i64 16, .int .u32 t, .int .u32 s] w fun e w' => e = .returned (.int .u32 (shl32 t s)) ∧ w' = w := by
  go_enter Try.func82, Try.ntmps82
  go_wp2_with (go_at_call 95; refine (shl_any _ _ h3 h4 h1 h2 _).mono ?_; rintro e w' ⟨rfl, rfl⟩)
  go_ret
  exact ⟨ret_int rfl, rfl⟩
theorem shift_17 (t s : Int) (h1 : 0 ≤ s) (h2 : s < 4294967296) (h3 : 0 ≤ t) (h4 : t < 4294967296) (w : World) : Calls Try.prog 82 #[.int .i64 17, .int .u32 t, .int .u32 s] w fun e w' => e = .returned (.int .u32 (shr32 t s)) ∧ w' = w := by
  go_enter Try.func82, Try.ntmps82
  go_wp2_with (go_at_call 96; refine (shr_any _ _ h3 h4 h1 h2 _).mono ?_; rintro e w' ⟨rfl, rfl⟩)
  go_ret
  exact ⟨ret_int rfl, rfl⟩
theorem shift_18 (t s : Int) (h1 : 0 ≤ s) (h2 : s < 4294967296) (h3 : 0 ≤ t) (h4 : t < 4294967296) (w : World) : Calls Try.prog 82 #[.int .i64 18, .int .u32 t, .int .u32 s] w fun e w' => e = .returned (.int .u32 (sar32 t s)) ∧ w' = w := by
  go_enter Try.func82, Try.ntmps82
  go_wp2_with (go_at_call 97; refine (sar_any _ _ h3 h4 h1 h2 _).mono ?_; rintro e w' ⟨rfl, rfl⟩)
  go_ret
  exact ⟨ret_int rfl, rfl⟩
end Go.Proofs.Ytobnocioefchlaa
namespace Go.Proofs.Ytobnocioefchlaa
open Go.ChangeShapes Go.WideShapes Go.ChangeAt Go.RowKit
set_option linter.unusedVariables false
section
variable {K : Act → World → Prop} {Q : Exit → Act → World → Prop} {a : Act} {w : World} {b id : Nat}
def isExitB : Exit → Bool
  | .exit _ => true
  | _ => false
theorem leave_then {e : Exit} (he : isExitB e = true) (h : Q e a w) : Exit.then K Q e a w := by
  cases e with
  | exit id => exact h
  | _ => cases he
theorem leave_block (hne : ¬ id = b) (h : Q (.exit id) a w) : Exit.inBlock b Q (.exit id) a w := by
  simp only [Exit.inBlock, hne, if_false]
  exact h
theorem leave_at (h : Q .normal a w) : Exit.inBlock b Q (.exit b) a w := by
  simp only [Exit.inBlock, if_true]
  exact h
theorem leave_block_end (h : Q .normal a w) : Exit.inBlock b Q .normal a w := h
theorem leave_then_end (h : K a w) : Exit.then K Q .normal a w := h
end
end Go.Proofs.Ytobnocioefchlaa
