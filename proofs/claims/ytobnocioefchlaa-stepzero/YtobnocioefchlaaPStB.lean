/- Chapter 11's smaller calls, walked: Target, the kind of a trap, a stop, a task. -/
import Derived.Test.YtobnocioefchlaaPMBE
namespace Go.Proofs.Ytobnocioefchlaa
open Go.ChangeShapes Go.WideShapes Go.ChangeAt Go.RowKit
set_option linter.unusedVariables false
theorem target_any (op S T D A m next x : Int) (h1 : 0 ≤ next) (h2 : next < 4294967296) (h3 : 0 ≤ m) (h4 : m < 4294967296) (w : World) : Calls Try.prog 50 #[.agg (insC op S T D A m), .int .u32 next, .int .u32 x] w fun e w' => e = .returned (.int .u32 (targP op m next x)) ∧ Below w.heap.size w w' := by
  have hB := hidden (below_new w (.cells (insC op S T D A m) 62))
  unfold targP
  by_cases k27 : op = 27
  · rw [if_pos (Or.inl k27)]
    have e27 : (op == 27) = true := beq_iff_eq.2 k27
    clear k27
    go_enter Try.func50, Try.ntmps50
    go_wp2
    go_ret
    exact ⟨rfl, hB.out⟩
  by_cases k28 : op = 28
  · rw [if_pos (Or.inr k28)]
    have e27 : (op == 27) = false := beq_eq_false_iff_ne.2 k27
    have e28 : (op == 28) = true := beq_iff_eq.2 k28
    clear k27 k28
    go_enter Try.func50, Try.ntmps50
    go_wp2
    go_ret
    exact ⟨rfl, hB.out⟩
  rw [if_neg (by omega)]
  have e27 : (op == 27) = false := beq_eq_false_iff_ne.2 k27
  have e28 : (op == 28) = false := beq_eq_false_iff_ne.2 k28
  by_cases k68 : op = 68
  · rw [if_pos (Or.inl k68)]
    have e68 : (op == 68) = true := beq_iff_eq.2 k68
    clear k27 k28 k68
    go_enter Try.func50, Try.ntmps50
    go_wp2
    go_ret
    exact ⟨rfl, hB.out⟩
  have e68 : (op == 68) = false := beq_eq_false_iff_ne.2 k68
  by_cases k69 : op = 69
  · rw [if_pos (Or.inr k69)]
    have e69 : (op == 69) = true := beq_iff_eq.2 k69
    clear k27 k28 k68 k69
    go_enter Try.func50, Try.ntmps50
    go_wp2
    go_ret
    exact ⟨rfl, hB.out⟩
  have e69 : (op == 69) = false := beq_eq_false_iff_ne.2 k69
  rw [if_neg (by omega)]
  clear k27 k28 k68 k69
  go_enter Try.func50, Try.ntmps50
  go_wp2
  go_ret
  exact ⟨rfl, hB.out⟩
theorem trapKind_any (op : Int) (w : World) : Calls Try.prog 45 #[.int .i64 op] w fun e w' => e = .returned (.int .i64 (if op = 9 ∨ op = 41 ∨ op = 10 then 8 else 9)) ∧ w' = w := by
  by_cases k9 : op = 9
  · rw [if_pos (Or.inl k9)]
    have e9 : (op == 9) = true := beq_iff_eq.2 k9
    clear k9
    go_enter Try.func45, Try.ntmps45
    go_wp2
    go_ret
    exact ⟨rfl, rfl⟩
  have e9 : (op == 9) = false := beq_eq_false_iff_ne.2 k9
  by_cases k41 : op = 41
  · rw [if_pos (Or.inr (Or.inl k41))]
    have e41 : (op == 41) = true := beq_iff_eq.2 k41
    clear k9 k41
    go_enter Try.func45, Try.ntmps45
    go_wp2
    go_ret
    exact ⟨rfl, rfl⟩
  have e41 : (op == 41) = false := beq_eq_false_iff_ne.2 k41
  by_cases k10 : op = 10
  · rw [if_pos (Or.inr (Or.inr k10))]
    have e10 : (op == 10) = true := beq_iff_eq.2 k10
    clear k9 k41 k10
    go_enter Try.func45, Try.ntmps45
    go_wp2
    go_ret
    exact ⟨rfl, rfl⟩
  have e10 : (op == 10) = false := beq_eq_false_iff_ne.2 k10
  rw [if_neg (by omega)]
  clear k9 k41 k10
  go_enter Try.func45, Try.ntmps45
  go_wp2
  go_ret
  exact ⟨rfl, rfl⟩
theorem loadSt {w : World} {g : Nat} {v : SV} (h : Blk w g v.c 26) (hv : v.R.length = 32) : (loadVar 26 ⟨g, 0, none⟩).run Try.prog w = .ok (.agg v.c) w :=
  run_loadVar_row w g 26 26 _ _ _ h Try.underlying26 rfl (by rw [SV.size hv]; exact sizeSV)
theorem loadFa {w : World} {g : Nat} {cs : Array Value} (h : Blk w g cs 32) (hs : cs.size = 4) : (loadVar 32 ⟨g, 0, none⟩).run Try.prog w = .ok (.agg cs) w :=
  run_loadVar_row w g 32 32 _ _ _ h Try.underlying32 rfl (by rw [hs]; exact sizeFa')
theorem loadB {w : World} {a : Addr} {v : Value} (hc : w.cell? a = some v) : (loadVar 4 a).run Try.prog w = .ok v w := by simp [loadVar, isAgg, Sem.run_bind, run_underlying Try.underlying4, hc, go_sem]
theorem buildFa (k p b : Int) (s : Bool) (w : World) : (Instr.build 32 #[(0, .int .i64 k), (1, .int .u32 p), (2, .bool s), (3, .int .u32 b)]).run Try.prog w = .ok (.agg (faultC k p s b)) w := by kernel_rfl
theorem results_ctc {fn : Func} {t p q : Tmp} {ty tz : TypeId} (h : fn.results = #[.cell p ty, .tmp t, .cell q tz]) (tmps : Array Value) (w : World) (g g2 : Nat) (v v2 : Value)
    (hp : tmps.getD p undef = .pointer (some ⟨g, 0, none⟩)) (hq : tmps.getD q undef = .pointer (some ⟨g2, 0, none⟩)) (hv : (loadVar ty ⟨g, 0, none⟩).run Try.prog w = .ok v w) (hv2 : (loadVar tz ⟨g2, 0, none⟩).run Try.prog w = .ok v2 w) :
    (results fn tmps).run Try.prog w = .ok (.tuple #[v, tmps.getD t undef, v2]) w := by
  have hp' : tmps[p]?.getD undef = .pointer (some ⟨g, 0, none⟩) := by simpa using hp
  have hq' : tmps[q]?.getD undef = .pointer (some ⟨g2, 0, none⟩) := by simpa using hq
  simp [results, h, hp', hq', asAddr, hv, hv2]
theorem SV.reg_set {v : SV} (h : v.R.length = 32) (k : Nat) (hk : k < 32) : (v.R.set 0 0).getD k 0 = v.reg k := by
  unfold SV.reg
  rw [List.getD_eq_getElem?_getD, List.getElem?_set]
  by_cases e : k = 0
  · subst e
    rw [if_pos rfl, if_pos rfl, if_pos (by omega)]
    rfl
  · rw [if_neg (fun h => e h.symm), if_neg e, List.getD_eq_getElem?_getD]
section
variable {ρ : Operand → Value} {o : Oper}
theorem exec_indexR {x y : Operand} {g k : Nat} (hk : k < 32) (hop : o.op = .indexAddr 24 x y) (hx : ρ x = .pointer (some ⟨g, 0, none⟩)) (hy : ρ y = .int .i64 (k : Int)) (w : World) : (execOp ρ o).run Try.prog w = .ok (.value (.pointer (some ⟨g, k, none⟩))) w := by
  have h := index_reg g k hk w
  unfold execOp
  rw [hop]
  simp only [hx, hy, Sem.run_bind, h, Result.andThen_ok, Sem.run_pure]
theorem exec_addU {x y : Operand} {a b : Int} (hop : o.op = .binOp .add 23 x y 23) (hx : ρ x = .int .u32 a) (hy : ρ y = .int .u32 b) (w : World) : (execOp ρ o).run Try.prog w = .ok (.value (.int .u32 ((a + b) % 4294967296))) w := by
  unfold execOp
  rw [hop]
  simp [hx, hy, go_sem, IntKind.wrap_u32]
end
/-- What the slots of the region hold, whatever the order. -/
def phiSp (qa qb : Nat) (v : SV) (kd bad : Int) : Nat → Value → World → Prop
  | 0, x, _ => x = .agg v.c
  | 1, x, _ => x = .int .i64 kd
  | 2, x, _ => x = .pointer (some ⟨qa, 34, none⟩)
  | 3, x, _ => x = .int .u32 v.pc
  | 4, x, _ => x = .pointer (some ⟨qa, 36, none⟩)
  | 5, x, _ => x = .bool v.sl
  | 6, x, _ => x = .int .u32 bad
  | 7, x, _ => x = .agg (faultC kd v.pc v.sl bad)
  | 8, x, w => x = .bool true ∧ Blk w qb v.c 26
  | 9, x, _ => x = .int .i64 2
  | _ + 10, _, _ => True
theorem phiSp_mono (qa qb : Nat) (v : SV) (kd bad : Int) : ∀ i x w w', phiSp qa qb v kd bad i x w → (RF [(qb, .cells v.c 26 (0, 0))]) w w' → phiSp qa qb v kd bad i x w'
  | 0, _, _, _, h, _ => h
  | 1, _, _, _, h, _ => h
  | 2, _, _, _, h, _ => h
  | 3, _, _, _, h, _ => h
  | 4, _, _, _, h, _ => h
  | 5, _, _, _, h, _ => h
  | 6, _, _, _, h, _ => h
  | 7, _, _, _, h, _ => h
  | 8, x, w, w', h, hb => ⟨h.1, hb.blk h.2 (fun o ho => (Prod.mk.inj (List.mem_singleton.1 ho)).2)⟩
  | 9, _, _, _, h, _ => h
  | _ + 10, _, _, _, _, _ => trivial
theorem lstSp : ∀ xs : List Value, xs.length = 10 → ∃ x0 x1 x2 x3 x4 x5 x6 x7 x8 x9, xs = [x0, x1, x2, x3, x4, x5, x6, x7, x8, x9]
  | [x0, x1, x2, x3, x4, x5, x6, x7, x8, x9], _ => ⟨_, _, _, _, _, _, _, _, _, _, rfl⟩
set_option maxRecDepth 20000 in
set_option maxHeartbeats 1000000 in
theorem stop_any (v : SV) (hv : v.ok) (kd bad : Int) (w : World) : Calls Try.prog 24 #[.agg v.c, .int .i64 kd, .int .u32 bad] w fun e w' => e = .returned (stopO v kd bad).v ∧ Below w.heap.size w w' := by
  obtain ⟨n, hn⟩ : ∃ n, w.heap.size = n := ⟨_, rfl⟩
  obtain ⟨C, hC⟩ : ∃ C, v.c = C := ⟨_, rfl⟩
  rw [hC]
  have HC := hidden hC
  clear hC
  go_enter Try.func24, Try.ntmps24
  go_upto_region 1 with (first
    | (refine wpList_boxG rfl 26 _ rfl C rfl ?_; rintro w1 k1 s1 b1; rw [hn] at k1 s1 b1 ⊢; have K1 : Hid (Blk w1 n v.c 26) := hidden (by rw [HC.out]; exact k1); have S1 := hidden s1; have B1 := hidden b1; clear k1 s1 b1)
    | (refine wpList_allocV rfl rfl ?_; rintro w2 k2 s2 b2; rw [S1.out] at k2 s2 b2 ⊢; have K2 := hidden (K1.out.later (by rw [S1.out]; exact b2)); have R2 := hidden k2; have S2 := hidden s2; have B2 := hidden (B1.out.trans (b2.mono (by omega))); clear k2 s2 b2)
    | (refine wpList_allocFa rfl rfl ?_; rintro w4 k4 s4 b4; rw [S2.out] at k4 s4 b4 ⊢; have K4 := hidden (K2.out.later (by rw [S2.out]; exact b4)); have R4 := hidden (R2.out.later (by rw [S2.out]; exact b4)); have F4 := hidden k4; have B4 := hidden (B2.out.trans (b4.mono (by omega))); clear k4 s4 b4))
  refine wp_region_head (later_rf [((n + 1), .cells v.c 26 (0, 0))]) 10 [9, 10, 11, 12, 13, 14, 15, 16, 1008, 7] (phiSp n (n + 1) v kd bad) (by kernel_rfl) (by kernel_rfl) rfl (phiSp_mono n (n + 1) v kd bad) ?_ ?_
  · intro j hj xs w3 hxs hR hpre
    obtain ⟨x0, x1, x2, x3, x4, x5, x6, x7, x8, x9, rfl⟩ := lstSp xs hxs
    have hQ : Blk w3 n v.c 26 := hR.blk K4.out (fun o ho => absurd (congrArg Prod.fst (List.mem_singleton.1 ho)) (show ¬ (n = n + 1) by omega))
    have hG : ∃ old : Array Value, old.size = 37 ∧ Blk w3 (n + 1) old 26 := hR.some ⟨SV.zero.c, SV.size rfl, R4.out⟩ (fun o ho => ⟨v.c, SV.size hv.1, (Prod.mk.inj (List.mem_singleton.1 ho)).2⟩)
    rcases (show j = 0 ∨ j = 1 ∨ j = 2 ∨ j = 3 ∨ j = 4 ∨ j = 5 ∨ j = 6 ∨ j = 7 ∨ j = 8 ∨ j = 9 by omega) with rfl | rfl | rfl | rfl | rfl | rfl | rfl | rfl | rfl | rfl
    · exact wpOp_run (.agg v.c) rfl (by kernel_rfl) (exec_load 26 rfl (by kernel_rfl) w3 (loadSt hQ hv.1)) ⟨_, by kernel_rfl, rfl, (later_rf _).refl _⟩
    · exact wpOp_run (.int .i64 kd) rfl (by kernel_rfl) (exec_move rfl (by kernel_rfl) w3) ⟨_, by kernel_rfl, rfl, (later_rf _).refl _⟩
    · exact wpOp_run (.pointer (some ⟨n, 34, none⟩)) rfl (by kernel_rfl) (by kernel_rfl) ⟨_, by kernel_rfl, rfl, (later_rf _).refl _⟩
    · have e2 : x2 = .pointer (some ⟨n, 34, none⟩) := hpre 2 (by kernel_rfl)
      subst e2
      exact wpOp_run (.int .u32 v.pc) rfl (by kernel_rfl) (exec_load 23 rfl (by kernel_rfl) w3 (loadU (hQ.cell (SV.get_pc hv.1)))) ⟨_, by kernel_rfl, rfl, (later_rf _).refl _⟩
    · exact wpOp_run (.pointer (some ⟨n, 36, none⟩)) rfl (by kernel_rfl) (by kernel_rfl) ⟨_, by kernel_rfl, rfl, (later_rf _).refl _⟩
    · have e4 : x4 = .pointer (some ⟨n, 36, none⟩) := hpre 4 (by kernel_rfl)
      subst e4
      exact wpOp_run (.bool v.sl) rfl (by kernel_rfl) (exec_load 4 rfl (by kernel_rfl) w3 (loadB (hQ.cell (SV.get_sl hv.1)))) ⟨_, by kernel_rfl, rfl, (later_rf _).refl _⟩
    · exact wpOp_run (.int .u32 bad) rfl (by kernel_rfl) (exec_move rfl (by kernel_rfl) w3) ⟨_, by kernel_rfl, rfl, (later_rf _).refl _⟩
    · have e1 : x1 = .int .i64 kd := hpre 1 (by kernel_rfl)
      subst e1
      have e3 : x3 = .int .u32 v.pc := hpre 3 (by kernel_rfl)
      subst e3
      have e5 : x5 = .bool v.sl := hpre 5 (by kernel_rfl)
      subst e5
      have e6 : x6 = .int .u32 bad := hpre 6 (by kernel_rfl)
      subst e6
      exact wpOp_run (.agg (faultC kd v.pc v.sl bad)) rfl (by kernel_rfl) (exec_build 32 rfl (by kernel_rfl) w3 (buildFa _ _ _ _ w3)) ⟨_, by kernel_rfl, rfl, (later_rf _).refl _⟩
    · have e0 : x0 = .agg v.c := hpre 0 (by kernel_rfl)
      subst e0
      obtain ⟨old, hs1, hs2⟩ := hG
      exact wpOp_put rfl (by kernel_rfl) (exec_storeG (g := (n + 1)) (cs := v.c) (old := old) rfl (by kernel_rfl) (by kernel_rfl) w3 hs2 (by rw [SV.size hv.1]; exact sizeSV) (by rw [hs1, SV.size hv.1]) (SV.one v)) ⟨.bool true, by kernel_rfl, ⟨rfl, setRow_heap w3 (n + 1) old v.c 26 (0, 0) hs2⟩, RF.of_only (only_rowV w3 (n + 1) v.c) (setRow_heap w3 (n + 1) old v.c 26 (0, 0) hs2) (List.mem_singleton.2 rfl)⟩
    · exact wpOp_run (.int .i64 2) rfl (by kernel_rfl) (by kernel_rfl) ⟨_, by kernel_rfl, rfl, (later_rf _).refl _⟩
  · intro xs w3 hxs hR hall
    obtain ⟨x0, x1, x2, x3, x4, x5, x6, x7, x8, x9, rfl⟩ := lstSp xs hxs
    have e0 : x0 = .agg v.c := hall 0 (by omega)
    subst e0
    have e1 : x1 = .int .i64 kd := hall 1 (by omega)
    subst e1
    have e2 : x2 = .pointer (some ⟨n, 34, none⟩) := hall 2 (by omega)
    subst e2
    have e3 : x3 = .int .u32 v.pc := hall 3 (by omega)
    subst e3
    have e4 : x4 = .pointer (some ⟨n, 36, none⟩) := hall 4 (by omega)
    subst e4
    have e5 : x5 = .bool v.sl := hall 5 (by omega)
    subst e5
    have e6 : x6 = .int .u32 bad := hall 6 (by omega)
    subst e6
    have e7 : x7 = .agg (faultC kd v.pc v.sl bad) := hall 7 (by omega)
    subst e7
    have f8 : x8 = .bool true ∧ Blk w3 (n + 1) v.c 26 := hall 8 (by omega)
    obtain ⟨e8, k8⟩ := f8
    subst e8
    have e9 : x9 = .int .i64 2 := hall 9 (by omega)
    subst e9
    have HR := hidden hR
    clear hall hR hxs
    simp only [slotsOn, putAll, List.drop_succ_cons, List.drop_zero]
    have F5 := HR.out.blk F4.out (fun o ho => absurd (congrArg Prod.fst (List.mem_singleton.1 ho)) (show ¬ (n + 2 = n + 1) by omega))
    have B5 := Below.trans B4.out (HR.out.below (show n ≤ w4.heap.size by have := F4.out.lt; omega) (fun x hx => by rw [List.mem_singleton.1 hx]; exact Nat.le_succ n))
    refine wpList_storeFa rfl rfl _ _ rfl (n + 2) zFa (faultC kd v.pc v.sl bad) (by kernel_rfl) (by kernel_rfl) F5 rfl rfl (by kernel_rfl) ?_
    rintro w7 k7 o7
    have K7 := hidden k7
    have G7 := hidden (k8.only o7 (show ¬ (n + 1 = n + 2) by omega))
    have B7 := hidden (Below.only B5 o7 (show n ≤ n + 2 by omega))
    clear k7 o7 k8 F5 B5
    go_wp2
    refine bodyPost_ret (results_ctc rfl _ _ (n + 1) (n + 2) _ _ rfl rfl (loadSt G7.out hv.1) (loadFa K7.out rfl)) rfl ⟨rfl, by rw [hn]; exact B7.out⟩
/-- What the slots of the region hold, whatever the order. -/
def phiTt (qa qb : Nat) (f : Fl) (v : SV) (k : TV) : Nat → Value → World → Prop
  | 0, x, _ => x = .agg (insT (f.op : Int) f.tk)
  | 1, x, _ => x = .agg k.v.c
  | 2, x, _ => x = .pointer (some ⟨qa, 1, none⟩)
  | 3, x, _ => x = .int .i64 (f.tk.s : Int)
  | 4, x, _ => x = .pointer (some ⟨qb, 0, none⟩)
  | 5, x, _ => x = .pointer (some ⟨qb, f.tk.s, none⟩)
  | 6, x, _ => x = .int .u32 (v.reg f.tk.s)
  | 7, x, _ => x = .pointer (some ⟨qa, 2, none⟩)
  | 8, x, _ => x = .int .i64 (f.tk.t : Int)
  | 9, x, _ => x = .pointer (some ⟨qb, 0, none⟩)
  | 10, x, _ => x = .pointer (some ⟨qb, f.tk.t, none⟩)
  | 11, x, _ => x = .int .u32 (v.reg f.tk.t)
  | 12, x, _ => x = .pointer (some ⟨qa, 1, none⟩)
  | 13, x, _ => x = .int .i64 (f.tk.s : Int)
  | 14, x, _ => x = .pointer (some ⟨qb, 0, none⟩)
  | 15, x, _ => x = .pointer (some ⟨qb, f.tk.s, none⟩)
  | 16, x, _ => x = .int .u32 (v.reg f.tk.s)
  | 17, x, _ => x = .pointer (some ⟨qa, 5, none⟩)
  | 18, x, _ => x = .int .u32 (f.tk.imm : Int)
  | 19, x, _ => x = .int .u32 ((v.reg f.tk.s + (f.tk.imm : Int)) % 4294967296)
  | 20, x, _ => x = .agg (TV.c k)
  | _ + 21, _, _ => True
theorem phiTt_mono (qa qb : Nat) (f : Fl) (v : SV) (k : TV) : ∀ i x w w', phiTt qa qb f v k i x w → Below w.heap.size w w' → phiTt qa qb f v k i x w'
  | 0, _, _, _, h, _ => h
  | 1, _, _, _, h, _ => h
  | 2, _, _, _, h, _ => h
  | 3, _, _, _, h, _ => h
  | 4, _, _, _, h, _ => h
  | 5, _, _, _, h, _ => h
  | 6, _, _, _, h, _ => h
  | 7, _, _, _, h, _ => h
  | 8, _, _, _, h, _ => h
  | 9, _, _, _, h, _ => h
  | 10, _, _, _, h, _ => h
  | 11, _, _, _, h, _ => h
  | 12, _, _, _, h, _ => h
  | 13, _, _, _, h, _ => h
  | 14, _, _, _, h, _ => h
  | 15, _, _, _, h, _ => h
  | 16, _, _, _, h, _ => h
  | 17, _, _, _, h, _ => h
  | 18, _, _, _, h, _ => h
  | 19, _, _, _, h, _ => h
  | 20, _, _, _, h, _ => h
  | _ + 21, _, _, _, _, _ => trivial
theorem lstTt : ∀ xs : List Value, xs.length = 21 → ∃ x0 x1 x2 x3 x4 x5 x6 x7 x8 x9 x10 x11 x12 x13 x14 x15 x16 x17 x18 x19 x20, xs = [x0, x1, x2, x3, x4, x5, x6, x7, x8, x9, x10, x11, x12, x13, x14, x15, x16, x17, x18, x19, x20]
  | [x0, x1, x2, x3, x4, x5, x6, x7, x8, x9, x10, x11, x12, x13, x14, x15, x16, x17, x18, x19, x20], _ => ⟨_, _, _, _, _, _, _, _, _, _, _, _, _, _, _, _, _, _, _, _, _, rfl⟩
/-- An instruction's task. -/
def taskV (i : Fl) (v : SV) : TV := ⟨i, { v with R := v.R.set 0 0 }, v.reg i.tk.s, v.reg i.tk.t, ((v.reg i.tk.s + (i.tk.imm : Int)) % 4294967296).toNat⟩
theorem loadI {w : World} {b : Nat} {t : Tk} {op : Int} (h : Blk w b (insT op t) 62) : (loadVar 62 ⟨b, 0, none⟩).run Try.prog w = .ok (.agg (insT op t)) w :=
  run_loadVar_row w b 62 62 (insT op t) (0, 0) _ h Try.underlying62 rfl sizeIn'
theorem sizeTV : (Try.prog.info? 64).map (·.size) = some 46 := sizeTa'
set_option maxRecDepth 20000 in
set_option maxHeartbeats 2000000 in
theorem take_any (i : Fl) (v : SV) (hv : v.R.length = 32) (hks : i.tk.s < 32) (hkt : i.tk.t < 32) (w : World) : Calls Try.prog 25 #[.agg (insT (i.op : Int) i.tk), .agg v.c] w fun e w' => e = .returned (.agg (taskV i v).c) ∧ Below w.heap.size w w' := by
  obtain ⟨n, hn⟩ : ∃ n, w.heap.size = n := ⟨_, rfl⟩
  obtain ⟨C, hC⟩ : ∃ C, v.c = C := ⟨_, rfl⟩
  rw [hC]
  have HC := hidden hC
  obtain ⟨I, hI⟩ : ∃ I, insT (i.op : Int) i.tk = I := ⟨_, rfl⟩
  rw [hI]
  have HI := hidden hI
  have hix : ∀ u, (Instr.indexAt 24 (.pointer (some ⟨n + 1, 0, none⟩)) (.int .i64 0)).run Try.prog u = .ok (.pointer (some ⟨n + 1, 0, none⟩)) u := fun u => index_reg (n + 1) 0 (by omega) u
  obtain ⟨k, hkk⟩ : ∃ k, taskV i v = k := ⟨_, rfl⟩
  have hkv : k.v = { v with R := v.R.set 0 0 } := by rw [← hkk]; rfl
  have hk : k.v.R.length = 32 := by rw [hkv]; simpa using hv
  have ha0 : 0 ≤ (v.reg i.tk.s + (i.tk.imm : Int)) % 4294967296 := Int.emod_nonneg _ (by decide)
  have hb : (Instr.build 64 #[(0, .agg (insT (i.op : Int) i.tk)), (1, .agg k.v.c), (2, .int .u32 (v.reg i.tk.s)), (3, .int .u32 (v.reg i.tk.t)), (4, .int .u32 ((v.reg i.tk.s + (i.tk.imm : Int)) % 4294967296))]) = (Instr.build 64 #[(0, .agg (insT (k.i.op : Int) k.i.tk)), (1, .agg k.v.c), (2, .int .u32 k.x), (3, .int .u32 k.t), (4, .int .u32 (k.a : Int))]) := by
    rw [← hkk]
    show _ = (Instr.build 64 #[(0, .agg (insT (i.op : Int) i.tk)), (1, .agg (taskV i v).v.c), (2, .int .u32 (v.reg i.tk.s)), (3, .int .u32 (v.reg i.tk.t)), (4, .int .u32 (((((v.reg i.tk.s + (i.tk.imm : Int)) % 4294967296).toNat : Nat)) : Int))])
    rw [Int.toNat_of_nonneg ha0]
  have HBU := hidden (fun u => by have h := buildTa k hk u; rw [← hb] at h; exact h)
  have hrs : ∀ u, Blk u (n + 1) k.v.c 26 → u.cell? ⟨n + 1, i.tk.s, none⟩ = some (.int .u32 (v.reg i.tk.s)) := fun u h => h.cell (by rw [SV.getR hk hks, hkv, SV.reg_set hv _ hks])
  have hrt : ∀ u, Blk u (n + 1) k.v.c 26 → u.cell? ⟨n + 1, i.tk.t, none⟩ = some (.int .u32 (v.reg i.tk.t)) := fun u h => h.cell (by rw [SV.getR hk hkt, hkv, SV.reg_set hv _ hkt])
  have HRS := hidden hrs
  have HRT := hidden hrt
  have HK := hidden hkv
  have HKK := hidden hkk
  have HHK := hidden hk
  have HV := hidden hv
  clear hC hI hkk hkv hrs hrt hb ha0 hk hv
  go_enter Try.func25, Try.ntmps25
  go_upto_region 2 with (first
    | (refine wpList_boxG rfl 62 _ rfl I rfl ?_; rintro w1 k1 s1 b1; rw [hn] at k1 s1 b1 ⊢; have K1 : Hid (Blk w1 n (insT (i.op : Int) i.tk) 62) := hidden (by rw [HI.out]; exact k1); have S1 := hidden s1; have B1 := hidden b1; clear k1 s1 b1)
    | (refine wpList_boxG rfl 26 _ rfl C rfl ?_; rintro w2 k2 s2 b2; rw [S1.out] at k2 s2 b2 ⊢; have K2 := hidden (K1.out.later (by rw [S1.out]; exact b2)); have R2 : Hid (Blk w2 (n + 1) v.c 26) := hidden (by rw [HC.out]; exact k2); have S2 := hidden s2; have B2 := hidden (B1.out.trans (b2.mono (by omega))); clear k2 s2 b2)
    | (refine wpList_allocTa rfl rfl ?_; rintro w4 k4 s4 b4; rw [S2.out] at k4 s4 b4 ⊢; have K4 := hidden (K2.out.later (by rw [S2.out]; exact b4)); have R4 := hidden (R2.out.later (by rw [S2.out]; exact b4)); have T4 := hidden k4; have B4 := hidden (B2.out.trans (b4.mono (by omega))); clear k4 s4 b4)
    | (refine wpList_setR rfl rfl _ _ rfl (n + 1) 0 v 0 rfl rfl R4.out HV.out (by omega) ?_; rintro w5 k5 o5; have R5 : Hid (Blk w5 (n + 1) k.v.c 26) := hidden (by rw [HK.out]; exact k5); have K5 := hidden (K4.out.only o5 (by omega)); have T5 := hidden (T4.out.only o5 (by omega)); have B5 := hidden (Below.only B4.out o5 (by omega)); clear k5 o5))
  refine wp_region_head later_below 21 [7, 8, 9, 10, 11, 12, 13, 14, 15, 16, 17, 18, 19, 20, 21, 22, 23, 24, 25, 26, 27] (phiTt n (n + 1) i v k) (by kernel_rfl) (by kernel_rfl) rfl (phiTt_mono n (n + 1) i v k) ?_ ?_
  · intro j hj xs w3 hxs hR hpre
    obtain ⟨x0, x1, x2, x3, x4, x5, x6, x7, x8, x9, x10, x11, x12, x13, x14, x15, x16, x17, x18, x19, x20, rfl⟩ := lstTt xs hxs
    have hI : Blk w3 n (insT (i.op : Int) i.tk) 62 := K5.out.later hR
    have hS : Blk w3 (n + 1) k.v.c 26 := R5.out.later hR
    have hk := HHK.out
    have hrs := HRS.out
    have hrt := HRT.out
    rcases (show j = 0 ∨ j = 1 ∨ j = 2 ∨ j = 3 ∨ j = 4 ∨ j = 5 ∨ j = 6 ∨ j = 7 ∨ j = 8 ∨ j = 9 ∨ j = 10 ∨ j = 11 ∨ j = 12 ∨ j = 13 ∨ j = 14 ∨ j = 15 ∨ j = 16 ∨ j = 17 ∨ j = 18 ∨ j = 19 ∨ j = 20 by omega) with rfl | rfl | rfl | rfl | rfl | rfl | rfl | rfl | rfl | rfl | rfl | rfl | rfl | rfl | rfl | rfl | rfl | rfl | rfl | rfl | rfl
    · exact wpOp_run (.agg (insT (i.op : Int) i.tk)) rfl (by kernel_rfl) (exec_load 62 rfl (by kernel_rfl) w3 (loadI hI)) ⟨_, by kernel_rfl, rfl, Below.refl _ _⟩
    · exact wpOp_run (.agg k.v.c) rfl (by kernel_rfl) (exec_load 26 rfl (by kernel_rfl) w3 (loadSt hS hk)) ⟨_, by kernel_rfl, rfl, Below.refl _ _⟩
    · exact wpOp_run (.pointer (some ⟨n, 1, none⟩)) rfl (by kernel_rfl) (by kernel_rfl) ⟨_, by kernel_rfl, rfl, Below.refl _ _⟩
    · have e2 : x2 = .pointer (some ⟨n, 1, none⟩) := hpre 2 (by kernel_rfl)
      subst e2
      exact wpOp_run (.int .i64 (i.tk.s : Int)) rfl (by kernel_rfl) (exec_load 3 rfl (by kernel_rfl) w3 (load3 (hI.cell (j := 1) rfl))) ⟨_, by kernel_rfl, rfl, Below.refl _ _⟩
    · exact wpOp_run (.pointer (some ⟨n + 1, 0, none⟩)) rfl (by kernel_rfl) (by kernel_rfl) ⟨_, by kernel_rfl, rfl, Below.refl _ _⟩
    · have e3 : x3 = .int .i64 (i.tk.s : Int) := hpre 3 (by kernel_rfl)
      subst e3
      have e4 : x4 = .pointer (some ⟨n + 1, 0, none⟩) := hpre 4 (by kernel_rfl)
      subst e4
      exact wpOp_run (.pointer (some ⟨n + 1, i.tk.s, none⟩)) rfl (by kernel_rfl) (exec_indexR hks rfl (by kernel_rfl) (by kernel_rfl) w3) ⟨_, by kernel_rfl, rfl, Below.refl _ _⟩
    · have e5 : x5 = .pointer (some ⟨n + 1, i.tk.s, none⟩) := hpre 5 (by kernel_rfl)
      subst e5
      exact wpOp_run (.int .u32 (v.reg i.tk.s)) rfl (by kernel_rfl) (exec_load 23 rfl (by kernel_rfl) w3 (loadU (hrs w3 hS))) ⟨_, by kernel_rfl, rfl, Below.refl _ _⟩
    · exact wpOp_run (.pointer (some ⟨n, 2, none⟩)) rfl (by kernel_rfl) (by kernel_rfl) ⟨_, by kernel_rfl, rfl, Below.refl _ _⟩
    · have e7 : x7 = .pointer (some ⟨n, 2, none⟩) := hpre 7 (by kernel_rfl)
      subst e7
      exact wpOp_run (.int .i64 (i.tk.t : Int)) rfl (by kernel_rfl) (exec_load 3 rfl (by kernel_rfl) w3 (load3 (hI.cell (j := 2) rfl))) ⟨_, by kernel_rfl, rfl, Below.refl _ _⟩
    · exact wpOp_run (.pointer (some ⟨n + 1, 0, none⟩)) rfl (by kernel_rfl) (by kernel_rfl) ⟨_, by kernel_rfl, rfl, Below.refl _ _⟩
    · have e8 : x8 = .int .i64 (i.tk.t : Int) := hpre 8 (by kernel_rfl)
      subst e8
      have e9 : x9 = .pointer (some ⟨n + 1, 0, none⟩) := hpre 9 (by kernel_rfl)
      subst e9
      exact wpOp_run (.pointer (some ⟨n + 1, i.tk.t, none⟩)) rfl (by kernel_rfl) (exec_indexR hkt rfl (by kernel_rfl) (by kernel_rfl) w3) ⟨_, by kernel_rfl, rfl, Below.refl _ _⟩
    · have e10 : x10 = .pointer (some ⟨n + 1, i.tk.t, none⟩) := hpre 10 (by kernel_rfl)
      subst e10
      exact wpOp_run (.int .u32 (v.reg i.tk.t)) rfl (by kernel_rfl) (exec_load 23 rfl (by kernel_rfl) w3 (loadU (hrt w3 hS))) ⟨_, by kernel_rfl, rfl, Below.refl _ _⟩
    · exact wpOp_run (.pointer (some ⟨n, 1, none⟩)) rfl (by kernel_rfl) (by kernel_rfl) ⟨_, by kernel_rfl, rfl, Below.refl _ _⟩
    · have e12 : x12 = .pointer (some ⟨n, 1, none⟩) := hpre 12 (by kernel_rfl)
      subst e12
      exact wpOp_run (.int .i64 (i.tk.s : Int)) rfl (by kernel_rfl) (exec_load 3 rfl (by kernel_rfl) w3 (load3 (hI.cell (j := 1) rfl))) ⟨_, by kernel_rfl, rfl, Below.refl _ _⟩
    · exact wpOp_run (.pointer (some ⟨n + 1, 0, none⟩)) rfl (by kernel_rfl) (by kernel_rfl) ⟨_, by kernel_rfl, rfl, Below.refl _ _⟩
    · have e13 : x13 = .int .i64 (i.tk.s : Int) := hpre 13 (by kernel_rfl)
      subst e13
      have e14 : x14 = .pointer (some ⟨n + 1, 0, none⟩) := hpre 14 (by kernel_rfl)
      subst e14
      exact wpOp_run (.pointer (some ⟨n + 1, i.tk.s, none⟩)) rfl (by kernel_rfl) (exec_indexR hks rfl (by kernel_rfl) (by kernel_rfl) w3) ⟨_, by kernel_rfl, rfl, Below.refl _ _⟩
    · have e15 : x15 = .pointer (some ⟨n + 1, i.tk.s, none⟩) := hpre 15 (by kernel_rfl)
      subst e15
      exact wpOp_run (.int .u32 (v.reg i.tk.s)) rfl (by kernel_rfl) (exec_load 23 rfl (by kernel_rfl) w3 (loadU (hrs w3 hS))) ⟨_, by kernel_rfl, rfl, Below.refl _ _⟩
    · exact wpOp_run (.pointer (some ⟨n, 5, none⟩)) rfl (by kernel_rfl) (by kernel_rfl) ⟨_, by kernel_rfl, rfl, Below.refl _ _⟩
    · have e17 : x17 = .pointer (some ⟨n, 5, none⟩) := hpre 17 (by kernel_rfl)
      subst e17
      exact wpOp_run (.int .u32 (i.tk.imm : Int)) rfl (by kernel_rfl) (exec_load 23 rfl (by kernel_rfl) w3 (loadU (hI.cell (j := 5) rfl))) ⟨_, by kernel_rfl, rfl, Below.refl _ _⟩
    · have e16 : x16 = .int .u32 (v.reg i.tk.s) := hpre 16 (by kernel_rfl)
      subst e16
      have e18 : x18 = .int .u32 (i.tk.imm : Int) := hpre 18 (by kernel_rfl)
      subst e18
      exact wpOp_run (.int .u32 ((v.reg i.tk.s + (i.tk.imm : Int)) % 4294967296)) rfl (by kernel_rfl) (exec_addU rfl (by kernel_rfl) (by kernel_rfl) w3) ⟨_, by kernel_rfl, rfl, Below.refl _ _⟩
    · have e0 : x0 = .agg (insT (i.op : Int) i.tk) := hpre 0 (by kernel_rfl)
      subst e0
      have e1 : x1 = .agg k.v.c := hpre 1 (by kernel_rfl)
      subst e1
      have e6 : x6 = .int .u32 (v.reg i.tk.s) := hpre 6 (by kernel_rfl)
      subst e6
      have e11 : x11 = .int .u32 (v.reg i.tk.t) := hpre 11 (by kernel_rfl)
      subst e11
      have e19 : x19 = .int .u32 ((v.reg i.tk.s + (i.tk.imm : Int)) % 4294967296) := hpre 19 (by kernel_rfl)
      subst e19
      exact wpOp_run (.agg (TV.c k)) rfl (by kernel_rfl) (exec_build 64 rfl (by kernel_rfl) w3 (HBU.out w3)) ⟨_, by kernel_rfl, rfl, Below.refl _ _⟩
  · intro xs w3 hxs hR hall
    obtain ⟨x0, x1, x2, x3, x4, x5, x6, x7, x8, x9, x10, x11, x12, x13, x14, x15, x16, x17, x18, x19, x20, rfl⟩ := lstTt xs hxs
    have e20 : x20 = .agg (TV.c k) := hall 20 (by omega)
    subst e20
    have HR := hidden hR
    clear hall hR hxs
    simp only [slotsOn, putAll, List.set_cons_succ, List.set_cons_zero, List.drop_succ_cons, List.drop_zero]
    have T6 := T5.out.later HR.out
    have B6 := B5.out.trans (HR.out.mono (show n ≤ w5.heap.size by have := T5.out.lt; omega))
    refine wpList_storeTa rfl rfl _ _ rfl (n + 2) zTa k.c (by kernel_rfl) (by kernel_rfl) T6 rfl (TV.size HHK.out) (TV.one k) ?_
    rintro w7 k7 o7
    have K7 := hidden k7
    have B7 := hidden (Below.only B6 o7 (show n ≤ n + 2 by omega))
    clear k7 o7 T6 B6
    go_wp2
    refine bodyPost_ret (results_cell_row rfl _ _ (n + 2) 64 k.c (0, 0) _ rfl K7.out Try.underlying64 rfl (by rw [TV.size HHK.out]; exact sizeTV)) rfl ⟨by rw [HKK.out], by rw [hn]; exact B7.out⟩
end Go.Proofs.Ytobnocioefchlaa
