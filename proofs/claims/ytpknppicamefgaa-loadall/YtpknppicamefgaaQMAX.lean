/- fill: a segment's bytes, where its pages are. -/
import Derived.Test.YtpknppicamefgaaQMAW
import Derived.Great.Walk
import Derived.Laws.Tables
import Derived.Laws.Rows
import Derived.Deep.MidRow
namespace Go.Proofs.Ytpknppicamefgaa
open Go.ChangeShapes Go.WideShapes Go.ChangeAt Go.RowKit
set_option linter.unusedVariables false
def fillAm (f : AM) (a : Nat) (d : List UInt8) : Nat → AM
  | 0 => f
  | k + 1 => apoke (fillAm f a d k) (a + k) (d.getD k 0)
/-- A memory behind bytes that were put. -/
structure Put (s : MS) (a : Nat) (d : List UInt8) (k : Nat) (s' : MS) : Prop where
  mb : s'.mb = s.mb
  bm : s'.bm = s.bm
  most : s'.most = s.most
  ks : s'.ks = s.ks
  on : s'.on = s.on
  ts : s'.ts = s.ts
  c : s'.c ≤ s.c + k
  abs : s'.abs = fillAm s.abs a d k
theorem pokeAt_bm (s : MS) (a : Nat) (v : UInt8) (tv : Value) : (s.pokeAt a v tv).bm = s.bm := by unfold MS.pokeAt; split <;> rfl
theorem Put.poke {s s' : MS} {a k : Nat} {d : List UInt8} (h : Put s a d k s') (hoff : ∀ j ∈ s.ks, s.on j = false) (tv : Value) : Put s a d (k + 1) (s'.pokeAt (a + k) (d.getD k 0) tv) := by
  have hw : s'.watched (a + k) = false := by
    unfold MS.watched
    rw [h.ks, h.on]
    by_cases hk : pageOf (a + k) ∈ s.ks
    · rw [hoff _ hk, Bool.and_false]
    · rw [decide_eq_false hk, Bool.false_and]
  have hc := pokeAt_c s' (a + k) (d.getD k 0) tv
  have hc' := h.c
  exact ⟨(pokeAt_mb _ _ _ _).trans h.mb, (pokeAt_bm _ _ _ _).trans h.bm, (pokeAt_most _ _ _ _).trans h.most, (pokeAt_ks _ _ _ _).trans h.ks, (pokeAt_on _ _ _ _).trans h.on, by rw [pokeAt_ts, hw]; simpa using h.ts, by omega, by rw [abs_pokeAt, h.abs]; rfl⟩
theorem str_index (d : List UInt8) (k : Nat) (h : k < d.length) (w : World) : (Instr.index 9 (.string ⟨d.toArray⟩) (.int .i64 (k : Int))).run Try.prog w = .ok (.int .u8 ((d.getD k 0).toNat : Int)) w := by
  have hs : (ByteArray.mk d.toArray).size = d.length := by simp [ByteArray.size]
  rw [run_index_string w 9 _ _ _ Try.underlying9, dif_pos ⟨by omega, by omega⟩]
  have e : (ByteArray.mk d.toArray)[(k : Int).toNat]'(by omega) = d.getD k 0 := by
    show d.toArray[(k : Int).toNat]'(by simpa using h) = _
    simp [List.getD_eq_getElem?_getD, h]
  rw [e]
set_option maxRecDepth 20000 in
set_option maxHeartbeats 1000000 in
theorem fill_any (w : World) (s : MS) (g : Sg) (h : MemW w s) (hoff : ∀ j ∈ s.ks, s.on j = false) (hd : g.at_ + g.data.length ≤ 2147483648) (hc : s.c + g.data.length ≤ 1000000) : Calls Try.prog 28 #[.pointer (some ⟨s.mb, 0, none⟩), .agg #[.int .u32 (g.at_ : Int), .string ⟨g.data.toArray⟩, .int .u32 (g.size : Int), .int .i64 g.perm]] w fun e w' => e = .returned (.tuple #[]) ∧ ∃ s', Put s g.at_ g.data g.data.length s' ∧ Step w s w' s' := by
  obtain ⟨a, d, sz, pm⟩ := g
  simp only at hd hc ⊢
  have hsz : (ByteArray.mk d.toArray).size = d.length := by simp [ByteArray.size]
  obtain ⟨n, hn⟩ : ∃ n, w.heap.size = n := ⟨_, rfl⟩
  obtain ⟨w1, hw1⟩ : ∃ w1, w.alloc (.cells #[.int .u32 (a : Int), .string ⟨d.toArray⟩, .int .u32 (sz : Int), .int .i64 pm] 44) = w1 := ⟨_, rfl⟩
  have hbn := Blk.new w #[.int .u32 (a : Int), .string ⟨d.toArray⟩, .int .u32 (sz : Int), .int .i64 pm] 44
  have hst : Step w s w1 s := by rw [← hw1]; exact Step.later h (below_new w _)
  have hnf : ¬ foot s n := fun hf => by have := h.lt hf; omega
  have hnl : n < w1.heap.size := by rw [← hw1]; simp [hn]
  rw [hw1, hn] at hbn
  have HB := hidden hbn
  have HS := hidden hst
  have HN := hidden hnf
  have HO := hidden hoff
  have c0 : w1.cell? ⟨n, 1, none⟩ = some (.string ⟨d.toArray⟩) := hbn.cell rfl
  clear hbn hst hnf hoff h
  go_enter Try.func28, Try.ntmps28
  go_wp2
  go_loopw [8] (fun x8 wr => ∃ (k : Nat) (s' : MS), k ≤ d.length ∧ x8 = .int .i64 (k : Int) ∧ Put s a d k s' ∧ Step w1 s wr s') (fun x8 _ => d.length - (intOf x8).toNat)
  case atStart => exact ⟨0, s, by omega, rfl, ⟨rfl, rfl, rfl, rfl, rfl, rfl, by omega, rfl⟩, Step.refl (Hid.out HS).mem⟩
  case round =>
    obtain ⟨k, s', hk, rfl, hP, hS⟩ := hrel
    have HP := hidden hP
    have HS2 := hidden hS
    by_cases hkd : k < d.length
    · have hkd2 : (k : Int) < (d.length : Int) := by omega
      have hb2 : Blk wr n #[.int .u32 (a : Int), .string ⟨d.toArray⟩, .int .u32 (sz : Int), .int .i64 pm] 44 := (hS.keep.block n hnl (Hid.out HN)).trans (Hid.out HB)
      have d0 : wr.cell? ⟨n, 0, none⟩ = some (.int .u32 (a : Int)) := hb2.cell rfl
      have d1 : wr.cell? ⟨n, 1, none⟩ = some (.string ⟨d.toArray⟩) := hb2.cell rfl
      have hix : ∀ w2, (Instr.index 9 (.string ⟨d.toArray⟩) (.int .i64 (k : Int))).run Try.prog w2 = .ok (.int .u8 ((d.getD k 0).toNat : Int)) w2 := str_index d k hkd
      have H58 : Hid (∀ m, Calls Try.prog 58 #[.pointer (some ⟨s.mb, 0, none⟩), .int .u32 ((a : Int) + (k : Int)), .int .u8 ((d.getD k 0).toNat : Int)] (wr.drewN m) fun e w' => ∃ b, e = .returned (.bool b) ∧ ∃ s2, Put s a d (k + 1) s2 ∧ Step w1 s w' s2) := fun m => by
        have hcc := hP.c
        have h21 := poke_any (wr.drewN m) s' (a + k) (d.getD k 0) (hS.mem.drewN m) (by omega) (by omega)
        rw [hP.mb, show ((a + k : Nat) : Int) = (a : Int) + (k : Int) by omega] at h21
        refine h21.mono ?_
        rintro e w' ⟨he, tv, st⟩
        exact ⟨_, he, _, hP.poke (Hid.out HO) tv, hS.trans ((Step.drew hS.mem ⟨m, rfl⟩).trans st)⟩
      generalize d.getD k 0 = v at hix H58
      clear hP hS hb2
      go_wp2
      refine wp_region_tail 10 (by kernel_rfl) (by kernel_rfl) ?_
      simp only [List.take_succ_cons, List.take_zero, List.drop_succ_cons, List.drop_zero]
      repeat (go_big_quiet_step (fail))
      refine wpQuiet_nil ?_
      rintro _ ⟨nq, rfl⟩
      go_wp2_with (go_at_call 58; with_reducible refine (Hid.out H58 nq).mono ?_; rintro e w4 ⟨rb, rfl, s4, hi4, hk4⟩; have HI4 := hidden hi4; have HK4 := hidden hk4; clear hi4 hk4)
      go_roundw
      case rel => first | exact ⟨k + 1, s4, by omega, by simp, Hid.out HI4, Hid.out HK4⟩ | ((repeat apply Exists.intro); exact ⟨⟨k + 1, s4, by omega, by simp, Hid.out HI4, Hid.out HK4⟩, rfl⟩)
      case measure => simp [intOf]; omega
    · have hkd2 : ¬ (k : Int) < (d.length : Int) := by omega
      obtain rfl : k = d.length := by omega
      clear hP hS
      go_wp2
      go_end0
      exact ⟨rfl, s', Hid.out HP, (Hid.out HS).trans (Hid.out HS2)⟩
end Go.Proofs.Ytpknppicamefgaa
namespace Go.Proofs.Ytpknppicamefgaa
open Go.ChangeShapes Go.WideShapes Go.ChangeAt Go.RowKit
set_option linter.unusedVariables false
/-- The cells of a state whose other registers are 0. -/
def stC (sp pc nx : Int) : Array Value := #[.int .u32 0, .int .u32 0, .int .u32 0, .int .u32 0, .int .u32 0, .int .u32 0, .int .u32 0, .int .u32 0, .int .u32 0, .int .u32 0, .int .u32 0, .int .u32 0, .int .u32 0, .int .u32 0, .int .u32 0, .int .u32 0, .int .u32 0, .int .u32 0, .int .u32 0, .int .u32 0, .int .u32 0, .int .u32 0, .int .u32 0, .int .u32 0, .int .u32 0, .int .u32 0, .int .u32 0, .int .u32 0, .int .u32 0, .int .u32 sp, .int .u32 0, .int .u32 0, .int .u32 0, .int .u32 0, .int .u32 pc, .int .u32 nx, .bool false]
theorem sizeSt : (Try.prog.info? 31).map (·.size) = some 37 := by kernel_rfl
theorem stC_size (sp pc nx : Int) : (stC sp pc nx).size = 37 := rfl
theorem stC_one (sp pc nx : Int) : (stC sp pc nx).all (·.oneCell') = true := by kernel_rfl
theorem stC_set (pc nx sp : Int) : (stC 0 pc nx).setIfInBounds 29 (.int .u32 sp) = stC sp pc nx := by kernel_rfl
theorem info31 (sp pc nx : Int) : (Try.prog.info? 31).map (·.size) = some (stC sp pc nx).size := sizeSt
theorem run_build31 (w : World) : (Instr.build 31 #[]).run Try.prog w = .ok (.agg (stC 0 0 0)) w := by kernel_rfl
theorem run_build31b (w : World) (pc nx : Int) : (Instr.build 31 #[(3, .int .u32 pc), (4, .int .u32 nx)]).run Try.prog w = .ok (.agg (stC 0 pc nx)) w := by kernel_rfl
/-- A state that is made anew. -/
theorem wpList_allocSt {ops : Array Oper} {rest : List Oper} {o : Oper} {a : Act} {w : World} {Q : Exit → Act → World → Prop} (hgd : o.guard = none) (ho : o.op = .alloc 31)
    (h : ∀ w1, Blk w1 w.heap.size (stC 0 0 0) 31 → w1.heap.size = w.heap.size + 1 → Below w.heap.size w w1 → wpList Try.prog ops Q rest (a.put o.dst (.pointer (some ⟨w.heap.size, 0, none⟩))) w1) : wpList Try.prog ops Q (o :: rest) a w := by
  refine Great.wpList_runTo hgd o.dst rfl (.pointer (some ⟨w.heap.size, 0, none⟩)) (w.alloc (.cells (stC 0 0 0) 31)) ?_ (h _ (Blk.new w _ _) (by simp) (below_new w _))
  obtain ⟨dst, op, ty, pos, aft, gd⟩ := o
  simp only at ho
  subst ho
  kernel_rfl
theorem wpList_buildSt {ops : Array Oper} {rest : List Oper} {o : Oper} {a : Act} {w : World} {Q : Exit → Act → World → Prop} (hgd : o.guard = none) (ho : o.op = .build 31 #[])
    (h : wpList Try.prog ops Q rest (a.put o.dst (.agg (stC 0 0 0))) w) : wpList Try.prog ops Q (o :: rest) a w := wpList_build hgd 31 _ ho (ps := #[]) (by simp) (run_build31 w) h
theorem wpList_buildSt2 {ops : Array Oper} {rest : List Oper} {o : Oper} {a : Act} {w : World} {Q : Exit → Act → World → Prop} (hgd : o.guard = none) (x y : Operand) (ho : o.op = .build 31 #[(3, x), (4, y)]) (pc nx : Int) (hx : a.eval x = .int .u32 pc) (hy : a.eval y = .int .u32 nx)
    (h : wpList Try.prog ops Q rest (a.put o.dst (.agg (stC 0 pc nx))) w) : wpList Try.prog ops Q (o :: rest) a w := wpList_build hgd 31 _ ho (by simp [hx, hy]) (run_build31b w pc nx) h
theorem only_setRow (w : World) (g : Nat) (cs : Array Value) : Only g w (w.setRow g cs) := by
  refine ⟨rfl, rfl, rfl, by simp [World.setRow], fun k hk => ?_⟩
  simp only [World.setRow, Array.getElem?_modify]
  rw [if_neg (fun e => hk e.symm)]
/-- A state that is put. -/
theorem wpList_storeSt {ops : Array Oper} {rest : List Oper} {o : Oper} {a : Act} {w : World} {Q : Exit → Act → World → Prop} (hgd : o.guard = none) (x y : Operand) (ho : o.op = .store 31 x y)
    (g : Nat) (cs : Array Value) (hx : a.eval x = .pointer (some ⟨g, 0, none⟩)) (hy : a.eval y = .agg cs) (old : Array Value) (hg : Blk w g old 31) (ho2 : old.size = 37) (hc : cs.size = 37) (h1 : cs.all (·.oneCell') = true)
    (h : ∀ w1, Blk w1 g cs 31 → Only g w w1 → wpList Try.prog ops Q rest (a.put o.dst undef) w1) : wpList Try.prog ops Q (o :: rest) a w :=
  wpList_store_row hgd 31 x y ho g cs hx hy 31 old hg (by rw [hc]; exact sizeSt) (by omega) h1 (h _ (setRow_heap w g old cs 31 (0, 0) hg) (only_setRow w g cs))
theorem wpList_loadSt {ops : Array Oper} {rest : List Oper} {o : Oper} {a : Act} {w : World} {Q : Exit → Act → World → Prop} (hgd : o.guard = none) (x : Operand) (ho : o.op = .load 31 x)
    (g : Nat) (cs : Array Value) (hx : a.eval x = .pointer (some ⟨g, 0, none⟩)) (hg : Blk w g cs 31) (hc : cs.size = 37)
    (h : wpList Try.prog ops Q rest (a.put o.dst (.agg cs)) w) : wpList Try.prog ops Q (o :: rest) a w :=
  wpList_load_row hgd 31 x ho g hx 31 cs (0, 0) _ hg Try.underlying31 rfl (by rw [hc]; exact sizeSt) h
theorem Blk.only {w w' : World} {g n : Nat} {cs : Array Value} {T : TypeId} (h : Blk w n cs T) (ho : Only g w w') (hne : n ≠ g) : Blk w' n cs T := (ho.block n hne).trans h
theorem only_below {B g : Nat} {u w w' : World} (h : Below B u w) (ho : Only g w w') (hg : B ≤ g) : Below B u w' :=
  ⟨ho.os.trans h.os, ho.tape.trans h.tape, ho.output.trans h.output, by rw [ho.size]; exact h.size, fun k hk => (ho.block k (by omega)).trans (h.block k hk)⟩
theorem setCell_blk {w : World} {g j : Nat} {cs : Array Value} {T : TypeId} (h : Blk w g cs T) (v : Value) : Blk (w.setCell ⟨g, j, none⟩ v) g (cs.setIfInBounds j v) T := heap_setCell_same w g j cs T v h
theorem Blk.frozen {w : World} {g j : Nat} {cs : Array Value} {T : TypeId} (h : Blk w g cs T) : w.frozen? ⟨g, j, none⟩ = false := frozen_of_row _ _ _ _ _ h
theorem beginSet {w : World} {g : Nat} {pc nx : Int} (h : Blk w g (stC 0 pc nx) 31) (sp : Int) : Blk (w.setCell ⟨g, 29, none⟩ (.int .u32 sp)) g (stC sp pc nx) 31 := by
  have h2 := setCell_blk (j := 29) h (.int .u32 sp)
  rw [stC_set] at h2
  exact h2
theorem begin0 {w1 w2 w3 : World} {n : Nat} {cs : Array Value} (h : Blk w1 n cs 31) (hb : Below (n + 1) w1 w2) (ho : Only (n + 1) w2 w3) (v : Value) : Blk (w3.setCell ⟨n + 1, 29, none⟩ v) n cs 31 :=
  (Below.heap_setCell _ _ _ _ (by simp)).trans ((ho.block n (by omega)).trans ((hb.block n (by omega)).trans h))
set_option maxRecDepth 20000 in
set_option maxHeartbeats 1000000 in
theorem begin_any (w : World) (ent : Nat) (he : ent ≤ 2147483648) : Calls Try.prog 29 #[.int .u32 (ent : Int)] w fun e w' => e = .returned (.agg (stC 2147479536 (ent : Int) ((ent : Int) + 4))) ∧ Below w.heap.size w w' := by
  have T1 : Hid True := trivial
  have T2 : Hid True := trivial
  have T3 : Hid True := trivial
  obtain ⟨n, hn⟩ : ∃ n, w.heap.size = n := ⟨_, rfl⟩
  go_enter Try.func29, Try.ntmps29
  go_wp2_with (first
    | (clear T1; refine wpList_allocSt rfl rfl ?_; rw [hn]; rintro w1 hk1 hs1 hb1; have HK1 := hidden hk1; have HB1 := hidden hb1; clear hk1 hb1)
    | (refine wpList_buildSt2 rfl _ _ rfl (ent : Int) ((ent : Int) + 4) ?_ ?_ ?_; kernel_rfl; kernel_rfl)
    | (clear T2; refine wpList_allocSt rfl rfl ?_; rw [hs1]; rintro w2 hk2 hs2 hb2; have HK2 := hidden hk2; have HB2 := hidden hb2; clear hk2 hb2)
    | (clear T3; refine wpList_storeSt rfl _ _ rfl (n + 1) (stC 0 (ent : Int) ((ent : Int) + 4)) rfl rfl _ (Hid.out HK2) (stC_size _ _ _) (stC_size _ _ _) (stC_one _ _ _) ?_; rintro w3 hk3 ho3; have c29 : w3.cell? ⟨n + 1, 29, none⟩ = some (.int .u32 0) := hk3.cell rfl; have f29 : w3.frozen? ⟨n + 1, 29, none⟩ = false := hk3.frozen; have HK3 := hidden hk3; have HO3 := hidden ho3; clear hk3 ho3)
    | (refine wpList_loadSt rfl _ rfl (n + 1) (stC 2147479536 (ent : Int) ((ent : Int) + 4)) rfl (beginSet (Hid.out HK3) _) (stC_size _ _ _) ?_)
    | (refine wpList_storeSt rfl _ _ rfl n (stC 2147479536 (ent : Int) ((ent : Int) + 4)) rfl rfl (stC 0 0 0) (begin0 (Hid.out HK1) (Hid.out HB2) (Hid.out HO3) _) (stC_size _ _ _) (stC_size _ _ _) (stC_one _ _ _) ?_; rintro w5 hk5 ho5; have HK5 := hidden hk5; have HO5 := hidden ho5; clear hk5 ho5))
  refine bodyPost_ret (results_cell_row rfl _ _ n 31 (stC 2147479536 (ent : Int) ((ent : Int) + 4)) (0, 0) _ rfl (Hid.out HK5) Try.underlying31 rfl (info31 _ _ _)) rfl ⟨rfl, ?_⟩
  have b1 : Below n w w2 := (Hid.out HB1).trans ((Hid.out HB2).mono (by omega))
  have b3 : Below n w w3 := only_below b1 (Hid.out HO3) (by omega)
  have b4 := b3.setCell (p := ⟨n + 1, 29, none⟩) (by show n ≤ n + 1; omega) (.int .u32 2147479536)
  rw [hn]
  exact only_below b4 (Hid.out HO5) (Nat.le_refl _)
/-- The registers of such a state. -/
def stR (sp : Int) : List Value := (stC sp 0 0).toList.take 32
theorem stR_eq (sp pc nx : Int) : (stC sp pc nx).toList.take 32 = stR sp := by kernel_rfl
theorem sizeR : (Try.prog.info? 29).map (·.size) = some 32 := by kernel_rfl
theorem wpList_loadR {ops : Array Oper} {rest : List Oper} {o : Oper} {a : Act} {w : World} {Q : Exit → Act → World → Prop} (hgd : o.guard = none) (x : Operand) (ho : o.op = .load 29 x)
    (g : Nat) (sp pc nx : Int) (hx : a.eval x = .pointer (some ⟨g, 0, none⟩)) (hg : Blk w g (stC sp pc nx) 31)
    (h : wpList Try.prog ops Q rest (a.put o.dst (.agg (stR sp).toArray)) w) : wpList Try.prog ops Q (o :: rest) a w := by
  refine wpList_load_mid hgd 29 x ho g 0 hx (stR sp) _ ?_ Try.underlying29 rfl sizeR h
  intro j v hv
  rw [Nat.zero_add]
  refine hg.cell ?_
  rw [← stR_eq sp pc nx, List.getElem?_take] at hv
  split at hv
  · simpa using hv
  · cases hv
theorem run_eqR (w : World) : (binOp .eql 29 (.agg (stR 0).toArray) (.agg (stR 0).toArray)).run Try.prog w = .ok (.bool true) w := by kernel_rfl
theorem wpList_eqR {ops : Array Oper} {rest : List Oper} {o : Oper} {a : Act} {w : World} {Q : Exit → Act → World → Prop} (hgd : o.guard = none) (x y : Operand) (ho : o.op = .binOp .eql 29 x y 29)
    (hx : a.eval x = .agg (stR 0).toArray) (hy : a.eval y = .agg (stR 0).toArray)
    (h : wpList Try.prog ops Q rest (a.put o.dst (.bool true)) w) : wpList Try.prog ops Q (o :: rest) a w := by
  refine Great.wpList_runTo hgd o.dst rfl (.bool true) w ?_ h
  have he : (eqGuard .eql 29 x y (.agg (stR 0).toArray) (.agg (stR 0).toArray)).run Try.prog w = .ok () w := by kernel_rfl
  unfold execOp
  simp only [ho, hx, hy, Sem.run_bind, he, run_eqR, Result.andThen_ok, Sem.run_pure]
set_option maxRecDepth 20000 in
set_option maxHeartbeats 1000000 in
theorem sameState_zero (w : World) : Calls Try.prog 11 #[.agg (stC 0 0 0), .agg (stC 0 0 0)] w fun e w' => e = .returned (.bool true) ∧ Below w.heap.size w w' := by
  obtain ⟨n, hn⟩ : ∃ n, w.heap.size = n := ⟨_, rfl⟩
  obtain ⟨W, hW⟩ : ∃ W, (w.alloc (.cells (stC 0 0 0) 31)).alloc (.cells (stC 0 0 0) 31) = W := ⟨_, rfl⟩
  have k1 : Blk W n (stC 0 0 0) 31 := by rw [← hW, ← hn]; exact (heap_alloc_old _ _ (by simp)).trans (Blk.new w _ _)
  have k2 : Blk W (n + 1) (stC 0 0 0) 31 := by
    have := Blk.new (w.alloc (.cells (stC 0 0 0) 31)) (stC 0 0 0) 31
    rw [World.size_alloc, hn] at this
    rw [← hW]; exact this
  have hB : Below n w W := by rw [← hW, ← hn]; exact ((Below.refl _ w).alloc (Nat.le_refl _) _).alloc (by simp) _
  have c32 : W.cell? ⟨n, 32, none⟩ = some (.int .u32 0) := k1.cell rfl
  have c33 : W.cell? ⟨n, 33, none⟩ = some (.int .u32 0) := k1.cell rfl
  have c34 : W.cell? ⟨n, 34, none⟩ = some (.int .u32 0) := k1.cell rfl
  have c35 : W.cell? ⟨n, 35, none⟩ = some (.int .u32 0) := k1.cell rfl
  have c36 : W.cell? ⟨n, 36, none⟩ = some (.bool false) := k1.cell rfl
  have d32 : W.cell? ⟨n + 1, 32, none⟩ = some (.int .u32 0) := k2.cell rfl
  have d33 : W.cell? ⟨n + 1, 33, none⟩ = some (.int .u32 0) := k2.cell rfl
  have d34 : W.cell? ⟨n + 1, 34, none⟩ = some (.int .u32 0) := k2.cell rfl
  have d35 : W.cell? ⟨n + 1, 35, none⟩ = some (.int .u32 0) := k2.cell rfl
  have d36 : W.cell? ⟨n + 1, 36, none⟩ = some (.bool false) := k2.cell rfl
  have K1 := hidden k1
  have K2 := hidden k2
  have HB := hidden hB
  have T1 : Hid True := trivial
  clear k1 k2 hB
  go_enter Try.func11, Try.ntmps11
  go_wp2_with (first
    | (clear T1; refine wpList_loadR rfl _ rfl n 0 0 0 rfl (Hid.out K1) ?_)
    | (refine wpList_loadR rfl _ rfl (n + 1) 0 0 0 rfl (Hid.out K2) ?_)
    | (refine wpList_eqR rfl _ _ rfl rfl rfl ?_))
  go_ret
  exact ⟨rfl, by rw [hn]; exact Hid.out HB⟩
end Go.Proofs.Ytpknppicamefgaa
namespace Go.Proofs.Ytpknppicamefgaa
open Go.ChangeShapes Go.WideShapes Go.ChangeAt Go.RowKit
set_option linter.unusedVariables false
def segPg (g : Sg) : List Nat := pgs g.at_ (cntP g.at_ g.size)
def segLay (f : AM) (g : Sg) : AM := layAm f g.perm (segPg g)
def segAm (f : AM) (g : Sg) : AM := fillAm (segLay f g) g.at_ g.data g.data.length
def loadKs (most : Nat) : List Nat → List Sg → Option (List Nat)
  | ks, [] => some ks
  | ks, g :: l => (layKs most ks (segPg g)).bind fun k => loadKs most k l
theorem loadKs_append (most : Nat) (m : List Sg) : ∀ (l : List Sg) (ks : List Nat), loadKs most ks (l ++ m) = (loadKs most ks l).bind fun k => loadKs most k m := by
  intro l
  induction l with
  | nil => intro ks; rfl
  | cons g l ih =>
    intro ks
    simp only [List.cons_append, loadKs]
    cases layKs most ks (segPg g) with
    | none => rfl
    | some k => exact ih k
theorem loadKs_one (most : Nat) (ks : List Nat) (g : Sg) : loadKs most ks [g] = layKs most ks (segPg g) := by
  simp only [loadKs]
  cases layKs most ks (segPg g) <;> rfl
def loadAm (l : List Sg) : AM := l.foldl segAm fun _ => none
theorem loadAm_snoc (l : List Sg) (g : Sg) : loadAm (l ++ [g]) = segAm (loadAm l) g := by simp [loadAm]
def stackPg : List Nat := pgs 2147479040 (cntP 2147479040 512)
def allKs (most : Nat) (l : List Sg) : Option (List Nat) := (loadKs most [] l).bind fun k => layKs most k stackPg
def allAm (l : List Sg) : AM := layAm (loadAm l) 6 stackPg
/-- Nothing is watched. -/
def OffA (f : AM) : Prop := ∀ k x, f k = some x → x.2.2 = false
theorem offA_amap {f : AM} (h : OffA f) (a : Nat) (z : Int) : OffA (amap f a z) := by
  intro k x hx
  unfold amap at hx
  split at hx
  · split at hx
    · rename_i l p o he
      cases hx
      exact h k (l, p, o) he
    · cases hx; rfl
  · exact h _ _ hx
theorem offA_apoke {f : AM} (h : OffA f) (a : Nat) (v : UInt8) : OffA (apoke f a v) := by
  intro k x hx
  unfold apoke at hx
  split at hx
  · cases he : f k with
    | none => rw [he] at hx; cases hx
    | some y => rw [he] at hx; cases hx; exact h k y he
  · exact h _ _ hx
theorem offA_lay (z : Int) : ∀ (ps : List Nat) {f : AM}, OffA f → OffA (layAm f z ps) := by
  intro ps
  induction ps with
  | nil => intro f h; exact h
  | cons p ps ih => intro f h; exact ih (offA_amap h p z)
theorem offA_fill {f : AM} (h : OffA f) (a : Nat) (d : List UInt8) : ∀ k, OffA (fillAm f a d k)
  | 0 => h
  | k + 1 => offA_apoke (offA_fill h a d k) _ _
theorem offA_load : ∀ (l : List Sg) {f : AM}, OffA f → OffA (l.foldl segAm f) := by
  intro l
  induction l with
  | nil => intro f h; exact h
  | cons g l ih => intro f h; exact ih (offA_fill (offA_lay _ _ h) _ _ _)
theorem offA_all (l : List Sg) : OffA (loadAm l) := offA_load l fun _ _ h => by cases h
theorem off_of_abs {s : MS} (h : OffA s.abs) : ∀ k ∈ s.ks, s.on k = false := fun k hk => h k _ (abs_in hk)
/-- A memory on the way, so many segments being there. -/
structure LM (u wr : World) (mb mo : Nat) (l : List Sg) (k : Nat) (s : MS) : Prop where
  own : Own u wr s
  mb : s.mb = mb
  most : s.most = mo
  ks : loadKs mo [] (l.take k) = some s.ks
  abs : s.abs = loadAm (l.take k)
  ts : s.ts = []
  c : s.c ≤ 16384 * k
/-- A memory on the way, the next segment's pages being there. -/
structure LL (u wr : World) (mb mo : Nat) (l : List Sg) (k : Nat) (s : MS) : Prop where
  own : Own u wr s
  mb : s.mb = mb
  most : s.most = mo
  ks : loadKs mo [] (l.take (k + 1)) = some s.ks
  abs : s.abs = segLay (loadAm (l.take k)) (l.getD k nosg)
  ts : s.ts = []
  c : s.c ≤ 16384 * k
theorem take_getD {l : List Sg} {k : Nat} (h : k < l.length) : l.take (k + 1) = l.take k ++ [l.getD k nosg] := by
  rw [take_snoc l k h]
  simp [List.getD_eq_getElem?_getD, h]
theorem LM.laid {u wr : World} {mb most k : Nat} {l : List Sg} {s : MS} (h : LM u wr mb most l k s) (hk : k < l.length) (hg : okB (l.getD k nosg) = true) :
    Calls Try.prog 27 #[.pointer (some ⟨mb, 0, none⟩), .int .u32 ((l.getD k nosg).at_ : Int), .int .u32 ((l.getD k nosg).size : Int), .int .i64 (l.getD k nosg).perm] wr fun e w' => Below u.heap.size u w' ∧ (∀ b, b < wr.heap.size → ¬ foot s b → w'.heap[b]? = wr.heap[b]?) ∧ wr.heap.size ≤ w'.heap.size ∧ ((e = .returned (.int .i64 0) ∧ ∃ s', LL u w' mb most l k s' ∧ (∀ b, foot s' b → foot s b ∨ wr.heap.size ≤ b)) ∨ (e = .returned (.int .i64 2) ∧ loadKs most [] (l.take (k + 1)) = none)) := by
  obtain ⟨g1, g2, g3, g4, g5, g6⟩ := ok_size hg
  have h27 := lay_any wr s (l.getD k nosg).at_ (l.getD k nosg).size (l.getD k nosg).perm h.own.mem g4
  rw [h.mb] at h27
  refine h27.mono ?_
  rintro e w' (⟨s', he, hL, hS⟩ | ⟨he, hn, s', hS⟩)
  · have ho := h.own.step hS
    refine ⟨ho.below, fun b hb hf => hS.keep.block b hb hf, hS.keep.size, .inl ⟨he, s', ⟨ho, hL.mb.trans h.mb, hL.most.trans h.most, ?_, ?_, hL.ts.trans h.ts, by rw [hL.c]; exact h.c⟩, hS.grow⟩⟩
    · rw [take_getD hk, loadKs_append, h.ks]
      show loadKs most s.ks [_] = _
      rw [loadKs_one, ← h.most]
      exact hL.ks
    · rw [hL.abs, h.abs]; rfl
  · refine ⟨(h.own.step hS).below, fun b hb hf => hS.keep.block b hb hf, hS.keep.size, .inr ⟨he, ?_⟩⟩
    rw [take_getD hk, loadKs_append, h.ks]
    show loadKs most s.ks [_] = _
    rw [loadKs_one, ← h.most]
    exact hn
theorem LL.filled {u wr : World} {mb most k : Nat} {l : List Sg} {s : MS} (h : LL u wr mb most l k s) (hk : k < l.length) (hk8 : k < 8) (hg : okB (l.getD k nosg) = true) :
    Calls Try.prog 28 #[.pointer (some ⟨mb, 0, none⟩), .agg #[.int .u32 ((l.getD k nosg).at_ : Int), .string ⟨(l.getD k nosg).data.toArray⟩, .int .u32 ((l.getD k nosg).size : Int), .int .i64 (l.getD k nosg).perm]] wr fun e w' => e = .returned (.tuple #[]) ∧ ∃ s', LM u w' mb most l (k + 1) s' := by
  obtain ⟨g1, g2, g3, g4, g5, g6⟩ := ok_size hg
  have hc := h.c
  have h28 := fill_any wr s (l.getD k nosg) h.own.mem (off_of_abs (by rw [h.abs]; exact offA_lay _ _ (offA_all _))) (by omega) (by omega)
  rw [h.mb] at h28
  refine h28.mono ?_
  rintro e w' ⟨he, s', hP, hS⟩
  have hc2 := hP.c
  refine ⟨he, s', ⟨h.own.step hS, hP.mb.trans h.mb, hP.most.trans h.most, by rw [hP.ks]; exact h.ks, ?_, hP.ts.trans h.ts, by omega⟩⟩
  rw [hP.abs, h.abs, take_getD hk, loadAm_snoc]
  rfl
/-- What was loaded. -/
structure Loaded (w w' : World) (mo : Nat) (l : List Sg) (s : MS) : Prop where
  own : Own w w' s
  most : s.most = mo
  ks : allKs mo l = some s.ks
  abs : s.abs = allAm l
  ts : s.ts = []
theorem LM.stack {u wr : World} {mb most : Nat} {l : List Sg} {s : MS} (h : LM u wr mb most l l.length s) :
    Calls Try.prog 27 #[.pointer (some ⟨mb, 0, none⟩), .int .u32 2147479040, .int .u32 512, .int .i64 6] wr fun e w' => Below u.heap.size u w' ∧ ((e = .returned (.int .i64 0) ∧ ∃ s', s'.mb = mb ∧ Loaded u w' most l s') ∨ (e = .returned (.int .i64 2) ∧ allKs most l = none)) := by
  have h27 := lay_any wr s 2147479040 512 6 h.own.mem (by omega)
  rw [h.mb] at h27
  have hks := h.ks
  have hab := h.abs
  rw [List.take_of_length_le (Nat.le_refl _)] at hks hab
  refine Calls.mono h27 ?_
  rintro e w' (⟨s', he, hL, hS⟩ | ⟨he, hn, s', hS⟩)
  · refine ⟨(h.own.step hS).below, .inl ⟨he, s', hL.mb.trans h.mb, h.own.step hS, hL.most.trans h.most, ?_, ?_, hL.ts.trans h.ts⟩⟩
    · unfold allKs
      rw [hks, ← h.most]
      exact hL.ks
    · rw [hL.abs, hab]; rfl
  · refine ⟨(h.own.step hS).below, .inr ⟨he, ?_⟩⟩
    unfold allKs
    rw [hks, ← h.most]
    exact hn
theorem results_tct {fn : Func} {t p u : Tmp} {ty : TypeId} (h : fn.results = #[.tmp t, .cell p ty, .tmp u]) (tmps : Array Value) (w : World) (g : Nat) (v : Value)
    (hp : tmps.getD p undef = .pointer (some ⟨g, 0, none⟩)) (hv : (loadVar ty ⟨g, 0, none⟩).run Try.prog w = .ok v w) :
    (results fn tmps).run Try.prog w = .ok (.tuple #[tmps.getD t undef, v, tmps.getD u undef]) w := by
  have hp' : tmps[p]?.getD undef = .pointer (some ⟨g, 0, none⟩) := by simpa using hp
  simp [results, h, hp', asAddr, hv]
theorem load31 {w : World} {g : Nat} {sp pc nx : Int} (hg : Blk w g (stC sp pc nx) 31) : (loadVar 31 ⟨g, 0, none⟩).run Try.prog w = .ok (.agg (stC sp pc nx)) w :=
  run_loadVar_row w g 31 31 _ _ _ hg Try.underlying31 rfl (info31 _ _ _)
end Go.Proofs.Ytpknppicamefgaa
