/- Worlds of call: made, put, loaded; one's own, walked. -/
import Derived.Test.YtodoenimlhldjaaBMAM
import Derived.Test.YtodoenimlhldjaaBMAJ
import Derived.Test.YtodoenimlhldjaaBMAD
namespace Go.Proofs.Ytodoenimlhldjaa
open Go.ChangeShapes Go.WideShapes Go.ChangeAt Go.RowKit
set_option linter.unusedVariables false
theorem nlt2 (n : Nat) : n < n + 2 := by omega
theorem Rw.one {w : World} {z m : Nat} {v : Value} {cs : List Value} (h : Rw w z v m cs) : v.oneCell' = true := by
  obtain ⟨_, ao, cap, rfl, _⟩ := h
  rfl
theorem Fr.one {w : World} {N m : Nat} {T : TypeId} {v : Value} {cs : List Value} (h : Fr w N T v m cs) : v.oneCell' = true := by
  obtain ⟨g, _, rfl, _⟩ := h
  rfl
def zCw : Array Value := cwC ⟨#[]⟩ 0 (.slice none 0 0) 0 (.slice none 0 0)
theorem cw_one {inp : ByteArray} {at_ us : Int} {rd ev : Value} (h1 : rd.oneCell' = true) (h2 : ev.oneCell' = true) : (cwC inp at_ rd us ev).all (·.oneCell') = true := by
  have e1 : (Value.string inp).oneCell' = true := rfl
  have e2 : ∀ x : Int, (Value.int .i64 x).oneCell' = true := fun _ => rfl
  simp [e1, e2, h1, h2]
theorem wpList_allocCw {ops : Array Oper} {rest : List Oper} {o : Oper} {a : Act} {w : World} {Q : Exit → Act → World → Prop} (hgd : o.guard = none) (ho : o.op = .alloc 38)
    (h : ∀ w1, Blk w1 w.heap.size zCw 38 → w1.heap.size = w.heap.size + 1 → Below w.heap.size w w1 → wpList Try.prog ops Q rest (a.put o.dst (.pointer (some ⟨w.heap.size, 0, none⟩))) w1) : wpList Try.prog ops Q (o :: rest) a w := by
  refine Great.wpList_runTo hgd o.dst rfl (.pointer (some ⟨w.heap.size, 0, none⟩)) (w.alloc (.cells zCw 38)) ?_ (h _ (Blk.new w _ _) (by simp) (below_new w _))
  obtain ⟨dst, op, ty, pos, aft, gd⟩ := o
  simp only at ho
  subst ho
  kernel_rfl
theorem wpList_loadCw {ops : Array Oper} {rest : List Oper} {o : Oper} {a : Act} {w : World} {Q : Exit → Act → World → Prop} (hgd : o.guard = none) (x : Operand) (ho : o.op = .load 38 x)
    (g : Nat) (cs : Array Value) (hx : a.eval x = .pointer (some ⟨g, 0, none⟩)) (hg : Blk w g cs 38) (hs : cs.size = 5)
    (h : wpList Try.prog ops Q rest (a.put o.dst (.agg cs)) w) : wpList Try.prog ops Q (o :: rest) a w :=
  wpList_load_row hgd 38 x ho g hx 38 cs (0, 0) _ hg Try.underlying38 rfl (by rw [hs]; exact sizeCw) h
theorem wpList_storeCw {ops : Array Oper} {rest : List Oper} {o : Oper} {a : Act} {w : World} {Q : Exit → Act → World → Prop} (hgd : o.guard = none) (hd : o.dst = none) (x y : Operand) (ho : o.op = .store 38 x y)
    (g : Nat) (old cs : Array Value) (hx : a.eval x = .pointer (some ⟨g, 0, none⟩)) (hy : a.eval y = .agg cs) (hg : Blk w g old 38) (ho2 : old.size = 5) (hs : cs.size = 5) (h1 : cs.all (·.oneCell') = true)
    (h : ∀ w1, Blk w1 g cs 38 → Only g w w1 → wpList Try.prog ops Q rest a w1) : wpList Try.prog ops Q (o :: rest) a w :=
  wpList_storeG hgd hd 38 x y ho g old cs hx hy hg (by rw [hs]; exact sizeCw) (by rw [ho2, hs]) h1 h
theorem loadIs {w : World} {a : Addr} {v : Value} (hc : w.cell? a = some v) : (loadVar 27 a).run Try.prog w = .ok v w := by simp [loadVar, isAgg, Sem.run_bind, run_underlying Try.underlying27, hc, go_sem]
theorem loadEs {w : World} {a : Addr} {v : Value} (hc : w.cell? a = some v) : (loadVar 28 a).run Try.prog w = .ok v w := by simp [loadVar, isAgg, Sem.run_bind, run_underlying Try.underlying28, hc, go_sem]
theorem loadStr {w : World} {a : Addr} {v : Value} (hc : w.cell? a = some v) : (loadVar 9 a).run Try.prog w = .ok v w := by simp [loadVar, isAgg, Sem.run_bind, run_underlying Try.underlying9, hc, go_sem]
theorem sizeIs1 : (Try.prog.info? 27).map (·.size) = some 1 := by kernel_rfl
theorem sizeEs1 : (Try.prog.info? 28).map (·.size) = some 1 := by kernel_rfl
theorem exec_store1 {ρ : Operand → Value} {o : Oper} {x y : Operand} {ty T : TypeId} {g k : Nat} {cs : Array Value} {v : Value} (hop : o.op = .store ty x y) (hx : ρ x = .pointer (some ⟨g, k, none⟩)) (hy : ρ y = v) (hv : v.oneCell' = true) (hi : (Try.prog.info? ty).map (·.size) = some 1) (w : World) (hg : Blk w g cs T) (hk : k < cs.size) : (execOp ρ o).run Try.prog w = .ok .skip (w.setCell ⟨g, k, none⟩ v) := by
  unfold execOp
  simp only [hop, hx, hy, Instr.storeAt, Instr.sureAddr, Sem.run_bind, Sem.run_pure, Result.andThen_ok, run_storeVar_one w g k ty v cs T hv hi hg hk]
/-- How a world is made one's own: only its block n turns, and its lists only to rows that are new. -/
structure OwR (n : Nat) (l : List Int) (e : List (Int × ByteArray)) (w w' : World) : Prop where
  keep : Keep (· = n) w w'
  blk : ∀ inp at_ rd us ev, Blk w n (cwC inp at_ rd us ev) 38 → ∃ rd' ev', Blk w' n (cwC inp at_ rd' us ev') 38 ∧ (rd' = rd ∨ Fr w' (n + 2) 3 rd' l.length (cI l)) ∧ (ev' = ev ∨ Fr w' (n + 2) 66 ev' e.length (cE e))
theorem later_ow (n : Nat) (l : List Int) (e : List (Int × ByteArray)) : Later (OwR n l e) :=
  ⟨fun w => ⟨Keep.refl _ w, fun _ _ rd _ ev h => ⟨rd, ev, h, .inl rfl, .inl rfl⟩⟩, fun u v w h k => ⟨h.keep.trans k.keep fun _ _ e => e, fun inp at_ rd us ev hb => by
    obtain ⟨rd1, ev1, b1, r1, e1⟩ := h.blk inp at_ rd us ev hb
    obtain ⟨rd2, ev2, b2, r2, e2⟩ := k.blk inp at_ rd1 us ev1 b1
    refine ⟨rd2, ev2, b2, ?_, ?_⟩
    · rcases r2 with rfl | r2
      · exact r1.imp id fun f => f.keep k.keep (nlt2 n)
      · exact .inr r2
    · rcases e2 with rfl | e2
      · exact e1.imp id fun f => f.keep k.keep (nlt2 n)
      · exact .inr e2⟩, fun w => ⟨⟨rfl, rfl, rfl, Nat.le_refl _, fun _ _ _ => rfl⟩, fun _ _ rd _ ev h => ⟨rd, ev, h, .inl rfl, .inl rfl⟩⟩⟩
theorem OwR.of_below {n : Nat} {l : List Int} {e : List (Int × ByteArray)} {w w' : World} (h : Below w.heap.size w w') : OwR n l e w w' := ⟨Keep.of_below h, fun _ _ rd _ ev hb => ⟨rd, ev, hb.later h, .inl rfl, .inl rfl⟩⟩
theorem OwR.put2 {n : Nat} {l : List Int} {e : List (Int × ByteArray)} {w : World} {v : Value} (h : Fr w (n + 2) 3 v l.length (cI l)) : OwR n l e w (w.setCell ⟨n, 2, none⟩ v) :=
  ⟨keep_setCell w n 2 v, fun inp at_ rd us ev hb => ⟨v, ev, heap_setCell_same w n 2 _ _ v hb, .inr (h.keep (keep_setCell w n 2 v) (nlt2 n)), .inl rfl⟩⟩
theorem OwR.put4 {n : Nat} {l : List Int} {e : List (Int × ByteArray)} {w : World} {v : Value} (h : Fr w (n + 2) 66 v e.length (cE e)) : OwR n l e w (w.setCell ⟨n, 4, none⟩ v) :=
  ⟨keep_setCell w n 4 v, fun inp at_ rd us ev hb => ⟨rd, v, heap_setCell_same w n 4 _ _ v hb, .inl rfl, .inr (h.keep (keep_setCell w n 4 v) (nlt2 n))⟩⟩
/-- What the slots of the region hold, whatever the order. -/
def phiOw (n : Nat) (inp : ByteArray) (at_ us : Int) (l : List Int) (e : List (Int × ByteArray)) : Nat → Value → World → Prop
  | 0, x, _ => x = .pointer (some ⟨n, 2, none⟩)
  | 1, x, w => RwA n w 1 x l.length (cI l)
  | 2, x, w => Fr w (n + 2) 3 x l.length (cI l)
  | 3, x, _ => x = .pointer (some ⟨n, 4, none⟩)
  | 4, x, w => RwA n w 2 x e.length (cE e)
  | 5, x, w => Fr w (n + 2) 66 x e.length (cE e)
  | 6, x, _ => x = .pointer (some ⟨n, 2, none⟩)
  | 7, x, w => ∃ rd ev, Blk w n (cwC inp at_ rd us ev) 38 ∧ Fr w (n + 2) 3 rd l.length (cI l)
  | 8, x, _ => x = .pointer (some ⟨n, 4, none⟩)
  | 9, x, w => ∃ rd ev, Blk w n (cwC inp at_ rd us ev) 38 ∧ Fr w (n + 2) 66 ev e.length (cE e)
  | _ + 10, _, _ => True
theorem phiOw_mono (n : Nat) (inp : ByteArray) (at_ us : Int) (l : List Int) (e : List (Int × ByteArray)) : ∀ i x w w', phiOw n inp at_ us l e i x w → OwR n l e w w' → phiOw n inp at_ us l e i x w'
  | 0, _, _, _, h, _ => h
  | 1, x, w, w', h, hb => h.keep hb.keep
  | 2, x, w, w', h, hb => h.keep hb.keep (nlt2 n)
  | 3, _, _, _, h, _ => h
  | 4, x, w, w', h, hb => h.keep hb.keep
  | 5, x, w, w', h, hb => h.keep hb.keep (nlt2 n)
  | 6, _, _, _, h, _ => h
  | 7, x, w, w', h, hb => by obtain ⟨rd, ev, h1, h2⟩ := h; obtain ⟨rd2, ev2, b2, r2, _⟩ := hb.blk _ _ _ _ _ h1; refine ⟨rd2, ev2, b2, ?_⟩; rcases r2 with rfl | r2; exact h2.keep hb.keep (nlt2 n); exact r2
  | 8, _, _, _, h, _ => h
  | 9, x, w, w', h, hb => by obtain ⟨rd, ev, h1, h2⟩ := h; obtain ⟨rd2, ev2, b2, _, r2⟩ := hb.blk _ _ _ _ _ h1; refine ⟨rd2, ev2, b2, ?_⟩; rcases r2 with rfl | r2; exact h2.keep hb.keep (nlt2 n); exact r2
  | _ + 10, _, _, _, _, _ => trivial
theorem listOw : ∀ xs : List Value, xs.length = 10 → ∃ x0 x1 x2 x3 x4 x5 x6 x7 x8 x9, xs = [x0, x1, x2, x3, x4, x5, x6, x7, x8, x9]
  | [x0, x1, x2, x3, x4, x5, x6, x7, x8, x9], _ => ⟨_, _, _, _, _, _, _, _, _, _, rfl⟩
theorem Rw.avoid2 {w : World} {z m n : Nat} {T : TypeId} {v : Value} {cs : List Value} (h : Rw w z v m cs) (hf : Fr w (n + 2) T v m cs) : RwA n w z v m cs := by
  refine ⟨h, .inr fun b off l c e => ?_⟩
  obtain ⟨g, hN, e2, _⟩ := hf
  rw [e2] at e
  injection e with e4
  injection e4 with e5
  injection e5 with e6
  omega
set_option maxRecDepth 20000 in
set_option maxHeartbeats 1000000 in
theorem own_any (w : World) (inp : ByteArray) (at_ us : Int) (rd ev : Value) (l : List Int) (e : List (Int × ByteArray)) (hr : Rw w 1 rd l.length (cI l)) (he : Rw w 2 ev e.length (cE e)) (hl : l.length ≤ 16384) (hel : e.length ≤ 16384) : Calls Try.prog 34 #[.agg (cwC inp at_ rd us ev)] w fun x w' => ∃ rd' ev', x = .returned (.agg (cwC inp at_ rd' us ev')) ∧ Fr w' w.heap.size 3 rd' l.length (cI l) ∧ Fr w' w.heap.size 66 ev' e.length (cE e) ∧ Below w.heap.size w w' := by
  obtain ⟨n, hn⟩ : ∃ n, w.heap.size = n := ⟨_, rfl⟩
  obtain ⟨C, hC⟩ : ∃ C, cwC inp at_ rd us ev = C := ⟨_, rfl⟩
  have HR := hidden (hr.avoid (g := n) (by omega))
  have HE := hidden (he.avoid (g := n) (by omega))
  have HL := hidden hl
  have HEL := hidden hel
  have HC := hidden hC
  rw [hC]
  clear hC hr he hl hel
  go_enter Try.func34, Try.ntmps34
  go_upto_region 1 with (first
    | (refine wpList_boxG rfl 38 _ rfl C rfl ?_; rintro w1 k1 s1 b1; rw [hn] at k1 s1 b1 ⊢; have K1 : Hid (Blk w1 n (cwC inp at_ rd us ev) 38) := hidden (by rw [HC.out]; exact k1); have S1 := hidden s1; have B1 := hidden b1; clear k1 s1 b1)
    | (refine wpList_allocCw rfl rfl ?_; rintro w2 k2 s2 b2; rw [S1.out] at k2 s2 b2 ⊢; have HB := hidden (K1.out.later (by rw [S1.out]; exact b2)); have S2 := hidden s2; have Z2 := hidden k2; have B2 := hidden (B1.out.trans (b2.mono (by omega))); have BB := hidden (show Keep (· = n) w w2 from Keep.mono (Keep.of_below (F := nought) (by rw [hn]; exact B1.out.trans (b2.mono (by omega)))) (fun _ _ h => h.elim)); clear k2 s2 b2 B1 K1))
  have HR2 := hidden (HR.out.keep BB.out)
  have HE2 := hidden (HE.out.keep BB.out)
  clear HR HE BB
  have HR := HR2
  have HE := HE2
  clear HR2 HE2
  have N2 : Hid (n + 2 ≤ w2.heap.size) := hidden (by have := S2.out; omega)
  refine wp_region_on (later_ow n l e) [3, 4, 5, 6, 7, 8, 9, 1007, 10, 1009] 10 (phiOw n inp at_ us l e) (by kernel_rfl) (by kernel_rfl) rfl rfl (phiOw_mono n inp at_ us l e) ?_ ?_
  · intro j hj xs w3 hxs hR hpre
    obtain ⟨x0, x1, x2, x3, x4, x5, x6, x7, x8, x9, rfl⟩ := listOw xs hxs
    have hN3 : n + 2 ≤ w3.heap.size := Nat.le_trans N2.out hR.keep.size
    rcases (show j = 0 ∨ j = 1 ∨ j = 2 ∨ j = 3 ∨ j = 4 ∨ j = 5 ∨ j = 6 ∨ j = 7 ∨ j = 8 ∨ j = 9 by omega) with rfl | rfl | rfl | rfl | rfl | rfl | rfl | rfl | rfl | rfl
    · exact wpOp_run (.pointer (some ⟨n, 2, none⟩)) rfl (by kernel_rfl) (by kernel_rfl) ⟨_, by kernel_rfl, rfl, (later_ow _ _ _).refl _⟩
    · have e0 : x0 = .pointer (some ⟨n, 2, none⟩) := hpre 0 (by kernel_rfl)
      subst e0
      obtain ⟨rd1, ev1, b1, r1, s1⟩ := hR.blk _ _ _ _ _ HB.out
      exact wpOp_run rd1 rfl (by kernel_rfl) (exec_load 27 rfl (by kernel_rfl) w3 (loadIs (b1.cell (j := 2) rfl))) ⟨_, by kernel_rfl, (by rcases r1 with rfl | r1; exact HR.out.keep hR.keep; exact (r1.rw (cI_len l)).avoid2 r1), (later_ow _ _ _).refl _⟩
    · have f1 : RwA n w3 1 x1 l.length (cI l) := hpre 1 (by kernel_rfl)
      refine wpOp_callR (R := fun u w4 => Fr w4 (n + 2) 3 u l.length (cI l) ∧ Below w3.heap.size w3 w4) 49 #[x1] rfl (by kernel_rfl) (by kernel_rfl) ((anewI_any w3 x1 _ _ HL.out f1.1 (cI_one _)).mono fun x w4 h => by obtain ⟨v, hv, hf, hb⟩ := h; exact ⟨v, hv, hf.mono hN3, hb⟩) ?_
      rintro u w4 ⟨hf, hb4⟩
      exact ⟨_, by kernel_rfl, hf, OwR.of_below hb4⟩
    · exact wpOp_run (.pointer (some ⟨n, 4, none⟩)) rfl (by kernel_rfl) (by kernel_rfl) ⟨_, by kernel_rfl, rfl, (later_ow _ _ _).refl _⟩
    · have e3 : x3 = .pointer (some ⟨n, 4, none⟩) := hpre 3 (by kernel_rfl)
      subst e3
      obtain ⟨rd1, ev1, b1, r1, s1⟩ := hR.blk _ _ _ _ _ HB.out
      exact wpOp_run ev1 rfl (by kernel_rfl) (exec_load 28 rfl (by kernel_rfl) w3 (loadEs (b1.cell (j := 4) rfl))) ⟨_, by kernel_rfl, (by rcases s1 with rfl | s1; exact HE.out.keep hR.keep; exact (s1.rw (cE_len e)).avoid2 s1), (later_ow _ _ _).refl _⟩
    · have f4 : RwA n w3 2 x4 e.length (cE e) := hpre 4 (by kernel_rfl)
      refine wpOp_callR (R := fun u w4 => Fr w4 (n + 2) 66 u e.length (cE e) ∧ Below w3.heap.size w3 w4) 63 #[x4] rfl (by kernel_rfl) (by kernel_rfl) ((anewE_any w3 x4 _ _ HEL.out f4.1 (cE_one _)).mono fun x w4 h => by obtain ⟨v, hv, hf, hb⟩ := h; exact ⟨v, hv, hf.mono hN3, hb⟩) ?_
      rintro u w4 ⟨hf, hb4⟩
      exact ⟨_, by kernel_rfl, hf, OwR.of_below hb4⟩
    · exact wpOp_run (.pointer (some ⟨n, 2, none⟩)) rfl (by kernel_rfl) (by kernel_rfl) ⟨_, by kernel_rfl, rfl, (later_ow _ _ _).refl _⟩
    · have e6 : x6 = .pointer (some ⟨n, 2, none⟩) := hpre 6 (by kernel_rfl)
      subst e6
      have f2 : Fr w3 (n + 2) 3 x2 l.length (cI l) := hpre 2 (by kernel_rfl)
      obtain ⟨rd1, ev1, b1, _, _⟩ := hR.blk _ _ _ _ _ HB.out
      exact wpOp_put rfl (by kernel_rfl) (exec_store1 (g := n) (k := 2) (T := 38) rfl (by kernel_rfl) (by kernel_rfl) f2.one sizeIs1 w3 b1 (show 2 < 5 by decide)) ⟨.bool true, by kernel_rfl, ⟨x2, ev1, heap_setCell_same w3 n 2 _ _ x2 b1, f2.keep (keep_setCell w3 n 2 x2) (nlt2 n)⟩, OwR.put2 f2⟩
    · exact wpOp_run (.pointer (some ⟨n, 4, none⟩)) rfl (by kernel_rfl) (by kernel_rfl) ⟨_, by kernel_rfl, rfl, (later_ow _ _ _).refl _⟩
    · have e8 : x8 = .pointer (some ⟨n, 4, none⟩) := hpre 8 (by kernel_rfl)
      subst e8
      have f5 : Fr w3 (n + 2) 66 x5 e.length (cE e) := hpre 5 (by kernel_rfl)
      obtain ⟨rd1, ev1, b1, _, _⟩ := hR.blk _ _ _ _ _ HB.out
      exact wpOp_put rfl (by kernel_rfl) (exec_store1 (g := n) (k := 4) (T := 38) rfl (by kernel_rfl) (by kernel_rfl) f5.one sizeEs1 w3 b1 (show 4 < 5 by decide)) ⟨.bool true, by kernel_rfl, ⟨rd1, x5, heap_setCell_same w3 n 4 _ _ x5 b1, f5.keep (keep_setCell w3 n 4 x5) (nlt2 n)⟩, OwR.put4 f5⟩
  · intro xs w3 hxs hR hall
    obtain ⟨x0, x1, x2, x3, x4, x5, x6, x7, x8, x9, rfl⟩ := listOw xs hxs
    have e0 : x0 = .pointer (some ⟨n, 2, none⟩) := hall 0 (by omega)
    subst e0
    obtain ⟨rd1, ev1, b1, f1⟩ : ∃ rd ev, Blk w3 n (cwC inp at_ rd us ev) 38 ∧ Fr w3 (n + 2) 3 rd l.length (cI l) := hall 7 (by omega)
    obtain ⟨rd2, ev2, b2, f2⟩ : ∃ rd ev, Blk w3 n (cwC inp at_ rd us ev) 38 ∧ Fr w3 (n + 2) 66 ev e.length (cE e) := hall 9 (by omega)
    have e4 : ev1 = ev2 := Option.some.inj ((b1.cell (j := 4) rfl).symm.trans (b2.cell (j := 4) rfl))
    subst e4
    have K3 := hidden b1
    have F1 := hidden f1
    have F2 := hidden f2
    have Z3 : Hid (Blk w3 (n + 1) zCw 38) := hidden ((hR.keep.block (n + 1) Z2.out.lt (by show ¬ n + 1 = n; omega)).trans Z2.out)
    have B3 := hidden (B2.out.trans (hR.keep.below (by have := N2.out; omega) (fun b hb => by rw [hb]; exact Nat.le_refl n)))
    clear hall hR hxs b1 b2 f1 f2 B2 S2 S1 Z2 HB N2
    simp only [slotsOn, putAll]
    go_wp2_with (first
      | (refine wpList_loadCw rfl _ rfl n (cwC inp at_ rd1 us ev1) rfl K3.out rfl ?_)
      | (refine wpList_storeCw rfl rfl _ _ rfl (n + 1) zCw (cwC inp at_ rd1 us ev1) (by kernel_rfl) (by kernel_rfl) Z3.out rfl rfl (cw_one F1.out.one F2.out.one) ?_; rintro w4 k4 o4; have K4 := hidden k4; have B4 := hidden (Below.only B3.out o4 (by omega)); have G1 := hidden (F1.out.keep (Keep.of_only o4) (by omega)); have G2 := hidden (F2.out.keep (Keep.of_only o4) (by omega)); clear k4 o4))
    refine bodyPost_ret (results_cell_row rfl _ _ (n + 1) 38 _ (0, 0) _ (by kernel_rfl) K4.out Try.underlying38 rfl sizeCw) rfl ⟨_, _, rfl, ?_, ?_, ?_⟩
    · rw [hn]; exact G1.out.mono (by omega)
    · rw [hn]; exact G2.out.mono (by omega)
    · rw [hn]; exact B4.out
end Go.Proofs.Ytodoenimlhldjaa
namespace Go.Proofs.Ytodoenimlhldjaa
open Go.ChangeShapes Go.WideShapes Go.ChangeAt Go.RowKit
set_option linter.unusedVariables false
/-- A state behind a call. -/
def ansV (v : SV) (a b : Int) : SV := { v.on with R := (v.on.R.set 2 a).set 7 b }
theorem SV.on_len {v : SV} (h : v.R.length = 32) : v.on.R.length = 32 := by show (v.R.set 0 0).length = 32; rw [List.length_set]; exact h
theorem ansV_len {v : SV} (h : v.R.length = 32) (a b : Int) : (ansV v a b).R.length = 32 := by show ((v.on.R.set 2 a).set 7 b).length = 32; rw [List.length_set, List.length_set]; exact SV.on_len h
theorem lt32_2 : 2 < 32 := by decide
theorem lt32_7 : 7 < 32 := by decide
set_option maxRecDepth 20000 in
set_option maxHeartbeats 1000000 in
theorem answer_any (v : SV) (hv : v.R.length = 32) (a b : Int) (w : World) : Calls Try.prog 67 #[.agg v.c, .int .u32 a, .int .u32 b] w fun e w' => e = .returned (.agg (ansV v a b).c) ∧ Below w.heap.size w w' := by
  obtain ⟨n, hn⟩ : ∃ n, w.heap.size = n := ⟨_, rfl⟩
  have HV := hidden hv
  have hi2 : ∀ u, (Instr.indexAt 24 (.pointer (some ⟨n, 0, none⟩)) (.int .i64 2)).run Try.prog u = .ok (.pointer (some ⟨n, 2, none⟩)) u := fun u => index_reg n 2 (by omega) u
  have hi7 : ∀ u, (Instr.indexAt 24 (.pointer (some ⟨n, 0, none⟩)) (.int .i64 7)).run Try.prog u = .ok (.pointer (some ⟨n, 7, none⟩)) u := fun u => index_reg n 7 (by omega) u
  have HON := hidden (fun u => on_any v hv u)
  have L1 := hidden (SV.on_len hv)
  have L2 : Hid ((v.on.R.set 2 a).length = 32) := hidden (by rw [List.length_set]; exact SV.on_len hv)
  have L3 := hidden (ansV_len hv a b)
  obtain ⟨C, hC⟩ : ∃ C, v.c = C := ⟨_, rfl⟩
  rw [hC]
  have HC := hidden hC
  clear hC hv
  go_enter Try.func67, Try.ntmps67
  go_wp2_with (first
    | (refine wpList_boxG rfl 26 _ rfl C rfl ?_; rintro w1 k1 s1 b1; rw [hn] at k1 s1 b1 ⊢; have K1 : Hid (Blk w1 n v.c 26) := hidden (by rw [HC.out]; exact k1); have S1 := hidden s1; have B1 := hidden b1; clear k1 s1 b1)
    | (refine wpList_allocV rfl rfl ?_; rintro w2 k2 s2 b2; rw [S1.out] at k2 s2 b2 ⊢; have K2 := hidden (K1.out.later (by rw [S1.out]; exact b2)); have R2 := hidden k2; have B2 := hidden (B1.out.trans (b2.mono (by omega))); have S2 := hidden s2; clear k2 s2 b2 K1 B1)
    | (refine wpList_loadV rfl _ rfl n v rfl K2.out HV.out ?_)
    | (go_at_call 35; refine (HON.out _).mono ?_; rintro e w3 ⟨rfl, b3⟩; have K3 := hidden (K2.out.later b3); have R3 := hidden (R2.out.later b3); have B3 := hidden (B2.out.trans (b3.mono (by have := S2.out; omega))); clear b3 K2 R2 B2 HON)
    | (refine wpList_storeV rfl rfl _ _ rfl n v v.on rfl rfl K3.out HV.out L1.out ?_; rintro w4 k4 o4; have K4 := hidden k4; have R4 := hidden (R3.out.only o4 (by omega)); have B4 := hidden (Below.only B3.out o4 (Nat.le_refl n)); clear k4 o4 K3 R3 B3)
    | (refine wpList_setR rfl rfl _ _ rfl n 2 v.on a rfl rfl K4.out L1.out lt32_2 ?_; rintro w5 k5 o5; have K5 := hidden k5; have R5 := hidden (R4.out.only o5 (by omega)); have B5 := hidden (Below.only B4.out o5 (Nat.le_refl n)); clear k5 o5)
    | (refine wpList_setR rfl rfl _ _ rfl n 7 { v.on with R := v.on.R.set 2 a } b rfl rfl K5.out L2.out lt32_7 ?_; rintro w6 k6 o6; have K6 : Hid (Blk w6 n (ansV v a b).c 26) := hidden k6; have R6 := hidden (R5.out.only o6 (by omega)); have B6 := hidden (Below.only B5.out o6 (Nat.le_refl n)); clear k6 o6)
    | (refine wpList_loadV rfl _ rfl n (ansV v a b) rfl K6.out L3.out ?_)
    | (refine wpList_storeV rfl rfl _ _ rfl (n + 1) SV.zero (ansV v a b) rfl rfl R6.out rfl L3.out ?_; rintro w7 k7 o7; have K7 := hidden k7; have B7 := hidden (Below.only B6.out o7 (by omega)); clear k7 o7))
  exact bodyPost_ret (results_cell_row rfl _ _ (n + 1) 26 (ansV v a b).c (0, 0) _ rfl K7.out Try.underlying26 rfl (by rw [SV.size L3.out]; exact sizeSV)) rfl ⟨rfl, (by first | exact B7.out | (rw [hn]; exact B7.out))⟩
set_option maxRecDepth 20000 in
set_option maxHeartbeats 1000000 in
theorem right_any (v : SV) (hv : v.R.length = 32) (a : Int) (w : World) : Calls Try.prog 65 #[.agg v.c, .int .u32 a] w fun e w' => e = .returned (.agg (ansV v a 0).c) ∧ Below w.heap.size w w' := by
  obtain ⟨n, hn⟩ : ∃ n, w.heap.size = n := ⟨_, rfl⟩
  have HV := hidden hv
  have HAN := hidden (fun u => answer_any v hv a 0 u)
  have L3 := hidden (ansV_len hv a 0)
  obtain ⟨C, hC⟩ : ∃ C, v.c = C := ⟨_, rfl⟩
  rw [hC]
  have HC := hidden hC
  generalize ansV v a 0 = V at HAN L3 ⊢
  clear hC hv
  go_enter Try.func65, Try.ntmps65
  go_wp2_with (first
    | (refine wpList_boxG rfl 26 _ rfl C rfl ?_; rintro w1 k1 s1 b1; rw [hn] at k1 s1 b1 ⊢; have K1 : Hid (Blk w1 n v.c 26) := hidden (by rw [HC.out]; exact k1); have S1 := hidden s1; have B1 := hidden b1; clear k1 s1 b1)
    | (refine wpList_allocV rfl rfl ?_; rintro w2 k2 s2 b2; rw [S1.out] at k2 s2 b2 ⊢; have K2 := hidden (K1.out.later (by rw [S1.out]; exact b2)); have R2 := hidden k2; have B2 := hidden (B1.out.trans (b2.mono (by omega))); have S2 := hidden s2; clear k2 s2 b2 K1 B1)
    | (refine wpList_loadV rfl _ rfl n v rfl K2.out HV.out ?_)
    | (go_at_call 67; refine (HAN.out _).mono ?_; rintro e w3 ⟨rfl, b3⟩; have R3 := hidden (R2.out.later b3); have B3 := hidden (B2.out.trans (b3.mono (by have := S2.out; omega))); clear b3 K2 R2 B2 HAN)
    | (refine wpList_storeV rfl rfl _ _ rfl (n + 1) SV.zero V rfl rfl R3.out rfl L3.out ?_; rintro w4 k4 o4; have K4 := hidden k4; have B4 := hidden (Below.only B3.out o4 (by omega)); clear k4 o4))
  exact bodyPost_ret (results_cell_row rfl _ _ (n + 1) 26 V.c (0, 0) _ rfl K4.out Try.underlying26 rfl (by rw [SV.size L3.out]; exact sizeSV)) rfl ⟨rfl, (by first | exact B4.out | (rw [hn]; exact B4.out))⟩
set_option maxRecDepth 20000 in
set_option maxHeartbeats 1000000 in
theorem wrong_any (v : SV) (hv : v.R.length = 32) (a : Int) (w : World) : Calls Try.prog 39 #[.agg v.c, .int .u32 a] w fun e w' => e = .returned (.agg (ansV v a 1).c) ∧ Below w.heap.size w w' := by
  obtain ⟨n, hn⟩ : ∃ n, w.heap.size = n := ⟨_, rfl⟩
  have HV := hidden hv
  have HAN := hidden (fun u => answer_any v hv a 1 u)
  have L3 := hidden (ansV_len hv a 1)
  obtain ⟨C, hC⟩ : ∃ C, v.c = C := ⟨_, rfl⟩
  rw [hC]
  have HC := hidden hC
  generalize ansV v a 1 = V at HAN L3 ⊢
  clear hC hv
  go_enter Try.func39, Try.ntmps39
  go_wp2_with (first
    | (refine wpList_boxG rfl 26 _ rfl C rfl ?_; rintro w1 k1 s1 b1; rw [hn] at k1 s1 b1 ⊢; have K1 : Hid (Blk w1 n v.c 26) := hidden (by rw [HC.out]; exact k1); have S1 := hidden s1; have B1 := hidden b1; clear k1 s1 b1)
    | (refine wpList_allocV rfl rfl ?_; rintro w2 k2 s2 b2; rw [S1.out] at k2 s2 b2 ⊢; have K2 := hidden (K1.out.later (by rw [S1.out]; exact b2)); have R2 := hidden k2; have B2 := hidden (B1.out.trans (b2.mono (by omega))); have S2 := hidden s2; clear k2 s2 b2 K1 B1)
    | (refine wpList_loadV rfl _ rfl n v rfl K2.out HV.out ?_)
    | (go_at_call 67; refine (HAN.out _).mono ?_; rintro e w3 ⟨rfl, b3⟩; have R3 := hidden (R2.out.later b3); have B3 := hidden (B2.out.trans (b3.mono (by have := S2.out; omega))); clear b3 K2 R2 B2 HAN)
    | (refine wpList_storeV rfl rfl _ _ rfl (n + 1) SV.zero V rfl rfl R3.out rfl L3.out ?_; rintro w4 k4 o4; have K4 := hidden k4; have B4 := hidden (Below.only B3.out o4 (by omega)); clear k4 o4))
  exact bodyPost_ret (results_cell_row rfl _ _ (n + 1) 26 V.c (0, 0) _ rfl K4.out Try.underlying26 rfl (by rw [SV.size L3.out]; exact sizeSV)) rfl ⟨rfl, (by first | exact B4.out | (rw [hn]; exact B4.out))⟩
end Go.Proofs.Ytodoenimlhldjaa
namespace Go.Proofs.Ytodoenimlhldjaa
open Go.ChangeShapes Go.WideShapes Go.ChangeAt Go.RowKit
set_option linter.unusedVariables false
/-- Whether all of so many places are on pages with p. -/
def mayB (s : MS) (a n : Nat) (p : Int) : Bool := (List.range n).all fun j => bits .and .i64 (s.perm (wrapAt a j)) p != 0
theorem mayB_no {s : MS} {a n j : Nat} {p : Int} (hj : j < n) (h : bits .and .i64 (s.perm (wrapAt a j)) p = 0) : mayB s a n p = false := by
  cases hm : mayB s a n p with
  | false => rfl
  | true =>
    have := List.all_eq_true.1 hm j (List.mem_range.2 hj)
    rw [h] at this
    exact absurd this (by decide)
theorem mayB_yes {s : MS} {a n : Nat} {p : Int} (h : ∀ j, j < n → bits .and .i64 (s.perm (wrapAt a j)) p ≠ 0) : mayB s a n p = true := List.all_eq_true.2 fun j hj => bne_iff_ne.2 (h j (List.mem_range.1 hj))
theorem perm_page (s : MS) {a b : Nat} (h : pageOf a = pageOf b) : s.perm a = s.perm b := by unfold MS.perm; rw [h]
theorem exec_andI {ρ : Operand → Value} {o : Oper} {x y : Operand} {a b : Int} (hop : o.op = .binOp .and 3 x y 3) (hx : ρ x = .int .i64 a) (hy : ρ y = .int .i64 b) (w : World) : (execOp ρ o).run Try.prog w = .ok (.value (.int .i64 (bits .and .i64 a b))) w := by
  unfold execOp
  rw [hop]
  simp [hx, hy, go_sem]
theorem wpList_andI {ops : Array Oper} {rest : List Oper} {o : Oper} {a : Act} {w : World} {Q : Exit → Act → World → Prop} (hgd : o.guard = none) (x y : Operand) (ho : o.op = .binOp .and 3 x y 3) (m p z : Int) (hx : a.eval x = .int .i64 m) (hy : a.eval y = .int .i64 p) (hz : bits .and .i64 m p = z)
    (h : wpList Try.prog ops Q rest (a.put o.dst (.int .i64 z)) w) : wpList Try.prog ops Q (o :: rest) a w := by
  subst hz
  exact Great.wpList_runTo hgd o.dst rfl (.int .i64 (bits .and .i64 m p)) w (exec_andI ho hx hy w) h
set_option maxRecDepth 20000 in
set_option maxHeartbeats 400000 in
theorem may_any (w : World) (s : MS) (a n : Nat) (p : Int) (h : MemW w s) (ha : a < 4294967296) (hn : n ≤ 16384) : Calls Try.prog 78 #[.pointer (some ⟨s.mb, 0, none⟩), .int .u32 (a : Int), .int .u32 (n : Int), .int .i64 p] w fun e w' => e = .returned (.bool (mayB s a n p)) ∧ ∃ k, w' = w.drewN k := by
  obtain ⟨mb, hmb⟩ : ∃ mb, s.mb = mb := ⟨_, rfl⟩
  have HP : Hid (∀ (k : Nat) (b : Nat), b < 4294967296 → Calls Try.prog 25 #[.pointer (some ⟨mb, 0, none⟩), .int .u32 (b : Int)] (w.drewN k) fun e w' => e = .returned (.int .i64 (s.perm b)) ∧ ∃ m, w' = w.drewN m) := hidden (fun k b hb => by
    have h2 := permOf_any (w.drewN k) s b (h.later (below_drewN (Below.refl _ _) k)) hb
    rw [hmb] at h2
    refine h2.mono ?_
    rintro e w' ⟨he, m, hm⟩
    exact ⟨he, k + m, by rw [hm, World.drewN_drewN]⟩)
  rw [hmb]
  clear h hmb
  go_enter Try.func78, Try.ntmps78
  go_wp2
  go_loopw [9] (fun x9 wr => ∃ (k : Nat) (m : Nat), k ≤ 16640 ∧ x9 = .int .u32 (k : Int) ∧ wr = w.drewN m ∧ ∀ j, j < k → j < n → bits .and .i64 (s.perm (wrapAt a j)) p ≠ 0) (fun x9 _ => 16640 - (intOf x9).toNat)
  case atStart => exact ⟨0, 0, by omega, rfl, (World.drewN_zero w).symm, fun j hj => by omega⟩
  case round =>
    obtain ⟨k, m, hk, rfl, rfl, hall⟩ := hrel
    have HALL := hidden hall
    clear hall
    by_cases hlt : k < n
    · have hl : (k : Int) < (n : Int) := by omega
      obtain ⟨b, hb⟩ : ∃ b : Nat, ((a : Int) + (k : Int)) % 4294967296 = (b : Int) := ⟨(a + k) % 4294967296, by omega⟩
      have HB : Hid (wrapAt a k = b) := hidden (by unfold wrapAt; omega)
      have HPC := hidden (HP.out m b (by omega))
      obtain ⟨z, hz⟩ : ∃ z, bits .and .i64 (s.perm b) p = z := ⟨_, rfl⟩
      have HZ := hidden hz
      clear hz
      by_cases hz0 : z = 0
      · have e0 : (z == 0) = true := beq_iff_eq.2 hz0
        have HN : Hid (mayB s a n p = false) := hidden (mayB_no hlt (by rw [HB.out, HZ.out, hz0]))
        clear hz0
        go_wp2_with (first
          | (go_at_call 25; refine HPC.out.mono ?_; rintro e w2 ⟨rfl, m2, hww⟩; have HM := hidden hww; clear hww)
          | (refine wpList_andI rfl _ _ rfl (s.perm b) p z rfl rfl HZ.out ?_))
        go_ret
        exact ⟨by rw [HN.out]; rfl, m2, HM.out⟩
      · have e0 : (z == 0) = false := beq_eq_false_iff_ne.2 hz0
        obtain ⟨k2, hk2⟩ : ∃ k2 : Nat, (k : Int) + (256 - (b : Int) % 256) = (k2 : Int) := ⟨k + (256 - b % 256), by omega⟩
        have HN : Hid (∀ j, j < k2 → j < n → bits .and .i64 (s.perm (wrapAt a j)) p ≠ 0) := hidden (fun j hj hjn => by
          by_cases hjk : j < k
          · exact HALL.out j hjk hjn
          · have e := HB.out
            rw [perm_page s (show pageOf (wrapAt a j) = pageOf b by unfold wrapAt at e; unfold pageOf wrapAt; omega), HZ.out]
            exact hz0)
        have HK : Hid (k2 ≤ 16640 ∧ k < k2) := hidden (by omega)
        clear hz0
        go_wp2_with (first
          | (go_at_call 25; refine HPC.out.mono ?_; rintro e w2 ⟨rfl, m2, hww⟩; have HM := hidden hww; clear hww)
          | (refine wpList_andI rfl _ _ rfl (s.perm b) p z rfl rfl HZ.out ?_))
        go_roundw
        case rel => first | exact ⟨k2, m2, HK.out.1, by first | rfl | (simp; done) | (simp; omega), HM.out, HN.out⟩ | ((repeat apply Exists.intro); exact ⟨⟨k2, m2, HK.out.1, by first | rfl | (simp; done) | (simp; omega), HM.out, HN.out⟩, rfl⟩)
        case measure => have := HK.out; simp [intOf]; omega
    · have hl : ¬ (k : Int) < (n : Int) := by omega
      have HN : Hid (mayB s a n p = true) := hidden (mayB_yes fun j hj => HALL.out j (by omega) hj)
      go_wp2
      go_ret
      exact ⟨by rw [HN.out]; rfl, m, rfl⟩
end Go.Proofs.Ytodoenimlhldjaa
namespace Go.Proofs.Ytodoenimlhldjaa
open Go.ChangeShapes Go.WideShapes Go.ChangeAt Go.RowKit
set_option linter.unusedVariables false
theorem rf2_a {q : Nat} {A B : Obj} : ∀ o, (q, o) ∈ [(q, A), (q + 1, B)] → o = A := by
  intro o ho
  simp only [List.mem_cons, Prod.mk.injEq, List.mem_nil_iff, or_false, true_and] at ho
  rcases ho with h | ⟨h, _⟩
  · exact h
  · omega
theorem rf2_b {q : Nat} {A B : Obj} : ∀ o, (q + 1, o) ∈ [(q, A), (q + 1, B)] → o = B := by
  intro o ho
  simp only [List.mem_cons, Prod.mk.injEq, List.mem_nil_iff, or_false, true_and] at ho
  rcases ho with ⟨h, _⟩ | h
  · omega
  · exact h
theorem rf2_no {q b : Nat} {A B X : Obj} (h1 : b ≠ q) (h2 : b ≠ q + 1) : ∀ o, (b, o) ∈ [(q, A), (q + 1, B)] → o = X := by
  intro o ho
  simp only [List.mem_cons, Prod.mk.injEq, List.mem_nil_iff, or_false] at ho
  rcases ho with ⟨h, _⟩ | ⟨h, _⟩
  · exact absurd h h1
  · exact absurd h h2
theorem rf2_s1 {q n : Nat} {a : Array Value} {T : TypeId} {B : Obj} (h : a.size = n) : ∀ o, (q, o) ∈ [(q, Obj.cells a T (0, 0)), (q + 1, B)] → ∃ cs : Array Value, cs.size = n ∧ o = Obj.cells cs T (0, 0) := fun o ho => ⟨a, h, rf2_a o ho⟩
theorem rf2_s2 {q n : Nat} {a : Array Value} {T : TypeId} {A : Obj} (h : a.size = n) : ∀ o, (q + 1, o) ∈ [(q, A), (q + 1, Obj.cells a T (0, 0))] → ∃ cs : Array Value, cs.size = n ∧ o = Obj.cells cs T (0, 0) := fun o ho => ⟨a, h, rf2_b o ho⟩
theorem rf2_m1 {q : Nat} {A B : Obj} : (q, A) ∈ [(q, A), (q + 1, B)] := List.mem_cons_self
theorem rf2_m2 {q : Nat} {A B : Obj} : (q + 1, B) ∈ [(q, A), (q + 1, B)] := List.mem_cons_of_mem _ List.mem_cons_self
theorem rf2_lo {q N : Nat} {A B : Obj} (h : N ≤ q) : ∀ x ∈ [(q, A), (q + 1, B)], N ≤ x.1 := by
  intro x hx
  simp only [List.mem_cons, List.mem_nil_iff, or_false] at hx
  rcases hx with rfl | rfl
  · exact h
  · exact Nat.le_succ_of_le h
theorem loadSt {w : World} {g : Nat} {v : SV} (h : Blk w g v.c 26) (hv : v.R.length = 32) : (loadVar 26 ⟨g, 0, none⟩).run Try.prog w = .ok (.agg v.c) w :=
  run_loadVar_row w g 26 26 _ _ _ h Try.underlying26 rfl (by rw [SV.size hv]; exact sizeSV)
theorem loadCwR {w : World} {g : Nat} {cs : Array Value} (h : Blk w g cs 38) (hs : cs.size = 5) : (loadVar 38 ⟨g, 0, none⟩).run Try.prog w = .ok (.agg cs) w :=
  run_loadVar_row w g 38 38 _ _ _ h Try.underlying38 rfl (by rw [hs]; exact sizeCw)
theorem loadU {w : World} {a : Addr} {v : Value} (hc : w.cell? a = some v) : (loadVar 23 a).run Try.prog w = .ok v w := by simp [loadVar, isAgg, Sem.run_bind, run_underlying Try.underlying23, hc, go_sem]
theorem exec_indexR {ρ : Operand → Value} {o : Oper} {x y : Operand} {g k : Nat} (hk : k < 32) (hop : o.op = .indexAddr 24 x y) (hx : ρ x = .pointer (some ⟨g, 0, none⟩)) (hy : ρ y = .int .i64 (k : Int)) (w : World) : (execOp ρ o).run Try.prog w = .ok (.value (.pointer (some ⟨g, k, none⟩))) w := by
  have h := index_reg g k hk w
  unfold execOp
  rw [hop]
  simp only [hx, hy, Sem.run_bind, h, Result.andThen_ok, Sem.run_pure]
theorem results_cc {fn : Func} {p q : Tmp} {ty tz : TypeId} (h : fn.results = #[.cell p ty, .cell q tz]) (tmps : Array Value) (w : World) (g g2 : Nat) (v v2 : Value)
    (hp : tmps.getD p undef = .pointer (some ⟨g, 0, none⟩)) (hq : tmps.getD q undef = .pointer (some ⟨g2, 0, none⟩)) (hv : (loadVar ty ⟨g, 0, none⟩).run Try.prog w = .ok v w) (hv2 : (loadVar tz ⟨g2, 0, none⟩).run Try.prog w = .ok v2 w) :
    (results fn tmps).run Try.prog w = .ok (.tuple #[v, v2]) w := by
  have hp' : tmps[p]?.getD undef = .pointer (some ⟨g, 0, none⟩) := by simpa using hp
  have hq' : tmps[q]?.getD undef = .pointer (some ⟨g2, 0, none⟩) := by simpa using hq
  simp [results, h, hp', hq', asAddr, hv, hv2]
theorem results_cctt {fn : Func} {p q t r : Tmp} {ty tz : TypeId} (h : fn.results = #[.cell p ty, .cell q tz, .tmp t, .tmp r]) (tmps : Array Value) (w : World) (g g2 : Nat) (v v2 : Value)
    (hp : tmps.getD p undef = .pointer (some ⟨g, 0, none⟩)) (hq : tmps.getD q undef = .pointer (some ⟨g2, 0, none⟩)) (hv : (loadVar ty ⟨g, 0, none⟩).run Try.prog w = .ok v w) (hv2 : (loadVar tz ⟨g2, 0, none⟩).run Try.prog w = .ok v2 w) :
    (results fn tmps).run Try.prog w = .ok (.tuple #[v, v2, tmps.getD t undef, tmps.getD r undef]) w := by
  have hp' : tmps[p]?.getD undef = .pointer (some ⟨g, 0, none⟩) := by simpa using hp
  have hq' : tmps[q]?.getD undef = .pointer (some ⟨g2, 0, none⟩) := by simpa using hq
  simp [results, h, hp', hq', asAddr, hv, hv2]
/-- Why bytes can't be moved for a call. -/
def refV (s : MS) (v : SV) (file : Bool) (p : Int) : Int := if file = false then 9 else if 16384 < v.R.getD 6 0 then 22 else if mayB s (v.R.getD 5 0).toNat (v.R.getD 6 0).toNat p = true then 0 else 14
set_option maxRecDepth 20000 in
set_option maxHeartbeats 1000000 in
theorem refusal_any (w : World) (s : MS) (h : MemW w s) (v : SV) (hv : v.ok) (file : Bool) (p : Int) : Calls Try.prog 64 #[.pointer (some ⟨s.mb, 0, none⟩), .agg v.c, .bool file, .int .i64 p] w fun e w' => e = .returned (.int .u32 (refV s v file p)) ∧ Below w.heap.size w w' := by
  obtain ⟨n, hn⟩ : ∃ n, w.heap.size = n := ⟨_, rfl⟩
  have HV := hidden hv.1
  have hi5 : ∀ u, (Instr.indexAt 24 (.pointer (some ⟨n, 0, none⟩)) (.int .i64 5)).run Try.prog u = .ok (.pointer (some ⟨n, 5, none⟩)) u := fun u => index_reg n 5 (by omega) u
  have hi6 : ∀ u, (Instr.indexAt 24 (.pointer (some ⟨n, 0, none⟩)) (.int .i64 6)).run Try.prog u = .ok (.pointer (some ⟨n, 6, none⟩)) u := fun u => index_reg n 6 (by omega) u
  obtain ⟨r5, h5⟩ : ∃ r5 : Nat, v.R.getD 5 0 = (r5 : Int) := ⟨(v.R.getD 5 0).toNat, by have := (hv.2.1 5 (by omega)).1; omega⟩
  obtain ⟨r6, h6⟩ : ∃ r6 : Nat, v.R.getD 6 0 = (r6 : Int) := ⟨(v.R.getD 6 0).toNat, by have := (hv.2.1 6 (by omega)).1; omega⟩
  have l5 : r5 < 4294967296 := by have := (hv.2.1 5 (by omega)).2; omega
  obtain ⟨rv, hrv⟩ : ∃ z, refV s v file p = z := ⟨_, rfl⟩
  have HRV := hidden hrv
  unfold refV at hrv
  rw [h5, h6, Int.toNat_natCast, Int.toNat_natCast] at hrv
  rw [HRV.out]
  have HM : Hid (r6 ≤ 16384 → ∀ u, Below w.heap.size w u → Calls Try.prog 78 #[.pointer (some ⟨s.mb, 0, none⟩), .int .u32 (r5 : Int), .int .u32 (r6 : Int), .int .i64 p] u fun e w' => e = .returned (.bool (mayB s r5 r6 p)) ∧ ∃ k, w' = u.drewN k) := hidden (fun hl u hu => may_any u s r5 r6 p (h.later hu) l5 hl)
  have H5 := hidden h5
  have H6 := hidden h6
  obtain ⟨C, hC⟩ : ∃ C, v.c = C := ⟨_, rfl⟩
  rw [hC]
  have HC := hidden hC
  clear hC hv h5 h6 l5 h
  cases file with
  | false =>
    have e : rv = 9 := by rw [← hrv]; rfl
    subst e
    clear hrv
    go_enter Try.func64, Try.ntmps64
    go_wp2_with (first
      | (refine wpList_boxG rfl 26 _ rfl C rfl ?_; rintro w1 k1 s1 b1; rw [hn] at k1 s1 b1 ⊢; have B1 := hidden b1; clear k1 s1 b1))
    go_ret
    exact ⟨rfl, by first | exact B1.out | (rw [hn]; exact B1.out)⟩
  | true =>
    rw [if_neg (by decide)] at hrv
    by_cases hg : 16384 < (r6 : Int)
    · rw [if_pos hg] at hrv
      subst hrv
      go_enter Try.func64, Try.ntmps64
      go_wp2_with (first
        | (refine wpList_boxG rfl 26 _ rfl C rfl ?_; rintro w1 k1 s1 b1; rw [hn] at k1 s1 b1 ⊢; have k2 : Blk w1 n v.c 26 := (by rw [HC.out]; exact k1); have c6 : w1.cell? ⟨n, 6, none⟩ = some (.int .u32 (r6 : Int)) := (by rw [← H6.out]; exact k2.cell (SV.getR HV.out (by omega))); have B1 := hidden b1; clear k1 s1 b1 k2))
      go_ret
      exact ⟨rfl, by first | exact B1.out | (rw [hn]; exact B1.out)⟩
    · rw [if_neg hg] at hrv
      have HM2 := hidden (HM.out (by omega))
      clear HM
      cases hm : mayB s r5 r6 p with
      | true =>
        rw [hm, if_pos rfl] at hrv
        subst hrv
        rw [hm, hn] at HM2
        go_enter Try.func64, Try.ntmps64
        go_wp2_with (first
          | (refine wpList_boxG rfl 26 _ rfl C rfl ?_; rintro w1 k1 s1 b1; rw [hn] at k1 s1 b1 ⊢; have k2 : Blk w1 n v.c 26 := (by rw [HC.out]; exact k1); have c6 : w1.cell? ⟨n, 6, none⟩ = some (.int .u32 (r6 : Int)) := (by rw [← H6.out]; exact k2.cell (SV.getR HV.out (by omega))); have c5 : w1.cell? ⟨n, 5, none⟩ = some (.int .u32 (r5 : Int)) := (by rw [← H5.out]; exact k2.cell (SV.getR HV.out (by omega))); have B1 := hidden b1; clear k1 s1 b1 k2)
          | (go_at_call 78; refine (HM2.out _ B1.out).mono ?_; rintro e w2 ⟨rfl, k, hww⟩; have B2 := hidden (show Below n w w2 from by rw [hww]; exact below_drewN B1.out k); clear hww))
        go_ret
        exact ⟨rfl, by first | exact B2.out | (rw [hn]; exact B2.out)⟩
      | false =>
        rw [hm, if_neg (by decide)] at hrv
        subst hrv
        rw [hm, hn] at HM2
        go_enter Try.func64, Try.ntmps64
        go_wp2_with (first
          | (refine wpList_boxG rfl 26 _ rfl C rfl ?_; rintro w1 k1 s1 b1; rw [hn] at k1 s1 b1 ⊢; have k2 : Blk w1 n v.c 26 := (by rw [HC.out]; exact k1); have c6 : w1.cell? ⟨n, 6, none⟩ = some (.int .u32 (r6 : Int)) := (by rw [← H6.out]; exact k2.cell (SV.getR HV.out (by omega))); have c5 : w1.cell? ⟨n, 5, none⟩ = some (.int .u32 (r5 : Int)) := (by rw [← H5.out]; exact k2.cell (SV.getR HV.out (by omega))); have B1 := hidden b1; clear k1 s1 b1 k2)
          | (go_at_call 78; refine (HM2.out _ B1.out).mono ?_; rintro e w2 ⟨rfl, k, hww⟩; have B2 := hidden (show Below n w w2 from by rw [hww]; exact below_drewN B1.out k); clear hww))
        go_ret
        exact ⟨rfl, by first | exact B2.out | (rw [hn]; exact B2.out)⟩
end Go.Proofs.Ytodoenimlhldjaa
