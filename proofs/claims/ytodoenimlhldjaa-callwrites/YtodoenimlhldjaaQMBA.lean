/- A state that came in, opened. -/
import Derived.Test.YtodoenimlhldjaaQMAX
import Derived.Deep.Slices
import Derived.OpenShut
import Derived.Deep.CutBlock
namespace Go.Proofs.Ytodoenimlhldjaa
open Go.ChangeShapes Go.WideShapes Go.ChangeAt Go.RowKit Go.Deep
set_option linter.unusedVariables false
/-- What a state's numbers may be. -/
def SV.ok (s : SV) : Prop := s.R.length = 32 ∧ (∀ k, k < 32 → 0 ≤ s.R.getD k 0 ∧ s.R.getD k 0 < 4294967296) ∧ (0 ≤ s.hi ∧ s.hi < 4294967296) ∧ (0 ≤ s.lo ∧ s.lo < 4294967296) ∧ (0 ≤ s.pc ∧ s.pc < 4294967296) ∧ (0 ≤ s.nx ∧ s.nx < 4294967296)
theorem wf_sv {a : Int} (h : (Lit.int .u32 a).wf = true) : 0 ≤ a ∧ a < 4294967296 := by
  have : 0 ≤ a ∧ a ≤ 4294967295 := by simpa [Lit.wf, IntKind.min, IntKind.max, IntKind.signed, IntKind.bits] using h
  exact ⟨this.1, by omega⟩
theorem cells26 : Try.prog.cellsOf 26 = 37 := by kernel_rfl
theorem cellsRV : Try.prog.cellsOf 24 = 32 := by kernel_rfl
theorem cellsBV : Try.prog.cellsOf 4 = 1 := by kernel_rfl
theorem one_at {m : List Value} {i : Nat} {v : Value} (h : (m.drop i).take 1 = [v]) : m[i]? = some v := by
  have e : ((m.drop i).take 1)[0]? = some v := by rw [h]; rfl
  rw [List.getElem?_take, List.getElem?_drop] at e
  simpa using e
def numOf : Value → Int
  | .int _ n => n
  | _ => 0
theorem open_regs {H : Type} {enc : TypeId × Value → H} {w : World} {fuel : Nat} {held : Bool} {l : List Value} {x : DataW H × List MemPlace} {spare : Nat → Bool}
    (h : DataW.trod enc Try.prog w 0 spare held fuel 24 l = some x) : ∀ i, i < 32 → ∃ n : Int, l[i]? = some (.int .u32 n) ∧ 0 ≤ n ∧ n < 4294967296 := by
  obtain ⟨ys, m, _, _, _, hyl, hf⟩ := DataW.trod_array Try.underlying24 h
  intro i hi
  have g := hf i hi
  rw [cellsUV, Nat.mul_one] at g
  rw [List.getElem?_eq_getElem (by omega)] at g
  obtain ⟨n, e, _, hw⟩ := DataW.trod_int Try.underlying23 g
  exact ⟨n, one_at e, wf_sv hw⟩
theorem open_u32 {H : Type} {enc : TypeId × Value → H} {w : World} {fuel : Nat} {held : Bool} {l : List Value} {i : Nat} {x : DataW H × List MemPlace} {spare : Nat → Bool}
    (h : DataW.trod enc Try.prog w 0 spare held fuel 23 ((l.drop i).take (Try.prog.cellsOf 23)) = some x) : ∃ n : Int, l[i]? = some (.int .u32 n) ∧ 0 ≤ n ∧ n < 4294967296 := by
  rw [cellsUV] at h
  obtain ⟨n, e, _, hw⟩ := DataW.trod_int Try.underlying23 h
  exact ⟨n, one_at e, wf_sv hw⟩
set_option maxRecDepth 20000 in
theorem open_state {H : Type} {enc : TypeId × Value → H} {w : World} {fuel : Nat} {held : Bool} {cs : Array Value} {x : DataW H × List MemPlace} {spare : Nat → Bool}
    (hs : cs.size = 37) (h : DataW.trod enc Try.prog w 0 spare held fuel 26 cs.toList = some x) : ∃ s : SV, cs = s.c ∧ s.ok := by
  obtain ⟨xs, k, hk, hxy, _, hxl, hf⟩ := DataW.trod_struct Try.underlying26 h
  match xs, hxl with
  | [y0, y1, y2, y3, y4, y5], _ =>
    obtain ⟨nh, e1, w1⟩ := open_u32 (hf 1 _ rfl)
    obtain ⟨nl, e2, w2⟩ := open_u32 (hf 2 _ rfl)
    obtain ⟨np, e3, w3⟩ := open_u32 (hf 3 _ rfl)
    obtain ⟨nn, e4, w4⟩ := open_u32 (hf 4 _ rfl)
    obtain ⟨bs, e5, _⟩ := DataW.trod_bool Try.underlying4 (show _ = some y5 from hf 5 _ rfl)
    have e5b : cs.toList[36]? = some (.bool bs) := one_at (by rw [← e5]; show _ = (cs.toList.drop 36).take (Try.prog.cellsOf 4); rw [cellsBV])
    have hR := open_regs (show DataW.trod enc Try.prog w 0 spare held k 24 _ = some y0 from hf 0 _ rfl)
    have hR2 : ∀ i, i < 32 → ∃ n : Int, cs.toList[i]? = some (.int .u32 n) ∧ 0 ≤ n ∧ n < 4294967296 := fun i hi => by
      obtain ⟨n, e, hw⟩ := hR i hi
      refine ⟨n, ?_, hw⟩
      have e2 : (((cs.toList.drop 0).take (Try.prog.cellsOf 24)))[i]? = some (.int .u32 n) := e
      rw [cellsRV, List.drop_zero, List.getElem?_take, if_pos hi] at e2
      exact e2
    have hlen : ((cs.toList.take 32).map numOf).length = 32 := by simp [hs]
    have hget : ∀ i, i < 32 → ∃ n : Int, cs.toList[i]? = some (.int .u32 n) ∧ ((cs.toList.take 32).map numOf).getD i 0 = n ∧ 0 ≤ n ∧ n < 4294967296 := fun i hi => by
      obtain ⟨n, e, hw⟩ := hR2 i hi
      refine ⟨n, e, ?_, hw⟩
      rw [List.getD_eq_getElem?_getD, List.getElem?_map, List.getElem?_take, if_pos hi, e]
      rfl
    refine ⟨⟨(cs.toList.take 32).map numOf, nh, nl, np, nn, bs⟩, ?_, hlen, fun i hi => ?_, w1, w2, w3, w4⟩
    · apply Array.ext_getElem?
      intro i
      rw [← Array.getElem?_toList]
      by_cases hi : i < 32
      · obtain ⟨n, e, e2, _⟩ := hget i hi
        rw [SV.getR hlen hi, e]
        show _ = some (Value.int .u32 (((cs.toList.take 32).map numOf).getD i 0))
        rw [e2]
      · rcases (show i = 32 ∨ i = 33 ∨ i = 34 ∨ i = 35 ∨ i = 36 ∨ 37 ≤ i by omega) with rfl | rfl | rfl | rfl | rfl | h37
        · exact e1.trans (SV.get_hi (s := ⟨(cs.toList.take 32).map numOf, nh, nl, np, nn, bs⟩) hlen).symm
        · exact e2.trans (SV.get_lo (s := ⟨(cs.toList.take 32).map numOf, nh, nl, np, nn, bs⟩) hlen).symm
        · exact e3.trans (SV.get_pc (s := ⟨(cs.toList.take 32).map numOf, nh, nl, np, nn, bs⟩) hlen).symm
        · exact e4.trans (SV.get_nx (s := ⟨(cs.toList.take 32).map numOf, nh, nl, np, nn, bs⟩) hlen).symm
        · exact e5b.trans (SV.get_sl (s := ⟨(cs.toList.take 32).map numOf, nh, nl, np, nn, bs⟩) hlen).symm
        · rw [List.getElem?_eq_none (by rw [Array.length_toList, hs]; exact h37), Array.getElem?_eq_none (by rw [SV.size hlen]; exact h37)]
    · obtain ⟨n, _, e2, hw⟩ := hget i hi
      rw [e2]
      exact hw
end Go.Proofs.Ytodoenimlhldjaa
namespace Go.Proofs.Ytodoenimlhldjaa
open Go.ChangeShapes Go.WideShapes Go.ChangeAt Go.RowKit
set_option linter.unusedVariables false
/-- On. -/
def SV.on (v : SV) : SV := { v with R := v.R.set 0 0, pc := v.nx, nx := (v.nx + 4) % 4294967296, sl := false }
theorem sizeU1 : (Try.prog.info? 23).map (·.size) = some 1 := by kernel_rfl
theorem sizeB1 : (Try.prog.info? 4).map (·.size) = some 1 := by kernel_rfl
theorem SV.set0 {v : SV} (h : v.R.length = 32) : v.c.setIfInBounds 0 (.int .u32 0) = SV.c { v with R := v.R.set 0 0 } := SV.setR h (by omega) 0
/-- A register's place. -/
theorem index_reg (g k : Nat) (hk : k < 32) (u : World) : (Instr.indexAt 24 (.pointer (some ⟨g, 0, none⟩)) (.int .i64 (k : Int))).run Try.prog u = .ok (.pointer (some ⟨g, k, none⟩)) u := by
  have h1 : (k : Int) < ((32 : Nat) : Int) := by omega
  have hz : (sizeOf (Try.prog.elem 24)).run Try.prog u = .ok 1 u := by kernel_rfl
  have ha : Try.prog.arrayLen 24 = 32 := by kernel_rfl
  simp [Instr.indexAt, Sem.run_bind, run_underlying Try.underlying24, asIntOf, hk, go_sem, Addr.add]
  try (intro e; exact e.symm)
theorem wpList_setR {ops : Array Oper} {rest : List Oper} {o : Oper} {a : Act} {w : World} {Q : Exit → Act → World → Prop} (hgd : o.guard = none) (hd : o.dst = none) (x y : Operand) (ho : o.op = .store 23 x y)
    (g k : Nat) (v : SV) (z : Int) (hx : a.eval x = .pointer (some ⟨g, k, none⟩)) (hy : a.eval y = .int .u32 z) (hg : Blk w g v.c 26) (hv : v.R.length = 32) (hk : k < 32)
    (h : ∀ w1, Blk w1 g (SV.c { v with R := v.R.set k z }) 26 → Only g w w1 → wpList Try.prog ops Q rest a w1) : wpList Try.prog ops Q (o :: rest) a w :=
  wpList_storeC hgd hd 23 x y ho g k v.c 26 (.int .u32 z) hx hy rfl sizeU1 hg (by rw [SV.size hv]; omega) (fun w1 k1 o1 => h w1 (by rw [SV.setR hv hk] at k1; exact k1) o1)
theorem wpList_set_hi {ops : Array Oper} {rest : List Oper} {o : Oper} {a : Act} {w : World} {Q : Exit → Act → World → Prop} (hgd : o.guard = none) (hd : o.dst = none) (x y : Operand) (ho : o.op = .store 23 x y)
    (g : Nat) (v : SV) (z : Int) (hx : a.eval x = .pointer (some ⟨g, 32, none⟩)) (hy : a.eval y = .int .u32 z) (hg : Blk w g v.c 26) (hv : v.R.length = 32)
    (h : ∀ w1, Blk w1 g (SV.c { v with hi := z }) 26 → Only g w w1 → wpList Try.prog ops Q rest a w1) : wpList Try.prog ops Q (o :: rest) a w :=
  wpList_storeC hgd hd 23 x y ho g 32 v.c 26 (.int .u32 z) hx hy rfl sizeU1 hg (by rw [SV.size hv]; omega) (fun w1 k1 o1 => h w1 (by rw [SV.set_hi hv] at k1; exact k1) o1)
theorem wpList_set_lo {ops : Array Oper} {rest : List Oper} {o : Oper} {a : Act} {w : World} {Q : Exit → Act → World → Prop} (hgd : o.guard = none) (hd : o.dst = none) (x y : Operand) (ho : o.op = .store 23 x y)
    (g : Nat) (v : SV) (z : Int) (hx : a.eval x = .pointer (some ⟨g, 33, none⟩)) (hy : a.eval y = .int .u32 z) (hg : Blk w g v.c 26) (hv : v.R.length = 32)
    (h : ∀ w1, Blk w1 g (SV.c { v with lo := z }) 26 → Only g w w1 → wpList Try.prog ops Q rest a w1) : wpList Try.prog ops Q (o :: rest) a w :=
  wpList_storeC hgd hd 23 x y ho g 33 v.c 26 (.int .u32 z) hx hy rfl sizeU1 hg (by rw [SV.size hv]; omega) (fun w1 k1 o1 => h w1 (by rw [SV.set_lo hv] at k1; exact k1) o1)
theorem wpList_set_pc {ops : Array Oper} {rest : List Oper} {o : Oper} {a : Act} {w : World} {Q : Exit → Act → World → Prop} (hgd : o.guard = none) (hd : o.dst = none) (x y : Operand) (ho : o.op = .store 23 x y)
    (g : Nat) (v : SV) (z : Int) (hx : a.eval x = .pointer (some ⟨g, 34, none⟩)) (hy : a.eval y = .int .u32 z) (hg : Blk w g v.c 26) (hv : v.R.length = 32)
    (h : ∀ w1, Blk w1 g (SV.c { v with pc := z }) 26 → Only g w w1 → wpList Try.prog ops Q rest a w1) : wpList Try.prog ops Q (o :: rest) a w :=
  wpList_storeC hgd hd 23 x y ho g 34 v.c 26 (.int .u32 z) hx hy rfl sizeU1 hg (by rw [SV.size hv]; omega) (fun w1 k1 o1 => h w1 (by rw [SV.set_pc hv] at k1; exact k1) o1)
theorem wpList_set_nx {ops : Array Oper} {rest : List Oper} {o : Oper} {a : Act} {w : World} {Q : Exit → Act → World → Prop} (hgd : o.guard = none) (hd : o.dst = none) (x y : Operand) (ho : o.op = .store 23 x y)
    (g : Nat) (v : SV) (z : Int) (hx : a.eval x = .pointer (some ⟨g, 35, none⟩)) (hy : a.eval y = .int .u32 z) (hg : Blk w g v.c 26) (hv : v.R.length = 32)
    (h : ∀ w1, Blk w1 g (SV.c { v with nx := z }) 26 → Only g w w1 → wpList Try.prog ops Q rest a w1) : wpList Try.prog ops Q (o :: rest) a w :=
  wpList_storeC hgd hd 23 x y ho g 35 v.c 26 (.int .u32 z) hx hy rfl sizeU1 hg (by rw [SV.size hv]; omega) (fun w1 k1 o1 => h w1 (by rw [SV.set_nx hv] at k1; exact k1) o1)
theorem wpList_set_sl {ops : Array Oper} {rest : List Oper} {o : Oper} {a : Act} {w : World} {Q : Exit → Act → World → Prop} (hgd : o.guard = none) (hd : o.dst = none) (x y : Operand) (ho : o.op = .store 4 x y)
    (g : Nat) (v : SV) (z : Bool) (hx : a.eval x = .pointer (some ⟨g, 36, none⟩)) (hy : a.eval y = .bool z) (hg : Blk w g v.c 26) (hv : v.R.length = 32)
    (h : ∀ w1, Blk w1 g (SV.c { v with sl := z }) 26 → Only g w w1 → wpList Try.prog ops Q rest a w1) : wpList Try.prog ops Q (o :: rest) a w :=
  wpList_storeC hgd hd 4 x y ho g 36 v.c 26 (.bool z) hx hy rfl sizeB1 hg (by rw [SV.size hv]; omega) (fun w1 k1 o1 => h w1 (by rw [SV.set_sl hv] at k1; exact k1) o1)
theorem SV.ok_set {v : SV} (h : v.ok) (k : Nat) (z : Int) (h0 : 0 ≤ z) (h1 : z < 4294967296) : SV.ok { v with R := v.R.set k z } := by
  refine ⟨by simpa using h.1, fun j hj => ?_, h.2.2⟩
  show 0 ≤ (v.R.set k z).getD j 0 ∧ (v.R.set k z).getD j 0 < 4294967296
  rw [List.getD_eq_getElem?_getD, List.getElem?_set]
  have hl := h.1
  by_cases e : k = j
  · rw [if_pos e]
    split
    · exact ⟨h0, h1⟩
    · omega
  · rw [if_neg e, ← List.getD_eq_getElem?_getD]
    exact h.2.1 j hj
theorem SV.ok_on {v : SV} (h : v.ok) : v.on.ok := by
  have h2 := SV.ok_set h 0 0 (by omega) (by omega)
  exact ⟨h2.1, h2.2.1, h.2.2.1, h.2.2.2.1, h.2.2.2.2.2, by show 0 ≤ (v.nx + 4) % 4294967296 ∧ (v.nx + 4) % 4294967296 < 4294967296; omega⟩
set_option maxRecDepth 20000 in
set_option maxHeartbeats 1000000 in
theorem on_any (v : SV) (hv : v.R.length = 32) (w : World) : Calls Try.prog 35 #[.agg v.c] w fun e w' => e = .returned (.agg v.on.c) ∧ Below w.heap.size w w' := by
  obtain ⟨n, hn⟩ : ∃ n, w.heap.size = n := ⟨_, rfl⟩
  have HV := hidden hv
  have hix : ∀ u, (Instr.indexAt 24 (.pointer (some ⟨n, 0, none⟩)) (.int .i64 0)).run Try.prog u = .ok (.pointer (some ⟨n, 0, none⟩)) u := fun u => index_reg n 0 (by omega) u
  obtain ⟨C, hC⟩ : ∃ C, v.c = C := ⟨_, rfl⟩
  rw [hC]
  have HC := hidden hC
  clear hC hv
  go_enter Try.func35, Try.ntmps35
  go_wp2_with (first
    | (refine wpList_boxG rfl 26 _ rfl C rfl ?_; rintro w1 k1 s1 b1; rw [hn] at k1 s1 b1 ⊢; have K1 : Hid (Blk w1 n v.c 26) := hidden (by rw [HC.out]; exact k1); have S1 := hidden s1; have B1 := hidden b1; clear k1 s1 b1)
    | (refine wpList_allocV rfl rfl ?_; rintro w2 k2 s2 b2; rw [S1.out] at k2 s2 b2 ⊢; have K2 := hidden (K1.out.later (by rw [S1.out]; exact b2)); have R2 := hidden k2; have B2 := hidden (B1.out.trans (b2.mono (by omega))); clear k2 s2 b2)
    | (refine wpList_setR rfl rfl _ _ rfl n 0 v 0 rfl rfl K2.out HV.out (by omega) ?_; rintro w3 k3 o3; have K3 := hidden k3; have R3 := hidden (R2.out.only o3 (by omega)); have B3 := hidden (Below.only B2.out o3 (Nat.le_refl n)); have L3 : Hid ((v.R.set 0 0).length = 32) := hidden (by rw [List.length_set]; exact HV.out); have c3 : w3.cell? ⟨n, 35, none⟩ = some (.int .u32 v.nx) := k3.cell (SV.get_nx (s := { v with R := v.R.set 0 0 }) L3.out); clear k3 o3)
    | (refine wpList_set_pc rfl rfl _ _ rfl n { v with R := v.R.set 0 0 } v.nx rfl rfl K3.out L3.out ?_; rintro w4 k4 o4; have K4 := hidden k4; have R4 := hidden (R3.out.only o4 (by omega)); have B4 := hidden (Below.only B3.out o4 (Nat.le_refl n)); clear k4 o4 c3)
    | (refine wpList_set_nx rfl rfl _ _ rfl n { v with R := v.R.set 0 0, pc := v.nx } ((v.nx + 4) % 4294967296) rfl rfl K4.out L3.out ?_; rintro w5 k5 o5; have K5 := hidden k5; have R5 := hidden (R4.out.only o5 (by omega)); have B5 := hidden (Below.only B4.out o5 (Nat.le_refl n)); clear k5 o5)
    | (refine wpList_set_sl rfl rfl _ _ rfl n { v with R := v.R.set 0 0, pc := v.nx, nx := (v.nx + 4) % 4294967296 } false rfl rfl K5.out L3.out ?_; rintro w6 k6 o6; have K6 := hidden k6; have R6 := hidden (R5.out.only o6 (by omega)); have B6 := hidden (Below.only B5.out o6 (Nat.le_refl n)); clear k6 o6)
    | (refine wpList_loadV rfl _ rfl n v.on rfl K6.out L3.out ?_)
    | (refine wpList_storeV rfl rfl _ _ rfl (n + 1) SV.zero v.on rfl rfl R6.out rfl L3.out ?_; rintro w7 k7 o7; have K7 := hidden k7; have B7 := hidden (Below.only B6.out o7 (by omega)); clear k7 o7))
  exact bodyPost_ret (results_cell_row rfl _ _ (n + 1) 26 v.on.c (0, 0) _ rfl K7.out Try.underlying26 rfl (by rw [SV.size L3.out]; exact sizeSV)) rfl ⟨rfl, (by first | exact B7.out | (rw [hn]; exact B7.out))⟩
end Go.Proofs.Ytodoenimlhldjaa
