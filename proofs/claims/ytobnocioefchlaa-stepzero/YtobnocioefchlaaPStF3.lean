/- What an instruction does, walked (StF3). -/
import Derived.Test.YtobnocioefchlaaPStE
namespace Go.Proofs.Ytobnocioefchlaa
open Go.ChangeShapes Go.WideShapes Go.ChangeAt Go.RowKit
set_option linter.unusedVariables false
set_option maxRecDepth 20000 in
set_option maxHeartbeats 4000000 in
theorem do_69t (s : MS) (w : World) (hm : MemW w s) (k : TV) (hk : TOk k) (into : Nat) (hwr : writeV k.i.op k.i.tk.t k.i.tk.d = (into : Int)) (hi : into < 32) (hv : k.v.ok) (hop : (k.i.op : Int) = 69) (htb : takeB k.i.op k.x k.t k.i.tk.imm = true) : Calls Try.prog 28 #[.agg k.c, .pointer (some ⟨s.mb, 0, none⟩)] w fun e w' => e = .returned (.agg (SV.c (doP s k.v k.i.op k.i.tk.imm k.i.tk.a k.x k.t into k.a))) ∧ Below w.heap.size w w' := by
  have HTK := hidden (fun u => (show Calls Try.prog 49 #[.agg (insT (k.i.op : Int) k.i.tk), .int .u32 k.x, .int .u32 k.t] u (fun e w' => e = .returned (.bool true) ∧ Below u.heap.size u w') from by have h := takes_any (k.i.op : Int) (k.i.tk.s : Int) (k.i.tk.t : Int) (k.i.tk.d : Int) (k.i.tk.a : Int) (k.i.tk.imm : Int) k.x k.t hk.x0 hk.x1 hk.t0 hk.t1 (by omega) (by have := hk.m; omega) u; rw [htb] at h; exact h))
  have HTG := hidden (fun u => (show Calls Try.prog 50 #[.agg (insT (k.i.op : Int) k.i.tk), .int .u32 k.v.nx, .int .u32 k.x] u (fun e w' => e = .returned (.int .u32 (targP k.i.op k.i.tk.imm k.v.nx k.x)) ∧ Below u.heap.size u w') from target_any _ _ _ _ _ _ _ _ hv.2.2.2.2.2.1 hv.2.2.2.2.2.2 (by omega) (by have := hk.m; omega) u))
  have HOP := hidden hop
  have HPL := hidden (doP_l69t s k.v k.i.op k.i.tk.imm k.i.tk.a k.x k.t into k.a hop htb)
  clear hop htb
  have HI := hidden hi
  obtain ⟨n, hn⟩ : ∃ n, w.heap.size = n := ⟨_, rfl⟩
  obtain ⟨C, hC⟩ : ∃ C, k.c = C := ⟨_, rfl⟩
  rw [hC]
  have HC := hidden hC
  have HK := hidden hk
  clear hC
  go_enter Try.func28, Try.ntmps28
  go_upto_region 1 with (first
    | (refine wpList_boxG rfl 64 _ rfl C rfl ?_; rintro w1 k1 s1 b1; rw [hn] at k1 s1 b1 ⊢; have K1 : Hid (Blk w1 n k.c 64) := hidden (by rw [HC.out]; exact k1); have S1 := hidden s1; have B1 := hidden b1; clear k1 s1 b1)
    | (refine wpList_allocV rfl rfl ?_; rintro w2 k2 s2 b2; rw [S1.out] at k2 s2 b2 ⊢; have K2 := hidden (K1.out.later (by rw [S1.out]; exact b2)); have R2 := hidden k2; have S2 := hidden s2; have B2 := hidden (B1.out.trans (b2.mono (by omega))); clear k2 s2 b2 K1 B1))
  refine wp_region_tie (later_rz (n + 2) (.cells SV.zero.c 26 (0, 0)) (.cells k.v.on.c 26 (0, 0))) 8 [9, 10, 11, 12, 13, 14, 5, 1000] (phiE n k) (by kernel_rfl) (by kernel_rfl) rfl ?_ ?_ ?_
  · intro i j v xs w1 w2 hwt hne hp hR
    by_cases hi : i = 7
    · subst hi
      have hj : j ≠ 6 := by
        rintro rfl
        have h3 : false = true := hwt.symm.trans (by kernel_rfl)
        cases h3
      obtain ⟨g, e, hbk⟩ := hp
      refine ⟨g, ?_, hR.last hbk⟩
      rw [List.getD_eq_getElem?_getD, List.getElem?_set_ne hj, ← List.getD_eq_getElem?_getD]
      exact e
    · have e1 : ∀ (ys : List Value) (u : World), phiE n k i ys u = phiD n k i (ys.getD i undef) u := by
        intro ys u
        unfold phiE
        split
        · exact absurd rfl hi
        · rfl
      rw [e1] at hp ⊢
      rw [List.getD_eq_getElem?_getD, List.getElem?_set_ne (fun e => hne e.symm), ← List.getD_eq_getElem?_getD]
      exact phiD_mono n k i _ w1 w2 hp hR
  · intro j hj xs w3 hxs hR hpre
    obtain ⟨x0, x1, x2, x3, x4, x5, x6, x7, rfl⟩ := lstD xs hxs
    have hB := hR.below (show n + 2 ≤ w2.heap.size by have := S2.out; omega)
    have hK : Blk w3 n k.c 64 := (hB.block n (by omega)).trans K2.out
    rcases (show j = 0 ∨ j = 1 ∨ j = 2 ∨ j = 3 ∨ j = 4 ∨ j = 5 ∨ j = 6 ∨ j = 7 by omega) with rfl | rfl | rfl | rfl | rfl | rfl | rfl | rfl
    · exact wpOp_run (.pointer (some ⟨n, 6, none⟩)) rfl (by kernel_rfl) (by kernel_rfl) ⟨_, by kernel_rfl, rfl, (later_rz _ _ _).refl _⟩
    · have e0 : x0 = .pointer (some ⟨n, 6, none⟩) := hpre 0 (by kernel_rfl)
      subst e0
      exact wpOp_run (.agg k.v.c) rfl (by kernel_rfl) (exec_load 26 rfl (by kernel_rfl) w3 (loadTaS hK hk.len)) ⟨_, by kernel_rfl, rfl, (later_rz _ _ _).refl _⟩
    · have e1 : x1 = .agg k.v.c := hpre 1 (by kernel_rfl)
      subst e1
      refine wpOp_callR (R := fun u w4 => u = .agg k.v.on.c ∧ Below w3.heap.size w3 w4) 47 #[.agg k.v.c] rfl (by kernel_rfl) (by kernel_rfl) ((on_any k.v hk.len w3).mono fun e w4 ⟨he, hb⟩ => ⟨_, he, rfl, hb⟩) ?_
      rintro _ w4 ⟨rfl, hb⟩
      exact ⟨_, by kernel_rfl, rfl, RZ.of_below hb⟩
    · exact wpOp_run (.pointer (some ⟨n, 0, none⟩)) rfl (by kernel_rfl) (by kernel_rfl) ⟨_, by kernel_rfl, rfl, (later_rz _ _ _).refl _⟩
    · have e3 : x3 = .pointer (some ⟨n, 0, none⟩) := hpre 3 (by kernel_rfl)
      subst e3
      exact wpOp_run (.agg (insT (k.i.op : Int) k.i.tk)) rfl (by kernel_rfl) (exec_load 62 rfl (by kernel_rfl) w3 (loadTaI hK)) ⟨_, by kernel_rfl, rfl, (later_rz _ _ _).refl _⟩
    · have e4 : x4 = .agg (insT (k.i.op : Int) k.i.tk) := hpre 4 (by kernel_rfl)
      subst e4
      refine wpOp_callR (R := fun u w4 => u = .int .i64 (writeV k.i.op k.i.tk.t k.i.tk.d) ∧ Below w3.heap.size w3 w4) 48 #[.agg (insT (k.i.op : Int) k.i.tk)] rfl (by kernel_rfl) (by kernel_rfl) ((writes_any _ _ _ _ _ _ w3).mono fun e w4 ⟨he, hb⟩ => ⟨_, he, rfl, hb⟩) ?_
      rintro _ w4 ⟨rfl, hb⟩
      exact ⟨_, by kernel_rfl, rfl, RZ.of_below hb⟩
    · exact wpOp_run (.pointer (some ⟨w3.heap.size, 0, none⟩)) rfl (by kernel_rfl) (zeroS_run rfl w3) ⟨_, by kernel_rfl, ⟨_, rfl, Nat.le_trans (show n + 2 ≤ w2.heap.size by have := S2.out; omega) hR.size, .inl (Blk.new w3 _ _)⟩, RZ.of_below (below_new w3 _)⟩
    · have e2 : x2 = .agg k.v.on.c := hpre 2 (by kernel_rfl)
      subst e2
      obtain ⟨g, e6, hg6, hb6⟩ : ∃ g, x6 = .pointer (some ⟨g, 0, none⟩) ∧ n + 2 ≤ g ∧ (Blk w3 g SV.zero.c 26 ∨ Blk w3 g k.v.on.c 26) := hpre 6 (by kernel_rfl)
      subst e6
      have hol : k.v.on.R.length = 32 := by show (k.v.R.set 0 0).length = 32; rw [List.length_set]; exact hk.len
      obtain ⟨old, hs1, hs2⟩ : ∃ old : Array Value, old.size = 37 ∧ Blk w3 g old 26 := by
        rcases hb6 with h | h
        · exact ⟨_, SV.size rfl, h⟩
        · exact ⟨_, SV.size hol, h⟩
      exact wpOp_put rfl (by kernel_rfl) (exec_storeG (g := g) (cs := k.v.on.c) (old := old) rfl (by kernel_rfl) (by kernel_rfl) w3 hs2 (by rw [SV.size hol]; exact sizeSV) (by rw [hs1, SV.size hol]) (SV.one _)) ⟨.bool true, by kernel_rfl, ⟨g, rfl, setRow_heap w3 g old k.v.on.c 26 (0, 0) hs2⟩, RZ.of_put (only_rowV w3 g k.v.on.c) hb6 (setRow_heap w3 g old k.v.on.c 26 (0, 0) hs2) hg6⟩
  · intro xs w3 hxs hR hall
    obtain ⟨x0, x1, x2, x3, x4, x5, x6, x7, rfl⟩ := lstD xs hxs
    have e5 : x5 = .int .i64 (writeV k.i.op k.i.tk.t k.i.tk.d) := hall 5 (by omega)
    obtain ⟨g, e6, hg6, _⟩ : ∃ g, x6 = .pointer (some ⟨g, 0, none⟩) ∧ n + 2 ≤ g ∧ (Blk w3 g SV.zero.c 26 ∨ Blk w3 g k.v.on.c 26) := hall 6 (by omega)
    obtain ⟨g', e7, hg7⟩ : ∃ g', x6 = .pointer (some ⟨g', 0, none⟩) ∧ Blk w3 g' k.v.on.c 26 := hall 7 (by omega)
    subst e5
    subst e6
    obtain rfl : g = g' := by injection e7 with h; injection h with h; injection h
    have hB := hR.below (show n + 2 ≤ w2.heap.size by have := S2.out; omega)
    have P : Hid (DO w n g k k.v.on w3) := hidden ⟨B2.out.trans (hB.mono (by omega)), (hB.block n (by omega)).trans K2.out, (hB.block (n + 1) (by omega)).trans R2.out, hg7, hg6, by show (k.v.R.set 0 0).length = 32; rw [List.length_set]; exact hk.len⟩
    obtain ⟨c0, c1, c2, c3, c4, c5, c6, c7⟩ := P.out.tc hk
    clear hall hxs hR hB e7 hg7 K2 R2 B2 S2 S1
    simp only [slotsOn, putAll, List.drop_succ_cons, List.drop_zero]
    rw [hwr]
    rw [HOP.out] at c0
    have hix : ∀ u, (Instr.indexAt 24 (.pointer (some ⟨g, 0, none⟩)) (.int .i64 (into : Int))).run Try.prog u = .ok (.pointer (some ⟨g, into, none⟩)) u := fun u => index_reg g into hi u
    have hix0 : ∀ u, (Instr.indexAt 24 (.pointer (some ⟨g, 0, none⟩)) (.int .i64 0)).run Try.prog u = .ok (.pointer (some ⟨g, 0, none⟩)) u := fun u => index_reg g 0 (by omega) u
    clear hwr hv
    go_wp2_with (first
      | (refine wpList_setR rfl rfl _ _ rfl g _ _ _ rfl rfl P.out.st P.out.len (by first | exact HI.out | omega) ?_; rintro w9 k9 o9; clear c0 c1 c2 c3 c4 c5 c6 c7; have Q := hidden (P.out.putR o9 k9); clear P k9 o9; have P := Q; clear Q; obtain ⟨c0, c1, c2, c3, c4, c5, c6, c7⟩ := P.out.tc HK.out; rw [HOP.out] at c0)
      | (refine wpList_set_sl rfl rfl _ _ rfl g _ _ rfl rfl P.out.st P.out.len ?_; rintro w9 k9 o9; clear c0 c1 c2 c3 c4 c5 c6 c7; have Q := hidden (P.out.put o9 k9 P.out.len); clear P k9 o9; have P := Q; clear Q; obtain ⟨c0, c1, c2, c3, c4, c5, c6, c7⟩ := P.out.tc HK.out; rw [HOP.out] at c0)
      | (refine wpList_loadTaI rfl _ rfl n k rfl P.out.tk ?_)
      | (go_at_call 49; refine (HTK.out _).mono ?_; rintro e w9 ⟨rfl, b9⟩; clear c0 c1 c2 c3 c4 c5 c6 c7; have Q := hidden (P.out.later b9); clear P b9; have P := Q; clear Q; obtain ⟨c0, c1, c2, c3, c4, c5, c6, c7⟩ := P.out.tc HK.out; rw [HOP.out] at c0)
      | (go_at_call 50; refine (HTG.out _).mono ?_; rintro e w9 ⟨rfl, b9⟩; clear c0 c1 c2 c3 c4 c5 c6 c7; have Q := hidden (P.out.later b9); clear P b9; have P := Q; clear Q; obtain ⟨c0, c1, c2, c3, c4, c5, c6, c7⟩ := P.out.tc HK.out; rw [HOP.out] at c0)
      | (refine wpList_set_nx rfl rfl _ _ rfl g _ _ rfl rfl P.out.st P.out.len ?_; rintro w9 k9 o9; clear c0 c1 c2 c3 c4 c5 c6 c7; have Q := hidden (P.out.put o9 k9 P.out.len); clear P k9 o9; have P := Q; clear Q; obtain ⟨c0, c1, c2, c3, c4, c5, c6, c7⟩ := P.out.tc HK.out; rw [HOP.out] at c0)
      | (refine wpList_loadV rfl _ rfl g _ rfl P.out.st P.out.len ?_)
      | (refine wpList_storeV rfl rfl _ _ rfl (n + 1) SV.zero _ rfl rfl P.out.res rfl P.out.len ?_; rintro w9 k9 o9; have K9 := hidden k9; have B9 := hidden (P.out.fin o9); have L9 := hidden P.out.len; clear k9 o9))
    refine bodyPost_ret (results_cell_row rfl _ _ (n + 1) 26 _ (0, 0) _ rfl K9.out Try.underlying26 rfl (by rw [SV.size L9.out]; exact sizeSV)) rfl ⟨?_, by first | exact B9.out | (rw [hn]; exact B9.out)⟩
    have hplain := HPL.out
    rw [hplain]
set_option maxRecDepth 20000 in
set_option maxHeartbeats 4000000 in
theorem do_63f (s : MS) (w : World) (hm : MemW w s) (k : TV) (hk : TOk k) (into : Nat) (hwr : writeV k.i.op k.i.tk.t k.i.tk.d = (into : Int)) (hi : into < 32) (hv : k.v.ok) (hop : (k.i.op : Int) = 63) (htb : takeB k.i.op k.x k.t k.i.tk.imm = false) : Calls Try.prog 28 #[.agg k.c, .pointer (some ⟨s.mb, 0, none⟩)] w fun e w' => e = .returned (.agg (SV.c (doP s k.v k.i.op k.i.tk.imm k.i.tk.a k.x k.t into k.a))) ∧ Below w.heap.size w w' := by
  have HTK := hidden (fun u => (show Calls Try.prog 49 #[.agg (insT (k.i.op : Int) k.i.tk), .int .u32 k.x, .int .u32 k.t] u (fun e w' => e = .returned (.bool false) ∧ Below u.heap.size u w') from by have h := takes_any (k.i.op : Int) (k.i.tk.s : Int) (k.i.tk.t : Int) (k.i.tk.d : Int) (k.i.tk.a : Int) (k.i.tk.imm : Int) k.x k.t hk.x0 hk.x1 hk.t0 hk.t1 (by omega) (by have := hk.m; omega) u; rw [htb] at h; exact h))
  have HOP := hidden hop
  have HPL := hidden (doP_j63f s k.v k.i.op k.i.tk.imm k.i.tk.a k.x k.t into k.a hop htb)
  clear hop htb
  have HI := hidden hi
  obtain ⟨n, hn⟩ : ∃ n, w.heap.size = n := ⟨_, rfl⟩
  obtain ⟨C, hC⟩ : ∃ C, k.c = C := ⟨_, rfl⟩
  rw [hC]
  have HC := hidden hC
  have HK := hidden hk
  clear hC
  go_enter Try.func28, Try.ntmps28
  go_upto_region 1 with (first
    | (refine wpList_boxG rfl 64 _ rfl C rfl ?_; rintro w1 k1 s1 b1; rw [hn] at k1 s1 b1 ⊢; have K1 : Hid (Blk w1 n k.c 64) := hidden (by rw [HC.out]; exact k1); have S1 := hidden s1; have B1 := hidden b1; clear k1 s1 b1)
    | (refine wpList_allocV rfl rfl ?_; rintro w2 k2 s2 b2; rw [S1.out] at k2 s2 b2 ⊢; have K2 := hidden (K1.out.later (by rw [S1.out]; exact b2)); have R2 := hidden k2; have S2 := hidden s2; have B2 := hidden (B1.out.trans (b2.mono (by omega))); clear k2 s2 b2 K1 B1))
  refine wp_region_tie (later_rz (n + 2) (.cells SV.zero.c 26 (0, 0)) (.cells k.v.on.c 26 (0, 0))) 8 [9, 10, 11, 12, 13, 14, 5, 1000] (phiE n k) (by kernel_rfl) (by kernel_rfl) rfl ?_ ?_ ?_
  · intro i j v xs w1 w2 hwt hne hp hR
    by_cases hi : i = 7
    · subst hi
      have hj : j ≠ 6 := by
        rintro rfl
        have h3 : false = true := hwt.symm.trans (by kernel_rfl)
        cases h3
      obtain ⟨g, e, hbk⟩ := hp
      refine ⟨g, ?_, hR.last hbk⟩
      rw [List.getD_eq_getElem?_getD, List.getElem?_set_ne hj, ← List.getD_eq_getElem?_getD]
      exact e
    · have e1 : ∀ (ys : List Value) (u : World), phiE n k i ys u = phiD n k i (ys.getD i undef) u := by
        intro ys u
        unfold phiE
        split
        · exact absurd rfl hi
        · rfl
      rw [e1] at hp ⊢
      rw [List.getD_eq_getElem?_getD, List.getElem?_set_ne (fun e => hne e.symm), ← List.getD_eq_getElem?_getD]
      exact phiD_mono n k i _ w1 w2 hp hR
  · intro j hj xs w3 hxs hR hpre
    obtain ⟨x0, x1, x2, x3, x4, x5, x6, x7, rfl⟩ := lstD xs hxs
    have hB := hR.below (show n + 2 ≤ w2.heap.size by have := S2.out; omega)
    have hK : Blk w3 n k.c 64 := (hB.block n (by omega)).trans K2.out
    rcases (show j = 0 ∨ j = 1 ∨ j = 2 ∨ j = 3 ∨ j = 4 ∨ j = 5 ∨ j = 6 ∨ j = 7 by omega) with rfl | rfl | rfl | rfl | rfl | rfl | rfl | rfl
    · exact wpOp_run (.pointer (some ⟨n, 6, none⟩)) rfl (by kernel_rfl) (by kernel_rfl) ⟨_, by kernel_rfl, rfl, (later_rz _ _ _).refl _⟩
    · have e0 : x0 = .pointer (some ⟨n, 6, none⟩) := hpre 0 (by kernel_rfl)
      subst e0
      exact wpOp_run (.agg k.v.c) rfl (by kernel_rfl) (exec_load 26 rfl (by kernel_rfl) w3 (loadTaS hK hk.len)) ⟨_, by kernel_rfl, rfl, (later_rz _ _ _).refl _⟩
    · have e1 : x1 = .agg k.v.c := hpre 1 (by kernel_rfl)
      subst e1
      refine wpOp_callR (R := fun u w4 => u = .agg k.v.on.c ∧ Below w3.heap.size w3 w4) 47 #[.agg k.v.c] rfl (by kernel_rfl) (by kernel_rfl) ((on_any k.v hk.len w3).mono fun e w4 ⟨he, hb⟩ => ⟨_, he, rfl, hb⟩) ?_
      rintro _ w4 ⟨rfl, hb⟩
      exact ⟨_, by kernel_rfl, rfl, RZ.of_below hb⟩
    · exact wpOp_run (.pointer (some ⟨n, 0, none⟩)) rfl (by kernel_rfl) (by kernel_rfl) ⟨_, by kernel_rfl, rfl, (later_rz _ _ _).refl _⟩
    · have e3 : x3 = .pointer (some ⟨n, 0, none⟩) := hpre 3 (by kernel_rfl)
      subst e3
      exact wpOp_run (.agg (insT (k.i.op : Int) k.i.tk)) rfl (by kernel_rfl) (exec_load 62 rfl (by kernel_rfl) w3 (loadTaI hK)) ⟨_, by kernel_rfl, rfl, (later_rz _ _ _).refl _⟩
    · have e4 : x4 = .agg (insT (k.i.op : Int) k.i.tk) := hpre 4 (by kernel_rfl)
      subst e4
      refine wpOp_callR (R := fun u w4 => u = .int .i64 (writeV k.i.op k.i.tk.t k.i.tk.d) ∧ Below w3.heap.size w3 w4) 48 #[.agg (insT (k.i.op : Int) k.i.tk)] rfl (by kernel_rfl) (by kernel_rfl) ((writes_any _ _ _ _ _ _ w3).mono fun e w4 ⟨he, hb⟩ => ⟨_, he, rfl, hb⟩) ?_
      rintro _ w4 ⟨rfl, hb⟩
      exact ⟨_, by kernel_rfl, rfl, RZ.of_below hb⟩
    · exact wpOp_run (.pointer (some ⟨w3.heap.size, 0, none⟩)) rfl (by kernel_rfl) (zeroS_run rfl w3) ⟨_, by kernel_rfl, ⟨_, rfl, Nat.le_trans (show n + 2 ≤ w2.heap.size by have := S2.out; omega) hR.size, .inl (Blk.new w3 _ _)⟩, RZ.of_below (below_new w3 _)⟩
    · have e2 : x2 = .agg k.v.on.c := hpre 2 (by kernel_rfl)
      subst e2
      obtain ⟨g, e6, hg6, hb6⟩ : ∃ g, x6 = .pointer (some ⟨g, 0, none⟩) ∧ n + 2 ≤ g ∧ (Blk w3 g SV.zero.c 26 ∨ Blk w3 g k.v.on.c 26) := hpre 6 (by kernel_rfl)
      subst e6
      have hol : k.v.on.R.length = 32 := by show (k.v.R.set 0 0).length = 32; rw [List.length_set]; exact hk.len
      obtain ⟨old, hs1, hs2⟩ : ∃ old : Array Value, old.size = 37 ∧ Blk w3 g old 26 := by
        rcases hb6 with h | h
        · exact ⟨_, SV.size rfl, h⟩
        · exact ⟨_, SV.size hol, h⟩
      exact wpOp_put rfl (by kernel_rfl) (exec_storeG (g := g) (cs := k.v.on.c) (old := old) rfl (by kernel_rfl) (by kernel_rfl) w3 hs2 (by rw [SV.size hol]; exact sizeSV) (by rw [hs1, SV.size hol]) (SV.one _)) ⟨.bool true, by kernel_rfl, ⟨g, rfl, setRow_heap w3 g old k.v.on.c 26 (0, 0) hs2⟩, RZ.of_put (only_rowV w3 g k.v.on.c) hb6 (setRow_heap w3 g old k.v.on.c 26 (0, 0) hs2) hg6⟩
  · intro xs w3 hxs hR hall
    obtain ⟨x0, x1, x2, x3, x4, x5, x6, x7, rfl⟩ := lstD xs hxs
    have e5 : x5 = .int .i64 (writeV k.i.op k.i.tk.t k.i.tk.d) := hall 5 (by omega)
    obtain ⟨g, e6, hg6, _⟩ : ∃ g, x6 = .pointer (some ⟨g, 0, none⟩) ∧ n + 2 ≤ g ∧ (Blk w3 g SV.zero.c 26 ∨ Blk w3 g k.v.on.c 26) := hall 6 (by omega)
    obtain ⟨g', e7, hg7⟩ : ∃ g', x6 = .pointer (some ⟨g', 0, none⟩) ∧ Blk w3 g' k.v.on.c 26 := hall 7 (by omega)
    subst e5
    subst e6
    obtain rfl : g = g' := by injection e7 with h; injection h with h; injection h
    have hB := hR.below (show n + 2 ≤ w2.heap.size by have := S2.out; omega)
    have P : Hid (DO w n g k k.v.on w3) := hidden ⟨B2.out.trans (hB.mono (by omega)), (hB.block n (by omega)).trans K2.out, (hB.block (n + 1) (by omega)).trans R2.out, hg7, hg6, by show (k.v.R.set 0 0).length = 32; rw [List.length_set]; exact hk.len⟩
    obtain ⟨c0, c1, c2, c3, c4, c5, c6, c7⟩ := P.out.tc hk
    clear hall hxs hR hB e7 hg7 K2 R2 B2 S2 S1
    simp only [slotsOn, putAll, List.drop_succ_cons, List.drop_zero]
    rw [hwr]
    rw [HOP.out] at c0
    have hix : ∀ u, (Instr.indexAt 24 (.pointer (some ⟨g, 0, none⟩)) (.int .i64 (into : Int))).run Try.prog u = .ok (.pointer (some ⟨g, into, none⟩)) u := fun u => index_reg g into hi u
    have hix0 : ∀ u, (Instr.indexAt 24 (.pointer (some ⟨g, 0, none⟩)) (.int .i64 0)).run Try.prog u = .ok (.pointer (some ⟨g, 0, none⟩)) u := fun u => index_reg g 0 (by omega) u
    clear hwr hv
    go_wp2_with (first
      | (refine wpList_setR rfl rfl _ _ rfl g _ _ _ rfl rfl P.out.st P.out.len (by first | exact HI.out | omega) ?_; rintro w9 k9 o9; clear c0 c1 c2 c3 c4 c5 c6 c7; have Q := hidden (P.out.putR o9 k9); clear P k9 o9; have P := Q; clear Q; obtain ⟨c0, c1, c2, c3, c4, c5, c6, c7⟩ := P.out.tc HK.out; rw [HOP.out] at c0)
      | (refine wpList_set_sl rfl rfl _ _ rfl g _ _ rfl rfl P.out.st P.out.len ?_; rintro w9 k9 o9; clear c0 c1 c2 c3 c4 c5 c6 c7; have Q := hidden (P.out.put o9 k9 P.out.len); clear P k9 o9; have P := Q; clear Q; obtain ⟨c0, c1, c2, c3, c4, c5, c6, c7⟩ := P.out.tc HK.out; rw [HOP.out] at c0)
      | (refine wpList_loadTaI rfl _ rfl n k rfl P.out.tk ?_)
      | (go_at_call 49; refine (HTK.out _).mono ?_; rintro e w9 ⟨rfl, b9⟩; clear c0 c1 c2 c3 c4 c5 c6 c7; have Q := hidden (P.out.later b9); clear P b9; have P := Q; clear Q; obtain ⟨c0, c1, c2, c3, c4, c5, c6, c7⟩ := P.out.tc HK.out; rw [HOP.out] at c0)
      | (refine wpList_loadV rfl _ rfl g _ rfl P.out.st P.out.len ?_)
      | (refine wpList_storeV rfl rfl _ _ rfl (n + 1) SV.zero _ rfl rfl P.out.res rfl P.out.len ?_; rintro w9 k9 o9; have K9 := hidden k9; have B9 := hidden (P.out.fin o9); have L9 := hidden P.out.len; clear k9 o9))
    refine bodyPost_ret (results_cell_row rfl _ _ (n + 1) 26 _ (0, 0) _ rfl K9.out Try.underlying26 rfl (by rw [SV.size L9.out]; exact sizeSV)) rfl ⟨?_, by first | exact B9.out | (rw [hn]; exact B9.out)⟩
    have hplain := HPL.out
    rw [hplain]
set_option maxRecDepth 20000 in
set_option maxHeartbeats 4000000 in
theorem do_67f (s : MS) (w : World) (hm : MemW w s) (k : TV) (hk : TOk k) (into : Nat) (hwr : writeV k.i.op k.i.tk.t k.i.tk.d = (into : Int)) (hi : into < 32) (hv : k.v.ok) (hop : (k.i.op : Int) = 67) (htb : takeB k.i.op k.x k.t k.i.tk.imm = false) : Calls Try.prog 28 #[.agg k.c, .pointer (some ⟨s.mb, 0, none⟩)] w fun e w' => e = .returned (.agg (SV.c (doP s k.v k.i.op k.i.tk.imm k.i.tk.a k.x k.t into k.a))) ∧ Below w.heap.size w w' := by
  have HTK := hidden (fun u => (show Calls Try.prog 49 #[.agg (insT (k.i.op : Int) k.i.tk), .int .u32 k.x, .int .u32 k.t] u (fun e w' => e = .returned (.bool false) ∧ Below u.heap.size u w') from by have h := takes_any (k.i.op : Int) (k.i.tk.s : Int) (k.i.tk.t : Int) (k.i.tk.d : Int) (k.i.tk.a : Int) (k.i.tk.imm : Int) k.x k.t hk.x0 hk.x1 hk.t0 hk.t1 (by omega) (by have := hk.m; omega) u; rw [htb] at h; exact h))
  have HOP := hidden hop
  have HPL := hidden (doP_l67f s k.v k.i.op k.i.tk.imm k.i.tk.a k.x k.t into k.a hop htb)
  clear hop htb
  have HI := hidden hi
  obtain ⟨n, hn⟩ : ∃ n, w.heap.size = n := ⟨_, rfl⟩
  obtain ⟨C, hC⟩ : ∃ C, k.c = C := ⟨_, rfl⟩
  rw [hC]
  have HC := hidden hC
  have HK := hidden hk
  clear hC
  go_enter Try.func28, Try.ntmps28
  go_upto_region 1 with (first
    | (refine wpList_boxG rfl 64 _ rfl C rfl ?_; rintro w1 k1 s1 b1; rw [hn] at k1 s1 b1 ⊢; have K1 : Hid (Blk w1 n k.c 64) := hidden (by rw [HC.out]; exact k1); have S1 := hidden s1; have B1 := hidden b1; clear k1 s1 b1)
    | (refine wpList_allocV rfl rfl ?_; rintro w2 k2 s2 b2; rw [S1.out] at k2 s2 b2 ⊢; have K2 := hidden (K1.out.later (by rw [S1.out]; exact b2)); have R2 := hidden k2; have S2 := hidden s2; have B2 := hidden (B1.out.trans (b2.mono (by omega))); clear k2 s2 b2 K1 B1))
  refine wp_region_tie (later_rz (n + 2) (.cells SV.zero.c 26 (0, 0)) (.cells k.v.on.c 26 (0, 0))) 8 [9, 10, 11, 12, 13, 14, 5, 1000] (phiE n k) (by kernel_rfl) (by kernel_rfl) rfl ?_ ?_ ?_
  · intro i j v xs w1 w2 hwt hne hp hR
    by_cases hi : i = 7
    · subst hi
      have hj : j ≠ 6 := by
        rintro rfl
        have h3 : false = true := hwt.symm.trans (by kernel_rfl)
        cases h3
      obtain ⟨g, e, hbk⟩ := hp
      refine ⟨g, ?_, hR.last hbk⟩
      rw [List.getD_eq_getElem?_getD, List.getElem?_set_ne hj, ← List.getD_eq_getElem?_getD]
      exact e
    · have e1 : ∀ (ys : List Value) (u : World), phiE n k i ys u = phiD n k i (ys.getD i undef) u := by
        intro ys u
        unfold phiE
        split
        · exact absurd rfl hi
        · rfl
      rw [e1] at hp ⊢
      rw [List.getD_eq_getElem?_getD, List.getElem?_set_ne (fun e => hne e.symm), ← List.getD_eq_getElem?_getD]
      exact phiD_mono n k i _ w1 w2 hp hR
  · intro j hj xs w3 hxs hR hpre
    obtain ⟨x0, x1, x2, x3, x4, x5, x6, x7, rfl⟩ := lstD xs hxs
    have hB := hR.below (show n + 2 ≤ w2.heap.size by have := S2.out; omega)
    have hK : Blk w3 n k.c 64 := (hB.block n (by omega)).trans K2.out
    rcases (show j = 0 ∨ j = 1 ∨ j = 2 ∨ j = 3 ∨ j = 4 ∨ j = 5 ∨ j = 6 ∨ j = 7 by omega) with rfl | rfl | rfl | rfl | rfl | rfl | rfl | rfl
    · exact wpOp_run (.pointer (some ⟨n, 6, none⟩)) rfl (by kernel_rfl) (by kernel_rfl) ⟨_, by kernel_rfl, rfl, (later_rz _ _ _).refl _⟩
    · have e0 : x0 = .pointer (some ⟨n, 6, none⟩) := hpre 0 (by kernel_rfl)
      subst e0
      exact wpOp_run (.agg k.v.c) rfl (by kernel_rfl) (exec_load 26 rfl (by kernel_rfl) w3 (loadTaS hK hk.len)) ⟨_, by kernel_rfl, rfl, (later_rz _ _ _).refl _⟩
    · have e1 : x1 = .agg k.v.c := hpre 1 (by kernel_rfl)
      subst e1
      refine wpOp_callR (R := fun u w4 => u = .agg k.v.on.c ∧ Below w3.heap.size w3 w4) 47 #[.agg k.v.c] rfl (by kernel_rfl) (by kernel_rfl) ((on_any k.v hk.len w3).mono fun e w4 ⟨he, hb⟩ => ⟨_, he, rfl, hb⟩) ?_
      rintro _ w4 ⟨rfl, hb⟩
      exact ⟨_, by kernel_rfl, rfl, RZ.of_below hb⟩
    · exact wpOp_run (.pointer (some ⟨n, 0, none⟩)) rfl (by kernel_rfl) (by kernel_rfl) ⟨_, by kernel_rfl, rfl, (later_rz _ _ _).refl _⟩
    · have e3 : x3 = .pointer (some ⟨n, 0, none⟩) := hpre 3 (by kernel_rfl)
      subst e3
      exact wpOp_run (.agg (insT (k.i.op : Int) k.i.tk)) rfl (by kernel_rfl) (exec_load 62 rfl (by kernel_rfl) w3 (loadTaI hK)) ⟨_, by kernel_rfl, rfl, (later_rz _ _ _).refl _⟩
    · have e4 : x4 = .agg (insT (k.i.op : Int) k.i.tk) := hpre 4 (by kernel_rfl)
      subst e4
      refine wpOp_callR (R := fun u w4 => u = .int .i64 (writeV k.i.op k.i.tk.t k.i.tk.d) ∧ Below w3.heap.size w3 w4) 48 #[.agg (insT (k.i.op : Int) k.i.tk)] rfl (by kernel_rfl) (by kernel_rfl) ((writes_any _ _ _ _ _ _ w3).mono fun e w4 ⟨he, hb⟩ => ⟨_, he, rfl, hb⟩) ?_
      rintro _ w4 ⟨rfl, hb⟩
      exact ⟨_, by kernel_rfl, rfl, RZ.of_below hb⟩
    · exact wpOp_run (.pointer (some ⟨w3.heap.size, 0, none⟩)) rfl (by kernel_rfl) (zeroS_run rfl w3) ⟨_, by kernel_rfl, ⟨_, rfl, Nat.le_trans (show n + 2 ≤ w2.heap.size by have := S2.out; omega) hR.size, .inl (Blk.new w3 _ _)⟩, RZ.of_below (below_new w3 _)⟩
    · have e2 : x2 = .agg k.v.on.c := hpre 2 (by kernel_rfl)
      subst e2
      obtain ⟨g, e6, hg6, hb6⟩ : ∃ g, x6 = .pointer (some ⟨g, 0, none⟩) ∧ n + 2 ≤ g ∧ (Blk w3 g SV.zero.c 26 ∨ Blk w3 g k.v.on.c 26) := hpre 6 (by kernel_rfl)
      subst e6
      have hol : k.v.on.R.length = 32 := by show (k.v.R.set 0 0).length = 32; rw [List.length_set]; exact hk.len
      obtain ⟨old, hs1, hs2⟩ : ∃ old : Array Value, old.size = 37 ∧ Blk w3 g old 26 := by
        rcases hb6 with h | h
        · exact ⟨_, SV.size rfl, h⟩
        · exact ⟨_, SV.size hol, h⟩
      exact wpOp_put rfl (by kernel_rfl) (exec_storeG (g := g) (cs := k.v.on.c) (old := old) rfl (by kernel_rfl) (by kernel_rfl) w3 hs2 (by rw [SV.size hol]; exact sizeSV) (by rw [hs1, SV.size hol]) (SV.one _)) ⟨.bool true, by kernel_rfl, ⟨g, rfl, setRow_heap w3 g old k.v.on.c 26 (0, 0) hs2⟩, RZ.of_put (only_rowV w3 g k.v.on.c) hb6 (setRow_heap w3 g old k.v.on.c 26 (0, 0) hs2) hg6⟩
  · intro xs w3 hxs hR hall
    obtain ⟨x0, x1, x2, x3, x4, x5, x6, x7, rfl⟩ := lstD xs hxs
    have e5 : x5 = .int .i64 (writeV k.i.op k.i.tk.t k.i.tk.d) := hall 5 (by omega)
    obtain ⟨g, e6, hg6, _⟩ : ∃ g, x6 = .pointer (some ⟨g, 0, none⟩) ∧ n + 2 ≤ g ∧ (Blk w3 g SV.zero.c 26 ∨ Blk w3 g k.v.on.c 26) := hall 6 (by omega)
    obtain ⟨g', e7, hg7⟩ : ∃ g', x6 = .pointer (some ⟨g', 0, none⟩) ∧ Blk w3 g' k.v.on.c 26 := hall 7 (by omega)
    subst e5
    subst e6
    obtain rfl : g = g' := by injection e7 with h; injection h with h; injection h
    have hB := hR.below (show n + 2 ≤ w2.heap.size by have := S2.out; omega)
    have P : Hid (DO w n g k k.v.on w3) := hidden ⟨B2.out.trans (hB.mono (by omega)), (hB.block n (by omega)).trans K2.out, (hB.block (n + 1) (by omega)).trans R2.out, hg7, hg6, by show (k.v.R.set 0 0).length = 32; rw [List.length_set]; exact hk.len⟩
    obtain ⟨c0, c1, c2, c3, c4, c5, c6, c7⟩ := P.out.tc hk
    clear hall hxs hR hB e7 hg7 K2 R2 B2 S2 S1
    simp only [slotsOn, putAll, List.drop_succ_cons, List.drop_zero]
    rw [hwr]
    rw [HOP.out] at c0
    have hix : ∀ u, (Instr.indexAt 24 (.pointer (some ⟨g, 0, none⟩)) (.int .i64 (into : Int))).run Try.prog u = .ok (.pointer (some ⟨g, into, none⟩)) u := fun u => index_reg g into hi u
    have hix0 : ∀ u, (Instr.indexAt 24 (.pointer (some ⟨g, 0, none⟩)) (.int .i64 0)).run Try.prog u = .ok (.pointer (some ⟨g, 0, none⟩)) u := fun u => index_reg g 0 (by omega) u
    clear hwr hv
    go_wp2_with (first
      | (refine wpList_setR rfl rfl _ _ rfl g _ _ _ rfl rfl P.out.st P.out.len (by first | exact HI.out | omega) ?_; rintro w9 k9 o9; clear c0 c1 c2 c3 c4 c5 c6 c7; have Q := hidden (P.out.putR o9 k9); clear P k9 o9; have P := Q; clear Q; obtain ⟨c0, c1, c2, c3, c4, c5, c6, c7⟩ := P.out.tc HK.out; rw [HOP.out] at c0)
      | (refine wpList_set_sl rfl rfl _ _ rfl g _ _ rfl rfl P.out.st P.out.len ?_; rintro w9 k9 o9; clear c0 c1 c2 c3 c4 c5 c6 c7; have Q := hidden (P.out.put o9 k9 P.out.len); clear P k9 o9; have P := Q; clear Q; obtain ⟨c0, c1, c2, c3, c4, c5, c6, c7⟩ := P.out.tc HK.out; rw [HOP.out] at c0)
      | (refine wpList_loadTaI rfl _ rfl n k rfl P.out.tk ?_)
      | (go_at_call 49; refine (HTK.out _).mono ?_; rintro e w9 ⟨rfl, b9⟩; clear c0 c1 c2 c3 c4 c5 c6 c7; have Q := hidden (P.out.later b9); clear P b9; have P := Q; clear Q; obtain ⟨c0, c1, c2, c3, c4, c5, c6, c7⟩ := P.out.tc HK.out; rw [HOP.out] at c0)
      | (refine wpList_loadV rfl _ rfl g _ rfl P.out.st P.out.len ?_)
      | (refine wpList_storeV rfl rfl _ _ rfl (n + 1) SV.zero _ rfl rfl P.out.res rfl P.out.len ?_; rintro w9 k9 o9; have K9 := hidden k9; have B9 := hidden (P.out.fin o9); have L9 := hidden P.out.len; clear k9 o9))
    refine bodyPost_ret (results_cell_row rfl _ _ (n + 1) 26 _ (0, 0) _ rfl K9.out Try.underlying26 rfl (by rw [SV.size L9.out]; exact sizeSV)) rfl ⟨?_, by first | exact B9.out | (rw [hn]; exact B9.out)⟩
    have hplain := HPL.out
    rw [hplain]
set_option maxRecDepth 20000 in
set_option maxHeartbeats 4000000 in
theorem do_49 (s : MS) (w : World) (hm : MemW w s) (k : TV) (hk : TOk k) (into : Nat) (hwr : writeV k.i.op k.i.tk.t k.i.tk.d = (into : Int)) (hi : into < 32) (hv : k.v.ok) (hop : (k.i.op : Int) = 49) : Calls Try.prog 28 #[.agg k.c, .pointer (some ⟨s.mb, 0, none⟩)] w fun e w' => e = .returned (.agg (SV.c (doP s k.v k.i.op k.i.tk.imm k.i.tk.a k.x k.t into k.a))) ∧ Below w.heap.size w w' := by
  have HLD : Hid (∀ u, Below w.heap.size w u → Calls Try.prog 51 #[.pointer (some ⟨s.mb, 0, none⟩), .agg (insT (k.i.op : Int) k.i.tk), .int .u32 (k.a : Int), .int .u32 k.t] u fun e w' => e = .returned (.int .u32 (loadN s k.i.op k.a k.t.toNat : Int)) ∧ Below u.heap.size u w') := hidden (fun u hu => by have h := accLoad_any u s (hm.later hu) (k.i.op : Int) (k.i.tk.s : Int) (k.i.tk.t : Int) (k.i.tk.d : Int) (k.i.tk.a : Int) (k.i.tk.imm : Int) k.a k.t.toNat hk.a (by have := hk.t1; have := hk.t0; omega); rw [Int.toNat_of_nonneg hk.t0] at h; exact h)
  have HOP := hidden hop
  have HPL := hidden (doP_p49 s k.v k.i.op k.i.tk.imm k.i.tk.a k.x k.t into k.a hop)
  clear hop
  have HI := hidden hi
  obtain ⟨n, hn⟩ : ∃ n, w.heap.size = n := ⟨_, rfl⟩
  rw [hn] at HLD
  obtain ⟨C, hC⟩ : ∃ C, k.c = C := ⟨_, rfl⟩
  rw [hC]
  have HC := hidden hC
  have HK := hidden hk
  clear hC
  go_enter Try.func28, Try.ntmps28
  go_upto_region 1 with (first
    | (refine wpList_boxG rfl 64 _ rfl C rfl ?_; rintro w1 k1 s1 b1; rw [hn] at k1 s1 b1 ⊢; have K1 : Hid (Blk w1 n k.c 64) := hidden (by rw [HC.out]; exact k1); have S1 := hidden s1; have B1 := hidden b1; clear k1 s1 b1)
    | (refine wpList_allocV rfl rfl ?_; rintro w2 k2 s2 b2; rw [S1.out] at k2 s2 b2 ⊢; have K2 := hidden (K1.out.later (by rw [S1.out]; exact b2)); have R2 := hidden k2; have S2 := hidden s2; have B2 := hidden (B1.out.trans (b2.mono (by omega))); clear k2 s2 b2 K1 B1))
  refine wp_region_tie (later_rz (n + 2) (.cells SV.zero.c 26 (0, 0)) (.cells k.v.on.c 26 (0, 0))) 8 [9, 10, 11, 12, 13, 14, 5, 1000] (phiE n k) (by kernel_rfl) (by kernel_rfl) rfl ?_ ?_ ?_
  · intro i j v xs w1 w2 hwt hne hp hR
    by_cases hi : i = 7
    · subst hi
      have hj : j ≠ 6 := by
        rintro rfl
        have h3 : false = true := hwt.symm.trans (by kernel_rfl)
        cases h3
      obtain ⟨g, e, hbk⟩ := hp
      refine ⟨g, ?_, hR.last hbk⟩
      rw [List.getD_eq_getElem?_getD, List.getElem?_set_ne hj, ← List.getD_eq_getElem?_getD]
      exact e
    · have e1 : ∀ (ys : List Value) (u : World), phiE n k i ys u = phiD n k i (ys.getD i undef) u := by
        intro ys u
        unfold phiE
        split
        · exact absurd rfl hi
        · rfl
      rw [e1] at hp ⊢
      rw [List.getD_eq_getElem?_getD, List.getElem?_set_ne (fun e => hne e.symm), ← List.getD_eq_getElem?_getD]
      exact phiD_mono n k i _ w1 w2 hp hR
  · intro j hj xs w3 hxs hR hpre
    obtain ⟨x0, x1, x2, x3, x4, x5, x6, x7, rfl⟩ := lstD xs hxs
    have hB := hR.below (show n + 2 ≤ w2.heap.size by have := S2.out; omega)
    have hK : Blk w3 n k.c 64 := (hB.block n (by omega)).trans K2.out
    rcases (show j = 0 ∨ j = 1 ∨ j = 2 ∨ j = 3 ∨ j = 4 ∨ j = 5 ∨ j = 6 ∨ j = 7 by omega) with rfl | rfl | rfl | rfl | rfl | rfl | rfl | rfl
    · exact wpOp_run (.pointer (some ⟨n, 6, none⟩)) rfl (by kernel_rfl) (by kernel_rfl) ⟨_, by kernel_rfl, rfl, (later_rz _ _ _).refl _⟩
    · have e0 : x0 = .pointer (some ⟨n, 6, none⟩) := hpre 0 (by kernel_rfl)
      subst e0
      exact wpOp_run (.agg k.v.c) rfl (by kernel_rfl) (exec_load 26 rfl (by kernel_rfl) w3 (loadTaS hK hk.len)) ⟨_, by kernel_rfl, rfl, (later_rz _ _ _).refl _⟩
    · have e1 : x1 = .agg k.v.c := hpre 1 (by kernel_rfl)
      subst e1
      refine wpOp_callR (R := fun u w4 => u = .agg k.v.on.c ∧ Below w3.heap.size w3 w4) 47 #[.agg k.v.c] rfl (by kernel_rfl) (by kernel_rfl) ((on_any k.v hk.len w3).mono fun e w4 ⟨he, hb⟩ => ⟨_, he, rfl, hb⟩) ?_
      rintro _ w4 ⟨rfl, hb⟩
      exact ⟨_, by kernel_rfl, rfl, RZ.of_below hb⟩
    · exact wpOp_run (.pointer (some ⟨n, 0, none⟩)) rfl (by kernel_rfl) (by kernel_rfl) ⟨_, by kernel_rfl, rfl, (later_rz _ _ _).refl _⟩
    · have e3 : x3 = .pointer (some ⟨n, 0, none⟩) := hpre 3 (by kernel_rfl)
      subst e3
      exact wpOp_run (.agg (insT (k.i.op : Int) k.i.tk)) rfl (by kernel_rfl) (exec_load 62 rfl (by kernel_rfl) w3 (loadTaI hK)) ⟨_, by kernel_rfl, rfl, (later_rz _ _ _).refl _⟩
    · have e4 : x4 = .agg (insT (k.i.op : Int) k.i.tk) := hpre 4 (by kernel_rfl)
      subst e4
      refine wpOp_callR (R := fun u w4 => u = .int .i64 (writeV k.i.op k.i.tk.t k.i.tk.d) ∧ Below w3.heap.size w3 w4) 48 #[.agg (insT (k.i.op : Int) k.i.tk)] rfl (by kernel_rfl) (by kernel_rfl) ((writes_any _ _ _ _ _ _ w3).mono fun e w4 ⟨he, hb⟩ => ⟨_, he, rfl, hb⟩) ?_
      rintro _ w4 ⟨rfl, hb⟩
      exact ⟨_, by kernel_rfl, rfl, RZ.of_below hb⟩
    · exact wpOp_run (.pointer (some ⟨w3.heap.size, 0, none⟩)) rfl (by kernel_rfl) (zeroS_run rfl w3) ⟨_, by kernel_rfl, ⟨_, rfl, Nat.le_trans (show n + 2 ≤ w2.heap.size by have := S2.out; omega) hR.size, .inl (Blk.new w3 _ _)⟩, RZ.of_below (below_new w3 _)⟩
    · have e2 : x2 = .agg k.v.on.c := hpre 2 (by kernel_rfl)
      subst e2
      obtain ⟨g, e6, hg6, hb6⟩ : ∃ g, x6 = .pointer (some ⟨g, 0, none⟩) ∧ n + 2 ≤ g ∧ (Blk w3 g SV.zero.c 26 ∨ Blk w3 g k.v.on.c 26) := hpre 6 (by kernel_rfl)
      subst e6
      have hol : k.v.on.R.length = 32 := by show (k.v.R.set 0 0).length = 32; rw [List.length_set]; exact hk.len
      obtain ⟨old, hs1, hs2⟩ : ∃ old : Array Value, old.size = 37 ∧ Blk w3 g old 26 := by
        rcases hb6 with h | h
        · exact ⟨_, SV.size rfl, h⟩
        · exact ⟨_, SV.size hol, h⟩
      exact wpOp_put rfl (by kernel_rfl) (exec_storeG (g := g) (cs := k.v.on.c) (old := old) rfl (by kernel_rfl) (by kernel_rfl) w3 hs2 (by rw [SV.size hol]; exact sizeSV) (by rw [hs1, SV.size hol]) (SV.one _)) ⟨.bool true, by kernel_rfl, ⟨g, rfl, setRow_heap w3 g old k.v.on.c 26 (0, 0) hs2⟩, RZ.of_put (only_rowV w3 g k.v.on.c) hb6 (setRow_heap w3 g old k.v.on.c 26 (0, 0) hs2) hg6⟩
  · intro xs w3 hxs hR hall
    obtain ⟨x0, x1, x2, x3, x4, x5, x6, x7, rfl⟩ := lstD xs hxs
    have e5 : x5 = .int .i64 (writeV k.i.op k.i.tk.t k.i.tk.d) := hall 5 (by omega)
    obtain ⟨g, e6, hg6, _⟩ : ∃ g, x6 = .pointer (some ⟨g, 0, none⟩) ∧ n + 2 ≤ g ∧ (Blk w3 g SV.zero.c 26 ∨ Blk w3 g k.v.on.c 26) := hall 6 (by omega)
    obtain ⟨g', e7, hg7⟩ : ∃ g', x6 = .pointer (some ⟨g', 0, none⟩) ∧ Blk w3 g' k.v.on.c 26 := hall 7 (by omega)
    subst e5
    subst e6
    obtain rfl : g = g' := by injection e7 with h; injection h with h; injection h
    have hB := hR.below (show n + 2 ≤ w2.heap.size by have := S2.out; omega)
    have P : Hid (DO w n g k k.v.on w3) := hidden ⟨B2.out.trans (hB.mono (by omega)), (hB.block n (by omega)).trans K2.out, (hB.block (n + 1) (by omega)).trans R2.out, hg7, hg6, by show (k.v.R.set 0 0).length = 32; rw [List.length_set]; exact hk.len⟩
    obtain ⟨c0, c1, c2, c3, c4, c5, c6, c7⟩ := P.out.tc hk
    clear hall hxs hR hB e7 hg7 K2 R2 B2 S2 S1
    simp only [slotsOn, putAll, List.drop_succ_cons, List.drop_zero]
    rw [hwr]
    rw [HOP.out] at c0
    have hix : ∀ u, (Instr.indexAt 24 (.pointer (some ⟨g, 0, none⟩)) (.int .i64 (into : Int))).run Try.prog u = .ok (.pointer (some ⟨g, into, none⟩)) u := fun u => index_reg g into hi u
    have hix0 : ∀ u, (Instr.indexAt 24 (.pointer (some ⟨g, 0, none⟩)) (.int .i64 0)).run Try.prog u = .ok (.pointer (some ⟨g, 0, none⟩)) u := fun u => index_reg g 0 (by omega) u
    clear hwr hv
    go_wp2_with (first
      | (refine wpList_setR rfl rfl _ _ rfl g _ _ _ rfl rfl P.out.st P.out.len (by first | exact HI.out | omega) ?_; rintro w9 k9 o9; clear c0 c1 c2 c3 c4 c5 c6 c7; have Q := hidden (P.out.putR o9 k9); clear P k9 o9; have P := Q; clear Q; obtain ⟨c0, c1, c2, c3, c4, c5, c6, c7⟩ := P.out.tc HK.out; rw [HOP.out] at c0)
      | (refine wpList_loadTaI rfl _ rfl n k rfl P.out.tk ?_)
      | (go_at_call 51; refine (HLD.out _ P.out.bel).mono ?_; rintro e w9 ⟨rfl, b9⟩; clear c0 c1 c2 c3 c4 c5 c6 c7; have Q := hidden (P.out.later b9); clear P b9; have P := Q; clear Q; obtain ⟨c0, c1, c2, c3, c4, c5, c6, c7⟩ := P.out.tc HK.out; rw [HOP.out] at c0)
      | (refine wpList_loadV rfl _ rfl g _ rfl P.out.st P.out.len ?_)
      | (refine wpList_storeV rfl rfl _ _ rfl (n + 1) SV.zero _ rfl rfl P.out.res rfl P.out.len ?_; rintro w9 k9 o9; have K9 := hidden k9; have B9 := hidden (P.out.fin o9); have L9 := hidden P.out.len; clear k9 o9))
    refine bodyPost_ret (results_cell_row rfl _ _ (n + 1) 26 _ (0, 0) _ rfl K9.out Try.underlying26 rfl (by rw [SV.size L9.out]; exact sizeSV)) rfl ⟨?_, by first | exact B9.out | (rw [hn]; exact B9.out)⟩
    have hplain := HPL.out
    rw [hplain]
set_option maxRecDepth 20000 in
set_option maxHeartbeats 4000000 in
theorem do_57 (s : MS) (w : World) (hm : MemW w s) (k : TV) (hk : TOk k) (into : Nat) (hwr : writeV k.i.op k.i.tk.t k.i.tk.d = (into : Int)) (hi : into < 32) (hv : k.v.ok) (hc : s.c + 4 ≤ 1099511627776) (hop : (k.i.op : Int) = 57) : Calls Try.prog 28 #[.agg k.c, .pointer (some ⟨s.mb, 0, none⟩)] w fun e w' => e = .returned (.agg (SV.c (doP s k.v k.i.op k.i.tk.imm k.i.tk.a k.x k.t into k.a))) ∧ ∃ s', PokesTo s (storeL k.i.op k.a k.t.toNat) s' ∧ Step w s w' s' := by
  have HSTO : Hid (∀ u, Below w.heap.size w u → Calls Try.prog 52 #[.pointer (some ⟨s.mb, 0, none⟩), .agg (insT (k.i.op : Int) k.i.tk), .int .u32 (k.a : Int), .int .u32 k.t] u fun e w' => e = .returned (.tuple #[]) ∧ ∃ s', PokesTo s (storeL k.i.op k.a k.t.toNat) s' ∧ Step u s w' s') := hidden (fun u hu => by have h := accStore_any u s (hm.later hu) (k.i.op : Int) (k.i.tk.s : Int) (k.i.tk.t : Int) (k.i.tk.d : Int) (k.i.tk.a : Int) (k.i.tk.imm : Int) k.a k.t.toNat hk.a (by have := hk.t1; have := hk.t0; omega) hc; rw [Int.toNat_of_nonneg hk.t0] at h; exact h)
  have HM := hidden hm
  have HOP := hidden hop
  have HPL := hidden (doP_p57 s k.v k.i.op k.i.tk.imm k.i.tk.a k.x k.t into k.a hop)
  clear hop
  have HI := hidden hi
  obtain ⟨n, hn⟩ : ∃ n, w.heap.size = n := ⟨_, rfl⟩
  rw [hn] at HSTO
  obtain ⟨C, hC⟩ : ∃ C, k.c = C := ⟨_, rfl⟩
  rw [hC]
  have HC := hidden hC
  have HK := hidden hk
  clear hC
  go_enter Try.func28, Try.ntmps28
  go_upto_region 1 with (first
    | (refine wpList_boxG rfl 64 _ rfl C rfl ?_; rintro w1 k1 s1 b1; rw [hn] at k1 s1 b1 ⊢; have K1 : Hid (Blk w1 n k.c 64) := hidden (by rw [HC.out]; exact k1); have S1 := hidden s1; have B1 := hidden b1; clear k1 s1 b1)
    | (refine wpList_allocV rfl rfl ?_; rintro w2 k2 s2 b2; rw [S1.out] at k2 s2 b2 ⊢; have K2 := hidden (K1.out.later (by rw [S1.out]; exact b2)); have R2 := hidden k2; have S2 := hidden s2; have B2 := hidden (B1.out.trans (b2.mono (by omega))); clear k2 s2 b2 K1 B1))
  refine wp_region_tie (later_rz (n + 2) (.cells SV.zero.c 26 (0, 0)) (.cells k.v.on.c 26 (0, 0))) 8 [9, 10, 11, 12, 13, 14, 5, 1000] (phiE n k) (by kernel_rfl) (by kernel_rfl) rfl ?_ ?_ ?_
  · intro i j v xs w1 w2 hwt hne hp hR
    by_cases hi : i = 7
    · subst hi
      have hj : j ≠ 6 := by
        rintro rfl
        have h3 : false = true := hwt.symm.trans (by kernel_rfl)
        cases h3
      obtain ⟨g, e, hbk⟩ := hp
      refine ⟨g, ?_, hR.last hbk⟩
      rw [List.getD_eq_getElem?_getD, List.getElem?_set_ne hj, ← List.getD_eq_getElem?_getD]
      exact e
    · have e1 : ∀ (ys : List Value) (u : World), phiE n k i ys u = phiD n k i (ys.getD i undef) u := by
        intro ys u
        unfold phiE
        split
        · exact absurd rfl hi
        · rfl
      rw [e1] at hp ⊢
      rw [List.getD_eq_getElem?_getD, List.getElem?_set_ne (fun e => hne e.symm), ← List.getD_eq_getElem?_getD]
      exact phiD_mono n k i _ w1 w2 hp hR
  · intro j hj xs w3 hxs hR hpre
    obtain ⟨x0, x1, x2, x3, x4, x5, x6, x7, rfl⟩ := lstD xs hxs
    have hB := hR.below (show n + 2 ≤ w2.heap.size by have := S2.out; omega)
    have hK : Blk w3 n k.c 64 := (hB.block n (by omega)).trans K2.out
    rcases (show j = 0 ∨ j = 1 ∨ j = 2 ∨ j = 3 ∨ j = 4 ∨ j = 5 ∨ j = 6 ∨ j = 7 by omega) with rfl | rfl | rfl | rfl | rfl | rfl | rfl | rfl
    · exact wpOp_run (.pointer (some ⟨n, 6, none⟩)) rfl (by kernel_rfl) (by kernel_rfl) ⟨_, by kernel_rfl, rfl, (later_rz _ _ _).refl _⟩
    · have e0 : x0 = .pointer (some ⟨n, 6, none⟩) := hpre 0 (by kernel_rfl)
      subst e0
      exact wpOp_run (.agg k.v.c) rfl (by kernel_rfl) (exec_load 26 rfl (by kernel_rfl) w3 (loadTaS hK hk.len)) ⟨_, by kernel_rfl, rfl, (later_rz _ _ _).refl _⟩
    · have e1 : x1 = .agg k.v.c := hpre 1 (by kernel_rfl)
      subst e1
      refine wpOp_callR (R := fun u w4 => u = .agg k.v.on.c ∧ Below w3.heap.size w3 w4) 47 #[.agg k.v.c] rfl (by kernel_rfl) (by kernel_rfl) ((on_any k.v hk.len w3).mono fun e w4 ⟨he, hb⟩ => ⟨_, he, rfl, hb⟩) ?_
      rintro _ w4 ⟨rfl, hb⟩
      exact ⟨_, by kernel_rfl, rfl, RZ.of_below hb⟩
    · exact wpOp_run (.pointer (some ⟨n, 0, none⟩)) rfl (by kernel_rfl) (by kernel_rfl) ⟨_, by kernel_rfl, rfl, (later_rz _ _ _).refl _⟩
    · have e3 : x3 = .pointer (some ⟨n, 0, none⟩) := hpre 3 (by kernel_rfl)
      subst e3
      exact wpOp_run (.agg (insT (k.i.op : Int) k.i.tk)) rfl (by kernel_rfl) (exec_load 62 rfl (by kernel_rfl) w3 (loadTaI hK)) ⟨_, by kernel_rfl, rfl, (later_rz _ _ _).refl _⟩
    · have e4 : x4 = .agg (insT (k.i.op : Int) k.i.tk) := hpre 4 (by kernel_rfl)
      subst e4
      refine wpOp_callR (R := fun u w4 => u = .int .i64 (writeV k.i.op k.i.tk.t k.i.tk.d) ∧ Below w3.heap.size w3 w4) 48 #[.agg (insT (k.i.op : Int) k.i.tk)] rfl (by kernel_rfl) (by kernel_rfl) ((writes_any _ _ _ _ _ _ w3).mono fun e w4 ⟨he, hb⟩ => ⟨_, he, rfl, hb⟩) ?_
      rintro _ w4 ⟨rfl, hb⟩
      exact ⟨_, by kernel_rfl, rfl, RZ.of_below hb⟩
    · exact wpOp_run (.pointer (some ⟨w3.heap.size, 0, none⟩)) rfl (by kernel_rfl) (zeroS_run rfl w3) ⟨_, by kernel_rfl, ⟨_, rfl, Nat.le_trans (show n + 2 ≤ w2.heap.size by have := S2.out; omega) hR.size, .inl (Blk.new w3 _ _)⟩, RZ.of_below (below_new w3 _)⟩
    · have e2 : x2 = .agg k.v.on.c := hpre 2 (by kernel_rfl)
      subst e2
      obtain ⟨g, e6, hg6, hb6⟩ : ∃ g, x6 = .pointer (some ⟨g, 0, none⟩) ∧ n + 2 ≤ g ∧ (Blk w3 g SV.zero.c 26 ∨ Blk w3 g k.v.on.c 26) := hpre 6 (by kernel_rfl)
      subst e6
      have hol : k.v.on.R.length = 32 := by show (k.v.R.set 0 0).length = 32; rw [List.length_set]; exact hk.len
      obtain ⟨old, hs1, hs2⟩ : ∃ old : Array Value, old.size = 37 ∧ Blk w3 g old 26 := by
        rcases hb6 with h | h
        · exact ⟨_, SV.size rfl, h⟩
        · exact ⟨_, SV.size hol, h⟩
      exact wpOp_put rfl (by kernel_rfl) (exec_storeG (g := g) (cs := k.v.on.c) (old := old) rfl (by kernel_rfl) (by kernel_rfl) w3 hs2 (by rw [SV.size hol]; exact sizeSV) (by rw [hs1, SV.size hol]) (SV.one _)) ⟨.bool true, by kernel_rfl, ⟨g, rfl, setRow_heap w3 g old k.v.on.c 26 (0, 0) hs2⟩, RZ.of_put (only_rowV w3 g k.v.on.c) hb6 (setRow_heap w3 g old k.v.on.c 26 (0, 0) hs2) hg6⟩
  · intro xs w3 hxs hR hall
    obtain ⟨x0, x1, x2, x3, x4, x5, x6, x7, rfl⟩ := lstD xs hxs
    have e5 : x5 = .int .i64 (writeV k.i.op k.i.tk.t k.i.tk.d) := hall 5 (by omega)
    obtain ⟨g, e6, hg6, _⟩ : ∃ g, x6 = .pointer (some ⟨g, 0, none⟩) ∧ n + 2 ≤ g ∧ (Blk w3 g SV.zero.c 26 ∨ Blk w3 g k.v.on.c 26) := hall 6 (by omega)
    obtain ⟨g', e7, hg7⟩ : ∃ g', x6 = .pointer (some ⟨g', 0, none⟩) ∧ Blk w3 g' k.v.on.c 26 := hall 7 (by omega)
    subst e5
    subst e6
    obtain rfl : g = g' := by injection e7 with h; injection h with h; injection h
    have hB := hR.below (show n + 2 ≤ w2.heap.size by have := S2.out; omega)
    have P : Hid (DO w n g k k.v.on w3) := hidden ⟨B2.out.trans (hB.mono (by omega)), (hB.block n (by omega)).trans K2.out, (hB.block (n + 1) (by omega)).trans R2.out, hg7, hg6, by show (k.v.R.set 0 0).length = 32; rw [List.length_set]; exact hk.len⟩
    obtain ⟨c0, c1, c2, c3, c4, c5, c6, c7⟩ := P.out.tc hk
    clear hall hxs hR hB e7 hg7 K2 R2 B2 S2 S1
    simp only [slotsOn, putAll, List.drop_succ_cons, List.drop_zero]
    rw [hwr]
    rw [HOP.out] at c0
    have hix : ∀ u, (Instr.indexAt 24 (.pointer (some ⟨g, 0, none⟩)) (.int .i64 (into : Int))).run Try.prog u = .ok (.pointer (some ⟨g, into, none⟩)) u := fun u => index_reg g into hi u
    have hix0 : ∀ u, (Instr.indexAt 24 (.pointer (some ⟨g, 0, none⟩)) (.int .i64 0)).run Try.prog u = .ok (.pointer (some ⟨g, 0, none⟩)) u := fun u => index_reg g 0 (by omega) u
    clear hwr hv
    go_wp2_with (first
      | (refine wpList_setR rfl rfl _ _ rfl g _ _ _ rfl rfl P.out.st P.out.len (by first | exact HI.out | omega) ?_; rintro w9 k9 o9; clear c0 c1 c2 c3 c4 c5 c6 c7; have Q := hidden (P.out.putR o9 k9); clear P k9 o9; have P := Q; clear Q; obtain ⟨c0, c1, c2, c3, c4, c5, c6, c7⟩ := P.out.tc HK.out; rw [HOP.out] at c0)
      | (refine wpList_loadTaI rfl _ rfl n k rfl P.out.tk ?_)
      | (go_at_call 52; refine (HSTO.out _ P.out.bel).mono ?_; rintro e w9 ⟨rfl, s', hp, st9⟩; have HP := hidden hp; clear c0 c1 c2 c3 c4 c5 c6 c7; have Q := hidden (P.out.store HM.out hn st9); clear P hp st9; have P := Q; clear Q; obtain ⟨c0, c1, c2, c3, c4, c5, c6, c7⟩ := P.out.tc HK.out; rw [HOP.out] at c0)
      | (refine wpList_loadV rfl _ rfl g _ rfl P.out.st P.out.len ?_)
      | (refine wpList_storeV rfl rfl _ _ rfl (n + 1) SV.zero _ rfl rfl P.out.res rfl P.out.len ?_; rintro w9 k9 o9; have K9 := hidden k9; have B9 := hidden (P.out.fin o9); have L9 := hidden P.out.len; clear k9 o9))
    refine bodyPost_ret (results_cell_row rfl _ _ (n + 1) 26 _ (0, 0) _ rfl K9.out Try.underlying26 rfl (by rw [SV.size L9.out]; exact sizeSV)) rfl ⟨?_, _, HP.out, B9.out⟩
    have hplain := HPL.out
    rw [hplain]
end Go.Proofs.Ytobnocioefchlaa
