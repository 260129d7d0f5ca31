/- Chapter 12's own Call: exit, no call, too many. -/
import Derived.Test.YtodoenimlhldjaaBXSE
import Derived.Test.YtodoenimlhldjaaBXSD
import Derived.Test.YtodoenimlhldjaaBXSA
import Derived.Test.YtodoenimlhldjaaBXSF
namespace Go.Proofs.Ytodoenimlhldjaa
open Go.ChangeShapes Go.WideShapes Go.ChangeAt Go.RowKit
set_option linter.unusedVariables false
/-- What the slots of the region hold, whatever the order. -/
def phiCbk (n q : Nat) (v : SV) (CW : Array Value) (rv bv gg : Int) : Nat → Value → World → Prop
  | 0, x, _ => x = .agg (SV.c v)
  | 1, x, _ => x = .agg (SV.c (ansV v rv bv))
  | 2, x, _ => x = .agg CW
  | 3, x, w => x = .bool true ∧ Blk w (q) (SV.c (ansV v rv bv)) 26
  | 4, x, w => x = .bool true ∧ Blk w (q + 1) (CW) 30
  | 5, x, _ => x = .int .i64 gg
  | 6, x, _ => x = .int .u32 0
  | _ + 7, _, _ => True
theorem phiCbk_mono (n q : Nat) (v : SV) (CW : Array Value) (rv bv gg : Int) : ∀ i x w w', phiCbk n q v CW rv bv gg i x w → RF [(q, Obj.cells (SV.c (ansV v rv bv)) 26 (0, 0)), (q + 1, Obj.cells (CW) 30 (0, 0))] w w' → phiCbk n q v CW rv bv gg i x w'
  | 0, _, _, _, h, _ => h
  | 1, _, _, _, h, _ => h
  | 2, _, _, _, h, _ => h
  | 3, x, w, w', h, hb => ⟨h.1, hb.blk h.2 rf2_a⟩
  | 4, x, w, w', h, hb => ⟨h.1, hb.blk h.2 rf2_b⟩
  | 5, _, _, _, h, _ => h
  | 6, _, _, _, h, _ => h
  | _ + 7, _, _, _, _, _ => trivial
theorem lstCbk : ∀ xs : List Value, xs.length = 7 → ∃ x0 x1 x2 x3 x4 x5 x6, xs = [x0, x1, x2, x3, x4, x5, x6]
  | [x0, x1, x2, x3, x4, x5, x6], _ => ⟨_, _, _, _, _, _, _, rfl⟩
set_option maxRecDepth 20000 in
set_option maxHeartbeats 3000000 in
theorem rcall_df (w : World) (t : S5) (hM : M5 w t) (v : SV) (hv : v.ok) (CW : Array Value) (hc1 : CW.all (·.oneCell') = true) (hc5 : CW.size = 5) (h2 : v.R.getD 2 0 ≠ 4001 ∧ v.R.getD 2 0 ≠ 4003 ∧ v.R.getD 2 0 ≠ 4004 ∧ v.R.getD 2 0 ≠ 4090) : Calls Try.prog 14 #[.pointer (some ⟨t.m, 0, none⟩), .agg v.c, .agg CW] w fun x w' => x = .returned (.tuple #[.agg (ansV v 89 1).c, .agg CW, .int .i64 0, .int .u32 0]) ∧ Below w.heap.size w w' := by
  obtain ⟨n, hn⟩ : ∃ n, w.heap.size = n := ⟨_, rfl⟩
  obtain ⟨q, hq⟩ : ∃ q, n + 1 + 1 = q := ⟨_, rfl⟩
  have HV := hidden hv.1
  have HQ := hidden hq
  have HC1 := hidden hc1
  have HC5 := hidden hc5
  have HM5 := hidden hM
  clear hq hc1 hc5
  have HBK := hidden (fun u => back_any v hv.1 89 1 u)
  obtain ⟨r2, h22⟩ : ∃ r2 : Nat, v.R.getD 2 0 = (r2 : Int) := ⟨(v.R.getD 2 0).toNat, by have := (hv.2.1 2 (by omega)).1; omega⟩
  obtain ⟨r4, h4⟩ : ∃ r4 : Nat, v.R.getD 4 0 = (r4 : Int) := ⟨(v.R.getD 4 0).toNat, by have := (hv.2.1 4 (by omega)).1; omega⟩
  obtain ⟨r5, h5⟩ : ∃ r5 : Nat, v.R.getD 5 0 = (r5 : Int) := ⟨(v.R.getD 5 0).toNat, by have := (hv.2.1 5 (by omega)).1; omega⟩
  obtain ⟨r6, h6⟩ : ∃ r6 : Nat, v.R.getD 6 0 = (r6 : Int) := ⟨(v.R.getD 6 0).toNat, by have := (hv.2.1 6 (by omega)).1; omega⟩
  have l5 : r5 < 4294967296 := by have := (hv.2.1 5 (by omega)).2; omega
  have l6 : r6 < 4294967296 := by have := (hv.2.1 6 (by omega)).2; omega
  have H2 := hidden h22
  have H4 := hidden h4
  have H5 := hidden h5
  have H6 := hidden h6
  rw [h22] at h2
  have f0 : ((r2 : Int) == 4001) = false := beq_eq_false_iff_ne.2 (by omega)
  have f1 : ((r2 : Int) == 4003) = false := beq_eq_false_iff_ne.2 (by omega)
  have f2 : ((r2 : Int) == 4004) = false := beq_eq_false_iff_ne.2 (by omega)
  have f3 : ((r2 : Int) == 4090) = false := beq_eq_false_iff_ne.2 (by omega)
  have hi2 : ∀ u, (Instr.indexAt 24 (.pointer (some ⟨n, 0, none⟩)) (.int .i64 2)).run Try.prog u = .ok (.pointer (some ⟨n, 2, none⟩)) u := fun u => index_reg n 2 (by omega) u
  have hi4 : ∀ u, (Instr.indexAt 24 (.pointer (some ⟨n, 0, none⟩)) (.int .i64 4)).run Try.prog u = .ok (.pointer (some ⟨n, 4, none⟩)) u := fun u => index_reg n 4 (by omega) u
  have hi5 : ∀ u, (Instr.indexAt 24 (.pointer (some ⟨n, 0, none⟩)) (.int .i64 5)).run Try.prog u = .ok (.pointer (some ⟨n, 5, none⟩)) u := fun u => index_reg n 5 (by omega) u
  obtain ⟨C, hC⟩ : ∃ C, v.c = C := ⟨_, rfl⟩
  rw [hC]
  have HC := hidden hC
  clear hC hv h22 h2 h4 h5 h6 l5 hM
  go_enter Try.func14, Try.ntmps14
  go_upto_region 1 with (first
    | (refine wpList_boxG rfl 26 _ rfl C rfl ?_; rintro w1 k1 s1 b1; rw [hn] at k1 s1 b1 ⊢; have K1 : Hid (Blk w1 n v.c 26) := hidden (by rw [HC.out]; exact k1); have S1 := hidden s1; have B1 := hidden b1; clear k1 s1 b1)
    | (refine wpList_boxG rfl 30 _ rfl CW rfl ?_; rintro w2 k2 s2 b2; rw [S1.out] at k2 s2 b2 ⊢; have K2 := hidden k2; have S2 : Hid (w2.heap.size = q) := hidden (by rw [s2]; exact HQ.out); have B2 := hidden b2; clear k2 s2 b2)
    | (refine wpList_allocV rfl rfl ?_; rintro w3 k3 s3 b3; rw [S2.out] at k3 s3 b3 ⊢; have K3 := hidden k3; have S3 := hidden s3; have B3 := hidden b3; clear k3 s3 b3)
    | (refine wpList_allocCr rfl rfl ?_; rintro w4 k4 s4 b4; rw [S3.out] at k4 s4 b4 ⊢; have P := hidden (WB.mk4 (F := nought) hn HQ.out K1.out S1.out B1.out K2.out S2.out B2.out K3.out S3.out B3.out k4 b4); clear k4 s4 b4 K1 S1 B1 K2 S2 B2 K3 S3 B3; obtain ⟨c2, c4, c5, c6⟩ := P.out.regs HV.out H2.out H4.out H5.out H6.out))
  go_upto_region 19 with fail
  have KS := hidden P.out.s
  have KW := hidden P.out.c
  have QS := hidden P.out.rs
  have QW := hidden P.out.rw
  have PQ := P.out.hq
  have hW5 := HC5.out
  refine wp_region_on (later_rf [(q, Obj.cells (SV.c (ansV v 89 1)) 26 (0, 0)), (q + 1, Obj.cells (CW) 30 (0, 0))]) [78, 79, 80, 1003, 1004, 8, 9] 7 (phiCbk n q v CW 89 1 0) (by kernel_rfl) (by kernel_rfl) rfl rfl (phiCbk_mono n q v CW 89 1 0) ?_ ?_
  · intro j hj xs w3 hxs hR hpre
    obtain ⟨x0, x1, x2, x3, x4, x5, x6, rfl⟩ := lstCbk xs hxs
    have hS : Blk w3 (n) (SV.c v) 26 := hR.blk KS.out (rf2_no (by omega) (by omega))
    have hW : Blk w3 (n + 1) CW 30 := hR.blk KW.out (rf2_no (by omega) (by omega))
    have hA := hR.some ⟨_, SV.size (s := SV.zero) rfl, QS.out⟩ (rf2_s1 (SV.size (ansV_len HV.out 89 1)))
    have hB := hR.some (n := 5) ⟨_, (show zCw.size = 5 from rfl), QW.out⟩ (rf2_s2 hW5)
    rcases (show j = 0 ∨ j = 1 ∨ j = 2 ∨ j = 3 ∨ j = 4 ∨ j = 5 ∨ j = 6 by omega) with rfl | rfl | rfl | rfl | rfl | rfl | rfl
    · exact wpOp_run (.agg (SV.c v)) rfl (by kernel_rfl) (exec_load 26 rfl (by kernel_rfl) w3 (loadSt hS HV.out)) ⟨_, by kernel_rfl, rfl, (later_rf _).refl _⟩
    · have e0 : x0 = .agg (SV.c v) := hpre 0 (by kernel_rfl)
      subst e0
      refine wpOp_callR (R := fun u w4 => u = .agg (SV.c (ansV v 89 1)) ∧ Below w3.heap.size w3 w4) 43 #[.agg (SV.c v), .int .u32 89, .int .u32 1] rfl (by kernel_rfl) (by kernel_rfl) ((HBK.out w3).mono fun e w4 h => ⟨_, h.1, rfl, h.2⟩) ?_
      rintro _ w4 ⟨rfl, hb⟩
      exact ⟨_, by kernel_rfl, rfl, RF.of_below hb⟩
    · exact wpOp_run (.agg CW) rfl (by kernel_rfl) (exec_load 30 rfl (by kernel_rfl) w3 (loadCrR hW hW5)) ⟨_, by kernel_rfl, rfl, (later_rf _).refl _⟩
    · have e1 : x1 = .agg (SV.c (ansV v 89 1)) := hpre 1 (by kernel_rfl)
      subst e1
      obtain ⟨old, hs1, hs2⟩ := hA
      exact wpOp_put rfl (by kernel_rfl) (exec_storeG (g := q) (cs := SV.c (ansV v 89 1)) (old := old) rfl (by kernel_rfl) (by kernel_rfl) w3 hs2 (by rw [SV.size (ansV_len HV.out 89 1)]; exact sizeSV) (by rw [hs1, SV.size (ansV_len HV.out 89 1)]) (SV.one _)) ⟨.bool true, by kernel_rfl, ⟨rfl, setRow_heap w3 (q) old _ 26 (0, 0) hs2⟩, RF.of_only (only_rowV w3 (q) _) (setRow_heap w3 (q) old _ 26 (0, 0) hs2) rf2_m1⟩
    · have e2 : x2 = .agg CW := hpre 2 (by kernel_rfl)
      subst e2
      obtain ⟨old, hs1, hs2⟩ := hB
      exact wpOp_put rfl (by kernel_rfl) (exec_storeG (g := q + 1) (cs := CW) (old := old) rfl (by kernel_rfl) (by kernel_rfl) w3 hs2 (by rw [hW5]; exact sizeCr) (by rw [hs1, hW5]) HC1.out) ⟨.bool true, by kernel_rfl, ⟨rfl, setRow_heap w3 (q + 1) old _ 30 (0, 0) hs2⟩, RF.of_only (only_rowV w3 (q + 1) _) (setRow_heap w3 (q + 1) old _ 30 (0, 0) hs2) rf2_m2⟩
    · exact wpOp_run (.int .i64 0) rfl (by kernel_rfl) (by kernel_rfl) ⟨_, by kernel_rfl, rfl, (later_rf _).refl _⟩
    · exact wpOp_run (.int .u32 0) rfl (by kernel_rfl) (by kernel_rfl) ⟨_, by kernel_rfl, rfl, (later_rf _).refl _⟩
  · intro xs w3 hxs hR hall
    obtain ⟨x0, x1, x2, x3, x4, x5, x6, rfl⟩ := lstCbk xs hxs
    obtain ⟨_, kA⟩ : x3 = .bool true ∧ Blk w3 (q) (SV.c (ansV v 89 1)) 26 := hall 3 (by omega)
    obtain ⟨_, kB⟩ : x4 = .bool true ∧ Blk w3 (q + 1) (CW) 30 := hall 4 (by omega)
    have RA := hidden kA
    have RB := hidden kB
    have HRF := hidden hR
    have g5 : x5 = .int .i64 0 := hall 5 (by omega)
    subst g5
    have g6 : x6 = .int .u32 0 := hall 6 (by omega)
    subst g6
    have KP := hidden (P.out.both HRF.out)
    clear hR hall hxs kA kB HRF P KS KW QS QW
    simp only [slotsOn, putAll]
    go_wp2
    refine bodyPost_ret (results_cctt rfl _ _ q (q + 1) _ _ (by kernel_rfl) (by kernel_rfl) (loadSt RA.out (ansV_len HV.out 89 1)) (loadCrR RB.out HC5.out)) rfl ⟨by first | rfl | (rw [← HC.out]; rfl), KP.out.below (Nat.le_refl _) fun _ hb => hb.elim⟩
set_option maxRecDepth 20000 in
set_option maxHeartbeats 3000000 in
theorem rcall_big (w : World) (t : S5) (hM : M5 w t) (v : SV) (hv : v.ok) (CW : Array Value) (hc1 : CW.all (·.oneCell') = true) (hc5 : CW.size = 5) (h2 : v.R.getD 2 0 = 4090) (hbig : 64 < v.R.getD 5 0) : Calls Try.prog 14 #[.pointer (some ⟨t.m, 0, none⟩), .agg v.c, .agg CW] w fun x w' => x = .returned (.tuple #[.agg (ansV v 22 1).c, .agg CW, .int .i64 0, .int .u32 0]) ∧ Below w.heap.size w w' := by
  obtain ⟨n, hn⟩ : ∃ n, w.heap.size = n := ⟨_, rfl⟩
  obtain ⟨q, hq⟩ : ∃ q, n + 1 + 1 = q := ⟨_, rfl⟩
  have HV := hidden hv.1
  have HQ := hidden hq
  have HC1 := hidden hc1
  have HC5 := hidden hc5
  have HM5 := hidden hM
  clear hq hc1 hc5
  have HBK := hidden (fun u => back_any v hv.1 22 1 u)
  obtain ⟨r2, h22⟩ : ∃ r2 : Nat, v.R.getD 2 0 = (r2 : Int) := ⟨(v.R.getD 2 0).toNat, by have := (hv.2.1 2 (by omega)).1; omega⟩
  obtain ⟨r4, h4⟩ : ∃ r4 : Nat, v.R.getD 4 0 = (r4 : Int) := ⟨(v.R.getD 4 0).toNat, by have := (hv.2.1 4 (by omega)).1; omega⟩
  obtain ⟨r5, h5⟩ : ∃ r5 : Nat, v.R.getD 5 0 = (r5 : Int) := ⟨(v.R.getD 5 0).toNat, by have := (hv.2.1 5 (by omega)).1; omega⟩
  obtain ⟨r6, h6⟩ : ∃ r6 : Nat, v.R.getD 6 0 = (r6 : Int) := ⟨(v.R.getD 6 0).toNat, by have := (hv.2.1 6 (by omega)).1; omega⟩
  have l5 : r5 < 4294967296 := by have := (hv.2.1 5 (by omega)).2; omega
  have l6 : r6 < 4294967296 := by have := (hv.2.1 6 (by omega)).2; omega
  have H2 := hidden h22
  have H4 := hidden h4
  have H5 := hidden h5
  have H6 := hidden h6
  have e2 : r2 = 4090 := by omega
  subst e2
  rw [h5] at hbig
  have hi2 : ∀ u, (Instr.indexAt 24 (.pointer (some ⟨n, 0, none⟩)) (.int .i64 2)).run Try.prog u = .ok (.pointer (some ⟨n, 2, none⟩)) u := fun u => index_reg n 2 (by omega) u
  have hi4 : ∀ u, (Instr.indexAt 24 (.pointer (some ⟨n, 0, none⟩)) (.int .i64 4)).run Try.prog u = .ok (.pointer (some ⟨n, 4, none⟩)) u := fun u => index_reg n 4 (by omega) u
  have hi5 : ∀ u, (Instr.indexAt 24 (.pointer (some ⟨n, 0, none⟩)) (.int .i64 5)).run Try.prog u = .ok (.pointer (some ⟨n, 5, none⟩)) u := fun u => index_reg n 5 (by omega) u
  obtain ⟨C, hC⟩ : ∃ C, v.c = C := ⟨_, rfl⟩
  rw [hC]
  have HC := hidden hC
  clear hC hv h22 h2 h4 h5 h6 l5 hM
  go_enter Try.func14, Try.ntmps14
  go_upto_region 1 with (first
    | (refine wpList_boxG rfl 26 _ rfl C rfl ?_; rintro w1 k1 s1 b1; rw [hn] at k1 s1 b1 ⊢; have K1 : Hid (Blk w1 n v.c 26) := hidden (by rw [HC.out]; exact k1); have S1 := hidden s1; have B1 := hidden b1; clear k1 s1 b1)
    | (refine wpList_boxG rfl 30 _ rfl CW rfl ?_; rintro w2 k2 s2 b2; rw [S1.out] at k2 s2 b2 ⊢; have K2 := hidden k2; have S2 : Hid (w2.heap.size = q) := hidden (by rw [s2]; exact HQ.out); have B2 := hidden b2; clear k2 s2 b2)
    | (refine wpList_allocV rfl rfl ?_; rintro w3 k3 s3 b3; rw [S2.out] at k3 s3 b3 ⊢; have K3 := hidden k3; have S3 := hidden s3; have B3 := hidden b3; clear k3 s3 b3)
    | (refine wpList_allocCr rfl rfl ?_; rintro w4 k4 s4 b4; rw [S3.out] at k4 s4 b4 ⊢; have P := hidden (WB.mk4 (F := nought) hn HQ.out K1.out S1.out B1.out K2.out S2.out B2.out K3.out S3.out B3.out k4 b4); clear k4 s4 b4 K1 S1 B1 K2 S2 B2 K3 S3 B3; obtain ⟨c2, c4, c5, c6⟩ := P.out.regs HV.out H2.out H4.out H5.out H6.out))
  go_upto_region 12 with fail
  have KS := hidden P.out.s
  have KW := hidden P.out.c
  have QS := hidden P.out.rs
  have QW := hidden P.out.rw
  have PQ := P.out.hq
  have hW5 := HC5.out
  refine wp_region_on (later_rf [(q, Obj.cells (SV.c (ansV v 22 1)) 26 (0, 0)), (q + 1, Obj.cells (CW) 30 (0, 0))]) [54, 55, 56, 1003, 1004, 8, 9] 7 (phiCbk n q v CW 22 1 0) (by kernel_rfl) (by kernel_rfl) rfl rfl (phiCbk_mono n q v CW 22 1 0) ?_ ?_
  · intro j hj xs w3 hxs hR hpre
    obtain ⟨x0, x1, x2, x3, x4, x5, x6, rfl⟩ := lstCbk xs hxs
    have hS : Blk w3 (n) (SV.c v) 26 := hR.blk KS.out (rf2_no (by omega) (by omega))
    have hW : Blk w3 (n + 1) CW 30 := hR.blk KW.out (rf2_no (by omega) (by omega))
    have hA := hR.some ⟨_, SV.size (s := SV.zero) rfl, QS.out⟩ (rf2_s1 (SV.size (ansV_len HV.out 22 1)))
    have hB := hR.some (n := 5) ⟨_, (show zCw.size = 5 from rfl), QW.out⟩ (rf2_s2 hW5)
    rcases (show j = 0 ∨ j = 1 ∨ j = 2 ∨ j = 3 ∨ j = 4 ∨ j = 5 ∨ j = 6 by omega) with rfl | rfl | rfl | rfl | rfl | rfl | rfl
    · exact wpOp_run (.agg (SV.c v)) rfl (by kernel_rfl) (exec_load 26 rfl (by kernel_rfl) w3 (loadSt hS HV.out)) ⟨_, by kernel_rfl, rfl, (later_rf _).refl _⟩
    · have e0 : x0 = .agg (SV.c v) := hpre 0 (by kernel_rfl)
      subst e0
      refine wpOp_callR (R := fun u w4 => u = .agg (SV.c (ansV v 22 1)) ∧ Below w3.heap.size w3 w4) 43 #[.agg (SV.c v), .int .u32 22, .int .u32 1] rfl (by kernel_rfl) (by kernel_rfl) ((HBK.out w3).mono fun e w4 h => ⟨_, h.1, rfl, h.2⟩) ?_
      rintro _ w4 ⟨rfl, hb⟩
      exact ⟨_, by kernel_rfl, rfl, RF.of_below hb⟩
    · exact wpOp_run (.agg CW) rfl (by kernel_rfl) (exec_load 30 rfl (by kernel_rfl) w3 (loadCrR hW hW5)) ⟨_, by kernel_rfl, rfl, (later_rf _).refl _⟩
    · have e1 : x1 = .agg (SV.c (ansV v 22 1)) := hpre 1 (by kernel_rfl)
      subst e1
      obtain ⟨old, hs1, hs2⟩ := hA
      exact wpOp_put rfl (by kernel_rfl) (exec_storeG (g := q) (cs := SV.c (ansV v 22 1)) (old := old) rfl (by kernel_rfl) (by kernel_rfl) w3 hs2 (by rw [SV.size (ansV_len HV.out 22 1)]; exact sizeSV) (by rw [hs1, SV.size (ansV_len HV.out 22 1)]) (SV.one _)) ⟨.bool true, by kernel_rfl, ⟨rfl, setRow_heap w3 (q) old _ 26 (0, 0) hs2⟩, RF.of_only (only_rowV w3 (q) _) (setRow_heap w3 (q) old _ 26 (0, 0) hs2) rf2_m1⟩
    · have e2 : x2 = .agg CW := hpre 2 (by kernel_rfl)
      subst e2
      obtain ⟨old, hs1, hs2⟩ := hB
      exact wpOp_put rfl (by kernel_rfl) (exec_storeG (g := q + 1) (cs := CW) (old := old) rfl (by kernel_rfl) (by kernel_rfl) w3 hs2 (by rw [hW5]; exact sizeCr) (by rw [hs1, hW5]) HC1.out) ⟨.bool true, by kernel_rfl, ⟨rfl, setRow_heap w3 (q + 1) old _ 30 (0, 0) hs2⟩, RF.of_only (only_rowV w3 (q + 1) _) (setRow_heap w3 (q + 1) old _ 30 (0, 0) hs2) rf2_m2⟩
    · exact wpOp_run (.int .i64 0) rfl (by kernel_rfl) (by kernel_rfl) ⟨_, by kernel_rfl, rfl, (later_rf _).refl _⟩
    · exact wpOp_run (.int .u32 0) rfl (by kernel_rfl) (by kernel_rfl) ⟨_, by kernel_rfl, rfl, (later_rf _).refl _⟩
  · intro xs w3 hxs hR hall
    obtain ⟨x0, x1, x2, x3, x4, x5, x6, rfl⟩ := lstCbk xs hxs
    obtain ⟨_, kA⟩ : x3 = .bool true ∧ Blk w3 (q) (SV.c (ansV v 22 1)) 26 := hall 3 (by omega)
    obtain ⟨_, kB⟩ : x4 = .bool true ∧ Blk w3 (q + 1) (CW) 30 := hall 4 (by omega)
    have RA := hidden kA
    have RB := hidden kB
    have HRF := hidden hR
    have g5 : x5 = .int .i64 0 := hall 5 (by omega)
    subst g5
    have g6 : x6 = .int .u32 0 := hall 6 (by omega)
    subst g6
    have KP := hidden (P.out.both HRF.out)
    clear hR hall hxs kA kB HRF P KS KW QS QW
    simp only [slotsOn, putAll]
    go_wp2
    refine bodyPost_ret (results_cctt rfl _ _ q (q + 1) _ _ (by kernel_rfl) (by kernel_rfl) (loadSt RA.out (ansV_len HV.out 22 1)) (loadCrR RB.out HC5.out)) rfl ⟨by first | rfl | (rw [← HC.out]; rfl), KP.out.below (Nat.le_refl _) fun _ hb => hb.elim⟩
/-- What the slots of the region hold, whatever the order. -/
def phiCex (n q : Nat) (v : SV) (CW : Array Value) (r4 : Nat) : Nat → Value → World → Prop
  | 0, x, _ => x = .agg (SV.c v)
  | 1, x, _ => x = .agg (SV.c v.on)
  | 2, x, _ => x = .agg CW
  | 3, x, _ => x = .pointer (some ⟨n, 0, none⟩)
  | 4, x, _ => x = .pointer (some ⟨n, 4, none⟩)
  | 5, x, _ => x = .int .u32 (r4 : Int)
  | 6, x, w => x = .bool true ∧ Blk w (q) (SV.c (v.on)) 26
  | 7, x, w => x = .bool true ∧ Blk w (q + 1) (CW) 30
  | 8, x, _ => x = .int .i64 1
  | 9, x, _ => x = .int .u32 (r4 : Int)
  | _ + 10, _, _ => True
theorem phiCex_mono (n q : Nat) (v : SV) (CW : Array Value) (r4 : Nat) : ∀ i x w w', phiCex n q v CW r4 i x w → RF [(q, Obj.cells (SV.c (v.on)) 26 (0, 0)), (q + 1, Obj.cells (CW) 30 (0, 0))] w w' → phiCex n q v CW r4 i x w'
  | 0, _, _, _, h, _ => h
  | 1, _, _, _, h, _ => h
  | 2, _, _, _, h, _ => h
  | 3, _, _, _, h, _ => h
  | 4, _, _, _, h, _ => h
  | 5, _, _, _, h, _ => h
  | 6, x, w, w', h, hb => ⟨h.1, hb.blk h.2 rf2_a⟩
  | 7, x, w, w', h, hb => ⟨h.1, hb.blk h.2 rf2_b⟩
  | 8, _, _, _, h, _ => h
  | 9, _, _, _, h, _ => h
  | _ + 10, _, _, _, _, _ => trivial
theorem lstCex : ∀ xs : List Value, xs.length = 10 → ∃ x0 x1 x2 x3 x4 x5 x6 x7 x8 x9, xs = [x0, x1, x2, x3, x4, x5, x6, x7, x8, x9]
  | [x0, x1, x2, x3, x4, x5, x6, x7, x8, x9], _ => ⟨_, _, _, _, _, _, _, _, _, _, rfl⟩
set_option maxRecDepth 20000 in
set_option maxHeartbeats 3000000 in
theorem rcall_ex (w : World) (t : S5) (hM : M5 w t) (v : SV) (hv : v.ok) (CW : Array Value) (hc1 : CW.all (·.oneCell') = true) (hc5 : CW.size = 5) (h2 : v.R.getD 2 0 = 4001) : Calls Try.prog 14 #[.pointer (some ⟨t.m, 0, none⟩), .agg v.c, .agg CW] w fun x w' => x = .returned (.tuple #[.agg v.on.c, .agg CW, .int .i64 1, .int .u32 (v.R.getD 4 0)]) ∧ Below w.heap.size w w' := by
  obtain ⟨n, hn⟩ : ∃ n, w.heap.size = n := ⟨_, rfl⟩
  obtain ⟨q, hq⟩ : ∃ q, n + 1 + 1 = q := ⟨_, rfl⟩
  have HV := hidden hv.1
  have HQ := hidden hq
  have HC1 := hidden hc1
  have HC5 := hidden hc5
  have HM5 := hidden hM
  clear hq hc1 hc5
  have HON := hidden (fun u => ron_any v hv.1 u)
  obtain ⟨r2, h22⟩ : ∃ r2 : Nat, v.R.getD 2 0 = (r2 : Int) := ⟨(v.R.getD 2 0).toNat, by have := (hv.2.1 2 (by omega)).1; omega⟩
  obtain ⟨r4, h4⟩ : ∃ r4 : Nat, v.R.getD 4 0 = (r4 : Int) := ⟨(v.R.getD 4 0).toNat, by have := (hv.2.1 4 (by omega)).1; omega⟩
  obtain ⟨r5, h5⟩ : ∃ r5 : Nat, v.R.getD 5 0 = (r5 : Int) := ⟨(v.R.getD 5 0).toNat, by have := (hv.2.1 5 (by omega)).1; omega⟩
  obtain ⟨r6, h6⟩ : ∃ r6 : Nat, v.R.getD 6 0 = (r6 : Int) := ⟨(v.R.getD 6 0).toNat, by have := (hv.2.1 6 (by omega)).1; omega⟩
  have l5 : r5 < 4294967296 := by have := (hv.2.1 5 (by omega)).2; omega
  have l6 : r6 < 4294967296 := by have := (hv.2.1 6 (by omega)).2; omega
  have H2 := hidden h22
  have H4 := hidden h4
  have H5 := hidden h5
  have H6 := hidden h6
  have e2 : r2 = 4001 := by omega
  subst e2
  rw [h4]
  have hi2 : ∀ u, (Instr.indexAt 24 (.pointer (some ⟨n, 0, none⟩)) (.int .i64 2)).run Try.prog u = .ok (.pointer (some ⟨n, 2, none⟩)) u := fun u => index_reg n 2 (by omega) u
  have hi4 : ∀ u, (Instr.indexAt 24 (.pointer (some ⟨n, 0, none⟩)) (.int .i64 4)).run Try.prog u = .ok (.pointer (some ⟨n, 4, none⟩)) u := fun u => index_reg n 4 (by omega) u
  have hi5 : ∀ u, (Instr.indexAt 24 (.pointer (some ⟨n, 0, none⟩)) (.int .i64 5)).run Try.prog u = .ok (.pointer (some ⟨n, 5, none⟩)) u := fun u => index_reg n 5 (by omega) u
  obtain ⟨C, hC⟩ : ∃ C, v.c = C := ⟨_, rfl⟩
  rw [hC]
  have HC := hidden hC
  clear hC hv h22 h2 h4 h5 h6 l5 hM
  go_enter Try.func14, Try.ntmps14
  go_upto_region 1 with (first
    | (refine wpList_boxG rfl 26 _ rfl C rfl ?_; rintro w1 k1 s1 b1; rw [hn] at k1 s1 b1 ⊢; have K1 : Hid (Blk w1 n v.c 26) := hidden (by rw [HC.out]; exact k1); have S1 := hidden s1; have B1 := hidden b1; clear k1 s1 b1)
    | (refine wpList_boxG rfl 30 _ rfl CW rfl ?_; rintro w2 k2 s2 b2; rw [S1.out] at k2 s2 b2 ⊢; have K2 := hidden k2; have S2 : Hid (w2.heap.size = q) := hidden (by rw [s2]; exact HQ.out); have B2 := hidden b2; clear k2 s2 b2)
    | (refine wpList_allocV rfl rfl ?_; rintro w3 k3 s3 b3; rw [S2.out] at k3 s3 b3 ⊢; have K3 := hidden k3; have S3 := hidden s3; have B3 := hidden b3; clear k3 s3 b3)
    | (refine wpList_allocCr rfl rfl ?_; rintro w4 k4 s4 b4; rw [S3.out] at k4 s4 b4 ⊢; have P := hidden (WB.mk4 (F := nought) hn HQ.out K1.out S1.out B1.out K2.out S2.out B2.out K3.out S3.out B3.out k4 b4); clear k4 s4 b4 K1 S1 B1 K2 S2 B2 K3 S3 B3; obtain ⟨c2, c4, c5, c6⟩ := P.out.regs HV.out H2.out H4.out H5.out H6.out))
  go_upto_region 3 with fail
  have KS := hidden P.out.s
  have KW := hidden P.out.c
  have QS := hidden P.out.rs
  have QW := hidden P.out.rw
  have PQ := P.out.hq
  have hW5 := HC5.out
  refine wp_region_on (later_rf [(q, Obj.cells (SV.c (v.on)) 26 (0, 0)), (q + 1, Obj.cells (CW) 30 (0, 0))]) [20, 21, 22, 23, 24, 25, 1006, 1007, 8, 9] 10 (phiCex n q v CW r4) (by kernel_rfl) (by kernel_rfl) rfl rfl (phiCex_mono n q v CW r4) ?_ ?_
  · intro j hj xs w3 hxs hR hpre
    obtain ⟨x0, x1, x2, x3, x4, x5, x6, x7, x8, x9, rfl⟩ := lstCex xs hxs
    have hS : Blk w3 (n) (SV.c v) 26 := hR.blk KS.out (rf2_no (by omega) (by omega))
    have hW : Blk w3 (n + 1) CW 30 := hR.blk KW.out (rf2_no (by omega) (by omega))
    have hA := hR.some ⟨_, SV.size (s := SV.zero) rfl, QS.out⟩ (rf2_s1 (SV.size (SV.on_len HV.out)))
    have hB := hR.some (n := 5) ⟨_, (show zCw.size = 5 from rfl), QW.out⟩ (rf2_s2 hW5)
    rcases (show j = 0 ∨ j = 1 ∨ j = 2 ∨ j = 3 ∨ j = 4 ∨ j = 5 ∨ j = 6 ∨ j = 7 ∨ j = 8 ∨ j = 9 by omega) with rfl | rfl | rfl | rfl | rfl | rfl | rfl | rfl | rfl | rfl
    · exact wpOp_run (.agg (SV.c v)) rfl (by kernel_rfl) (exec_load 26 rfl (by kernel_rfl) w3 (loadSt hS HV.out)) ⟨_, by kernel_rfl, rfl, (later_rf _).refl _⟩
    · have e0 : x0 = .agg (SV.c v) := hpre 0 (by kernel_rfl)
      subst e0
      refine wpOp_callR (R := fun u w4 => u = .agg (SV.c v.on) ∧ Below w3.heap.size w3 w4) 40 #[.agg (SV.c v)] rfl (by kernel_rfl) (by kernel_rfl) ((HON.out w3).mono fun e w4 h => ⟨_, h.1, rfl, h.2⟩) ?_
      rintro _ w4 ⟨rfl, hb⟩
      exact ⟨_, by kernel_rfl, rfl, RF.of_below hb⟩
    · exact wpOp_run (.agg CW) rfl (by kernel_rfl) (exec_load 30 rfl (by kernel_rfl) w3 (loadCrR hW hW5)) ⟨_, by kernel_rfl, rfl, (later_rf _).refl _⟩
    · exact wpOp_run (.pointer (some ⟨n, 0, none⟩)) rfl (by kernel_rfl) (by kernel_rfl) ⟨_, by kernel_rfl, rfl, (later_rf _).refl _⟩
    · have e3 : x3 = .pointer (some ⟨n, 0, none⟩) := hpre 3 (by kernel_rfl)
      subst e3
      exact wpOp_run (.pointer (some ⟨n, 4, none⟩)) rfl (by kernel_rfl) (exec_indexR (k := 4) (by decide) rfl (by kernel_rfl) (by kernel_rfl) w3) ⟨_, by kernel_rfl, rfl, (later_rf _).refl _⟩
    · have e4 : x4 = .pointer (some ⟨n, 4, none⟩) := hpre 4 (by kernel_rfl)
      subst e4
      exact wpOp_run (.int .u32 (r4 : Int)) rfl (by kernel_rfl) (exec_load 23 rfl (by kernel_rfl) w3 (loadU (by rw [← H4.out]; exact hS.cell (SV.getR HV.out (by decide))))) ⟨_, by kernel_rfl, rfl, (later_rf _).refl _⟩
    · have e1 : x1 = .agg (SV.c v.on) := hpre 1 (by kernel_rfl)
      subst e1
      obtain ⟨old, hs1, hs2⟩ := hA
      exact wpOp_put rfl (by kernel_rfl) (exec_storeG (g := q) (cs := SV.c (v.on)) (old := old) rfl (by kernel_rfl) (by kernel_rfl) w3 hs2 (by rw [SV.size (SV.on_len HV.out)]; exact sizeSV) (by rw [hs1, SV.size (SV.on_len HV.out)]) (SV.one _)) ⟨.bool true, by kernel_rfl, ⟨rfl, setRow_heap w3 (q) old _ 26 (0, 0) hs2⟩, RF.of_only (only_rowV w3 (q) _) (setRow_heap w3 (q) old _ 26 (0, 0) hs2) rf2_m1⟩
    · have e2 : x2 = .agg CW := hpre 2 (by kernel_rfl)
      subst e2
      obtain ⟨old, hs1, hs2⟩ := hB
      exact wpOp_put rfl (by kernel_rfl) (exec_storeG (g := q + 1) (cs := CW) (old := old) rfl (by kernel_rfl) (by kernel_rfl) w3 hs2 (by rw [hW5]; exact sizeCr) (by rw [hs1, hW5]) HC1.out) ⟨.bool true, by kernel_rfl, ⟨rfl, setRow_heap w3 (q + 1) old _ 30 (0, 0) hs2⟩, RF.of_only (only_rowV w3 (q + 1) _) (setRow_heap w3 (q + 1) old _ 30 (0, 0) hs2) rf2_m2⟩
    · exact wpOp_run (.int .i64 1) rfl (by kernel_rfl) (by kernel_rfl) ⟨_, by kernel_rfl, rfl, (later_rf _).refl _⟩
    · have e5 : x5 = .int .u32 (r4 : Int) := hpre 5 (by kernel_rfl)
      subst e5
      exact wpOp_run (.int .u32 (r4 : Int)) rfl (by kernel_rfl) (by kernel_rfl) ⟨_, by kernel_rfl, rfl, (later_rf _).refl _⟩
  · intro xs w3 hxs hR hall
    obtain ⟨x0, x1, x2, x3, x4, x5, x6, x7, x8, x9, rfl⟩ := lstCex xs hxs
    obtain ⟨_, kA⟩ : x6 = .bool true ∧ Blk w3 (q) (SV.c (v.on)) 26 := hall 6 (by omega)
    obtain ⟨_, kB⟩ : x7 = .bool true ∧ Blk w3 (q + 1) (CW) 30 := hall 7 (by omega)
    have RA := hidden kA
    have RB := hidden kB
    have HRF := hidden hR
    have g8 : x8 = .int .i64 1 := hall 8 (by omega)
    subst g8
    have g9 : x9 = .int .u32 (r4 : Int) := hall 9 (by omega)
    subst g9
    have KP := hidden (P.out.both HRF.out)
    clear hR hall hxs kA kB HRF P KS KW QS QW
    simp only [slotsOn, putAll]
    go_wp2
    refine bodyPost_ret (results_cctt rfl _ _ q (q + 1) _ _ (by kernel_rfl) (by kernel_rfl) (loadSt RA.out (SV.on_len HV.out)) (loadCrR RB.out HC5.out)) rfl ⟨by first | rfl | (rw [← HC.out]; rfl), KP.out.below (Nat.le_refl _) fun _ hb => hb.elim⟩
end Go.Proofs.Ytodoenimlhldjaa
namespace Go.Proofs.Ytodoenimlhldjaa
open Go.ChangeShapes Go.WideShapes Go.ChangeAt Go.RowKit
set_option linter.unusedVariables false
/-- What the slots of the region hold, whatever the order. -/
def phiCtw (n q : Nat) (V : SV) (CX : Array Value) (gg : Int) : Nat → Value → World → Prop
  | 0, x, _ => x = .agg (SV.c V)
  | 1, x, _ => x = .agg CX
  | 2, x, w => x = .bool true ∧ Blk w (q) (SV.c (V)) 26
  | 3, x, w => x = .bool true ∧ Blk w (q + 1) (CX) 30
  | 4, x, _ => x = .int .i64 gg
  | 5, x, _ => x = .int .u32 0
  | _ + 6, _, _ => True
theorem phiCtw_mono (n q : Nat) (V : SV) (CX : Array Value) (gg : Int) : ∀ i x w w', phiCtw n q V CX gg i x w → RF [(q, Obj.cells (SV.c (V)) 26 (0, 0)), (q + 1, Obj.cells (CX) 30 (0, 0))] w w' → phiCtw n q V CX gg i x w'
  | 0, _, _, _, h, _ => h
  | 1, _, _, _, h, _ => h
  | 2, x, w, w', h, hb => ⟨h.1, hb.blk h.2 rf2_a⟩
  | 3, x, w, w', h, hb => ⟨h.1, hb.blk h.2 rf2_b⟩
  | 4, _, _, _, h, _ => h
  | 5, _, _, _, h, _ => h
  | _ + 6, _, _, _, _, _ => trivial
theorem lstCtw : ∀ xs : List Value, xs.length = 6 → ∃ x0 x1 x2 x3 x4 x5, xs = [x0, x1, x2, x3, x4, x5]
  | [x0, x1, x2, x3, x4, x5], _ => ⟨_, _, _, _, _, _, rfl⟩
set_option maxRecDepth 20000 in
set_option maxHeartbeats 3000000 in
theorem rcall_rd (w : World) (t : S5) (hM : M5 w t) (v : SV) (hv : v.ok) (CW : Array Value) (hc1 : CW.all (·.oneCell') = true) (hc5 : CW.size = 5) (h2 : v.R.getD 2 0 = 4003) (V : SV) (hVl : V.R.length = 32) (P : World → Array Value → S5 → Prop) (hP : ∀ (w1 w2 : World) (CX : Array Value) (t' : S5), P w1 CX t' → (∀ b, w.heap.size + 4 ≤ b → b < w1.heap.size → w2.heap[b]? = w1.heap[b]?) → P w2 CX t') (hcal : ∀ u : World, Below w.heap.size w u → w.heap.size + 4 ≤ u.heap.size → Calls Try.prog 41 #[.pointer (some ⟨t.m, 0, none⟩), .agg v.c, .agg CW] u fun x w' => ∃ CX, x = .returned (.tuple #[.agg V.c, .agg CX]) ∧ CX.size = 5 ∧ CX.all (·.oneCell') = true ∧ ∃ t', Step5 u t w' t' ∧ P w' CX t') : Calls Try.prog 14 #[.pointer (some ⟨t.m, 0, none⟩), .agg v.c, .agg CW] w fun x w' => ∃ CX, x = .returned (.tuple #[.agg V.c, .agg CX, .int .i64 0, .int .u32 0]) ∧ CX.size = 5 ∧ CX.all (·.oneCell') = true ∧ ∃ t', Step5 w t w' t' ∧ P w' CX t' := by
  obtain ⟨n, hn⟩ : ∃ n, w.heap.size = n := ⟨_, rfl⟩
  obtain ⟨q, hq⟩ : ∃ q, n + 1 + 1 = q := ⟨_, rfl⟩
  have HV := hidden hv.1
  have HQ := hidden hq
  have HC1 := hidden hc1
  have HC5 := hidden hc5
  have HM5 := hidden hM
  clear hq hc1 hc5
  have HL5 := hidden hVl
  have HP := hidden hP
  have HCAL := hidden hcal
  rw [hn] at HCAL HP
  obtain ⟨r2, h22⟩ : ∃ r2 : Nat, v.R.getD 2 0 = (r2 : Int) := ⟨(v.R.getD 2 0).toNat, by have := (hv.2.1 2 (by omega)).1; omega⟩
  obtain ⟨r4, h4⟩ : ∃ r4 : Nat, v.R.getD 4 0 = (r4 : Int) := ⟨(v.R.getD 4 0).toNat, by have := (hv.2.1 4 (by omega)).1; omega⟩
  obtain ⟨r5, h5⟩ : ∃ r5 : Nat, v.R.getD 5 0 = (r5 : Int) := ⟨(v.R.getD 5 0).toNat, by have := (hv.2.1 5 (by omega)).1; omega⟩
  obtain ⟨r6, h6⟩ : ∃ r6 : Nat, v.R.getD 6 0 = (r6 : Int) := ⟨(v.R.getD 6 0).toNat, by have := (hv.2.1 6 (by omega)).1; omega⟩
  have l5 : r5 < 4294967296 := by have := (hv.2.1 5 (by omega)).2; omega
  have l6 : r6 < 4294967296 := by have := (hv.2.1 6 (by omega)).2; omega
  have H2 := hidden h22
  have H4 := hidden h4
  have H5 := hidden h5
  have H6 := hidden h6
  have e2 : r2 = 4003 := by omega
  subst e2
  have hi2 : ∀ u, (Instr.indexAt 24 (.pointer (some ⟨n, 0, none⟩)) (.int .i64 2)).run Try.prog u = .ok (.pointer (some ⟨n, 2, none⟩)) u := fun u => index_reg n 2 (by omega) u
  obtain ⟨C, hC⟩ : ∃ C, v.c = C := ⟨_, rfl⟩
  rw [hC]
  have HC := hidden hC
  obtain ⟨mb, hmb⟩ : ∃ mb, t.m = mb := ⟨_, rfl⟩
  rw [hmb] at HCAL ⊢
  clear hC hv h22 h2 h4 h5 h6 l5 hM hVl hP hcal hmb
  go_enter Try.func14, Try.ntmps14
  go_upto_region 1 with (first
    | (refine wpList_boxG rfl 26 _ rfl C rfl ?_; rintro w1 k1 s1 b1; rw [hn] at k1 s1 b1 ⊢; have K1 : Hid (Blk w1 n v.c 26) := hidden (by rw [HC.out]; exact k1); have S1 := hidden s1; have B1 := hidden b1; clear k1 s1 b1)
    | (refine wpList_boxG rfl 30 _ rfl CW rfl ?_; rintro w2 k2 s2 b2; rw [S1.out] at k2 s2 b2 ⊢; have K2 := hidden k2; have S2 : Hid (w2.heap.size = q) := hidden (by rw [s2]; exact HQ.out); have B2 := hidden b2; clear k2 s2 b2)
    | (refine wpList_allocV rfl rfl ?_; rintro w3 k3 s3 b3; rw [S2.out] at k3 s3 b3 ⊢; have K3 := hidden k3; have S3 := hidden s3; have B3 := hidden b3; clear k3 s3 b3)
    | (refine wpList_allocCr rfl rfl ?_; rintro w4 k4 s4 b4; rw [S3.out] at k4 s4 b4 ⊢; have P := hidden (WB.mk4 (F := nought) hn HQ.out K1.out S1.out B1.out K2.out S2.out B2.out K3.out S3.out B3.out k4 b4); clear k4 s4 b4 K1 S1 B1 K2 S2 B2 K3 S3 B3; obtain ⟨c2, c4, c5, c6⟩ := P.out.regs HV.out H2.out H4.out H5.out H6.out))
  go_upto_region 5 with fail
  have HCL := hidden (HCAL.out _ (by rw [← hn]; exact P.out.bel) (by have := P.out.sz; have := HQ.out; omega))
  have HSQ : Hid (q + 2 ≤ w4.heap.size) := hidden P.out.sz
  clear HCAL c2 c4 c5 c6
  go_upto_region 6 with (first
    | (refine wpList_loadV rfl _ rfl n v rfl P.out.s HV.out ?_)
    | (refine wpList_loadCr rfl _ rfl (n + 1) CW rfl P.out.c HC5.out ?_)
    | (go_at_call 41; refine HCL.out.mono ?_; rintro x w5 ⟨CX, rfl, hx5, hx1, t', hst, hp⟩; have HX5 := hidden hx5; have HX1 := hidden hx1; have PW := hidden (WQ.step (WQ.mk0 HM5.out P.out) hst); have PP := hidden hp; have HSG : Hid (w4.heap.size ≤ w5.heap.size) := hidden hst.keep.size; obtain ⟨g, hg⟩ : ∃ g, w5.heap.size = g := ⟨_, rfl⟩; have HG := hidden hg; clear hx5 hx1 hst hp P HCL hg)
    | (refine wpList_allocV rfl rfl ?_; rintro w6 k6 s6 b6; rw [HG.out] at k6 s6 b6 ⊢; have K6 := hidden k6; have S6 := hidden s6; have B6 := hidden b6; clear k6 s6 b6)
    | (refine wpList_allocCr rfl rfl ?_; rintro w7 k7 s7 b7; rw [S6.out] at k7 s7 b7 ⊢; have K7 := hidden k7; have S7 := hidden s7; have K6b := hidden (K6.out.later (by rw [S6.out]; exact b7)); have B7 := hidden (B6.out.trans (b7.mono (Nat.le_succ g))); clear k7 s7 b7 K6 B6)
    | (refine wpList_storeV rfl rfl _ _ rfl g SV.zero V rfl rfl K6b.out rfl HL5.out ?_; rintro w8 k8 o8; have K8 := hidden k8; have K7b := hidden (K7.out.only o8 (Nat.succ_ne_self g)); have B8 := hidden (Below.only B7.out o8 (Nat.le_refl g)); clear k8 o8 K6b K7 B7)
    | (refine wpList_storeCr rfl rfl _ _ rfl (g + 1) zCw CX rfl rfl K7b.out rfl HX5.out HX1.out ?_; rintro w9 k9 o9; have K9 := hidden k9; have K8b := hidden (K8.out.only o9 (Nat.ne_of_lt (Nat.lt_succ_self g))); have B9 := hidden (Below.only B8.out o9 (Nat.le_succ g)); clear k9 o9 K8 K7b B8))
  have P := hidden (PW.out.later (by rw [HG.out]; exact B9.out))
  have GQ : q + 2 ≤ g := by have := HSG.out; have := HSQ.out; have := HG.out; omega
  have KS := hidden K8b.out
  have KW := hidden K9.out
  have QS := hidden P.out.wb.rs
  have QW := hidden P.out.wb.rw
  have PQ := P.out.wb.hq
  have hW5 := HX5.out
  refine wp_region_on (later_rf [(q, Obj.cells (SV.c (V)) 26 (0, 0)), (q + 1, Obj.cells (CX) 30 (0, 0))]) [35, 36, 1002, 1003, 8, 9] 6 (phiCtw n q V CX 0) (by kernel_rfl) (by kernel_rfl) rfl rfl (phiCtw_mono n q V CX 0) ?_ ?_
  · intro j hj xs w3 hxs hR hpre
    obtain ⟨x0, x1, x2, x3, x4, x5, rfl⟩ := lstCtw xs hxs
    have hS : Blk w3 (g) (SV.c V) 26 := hR.blk KS.out (rf2_no (by omega) (by omega))
    have hW : Blk w3 (g + 1) CX 30 := hR.blk KW.out (rf2_no (by omega) (by omega))
    have hA := hR.some ⟨_, SV.size (s := SV.zero) rfl, QS.out⟩ (rf2_s1 (SV.size HL5.out))
    have hB := hR.some (n := 5) ⟨_, (show zCw.size = 5 from rfl), QW.out⟩ (rf2_s2 hW5)
    rcases (show j = 0 ∨ j = 1 ∨ j = 2 ∨ j = 3 ∨ j = 4 ∨ j = 5 by omega) with rfl | rfl | rfl | rfl | rfl | rfl
    · exact wpOp_run (.agg (SV.c V)) rfl (by kernel_rfl) (exec_load 26 rfl (by kernel_rfl) w3 (loadSt hS HL5.out)) ⟨_, by kernel_rfl, rfl, (later_rf _).refl _⟩
    · exact wpOp_run (.agg CX) rfl (by kernel_rfl) (exec_load 30 rfl (by kernel_rfl) w3 (loadCrR hW hW5)) ⟨_, by kernel_rfl, rfl, (later_rf _).refl _⟩
    · have e0 : x0 = .agg (SV.c V) := hpre 0 (by kernel_rfl)
      subst e0
      obtain ⟨old, hs1, hs2⟩ := hA
      exact wpOp_put rfl (by kernel_rfl) (exec_storeG (g := q) (cs := SV.c (V)) (old := old) rfl (by kernel_rfl) (by kernel_rfl) w3 hs2 (by rw [SV.size HL5.out]; exact sizeSV) (by rw [hs1, SV.size HL5.out]) (SV.one _)) ⟨.bool true, by kernel_rfl, ⟨rfl, setRow_heap w3 (q) old _ 26 (0, 0) hs2⟩, RF.of_only (only_rowV w3 (q) _) (setRow_heap w3 (q) old _ 26 (0, 0) hs2) rf2_m1⟩
    · have e1 : x1 = .agg CX := hpre 1 (by kernel_rfl)
      subst e1
      obtain ⟨old, hs1, hs2⟩ := hB
      exact wpOp_put rfl (by kernel_rfl) (exec_storeG (g := q + 1) (cs := CX) (old := old) rfl (by kernel_rfl) (by kernel_rfl) w3 hs2 (by rw [hW5]; exact sizeCr) (by rw [hs1, hW5]) HX1.out) ⟨.bool true, by kernel_rfl, ⟨rfl, setRow_heap w3 (q + 1) old _ 30 (0, 0) hs2⟩, RF.of_only (only_rowV w3 (q + 1) _) (setRow_heap w3 (q + 1) old _ 30 (0, 0) hs2) rf2_m2⟩
    · exact wpOp_run (.int .i64 0) rfl (by kernel_rfl) (by kernel_rfl) ⟨_, by kernel_rfl, rfl, (later_rf _).refl _⟩
    · exact wpOp_run (.int .u32 0) rfl (by kernel_rfl) (by kernel_rfl) ⟨_, by kernel_rfl, rfl, (later_rf _).refl _⟩
  · intro xs w3 hxs hR hall
    obtain ⟨x0, x1, x2, x3, x4, x5, rfl⟩ := lstCtw xs hxs
    obtain ⟨_, kA⟩ : x2 = .bool true ∧ Blk w3 (q) (SV.c (V)) 26 := hall 2 (by omega)
    obtain ⟨_, kB⟩ : x3 = .bool true ∧ Blk w3 (q + 1) (CX) 30 := hall 3 (by omega)
    have RA := hidden kA
    have RB := hidden kB
    have HRF := hidden hR
    have g4 : x4 = .int .i64 0 := hall 4 (by omega)
    subst g4
    have g5 : x5 = .int .u32 0 := hall 5 (by omega)
    subst g5
    have SE := hidden (P.out.fin HRF.out)
    have PF := hidden (HP.out _ w3 _ _ PP.out (fun b h1 h2 => by
      have h2g := h2
      rw [HG.out] at h2g
      have h3 := B9.out.block b h2g
      rw [← h3]
      rcases hR.block b (Nat.lt_of_lt_of_le h2 B9.out.size) with e | ⟨ob, ho, _⟩
      · exact e
      · simp only [List.mem_cons, Prod.mk.injEq, List.mem_nil_iff, or_false] at ho
        omega))
    clear hR hall hxs kA kB HRF P KS KW QS QW PW PP B9 K9 K8b
    simp only [slotsOn, putAll]
    go_wp2
    refine bodyPost_ret (results_cctt rfl _ _ q (q + 1) _ _ (by kernel_rfl) (by kernel_rfl) (loadSt RA.out HL5.out) (loadCrR RB.out HX5.out)) rfl ⟨CX, by first | rfl | (rw [← HC.out]; rfl), HX5.out, HX1.out, t', SE.out, PF.out⟩
set_option maxRecDepth 20000 in
set_option maxHeartbeats 3000000 in
theorem rcall_wr (w : World) (t : S5) (hM : M5 w t) (v : SV) (hv : v.ok) (CW : Array Value) (hc1 : CW.all (·.oneCell') = true) (hc5 : CW.size = 5) (h2 : v.R.getD 2 0 = 4004) (V : SV) (hVl : V.R.length = 32) (P : World → Array Value → S5 → Prop) (hP : ∀ (w1 w2 : World) (CX : Array Value) (t' : S5), P w1 CX t' → (∀ b, w.heap.size + 4 ≤ b → b < w1.heap.size → w2.heap[b]? = w1.heap[b]?) → P w2 CX t') (hcal : ∀ u : World, Below w.heap.size w u → w.heap.size + 4 ≤ u.heap.size → Calls Try.prog 42 #[.pointer (some ⟨t.m, 0, none⟩), .agg v.c, .agg CW] u fun x w' => ∃ CX, x = .returned (.tuple #[.agg V.c, .agg CX]) ∧ CX.size = 5 ∧ CX.all (·.oneCell') = true ∧ ∃ t', Step5 u t w' t' ∧ P w' CX t') : Calls Try.prog 14 #[.pointer (some ⟨t.m, 0, none⟩), .agg v.c, .agg CW] w fun x w' => ∃ CX, x = .returned (.tuple #[.agg V.c, .agg CX, .int .i64 0, .int .u32 0]) ∧ CX.size = 5 ∧ CX.all (·.oneCell') = true ∧ ∃ t', Step5 w t w' t' ∧ P w' CX t' := by
  obtain ⟨n, hn⟩ : ∃ n, w.heap.size = n := ⟨_, rfl⟩
  obtain ⟨q, hq⟩ : ∃ q, n + 1 + 1 = q := ⟨_, rfl⟩
  have HV := hidden hv.1
  have HQ := hidden hq
  have HC1 := hidden hc1
  have HC5 := hidden hc5
  have HM5 := hidden hM
  clear hq hc1 hc5
  have HL5 := hidden hVl
  have HP := hidden hP
  have HCAL := hidden hcal
  rw [hn] at HCAL HP
  obtain ⟨r2, h22⟩ : ∃ r2 : Nat, v.R.getD 2 0 = (r2 : Int) := ⟨(v.R.getD 2 0).toNat, by have := (hv.2.1 2 (by omega)).1; omega⟩
  obtain ⟨r4, h4⟩ : ∃ r4 : Nat, v.R.getD 4 0 = (r4 : Int) := ⟨(v.R.getD 4 0).toNat, by have := (hv.2.1 4 (by omega)).1; omega⟩
  obtain ⟨r5, h5⟩ : ∃ r5 : Nat, v.R.getD 5 0 = (r5 : Int) := ⟨(v.R.getD 5 0).toNat, by have := (hv.2.1 5 (by omega)).1; omega⟩
  obtain ⟨r6, h6⟩ : ∃ r6 : Nat, v.R.getD 6 0 = (r6 : Int) := ⟨(v.R.getD 6 0).toNat, by have := (hv.2.1 6 (by omega)).1; omega⟩
  have l5 : r5 < 4294967296 := by have := (hv.2.1 5 (by omega)).2; omega
  have l6 : r6 < 4294967296 := by have := (hv.2.1 6 (by omega)).2; omega
  have H2 := hidden h22
  have H4 := hidden h4
  have H5 := hidden h5
  have H6 := hidden h6
  have e2 : r2 = 4004 := by omega
  subst e2
  have hi2 : ∀ u, (Instr.indexAt 24 (.pointer (some ⟨n, 0, none⟩)) (.int .i64 2)).run Try.prog u = .ok (.pointer (some ⟨n, 2, none⟩)) u := fun u => index_reg n 2 (by omega) u
  obtain ⟨C, hC⟩ : ∃ C, v.c = C := ⟨_, rfl⟩
  rw [hC]
  have HC := hidden hC
  obtain ⟨mb, hmb⟩ : ∃ mb, t.m = mb := ⟨_, rfl⟩
  rw [hmb] at HCAL ⊢
  clear hC hv h22 h2 h4 h5 h6 l5 hM hVl hP hcal hmb
  go_enter Try.func14, Try.ntmps14
  go_upto_region 1 with (first
    | (refine wpList_boxG rfl 26 _ rfl C rfl ?_; rintro w1 k1 s1 b1; rw [hn] at k1 s1 b1 ⊢; have K1 : Hid (Blk w1 n v.c 26) := hidden (by rw [HC.out]; exact k1); have S1 := hidden s1; have B1 := hidden b1; clear k1 s1 b1)
    | (refine wpList_boxG rfl 30 _ rfl CW rfl ?_; rintro w2 k2 s2 b2; rw [S1.out] at k2 s2 b2 ⊢; have K2 := hidden k2; have S2 : Hid (w2.heap.size = q) := hidden (by rw [s2]; exact HQ.out); have B2 := hidden b2; clear k2 s2 b2)
    | (refine wpList_allocV rfl rfl ?_; rintro w3 k3 s3 b3; rw [S2.out] at k3 s3 b3 ⊢; have K3 := hidden k3; have S3 := hidden s3; have B3 := hidden b3; clear k3 s3 b3)
    | (refine wpList_allocCr rfl rfl ?_; rintro w4 k4 s4 b4; rw [S3.out] at k4 s4 b4 ⊢; have P := hidden (WB.mk4 (F := nought) hn HQ.out K1.out S1.out B1.out K2.out S2.out B2.out K3.out S3.out B3.out k4 b4); clear k4 s4 b4 K1 S1 B1 K2 S2 B2 K3 S3 B3; obtain ⟨c2, c4, c5, c6⟩ := P.out.regs HV.out H2.out H4.out H5.out H6.out))
  go_upto_region 8 with fail
  have HCL := hidden (HCAL.out _ (by rw [← hn]; exact P.out.bel) (by have := P.out.sz; have := HQ.out; omega))
  have HSQ : Hid (q + 2 ≤ w4.heap.size) := hidden P.out.sz
  clear HCAL c2 c4 c5 c6
  go_upto_region 9 with (first
    | (refine wpList_loadV rfl _ rfl n v rfl P.out.s HV.out ?_)
    | (refine wpList_loadCr rfl _ rfl (n + 1) CW rfl P.out.c HC5.out ?_)
    | (go_at_call 42; refine HCL.out.mono ?_; rintro x w5 ⟨CX, rfl, hx5, hx1, t', hst, hp⟩; have HX5 := hidden hx5; have HX1 := hidden hx1; have PW := hidden (WQ.step (WQ.mk0 HM5.out P.out) hst); have PP := hidden hp; have HSG : Hid (w4.heap.size ≤ w5.heap.size) := hidden hst.keep.size; obtain ⟨g, hg⟩ : ∃ g, w5.heap.size = g := ⟨_, rfl⟩; have HG := hidden hg; clear hx5 hx1 hst hp P HCL hg)
    | (refine wpList_allocV rfl rfl ?_; rintro w6 k6 s6 b6; rw [HG.out] at k6 s6 b6 ⊢; have K6 := hidden k6; have S6 := hidden s6; have B6 := hidden b6; clear k6 s6 b6)
    | (refine wpList_allocCr rfl rfl ?_; rintro w7 k7 s7 b7; rw [S6.out] at k7 s7 b7 ⊢; have K7 := hidden k7; have S7 := hidden s7; have K6b := hidden (K6.out.later (by rw [S6.out]; exact b7)); have B7 := hidden (B6.out.trans (b7.mono (Nat.le_succ g))); clear k7 s7 b7 K6 B6)
    | (refine wpList_storeV rfl rfl _ _ rfl g SV.zero V rfl rfl K6b.out rfl HL5.out ?_; rintro w8 k8 o8; have K8 := hidden k8; have K7b := hidden (K7.out.only o8 (Nat.succ_ne_self g)); have B8 := hidden (Below.only B7.out o8 (Nat.le_refl g)); clear k8 o8 K6b K7 B7)
    | (refine wpList_storeCr rfl rfl _ _ rfl (g + 1) zCw CX rfl rfl K7b.out rfl HX5.out HX1.out ?_; rintro w9 k9 o9; have K9 := hidden k9; have K8b := hidden (K8.out.only o9 (Nat.ne_of_lt (Nat.lt_succ_self g))); have B9 := hidden (Below.only B8.out o9 (Nat.le_succ g)); clear k9 o9 K8 K7b B8))
  have P := hidden (PW.out.later (by rw [HG.out]; exact B9.out))
  have GQ : q + 2 ≤ g := by have := HSG.out; have := HSQ.out; have := HG.out; omega
  have KS := hidden K8b.out
  have KW := hidden K9.out
  have QS := hidden P.out.wb.rs
  have QW := hidden P.out.wb.rw
  have PQ := P.out.wb.hq
  have hW5 := HX5.out
  refine wp_region_on (later_rf [(q, Obj.cells (SV.c (V)) 26 (0, 0)), (q + 1, Obj.cells (CX) 30 (0, 0))]) [46, 47, 1002, 1003, 8, 9] 6 (phiCtw n q V CX 0) (by kernel_rfl) (by kernel_rfl) rfl rfl (phiCtw_mono n q V CX 0) ?_ ?_
  · intro j hj xs w3 hxs hR hpre
    obtain ⟨x0, x1, x2, x3, x4, x5, rfl⟩ := lstCtw xs hxs
    have hS : Blk w3 (g) (SV.c V) 26 := hR.blk KS.out (rf2_no (by omega) (by omega))
    have hW : Blk w3 (g + 1) CX 30 := hR.blk KW.out (rf2_no (by omega) (by omega))
    have hA := hR.some ⟨_, SV.size (s := SV.zero) rfl, QS.out⟩ (rf2_s1 (SV.size HL5.out))
    have hB := hR.some (n := 5) ⟨_, (show zCw.size = 5 from rfl), QW.out⟩ (rf2_s2 hW5)
    rcases (show j = 0 ∨ j = 1 ∨ j = 2 ∨ j = 3 ∨ j = 4 ∨ j = 5 by omega) with rfl | rfl | rfl | rfl | rfl | rfl
    · exact wpOp_run (.agg (SV.c V)) rfl (by kernel_rfl) (exec_load 26 rfl (by kernel_rfl) w3 (loadSt hS HL5.out)) ⟨_, by kernel_rfl, rfl, (later_rf _).refl _⟩
    · exact wpOp_run (.agg CX) rfl (by kernel_rfl) (exec_load 30 rfl (by kernel_rfl) w3 (loadCrR hW hW5)) ⟨_, by kernel_rfl, rfl, (later_rf _).refl _⟩
    · have e0 : x0 = .agg (SV.c V) := hpre 0 (by kernel_rfl)
      subst e0
      obtain ⟨old, hs1, hs2⟩ := hA
      exact wpOp_put rfl (by kernel_rfl) (exec_storeG (g := q) (cs := SV.c (V)) (old := old) rfl (by kernel_rfl) (by kernel_rfl) w3 hs2 (by rw [SV.size HL5.out]; exact sizeSV) (by rw [hs1, SV.size HL5.out]) (SV.one _)) ⟨.bool true, by kernel_rfl, ⟨rfl, setRow_heap w3 (q) old _ 26 (0, 0) hs2⟩, RF.of_only (only_rowV w3 (q) _) (setRow_heap w3 (q) old _ 26 (0, 0) hs2) rf2_m1⟩
    · have e1 : x1 = .agg CX := hpre 1 (by kernel_rfl)
      subst e1
      obtain ⟨old, hs1, hs2⟩ := hB
      exact wpOp_put rfl (by kernel_rfl) (exec_storeG (g := q + 1) (cs := CX) (old := old) rfl (by kernel_rfl) (by kernel_rfl) w3 hs2 (by rw [hW5]; exact sizeCr) (by rw [hs1, hW5]) HX1.out) ⟨.bool true, by kernel_rfl, ⟨rfl, setRow_heap w3 (q + 1) old _ 30 (0, 0) hs2⟩, RF.of_only (only_rowV w3 (q + 1) _) (setRow_heap w3 (q + 1) old _ 30 (0, 0) hs2) rf2_m2⟩
    · exact wpOp_run (.int .i64 0) rfl (by kernel_rfl) (by kernel_rfl) ⟨_, by kernel_rfl, rfl, (later_rf _).refl _⟩
    · exact wpOp_run (.int .u32 0) rfl (by kernel_rfl) (by kernel_rfl) ⟨_, by kernel_rfl, rfl, (later_rf _).refl _⟩
  · intro xs w3 hxs hR hall
    obtain ⟨x0, x1, x2, x3, x4, x5, rfl⟩ := lstCtw xs hxs
    obtain ⟨_, kA⟩ : x2 = .bool true ∧ Blk w3 (q) (SV.c (V)) 26 := hall 2 (by omega)
    obtain ⟨_, kB⟩ : x3 = .bool true ∧ Blk w3 (q + 1) (CX) 30 := hall 3 (by omega)
    have RA := hidden kA
    have RB := hidden kB
    have HRF := hidden hR
    have g4 : x4 = .int .i64 0 := hall 4 (by omega)
    subst g4
    have g5 : x5 = .int .u32 0 := hall 5 (by omega)
    subst g5
    have SE := hidden (P.out.fin HRF.out)
    have PF := hidden (HP.out _ w3 _ _ PP.out (fun b h1 h2 => by
      have h2g := h2
      rw [HG.out] at h2g
      have h3 := B9.out.block b h2g
      rw [← h3]
      rcases hR.block b (Nat.lt_of_lt_of_le h2 B9.out.size) with e | ⟨ob, ho, _⟩
      · exact e
      · simp only [List.mem_cons, Prod.mk.injEq, List.mem_nil_iff, or_false] at ho
        omega))
    clear hR hall hxs kA kB HRF P KS KW QS QW PW PP B9 K9 K8b
    simp only [slotsOn, putAll]
    go_wp2
    refine bodyPost_ret (results_cctt rfl _ _ q (q + 1) _ _ (by kernel_rfl) (by kernel_rfl) (loadSt RA.out HL5.out) (loadCrR RB.out HX5.out)) rfl ⟨CX, by first | rfl | (rw [← HC.out]; rfl), HX5.out, HX1.out, t', SE.out, PF.out⟩
end Go.Proofs.Ytodoenimlhldjaa
namespace Go.Proofs.Ytodoenimlhldjaa
open Go.ChangeShapes Go.WideShapes Go.ChangeAt Go.RowKit
set_option linter.unusedVariables false
/-- what more says: k pages are there, and the end of it -/
def MoreR (v : SV) (CW : Array Value) (t : S5) (s : MS) (a m mb : Nat) (w : World) (x : Ending) (w' : World) : Prop :=
  ∃ t' sh k, Step5 w t w' t' ∧ t'.m = mb ∧ t'.most = t.most ∧ Sim sh t'.l ∧ sh.ts = t'.ts ∧ MoreK s a k sh ∧ ((k = m ∧ x = .returned (.tuple #[.agg (ansV v 0 0).c, .agg CW, .int .i64 0, .int .u32 0])) ∨ (k < m ∧ sh.mapErr (wrapAt a (256 * k)) = 2 ∧ x = .returned (.tuple #[.agg v.c, .agg CW, .int .i64 2, .int .u32 0])))

theorem MoreR.mk {v : SV} {CW : Array Value} {t : S5} {s : MS} {a m mb : Nat} {w : World} {x : Ending} {w' : World} (h : ∃ t' sh k, Step5 w t w' t' ∧ t'.m = mb ∧ t'.most = t.most ∧ Sim sh t'.l ∧ sh.ts = t'.ts ∧ MoreK s a k sh ∧ ((k = m ∧ x = .returned (.tuple #[.agg (ansV v 0 0).c, .agg CW, .int .i64 0, .int .u32 0])) ∨ (k < m ∧ sh.mapErr (wrapAt a (256 * k)) = 2 ∧ x = .returned (.tuple #[.agg v.c, .agg CW, .int .i64 2, .int .u32 0])))) : MoreR v CW t s a m mb w x w' := h

/-- What the slots of the region hold, whatever the order. -/
def phiCm17 (n q : Nat) (V : SV) (CX : Array Value) (gg : Int) : Nat → Value → World → Prop
  | 0, x, _ => x = .agg (SV.c V)
  | 1, x, _ => x = .agg CX
  | 2, x, w => x = .bool true ∧ Blk w (q) (SV.c (V)) 26
  | 3, x, w => x = .bool true ∧ Blk w (q + 1) (CX) 30
  | 4, x, _ => x = .int .i64 gg
  | 5, x, _ => x = .int .u32 0
  | _ + 6, _, _ => True
theorem phiCm17_mono (n q : Nat) (V : SV) (CX : Array Value) (gg : Int) : ∀ i x w w', phiCm17 n q V CX gg i x w → RF [(q, Obj.cells (SV.c (V)) 26 (0, 0)), (q + 1, Obj.cells (CX) 30 (0, 0))] w w' → phiCm17 n q V CX gg i x w'
  | 0, _, _, _, h, _ => h
  | 1, _, _, _, h, _ => h
  | 2, x, w, w', h, hb => ⟨h.1, hb.blk h.2 rf2_a⟩
  | 3, x, w, w', h, hb => ⟨h.1, hb.blk h.2 rf2_b⟩
  | 4, _, _, _, h, _ => h
  | 5, _, _, _, h, _ => h
  | _ + 6, _, _, _, _, _ => trivial
theorem lstCm17 : ∀ xs : List Value, xs.length = 6 → ∃ x0 x1 x2 x3 x4 x5, xs = [x0, x1, x2, x3, x4, x5]
  | [x0, x1, x2, x3, x4, x5], _ => ⟨_, _, _, _, _, _, rfl⟩
set_option maxRecDepth 20000 in
set_option maxHeartbeats 3000000 in
theorem rcall_more (w : World) (t : S5) (hM : M5 w t) (v : SV) (hv : v.ok) (CW : Array Value) (hc1 : CW.all (·.oneCell') = true) (hc5 : CW.size = 5) (s : MS) (hs : Sim s t.l) (hts : s.ts = t.ts) (hmo : s.most = t.most) (hpm : ∀ k ∈ s.ks, 0 ≤ s.pm k ∧ s.pm k < 8) (hkl : s.ks.length ≤ 500) (h2 : v.R.getD 2 0 = 4090) (a m : Nat) (h4a : v.R.getD 4 0 = (a : Int)) (h5a : v.R.getD 5 0 = (m : Int)) (hm : m ≤ 64) : Calls Try.prog 14 #[.pointer (some ⟨t.m, 0, none⟩), .agg v.c, .agg CW] w fun x w' => MoreR v CW t s a m t.m w x w' := by
  obtain ⟨n, hn⟩ : ∃ n, w.heap.size = n := ⟨_, rfl⟩
  obtain ⟨q, hq⟩ : ∃ q, n + 1 + 1 = q := ⟨_, rfl⟩
  have HV := hidden hv.1
  have HQ := hidden hq
  have HC1 := hidden hc1
  have HC5 := hidden hc5
  have HM5 := hidden hM
  clear hq hc1 hc5
  have HBK := hidden (fun u => back_any v hv.1 0 0 u)
  obtain ⟨r2, h22⟩ : ∃ r2 : Nat, v.R.getD 2 0 = (r2 : Int) := ⟨(v.R.getD 2 0).toNat, by have := (hv.2.1 2 (by omega)).1; omega⟩
  obtain ⟨r4, h4⟩ : ∃ r4 : Nat, v.R.getD 4 0 = (r4 : Int) := ⟨(v.R.getD 4 0).toNat, by have := (hv.2.1 4 (by omega)).1; omega⟩
  obtain ⟨r5, h5⟩ : ∃ r5 : Nat, v.R.getD 5 0 = (r5 : Int) := ⟨(v.R.getD 5 0).toNat, by have := (hv.2.1 5 (by omega)).1; omega⟩
  obtain ⟨r6, h6⟩ : ∃ r6 : Nat, v.R.getD 6 0 = (r6 : Int) := ⟨(v.R.getD 6 0).toNat, by have := (hv.2.1 6 (by omega)).1; omega⟩
  have l5 : r5 < 4294967296 := by have := (hv.2.1 5 (by omega)).2; omega
  have l6 : r6 < 4294967296 := by have := (hv.2.1 6 (by omega)).2; omega
  have H2 := hidden h22
  have H4 := hidden h4
  have H5 := hidden h5
  have H6 := hidden h6
  have e2 : r2 = 4090 := by omega
  subst e2
  have e4 : r4 = a := by omega
  subst e4
  have e5 : r5 = m := by omega
  subst e5
  have hnb : ¬ 64 < (r5 : Int) := by omega
  have l4 : r4 < 4294967296 := by have := (hv.2.1 4 (by omega)).2; omega
  have H4L := hidden l4
  have hi2 : ∀ u, (Instr.indexAt 24 (.pointer (some ⟨n, 0, none⟩)) (.int .i64 2)).run Try.prog u = .ok (.pointer (some ⟨n, 2, none⟩)) u := fun u => index_reg n 2 (by omega) u
  have hi4 : ∀ u, (Instr.indexAt 24 (.pointer (some ⟨n, 0, none⟩)) (.int .i64 4)).run Try.prog u = .ok (.pointer (some ⟨n, 4, none⟩)) u := fun u => index_reg n 4 (by omega) u
  have hi5 : ∀ u, (Instr.indexAt 24 (.pointer (some ⟨n, 0, none⟩)) (.int .i64 5)).run Try.prog u = .ok (.pointer (some ⟨n, 5, none⟩)) u := fun u => index_reg n 5 (by omega) u
  obtain ⟨C, hC⟩ : ∃ C, v.c = C := ⟨_, rfl⟩
  rw [hC]
  have HC := hidden hC
  obtain ⟨mb, hmb⟩ : ∃ mb, t.m = mb := ⟨_, rfl⟩
  have HMB := hidden hmb
  have HS := hidden hs
  have HTS := hidden hts
  have HMO := hidden hmo
  have HPM := hidden hpm
  have HKL := hidden hkl
  rw [hmb]
  clear hC hv h22 h2 h4 h5 h6 l5 hM hs hts hmo hpm hkl hmb h4a h5a l4
  go_enter Try.func14, Try.ntmps14
  go_upto_region 1 with (first
    | (refine wpList_boxG rfl 26 _ rfl C rfl ?_; rintro w1 k1 s1 b1; rw [hn] at k1 s1 b1 ⊢; have K1 : Hid (Blk w1 n v.c 26) := hidden (by rw [HC.out]; exact k1); have S1 := hidden s1; have B1 := hidden b1; clear k1 s1 b1)
    | (refine wpList_boxG rfl 30 _ rfl CW rfl ?_; rintro w2 k2 s2 b2; rw [S1.out] at k2 s2 b2 ⊢; have K2 := hidden k2; have S2 : Hid (w2.heap.size = q) := hidden (by rw [s2]; exact HQ.out); have B2 := hidden b2; clear k2 s2 b2)
    | (refine wpList_allocV rfl rfl ?_; rintro w3 k3 s3 b3; rw [S2.out] at k3 s3 b3 ⊢; have K3 := hidden k3; have S3 := hidden s3; have B3 := hidden b3; clear k3 s3 b3)
    | (refine wpList_allocCr rfl rfl ?_; rintro w4 k4 s4 b4; rw [S3.out] at k4 s4 b4 ⊢; have P := hidden (WB.mk4 (F := nought) hn HQ.out K1.out S1.out B1.out K2.out S2.out B2.out K3.out S3.out B3.out k4 b4); clear k4 s4 b4 K1 S1 B1 K2 S2 B2 K3 S3 B3; obtain ⟨c2, c4, c5, c6⟩ := P.out.regs HV.out H2.out H4.out H5.out H6.out))
  go_upto_region 13 with fail
  have HP0 := hidden (WQ.mk0 HM5.out P.out)
  clear P c2 c4 c5 c6
  go_wp2
  go_loopw [14] (fun x14 wr => ∃ (k : Nat) (t' : S5) (sh : MS), k ≤ r5 ∧ x14 = .int .u32 (k : Int) ∧ WQ t w n q v CW wr t' ∧ t'.m = mb ∧ t'.most = t.most ∧ Sim sh t'.l ∧ sh.ts = t'.ts ∧ (∀ j ∈ sh.ks, 0 ≤ sh.pm j ∧ sh.pm j < 8) ∧ sh.ks.length ≤ 500 + k ∧ MoreK s r4 k sh) (fun x14 _ => r5 - (intOf x14).toNat)
  case atStart => exact ⟨0, t, s, by omega, rfl, HP0.out, HMB.out, rfl, HS.out, HTS.out, HPM.out, HKL.out, MoreK.zero s r4⟩
  case round =>
    obtain ⟨k, t', sh, hk, rfl, hwp, hmb2, hmo2, hsim, hts2, hpm2, hkl2, hmk⟩ := hrel
    have P := hidden hwp
    have MK := hidden hmk
    have HTB := hidden hmb2
    have HM2 := hidden hmo2
    have HSI := hidden hsim
    have HT2 := hidden hts2
    have HP2 := hidden hpm2
    have HK2 := hidden hkl2
    clear hwp hmk HP0 hmb2 hmo2 hsim hts2 hpm2 hkl2
    have c4 := P.out.wb.s.cell (SV.getR HV.out (show 4 < 32 by decide))
    rw [H4.out] at c4
    have c5 := P.out.wb.s.cell (SV.getR HV.out (show 5 < 32 by decide))
    rw [H5.out] at c5
    by_cases hlt : k < r5
    · have hl : (k : Int) < (r5 : Int) := by omega
      have hk0 : (k : Int) < 64 := by omega
      have hkn : (0 : Int) ≤ (k : Int) := by omega
      have hmul : (k : Int) * 256 % 4294967296 = (k : Int) * 256 := by omega
      obtain ⟨b, hb⟩ : ∃ b : Nat, ((r4 : Int) + (k : Int) * 256) % 4294967296 = (b : Int) := ⟨(r4 + k * 256) % 4294967296, by omega⟩
      have HB : Hid (wrapAt r4 (256 * k) = b) := hidden (by unfold wrapAt; omega)
      have HBL : Hid (b < 4294967296) := hidden (by omega)
      have HTL : Hid (t'.l.length < 1000) := hidden (by have := HSI.out.len; have := HK2.out; omega)
      obtain ⟨er, her⟩ : ∃ er, sh.mapErr b = er := ⟨_, rfl⟩
      have HER := hidden her
      have HMC : Hid (∀ u, M5 u t' → Calls Try.prog 31 #[.pointer (some ⟨mb, 0, none⟩), .int .u32 (b : Int), .int .i64 6] u fun e w' => e = .returned (.int .i64 er) ∧ ∃ t2, Step5 u t' w' t2 ∧ t2.m = mb ∧ t2.most = t.most ∧ Sim (sh.mapped b 6 0) t2.l ∧ sh.ts = t2.ts) := hidden (fun u hu => by
        have hmc := hu.mapC b 6 HBL.out HTL.out
        rw [HTB.out] at hmc
        refine hmc.mono ?_
        rintro e w' ⟨he, t2, st, e1, e2, e3, hM⟩
        obtain ⟨h1, h2⟩ := HSI.out.map b 6 0 t'.most (by rw [MK.out.most, HMO.out, HM2.out]) HP2.out hM
        exact ⟨by rw [he, ← h2, HER.out], t2, st, e1, e2.trans HM2.out, h1, by rw [e3, HT2.out]⟩)
      have herr := mapErr_or sh b
      rw [her] at herr
      clear her
      rcases herr with rfl | rfl
      · have HNX := hidden (MK.out.next (by rw [HB.out]; exact HER.out) 0)
        go_upto_region 15 with (first
          | (go_at_call 31; refine (HMC.out _ P.out.mem).mono ?_; rintro e w9 ⟨rfl, t2, hst, hm2, hmo3, hl2, hts3⟩; have P9 := hidden (P.out.step hst); have M2 := hidden hm2; have MO3 := hidden hmo3; have L2 := hidden hl2; have T3 := hidden hts3; clear hst c4 c5 HMC hm2 hmo3 hl2 hts3))
        have HKX : Hid ((k : Int) + 1 ≤ 4294967295) := hidden (by omega)
        go_wp2
        go_roundw
        case rel => first | exact ⟨k + 1, t2, sh.mapped b 6 0, by omega, by first | rfl | simp, P9.out, M2.out, MO3.out, L2.out, (mapped_ts sh b 6 0).trans T3.out, mapped_pm b 6 0 HP2.out, by have := (mapped_ks sh b 6 0).2.1; have := HK2.out; omega, by have h := HNX.out; rw [HB.out] at h; exact h⟩ | ((repeat apply Exists.intro); refine ⟨?_, rfl⟩; exact ⟨k + 1, t2, sh.mapped b 6 0, by omega, by first | rfl | simp, P9.out, M2.out, MO3.out, L2.out, (mapped_ts sh b 6 0).trans T3.out, mapped_pm b 6 0 HP2.out, by have := (mapped_ks sh b 6 0).2.1; have := HK2.out; omega, by have h := HNX.out; rw [HB.out] at h; exact h⟩)
        case measure => simp [intOf]; omega
      · go_upto_region 17 with (first
          | (go_at_call 31; refine (HMC.out _ P.out.mem).mono ?_; rintro e w9 ⟨rfl, t2, hst, hm2, hmo3, hl2, hts3⟩; have P9 := hidden (P.out.step hst); have M2 := hidden hm2; have MO3 := hidden hmo3; have L2 := hidden hl2; have T3 := hidden hts3; clear hst c4 c5 HMC hm2 hmo3 hl2 hts3 P; have P := P9; clear P9))
        have KS := hidden P.out.wb.s
        have KW := hidden P.out.wb.c
        have QS := hidden P.out.wb.rs
        have QW := hidden P.out.wb.rw
        have PQ := P.out.wb.hq
        have hW5 := HC5.out
        refine wp_region_on (later_rf [(q, Obj.cells (SV.c (v)) 26 (0, 0)), (q + 1, Obj.cells (CW) 30 (0, 0))]) [73, 74, 1002, 1003, 8, 9] 6 (phiCm17 n q v CW 2) (by kernel_rfl) (by kernel_rfl) rfl rfl (phiCm17_mono n q v CW 2) ?_ ?_
        · intro j hj xs w3 hxs hR hpre
          obtain ⟨x0, x1, x2, x3, x4, x5, rfl⟩ := lstCm17 xs hxs
          have hS : Blk w3 (n) (SV.c v) 26 := hR.blk KS.out (rf2_no (by omega) (by omega))
          have hW : Blk w3 (n + 1) CW 30 := hR.blk KW.out (rf2_no (by omega) (by omega))
          have hA := hR.some ⟨_, SV.size (s := SV.zero) rfl, QS.out⟩ (rf2_s1 (SV.size HV.out))
          have hB := hR.some (n := 5) ⟨_, (show zCw.size = 5 from rfl), QW.out⟩ (rf2_s2 hW5)
          rcases (show j = 0 ∨ j = 1 ∨ j = 2 ∨ j = 3 ∨ j = 4 ∨ j = 5 by omega) with rfl | rfl | rfl | rfl | rfl | rfl
          · exact wpOp_run (.agg (SV.c v)) rfl (by kernel_rfl) (exec_load 26 rfl (by kernel_rfl) w3 (loadSt hS HV.out)) ⟨_, by kernel_rfl, rfl, (later_rf _).refl _⟩
          · exact wpOp_run (.agg CW) rfl (by kernel_rfl) (exec_load 30 rfl (by kernel_rfl) w3 (loadCrR hW hW5)) ⟨_, by kernel_rfl, rfl, (later_rf _).refl _⟩
          · have e0 : x0 = .agg (SV.c v) := hpre 0 (by kernel_rfl)
            subst e0
            obtain ⟨old, hs1, hs2⟩ := hA
            exact wpOp_put rfl (by kernel_rfl) (exec_storeG (g := q) (cs := SV.c (v)) (old := old) rfl (by kernel_rfl) (by kernel_rfl) w3 hs2 (by rw [SV.size HV.out]; exact sizeSV) (by rw [hs1, SV.size HV.out]) (SV.one _)) ⟨.bool true, by kernel_rfl, ⟨rfl, setRow_heap w3 (q) old _ 26 (0, 0) hs2⟩, RF.of_only (only_rowV w3 (q) _) (setRow_heap w3 (q) old _ 26 (0, 0) hs2) rf2_m1⟩
          · have e1 : x1 = .agg CW := hpre 1 (by kernel_rfl)
            subst e1
            obtain ⟨old, hs1, hs2⟩ := hB
            exact wpOp_put rfl (by kernel_rfl) (exec_storeG (g := q + 1) (cs := CW) (old := old) rfl (by kernel_rfl) (by kernel_rfl) w3 hs2 (by rw [hW5]; exact sizeCr) (by rw [hs1, hW5]) HC1.out) ⟨.bool true, by kernel_rfl, ⟨rfl, setRow_heap w3 (q + 1) old _ 30 (0, 0) hs2⟩, RF.of_only (only_rowV w3 (q + 1) _) (setRow_heap w3 (q + 1) old _ 30 (0, 0) hs2) rf2_m2⟩
          · exact wpOp_run (.int .i64 2) rfl (by kernel_rfl) (by kernel_rfl) ⟨_, by kernel_rfl, rfl, (later_rf _).refl _⟩
          · exact wpOp_run (.int .u32 0) rfl (by kernel_rfl) (by kernel_rfl) ⟨_, by kernel_rfl, rfl, (later_rf _).refl _⟩
        · intro xs w3 hxs hR hall
          obtain ⟨x0, x1, x2, x3, x4, x5, rfl⟩ := lstCm17 xs hxs
          obtain ⟨_, kA⟩ : x2 = .bool true ∧ Blk w3 (q) (SV.c (v)) 26 := hall 2 (by omega)
          obtain ⟨_, kB⟩ : x3 = .bool true ∧ Blk w3 (q + 1) (CW) 30 := hall 3 (by omega)
          have RA := hidden kA
          have RB := hidden kB
          have HRF := hidden hR
          have g4 : x4 = .int .i64 2 := hall 4 (by omega)
          subst g4
          have g5 : x5 = .int .u32 0 := hall 5 (by omega)
          subst g5
          have SE := hidden (P.out.fin HRF.out)
          clear hR hall hxs kA kB HRF P KS KW QS QW
          simp only [slotsOn, putAll]
          go_wp2
          refine bodyPost_ret (results_cctt rfl _ _ q (q + 1) _ _ (by kernel_rfl) (by kernel_rfl) (loadSt RA.out HV.out) (loadCrR RB.out HC5.out)) rfl (MoreR.mk ⟨t2, sh, k, SE.out, M2.out, MO3.out, by rw [← mapped_full (b := 0) (z := 6) HER.out]; exact L2.out, T3.out, MK.out, .inr ⟨hlt, by rw [HB.out]; exact HER.out, by first | rfl | (rw [← HC.out]; rfl) | (rw [HC.out]; rfl)⟩⟩)
    · have hl : ¬ (k : Int) < (r5 : Int) := by omega
      obtain rfl : k = r5 := by omega
      go_upto_region 18 with fail
      clear c4 c5
      have KS := hidden P.out.wb.s
      have KW := hidden P.out.wb.c
      have QS := hidden P.out.wb.rs
      have QW := hidden P.out.wb.rw
      have PQ := P.out.wb.hq
      have hW5 := HC5.out
      refine wp_region_on (later_rf [(q, Obj.cells (SV.c (ansV v 0 0)) 26 (0, 0)), (q + 1, Obj.cells (CW) 30 (0, 0))]) [75, 76, 77, 1003, 1004, 8, 9] 7 (phiCbk n q v CW 0 0 0) (by kernel_rfl) (by kernel_rfl) rfl rfl (phiCbk_mono n q v CW 0 0 0) ?_ ?_
      · intro j hj xs w3 hxs hR hpre
        obtain ⟨x0, x1, x2, x3, x4, x5, x6, rfl⟩ := lstCbk xs hxs
        have hS : Blk w3 (n) (SV.c v) 26 := hR.blk KS.out (rf2_no (by omega) (by omega))
        have hW : Blk w3 (n + 1) CW 30 := hR.blk KW.out (rf2_no (by omega) (by omega))
        have hA := hR.some ⟨_, SV.size (s := SV.zero) rfl, QS.out⟩ (rf2_s1 (SV.size (ansV_len HV.out 0 0)))
        have hB := hR.some (n := 5) ⟨_, (show zCw.size = 5 from rfl), QW.out⟩ (rf2_s2 hW5)
        rcases (show j = 0 ∨ j = 1 ∨ j = 2 ∨ j = 3 ∨ j = 4 ∨ j = 5 ∨ j = 6 by omega) with rfl | rfl | rfl | rfl | rfl | rfl | rfl
        · exact wpOp_run (.agg (SV.c v)) rfl (by kernel_rfl) (exec_load 26 rfl (by kernel_rfl) w3 (loadSt hS HV.out)) ⟨_, by kernel_rfl, rfl, (later_rf _).refl _⟩
        · have e0 : x0 = .agg (SV.c v) := hpre 0 (by kernel_rfl)
          subst e0
          refine wpOp_callR (R := fun u w4 => u = .agg (SV.c (ansV v 0 0)) ∧ Below w3.heap.size w3 w4) 43 #[.agg (SV.c v), .int .u32 0, .int .u32 0] rfl (by kernel_rfl) (by kernel_rfl) ((HBK.out w3).mono fun e w4 h => ⟨_, h.1, rfl, h.2⟩) ?_
          rintro _ w4 ⟨rfl, hb⟩
          exact ⟨_, by kernel_rfl, rfl, RF.of_below hb⟩
        · exact wpOp_run (.agg CW) rfl (by kernel_rfl) (exec_load 30 rfl (by kernel_rfl) w3 (loadCrR hW hW5)) ⟨_, by kernel_rfl, rfl, (later_rf _).refl _⟩
        · have e1 : x1 = .agg (SV.c (ansV v 0 0)) := hpre 1 (by kernel_rfl)
          subst e1
          obtain ⟨old, hs1, hs2⟩ := hA
          exact wpOp_put rfl (by kernel_rfl) (exec_storeG (g := q) (cs := SV.c (ansV v 0 0)) (old := old) rfl (by kernel_rfl) (by kernel_rfl) w3 hs2 (by rw [SV.size (ansV_len HV.out 0 0)]; exact sizeSV) (by rw [hs1, SV.size (ansV_len HV.out 0 0)]) (SV.one _)) ⟨.bool true, by kernel_rfl, ⟨rfl, setRow_heap w3 (q) old _ 26 (0, 0) hs2⟩, RF.of_only (only_rowV w3 (q) _) (setRow_heap w3 (q) old _ 26 (0, 0) hs2) rf2_m1⟩
        · have e2 : x2 = .agg CW := hpre 2 (by kernel_rfl)
          subst e2
          obtain ⟨old, hs1, hs2⟩ := hB
          exact wpOp_put rfl (by kernel_rfl) (exec_storeG (g := q + 1) (cs := CW) (old := old) rfl (by kernel_rfl) (by kernel_rfl) w3 hs2 (by rw [hW5]; exact sizeCr) (by rw [hs1, hW5]) HC1.out) ⟨.bool true, by kernel_rfl, ⟨rfl, setRow_heap w3 (q + 1) old _ 30 (0, 0) hs2⟩, RF.of_only (only_rowV w3 (q + 1) _) (setRow_heap w3 (q + 1) old _ 30 (0, 0) hs2) rf2_m2⟩
        · exact wpOp_run (.int .i64 0) rfl (by kernel_rfl) (by kernel_rfl) ⟨_, by kernel_rfl, rfl, (later_rf _).refl _⟩
        · exact wpOp_run (.int .u32 0) rfl (by kernel_rfl) (by kernel_rfl) ⟨_, by kernel_rfl, rfl, (later_rf _).refl _⟩
      · intro xs w3 hxs hR hall
        obtain ⟨x0, x1, x2, x3, x4, x5, x6, rfl⟩ := lstCbk xs hxs
        obtain ⟨_, kA⟩ : x3 = .bool true ∧ Blk w3 (q) (SV.c (ansV v 0 0)) 26 := hall 3 (by omega)
        obtain ⟨_, kB⟩ : x4 = .bool true ∧ Blk w3 (q + 1) (CW) 30 := hall 4 (by omega)
        have RA := hidden kA
        have RB := hidden kB
        have HRF := hidden hR
        have g5 : x5 = .int .i64 0 := hall 5 (by omega)
        subst g5
        have g6 : x6 = .int .u32 0 := hall 6 (by omega)
        subst g6
        have SE := hidden (P.out.fin HRF.out)
        clear hR hall hxs kA kB HRF P KS KW QS QW
        simp only [slotsOn, putAll]
        go_wp2
        refine bodyPost_ret (results_cctt rfl _ _ q (q + 1) _ _ (by kernel_rfl) (by kernel_rfl) (loadSt RA.out (ansV_len HV.out 0 0)) (loadCrR RB.out HC5.out)) rfl (MoreR.mk ⟨t', sh, k, SE.out, HTB.out, HM2.out, HSI.out, HT2.out, MK.out, .inl ⟨rfl, by first | rfl | (rw [← HC.out]; rfl)⟩⟩)
end Go.Proofs.Ytodoenimlhldjaa
