/- Chapter 12's own read, refused. -/
import Derived.Test.YtodoenimlhldjaaBXSB
import Derived.Test.YtodoenimlhldjaaBXRA
namespace Go.Proofs.Ytodoenimlhldjaa
open Go.ChangeShapes Go.WideShapes Go.ChangeAt Go.RowKit
set_option linter.unusedVariables false
/-- What the slots of the region hold, whatever the order. -/
def phiRb (n q : Nat) (v : SV) (CW : Array Value) (rv bv : Int) : Nat → Value → World → Prop
  | 0, x, _ => x = .agg (SV.c v)
  | 1, x, _ => x = .agg (SV.c (ansV v rv bv))
  | 2, x, _ => x = .agg CW
  | 3, x, w => x = .bool true ∧ Blk w (q) (SV.c (ansV v rv bv)) 26
  | 4, x, w => x = .bool true ∧ Blk w (q + 1) (CW) 30
  | _ + 5, _, _ => True
theorem phiRb_mono (n q : Nat) (v : SV) (CW : Array Value) (rv bv : Int) : ∀ i x w w', phiRb n q v CW rv bv i x w → RF [(q, Obj.cells (SV.c (ansV v rv bv)) 26 (0, 0)), (q + 1, Obj.cells (CW) 30 (0, 0))] w w' → phiRb n q v CW rv bv i x w'
  | 0, _, _, _, h, _ => h
  | 1, _, _, _, h, _ => h
  | 2, _, _, _, h, _ => h
  | 3, x, w, w', h, hb => ⟨h.1, hb.blk h.2 rf2_a⟩
  | 4, x, w, w', h, hb => ⟨h.1, hb.blk h.2 rf2_b⟩
  | _ + 5, _, _, _, _, _ => trivial
theorem lstRb : ∀ xs : List Value, xs.length = 5 → ∃ x0 x1 x2 x3 x4, xs = [x0, x1, x2, x3, x4]
  | [x0, x1, x2, x3, x4], _ => ⟨_, _, _, _, _, rfl⟩
set_option maxRecDepth 20000 in
set_option maxHeartbeats 2000000 in
theorem rread_fd (w : World) (s : MS) (t : S5) (hM : M5 w t) (hs : Sim s t.l) (v : SV) (hv : v.ok) (CW : Array Value) (hc1 : CW.all (·.oneCell') = true) (hc5 : CW.size = 5) (hfd : v.R.getD 4 0 ≠ 0) : Calls Try.prog 41 #[.pointer (some ⟨t.m, 0, none⟩), .agg v.c, .agg CW] w fun x w' => x = .returned (.tuple #[.agg (ansV v 9 1).c, .agg CW]) ∧ Below w.heap.size w w' := by
  obtain ⟨n, hn⟩ : ∃ n, w.heap.size = n := ⟨_, rfl⟩
  obtain ⟨q, hq⟩ : ∃ q, n + 1 + 1 = q := ⟨_, rfl⟩
  have HV := hidden hv.1
  have HQ := hidden hq
  have HC1 := hidden hc1
  have HC5 := hidden hc5
  have HBK := hidden (fun u => back_any v hv.1 9 1 u)
  clear hq hc1 hc5
  obtain ⟨r2, h2⟩ : ∃ r2 : Nat, v.R.getD 2 0 = (r2 : Int) := ⟨(v.R.getD 2 0).toNat, by have := (hv.2.1 2 (by omega)).1; omega⟩
  obtain ⟨r4, h4⟩ : ∃ r4 : Nat, v.R.getD 4 0 = (r4 : Int) := ⟨(v.R.getD 4 0).toNat, by have := (hv.2.1 4 (by omega)).1; omega⟩
  obtain ⟨r5, h5⟩ : ∃ r5 : Nat, v.R.getD 5 0 = (r5 : Int) := ⟨(v.R.getD 5 0).toNat, by have := (hv.2.1 5 (by omega)).1; omega⟩
  obtain ⟨r6, h6⟩ : ∃ r6 : Nat, v.R.getD 6 0 = (r6 : Int) := ⟨(v.R.getD 6 0).toNat, by have := (hv.2.1 6 (by omega)).1; omega⟩
  have l5 : r5 < 4294967296 := by have := (hv.2.1 5 (by omega)).2; omega
  have l6 : r6 < 4294967296 := by have := (hv.2.1 6 (by omega)).2; omega
  have H2 := hidden h2
  have H4 := hidden h4
  have H5 := hidden h5
  have H6 := hidden h6
  rw [h4] at hfd
  have f4 : ((r4 : Int) != 0) = true := bne_iff_ne.2 (by omega)
  have g4 : ((r4 : Int) == 0) = false := beq_eq_false_iff_ne.2 (by omega)
  have hi4 : ∀ u, (Instr.indexAt 24 (.pointer (some ⟨n, 0, none⟩)) (.int .i64 4)).run Try.prog u = .ok (.pointer (some ⟨n, 4, none⟩)) u := fun u => index_reg n 4 (by omega) u
  have hi5 : ∀ u, (Instr.indexAt 24 (.pointer (some ⟨n, 0, none⟩)) (.int .i64 5)).run Try.prog u = .ok (.pointer (some ⟨n, 5, none⟩)) u := fun u => index_reg n 5 (by omega) u
  have hi6 : ∀ u, (Instr.indexAt 24 (.pointer (some ⟨n, 0, none⟩)) (.int .i64 6)).run Try.prog u = .ok (.pointer (some ⟨n, 6, none⟩)) u := fun u => index_reg n 6 (by omega) u
  obtain ⟨C, hC⟩ : ∃ C, v.c = C := ⟨_, rfl⟩
  rw [hC]
  have HC := hidden hC
  clear hC hv h2 h4 h5 h6 hfd l5 hM hs
  go_enter Try.func41, Try.ntmps41
  go_upto_region 1 with (first
    | (refine wpList_boxG rfl 26 _ rfl C rfl ?_; rintro w1 k1 s1 b1; rw [hn] at k1 s1 b1 ⊢; have K1 : Hid (Blk w1 n v.c 26) := hidden (by rw [HC.out]; exact k1); have S1 := hidden s1; have B1 := hidden b1; clear k1 s1 b1)
    | (refine wpList_boxG rfl 30 _ rfl CW rfl ?_; rintro w2 k2 s2 b2; rw [S1.out] at k2 s2 b2 ⊢; have K2 := hidden k2; have S2 : Hid (w2.heap.size = q) := hidden (by rw [s2]; exact HQ.out); have B2 := hidden b2; clear k2 s2 b2)
    | (refine wpList_allocV rfl rfl ?_; rintro w3 k3 s3 b3; rw [S2.out] at k3 s3 b3 ⊢; have K3 := hidden k3; have S3 := hidden s3; have B3 := hidden b3; clear k3 s3 b3)
    | (refine wpList_allocCr rfl rfl ?_; rintro w4 k4 s4 b4; rw [S3.out] at k4 s4 b4 ⊢; have P := hidden (WB.mk4 (F := nought) hn HQ.out K1.out S1.out B1.out K2.out S2.out B2.out K3.out S3.out B3.out k4 b4); clear k4 s4 b4 K1 S1 B1 K2 S2 B2 K3 S3 B3; obtain ⟨c2, c4, c5, c6⟩ := P.out.regs HV.out H2.out H4.out H5.out H6.out))
  go_upto_region 3 with fail
  have KS := hidden P.out.s
  have KW := hidden P.out.c
  have QS := hidden P.out.rs
  have QW := hidden P.out.rw
  have PQ := P.out.hq
  have hW5 := HC5.out
  refine wp_region_on (later_rf [(q, Obj.cells (SV.c (ansV v 9 1)) 26 (0, 0)), (q + 1, Obj.cells (CW) 30 (0, 0))]) [19, 20, 21, 1003, 1004] 5 (phiRb n q v CW 9 1) (by kernel_rfl) (by kernel_rfl) rfl rfl (phiRb_mono n q v CW 9 1) ?_ ?_
  · intro j hj xs w3 hxs hR hpre
    obtain ⟨x0, x1, x2, x3, x4, rfl⟩ := lstRb xs hxs
    have hS : Blk w3 (n) (SV.c v) 26 := hR.blk KS.out (rf2_no (by omega) (by omega))
    have hW : Blk w3 (n + 1) CW 30 := hR.blk KW.out (rf2_no (by omega) (by omega))
    have hA := hR.some ⟨_, SV.size (s := SV.zero) rfl, QS.out⟩ (rf2_s1 (SV.size (ansV_len HV.out 9 1)))
    have hB := hR.some (n := 5) ⟨_, (show zCw.size = 5 from rfl), QW.out⟩ (rf2_s2 hW5)
    rcases (show j = 0 ∨ j = 1 ∨ j = 2 ∨ j = 3 ∨ j = 4 by omega) with rfl | rfl | rfl | rfl | rfl
    · exact wpOp_run (.agg (SV.c v)) rfl (by kernel_rfl) (exec_load 26 rfl (by kernel_rfl) w3 (loadSt hS HV.out)) ⟨_, by kernel_rfl, rfl, (later_rf _).refl _⟩
    · have e0 : x0 = .agg (SV.c v) := hpre 0 (by kernel_rfl)
      subst e0
      refine wpOp_callR (R := fun u w4 => u = .agg (SV.c (ansV v 9 1)) ∧ Below w3.heap.size w3 w4) 43 #[.agg (SV.c v), .int .u32 9, .int .u32 1] rfl (by kernel_rfl) (by kernel_rfl) ((HBK.out w3).mono fun e w4 h => ⟨_, h.1, rfl, h.2⟩) ?_
      rintro _ w4 ⟨rfl, hb⟩
      exact ⟨_, by kernel_rfl, rfl, RF.of_below hb⟩
    · exact wpOp_run (.agg CW) rfl (by kernel_rfl) (exec_load 30 rfl (by kernel_rfl) w3 (loadCrR hW hW5)) ⟨_, by kernel_rfl, rfl, (later_rf _).refl _⟩
    · have e1 : x1 = .agg (SV.c (ansV v 9 1)) := hpre 1 (by kernel_rfl)
      subst e1
      obtain ⟨old, hs1, hs2⟩ := hA
      exact wpOp_put rfl (by kernel_rfl) (exec_storeG (g := q) (cs := SV.c (ansV v 9 1)) (old := old) rfl (by kernel_rfl) (by kernel_rfl) w3 hs2 (by rw [SV.size (ansV_len HV.out 9 1)]; exact sizeSV) (by rw [hs1, SV.size (ansV_len HV.out 9 1)]) (SV.one _)) ⟨.bool true, by kernel_rfl, ⟨rfl, setRow_heap w3 (q) old _ 26 (0, 0) hs2⟩, RF.of_only (only_rowV w3 (q) _) (setRow_heap w3 (q) old _ 26 (0, 0) hs2) rf2_m1⟩
    · have e2 : x2 = .agg CW := hpre 2 (by kernel_rfl)
      subst e2
      obtain ⟨old, hs1, hs2⟩ := hB
      exact wpOp_put rfl (by kernel_rfl) (exec_storeG (g := q + 1) (cs := CW) (old := old) rfl (by kernel_rfl) (by kernel_rfl) w3 hs2 (by rw [hW5]; exact sizeCr) (by rw [hs1, hW5]) HC1.out) ⟨.bool true, by kernel_rfl, ⟨rfl, setRow_heap w3 (q + 1) old _ 30 (0, 0) hs2⟩, RF.of_only (only_rowV w3 (q + 1) _) (setRow_heap w3 (q + 1) old _ 30 (0, 0) hs2) rf2_m2⟩
  · intro xs w3 hxs hR hall
    obtain ⟨x0, x1, x2, x3, x4, rfl⟩ := lstRb xs hxs
    obtain ⟨_, kA⟩ : x3 = .bool true ∧ Blk w3 (q) (SV.c (ansV v 9 1)) 26 := hall 3 (by omega)
    obtain ⟨_, kB⟩ : x4 = .bool true ∧ Blk w3 (q + 1) (CW) 30 := hall 4 (by omega)
    have RA := hidden kA
    have RB := hidden kB
    have HRF := hidden hR
    have KP := hidden (P.out.both HRF.out)
    clear hR hall hxs kA kB HRF P KS KW QS QW
    simp only [slotsOn, putAll]
    go_wp2
    refine bodyPost_ret (results_cc rfl _ _ q (q + 1) _ _ (by kernel_rfl) (by kernel_rfl) (loadSt RA.out (ansV_len HV.out 9 1)) (loadCrR RB.out HC5.out)) rfl ⟨by first | rfl | (rw [← HC.out]; rfl), KP.out.below (Nat.le_refl _) fun _ hb => hb.elim⟩
set_option maxRecDepth 20000 in
set_option maxHeartbeats 2000000 in
theorem rread_big (w : World) (s : MS) (t : S5) (hM : M5 w t) (hs : Sim s t.l) (v : SV) (hv : v.ok) (CW : Array Value) (hc1 : CW.all (·.oneCell') = true) (hc5 : CW.size = 5) (hfd : v.R.getD 4 0 = 0) (hbig : 16384 < v.R.getD 6 0) : Calls Try.prog 41 #[.pointer (some ⟨t.m, 0, none⟩), .agg v.c, .agg CW] w fun x w' => x = .returned (.tuple #[.agg (ansV v 22 1).c, .agg CW]) ∧ Below w.heap.size w w' := by
  obtain ⟨n, hn⟩ : ∃ n, w.heap.size = n := ⟨_, rfl⟩
  obtain ⟨q, hq⟩ : ∃ q, n + 1 + 1 = q := ⟨_, rfl⟩
  have HV := hidden hv.1
  have HQ := hidden hq
  have HC1 := hidden hc1
  have HC5 := hidden hc5
  have HBK := hidden (fun u => back_any v hv.1 22 1 u)
  clear hq hc1 hc5
  obtain ⟨r2, h2⟩ : ∃ r2 : Nat, v.R.getD 2 0 = (r2 : Int) := ⟨(v.R.getD 2 0).toNat, by have := (hv.2.1 2 (by omega)).1; omega⟩
  obtain ⟨r4, h4⟩ : ∃ r4 : Nat, v.R.getD 4 0 = (r4 : Int) := ⟨(v.R.getD 4 0).toNat, by have := (hv.2.1 4 (by omega)).1; omega⟩
  obtain ⟨r5, h5⟩ : ∃ r5 : Nat, v.R.getD 5 0 = (r5 : Int) := ⟨(v.R.getD 5 0).toNat, by have := (hv.2.1 5 (by omega)).1; omega⟩
  obtain ⟨r6, h6⟩ : ∃ r6 : Nat, v.R.getD 6 0 = (r6 : Int) := ⟨(v.R.getD 6 0).toNat, by have := (hv.2.1 6 (by omega)).1; omega⟩
  have l5 : r5 < 4294967296 := by have := (hv.2.1 5 (by omega)).2; omega
  have l6 : r6 < 4294967296 := by have := (hv.2.1 6 (by omega)).2; omega
  have H2 := hidden h2
  have H4 := hidden h4
  have H5 := hidden h5
  have H6 := hidden h6
  rw [h4] at hfd
  have f4 : ((r4 : Int) != 0) = false := by rw [bne_eq_false_iff_eq]; omega
  have g4 : ((r4 : Int) == 0) = true := beq_iff_eq.2 (by omega)
  rw [h6] at hbig
  have hi4 : ∀ u, (Instr.indexAt 24 (.pointer (some ⟨n, 0, none⟩)) (.int .i64 4)).run Try.prog u = .ok (.pointer (some ⟨n, 4, none⟩)) u := fun u => index_reg n 4 (by omega) u
  have hi5 : ∀ u, (Instr.indexAt 24 (.pointer (some ⟨n, 0, none⟩)) (.int .i64 5)).run Try.prog u = .ok (.pointer (some ⟨n, 5, none⟩)) u := fun u => index_reg n 5 (by omega) u
  have hi6 : ∀ u, (Instr.indexAt 24 (.pointer (some ⟨n, 0, none⟩)) (.int .i64 6)).run Try.prog u = .ok (.pointer (some ⟨n, 6, none⟩)) u := fun u => index_reg n 6 (by omega) u
  obtain ⟨C, hC⟩ : ∃ C, v.c = C := ⟨_, rfl⟩
  rw [hC]
  have HC := hidden hC
  clear hC hv h2 h4 h5 h6 hfd l5 hM hs
  go_enter Try.func41, Try.ntmps41
  go_upto_region 1 with (first
    | (refine wpList_boxG rfl 26 _ rfl C rfl ?_; rintro w1 k1 s1 b1; rw [hn] at k1 s1 b1 ⊢; have K1 : Hid (Blk w1 n v.c 26) := hidden (by rw [HC.out]; exact k1); have S1 := hidden s1; have B1 := hidden b1; clear k1 s1 b1)
    | (refine wpList_boxG rfl 30 _ rfl CW rfl ?_; rintro w2 k2 s2 b2; rw [S1.out] at k2 s2 b2 ⊢; have K2 := hidden k2; have S2 : Hid (w2.heap.size = q) := hidden (by rw [s2]; exact HQ.out); have B2 := hidden b2; clear k2 s2 b2)
    | (refine wpList_allocV rfl rfl ?_; rintro w3 k3 s3 b3; rw [S2.out] at k3 s3 b3 ⊢; have K3 := hidden k3; have S3 := hidden s3; have B3 := hidden b3; clear k3 s3 b3)
    | (refine wpList_allocCr rfl rfl ?_; rintro w4 k4 s4 b4; rw [S3.out] at k4 s4 b4 ⊢; have P := hidden (WB.mk4 (F := nought) hn HQ.out K1.out S1.out B1.out K2.out S2.out B2.out K3.out S3.out B3.out k4 b4); clear k4 s4 b4 K1 S1 B1 K2 S2 B2 K3 S3 B3; obtain ⟨c2, c4, c5, c6⟩ := P.out.regs HV.out H2.out H4.out H5.out H6.out))
  go_upto_region 5 with fail
  have KS := hidden P.out.s
  have KW := hidden P.out.c
  have QS := hidden P.out.rs
  have QW := hidden P.out.rw
  have PQ := P.out.hq
  have hW5 := HC5.out
  refine wp_region_on (later_rf [(q, Obj.cells (SV.c (ansV v 22 1)) 26 (0, 0)), (q + 1, Obj.cells (CW) 30 (0, 0))]) [25, 26, 27, 1003, 1004] 5 (phiRb n q v CW 22 1) (by kernel_rfl) (by kernel_rfl) rfl rfl (phiRb_mono n q v CW 22 1) ?_ ?_
  · intro j hj xs w3 hxs hR hpre
    obtain ⟨x0, x1, x2, x3, x4, rfl⟩ := lstRb xs hxs
    have hS : Blk w3 (n) (SV.c v) 26 := hR.blk KS.out (rf2_no (by omega) (by omega))
    have hW : Blk w3 (n + 1) CW 30 := hR.blk KW.out (rf2_no (by omega) (by omega))
    have hA := hR.some ⟨_, SV.size (s := SV.zero) rfl, QS.out⟩ (rf2_s1 (SV.size (ansV_len HV.out 22 1)))
    have hB := hR.some (n := 5) ⟨_, (show zCw.size = 5 from rfl), QW.out⟩ (rf2_s2 hW5)
    rcases (show j = 0 ∨ j = 1 ∨ j = 2 ∨ j = 3 ∨ j = 4 by omega) with rfl | rfl | rfl | rfl | rfl
    · exact wpOp_run (.agg (SV.c v)) rfl (by kernel_rfl) (exec_load 26 rfl (by kernel_rfl) w3 (loadSt hS HV.out)) ⟨_, by kernel_rfl, rfl, (later_rf _).refl _⟩
    · have e0 : x0 = .agg (SV.c v) := hpre 0 (by kernel_rfl)
      subst e0
      refine wpOp_callR (R := fun u w4 => u = .agg (SV.c (ansV v 22 1)) ∧ Below w3.heap.size w3 w4) 43 #[.agg (SV.c v), .int .u32 22, .int .u32 1] rfl (by kernel_rfl) (by kernel_rfl) ((HBK.out w3).mono fun e w4 h => ⟨_, h.1, rfl, h.2⟩) ?_
      rintro _ w4 ⟨rfl, hb⟩
      exact ⟨_, by kernel_rfl, rfl, RF.of_below hb⟩
    · exact wpOp_run (.agg CW) rfl (by kernel_rfl) (exec_load 30 rfl (by kernel_rfl) w3 (loadCrR hW hW5)) ⟨_, by kernel_rfl, rfl, (later_rf _).refl _⟩
    · have e1 : x1 = .agg (SV.c (ansV v 22 1)) := hpre 1 (by kernel_rfl)
      subst e1
      obtain ⟨old, hs1, hs2⟩ := hA
      exact wpOp_put rfl (by kernel_rfl) (exec_storeG (g := q) (cs := SV.c (ansV v 22 1)) (old := old) rfl (by kernel_rfl) (by kernel_rfl) w3 hs2 (by rw [SV.size (ansV_len HV.out 22 1)]; exact sizeSV) (by rw [hs1, SV.size (ansV_len HV.out 22 1)]) (SV.one _)) ⟨.bool true, by kernel_rfl, ⟨rfl, setRow_heap w3 (q) old _ 26 (0, 0) hs2⟩, RF.of_only (only_rowV w3 (q) _) (setRow_heap w3 (q) old _ 26 (0, 0) hs2) rf2_m1⟩
    · have e2 : x2 = .agg CW := hpre 2 (by kernel_rfl)
      subst e2
      obtain ⟨old, hs1, hs2⟩ := hB
      exact wpOp_put rfl (by kernel_rfl) (exec_storeG (g := q + 1) (cs := CW) (old := old) rfl (by kernel_rfl) (by kernel_rfl) w3 hs2 (by rw [hW5]; exact sizeCr) (by rw [hs1, hW5]) HC1.out) ⟨.bool true, by kernel_rfl, ⟨rfl, setRow_heap w3 (q + 1) old _ 30 (0, 0) hs2⟩, RF.of_only (only_rowV w3 (q + 1) _) (setRow_heap w3 (q + 1) old _ 30 (0, 0) hs2) rf2_m2⟩
  · intro xs w3 hxs hR hall
    obtain ⟨x0, x1, x2, x3, x4, rfl⟩ := lstRb xs hxs
    obtain ⟨_, kA⟩ : x3 = .bool true ∧ Blk w3 (q) (SV.c (ansV v 22 1)) 26 := hall 3 (by omega)
    obtain ⟨_, kB⟩ : x4 = .bool true ∧ Blk w3 (q + 1) (CW) 30 := hall 4 (by omega)
    have RA := hidden kA
    have RB := hidden kB
    have HRF := hidden hR
    have KP := hidden (P.out.both HRF.out)
    clear hR hall hxs kA kB HRF P KS KW QS QW
    simp only [slotsOn, putAll]
    go_wp2
    refine bodyPost_ret (results_cc rfl _ _ q (q + 1) _ _ (by kernel_rfl) (by kernel_rfl) (loadSt RA.out (ansV_len HV.out 22 1)) (loadCrR RB.out HC5.out)) rfl ⟨by first | rfl | (rw [← HC.out]; rfl), KP.out.below (Nat.le_refl _) fun _ hb => hb.elim⟩
set_option maxRecDepth 20000 in
set_option maxHeartbeats 2000000 in
theorem rread_no (w : World) (s : MS) (t : S5) (hM : M5 w t) (hs : Sim s t.l) (v : SV) (hv : v.ok) (CW : Array Value) (hc1 : CW.all (·.oneCell') = true) (hc5 : CW.size = 5) (hfd : v.R.getD 4 0 = 0) (hbig : ¬ 16384 < v.R.getD 6 0) (hmay : mayB s (v.R.getD 5 0).toNat (v.R.getD 6 0).toNat 2 = false) : Calls Try.prog 41 #[.pointer (some ⟨t.m, 0, none⟩), .agg v.c, .agg CW] w fun x w' => x = .returned (.tuple #[.agg (ansV v 14 1).c, .agg CW]) ∧ Below w.heap.size w w' := by
  obtain ⟨n, hn⟩ : ∃ n, w.heap.size = n := ⟨_, rfl⟩
  obtain ⟨q, hq⟩ : ∃ q, n + 1 + 1 = q := ⟨_, rfl⟩
  have HV := hidden hv.1
  have HQ := hidden hq
  have HC1 := hidden hc1
  have HC5 := hidden hc5
  have HBK := hidden (fun u => back_any v hv.1 14 1 u)
  clear hq hc1 hc5
  obtain ⟨r2, h2⟩ : ∃ r2 : Nat, v.R.getD 2 0 = (r2 : Int) := ⟨(v.R.getD 2 0).toNat, by have := (hv.2.1 2 (by omega)).1; omega⟩
  obtain ⟨r4, h4⟩ : ∃ r4 : Nat, v.R.getD 4 0 = (r4 : Int) := ⟨(v.R.getD 4 0).toNat, by have := (hv.2.1 4 (by omega)).1; omega⟩
  obtain ⟨r5, h5⟩ : ∃ r5 : Nat, v.R.getD 5 0 = (r5 : Int) := ⟨(v.R.getD 5 0).toNat, by have := (hv.2.1 5 (by omega)).1; omega⟩
  obtain ⟨r6, h6⟩ : ∃ r6 : Nat, v.R.getD 6 0 = (r6 : Int) := ⟨(v.R.getD 6 0).toNat, by have := (hv.2.1 6 (by omega)).1; omega⟩
  have l5 : r5 < 4294967296 := by have := (hv.2.1 5 (by omega)).2; omega
  have l6 : r6 < 4294967296 := by have := (hv.2.1 6 (by omega)).2; omega
  have H2 := hidden h2
  have H4 := hidden h4
  have H5 := hidden h5
  have H6 := hidden h6
  rw [h4] at hfd
  have f4 : ((r4 : Int) != 0) = false := by rw [bne_eq_false_iff_eq]; omega
  have g4 : ((r4 : Int) == 0) = true := beq_iff_eq.2 (by omega)
  rw [h6] at hbig
  rw [h5, h6, Int.toNat_natCast, Int.toNat_natCast] at hmay
  have HTH : Hid (∀ u, Below w.heap.size w u → Calls Try.prog 68 #[.pointer (some ⟨t.m, 0, none⟩), .int .u32 (r5 : Int), .int .i64 (r6 : Int), .int .i64 2] u fun e w' => e = .returned (.bool (mayB s r5 r6 2)) ∧ ∃ k, w' = u.drewN k) := hidden (fun u hu => there_any u s t r5 r6 2 (hM.later hu) hs l5 (by omega))
  rw [hmay] at HTH
  have hi4 : ∀ u, (Instr.indexAt 24 (.pointer (some ⟨n, 0, none⟩)) (.int .i64 4)).run Try.prog u = .ok (.pointer (some ⟨n, 4, none⟩)) u := fun u => index_reg n 4 (by omega) u
  have hi5 : ∀ u, (Instr.indexAt 24 (.pointer (some ⟨n, 0, none⟩)) (.int .i64 5)).run Try.prog u = .ok (.pointer (some ⟨n, 5, none⟩)) u := fun u => index_reg n 5 (by omega) u
  have hi6 : ∀ u, (Instr.indexAt 24 (.pointer (some ⟨n, 0, none⟩)) (.int .i64 6)).run Try.prog u = .ok (.pointer (some ⟨n, 6, none⟩)) u := fun u => index_reg n 6 (by omega) u
  obtain ⟨C, hC⟩ : ∃ C, v.c = C := ⟨_, rfl⟩
  rw [hC]
  have HC := hidden hC
  clear hC hv h2 h4 h5 h6 hfd l5 hM hs hmay
  go_enter Try.func41, Try.ntmps41
  go_upto_region 1 with (first
    | (refine wpList_boxG rfl 26 _ rfl C rfl ?_; rintro w1 k1 s1 b1; rw [hn] at k1 s1 b1 ⊢; have K1 : Hid (Blk w1 n v.c 26) := hidden (by rw [HC.out]; exact k1); have S1 := hidden s1; have B1 := hidden b1; clear k1 s1 b1)
    | (refine wpList_boxG rfl 30 _ rfl CW rfl ?_; rintro w2 k2 s2 b2; rw [S1.out] at k2 s2 b2 ⊢; have K2 := hidden k2; have S2 : Hid (w2.heap.size = q) := hidden (by rw [s2]; exact HQ.out); have B2 := hidden b2; clear k2 s2 b2)
    | (refine wpList_allocV rfl rfl ?_; rintro w3 k3 s3 b3; rw [S2.out] at k3 s3 b3 ⊢; have K3 := hidden k3; have S3 := hidden s3; have B3 := hidden b3; clear k3 s3 b3)
    | (refine wpList_allocCr rfl rfl ?_; rintro w4 k4 s4 b4; rw [S3.out] at k4 s4 b4 ⊢; have P := hidden (WB.mk4 (F := nought) hn HQ.out K1.out S1.out B1.out K2.out S2.out B2.out K3.out S3.out B3.out k4 b4); clear k4 s4 b4 K1 S1 B1 K2 S2 B2 K3 S3 B3; obtain ⟨c2, c4, c5, c6⟩ := P.out.regs HV.out H2.out H4.out H5.out H6.out))
  go_upto_region 7 with (go_at_call 68; refine (HTH.out _ P.out.bel).mono ?_; rintro x w5 ⟨rfl, k5, rfl⟩; clear c2 c4 c5 c6; have Q := hidden (P.out.later (below_drewN (Below.refl _ _) k5)); clear P; have P := Q; clear Q; obtain ⟨c2, c4, c5, c6⟩ := P.out.regs HV.out H2.out H4.out H5.out H6.out)
  have KS := hidden P.out.s
  have KW := hidden P.out.c
  have QS := hidden P.out.rs
  have QW := hidden P.out.rw
  have PQ := P.out.hq
  have hW5 := HC5.out
  refine wp_region_on (later_rf [(q, Obj.cells (SV.c (ansV v 14 1)) 26 (0, 0)), (q + 1, Obj.cells (CW) 30 (0, 0))]) [36, 37, 38, 1003, 1004] 5 (phiRb n q v CW 14 1) (by kernel_rfl) (by kernel_rfl) rfl rfl (phiRb_mono n q v CW 14 1) ?_ ?_
  · intro j hj xs w3 hxs hR hpre
    obtain ⟨x0, x1, x2, x3, x4, rfl⟩ := lstRb xs hxs
    have hS : Blk w3 (n) (SV.c v) 26 := hR.blk KS.out (rf2_no (by omega) (by omega))
    have hW : Blk w3 (n + 1) CW 30 := hR.blk KW.out (rf2_no (by omega) (by omega))
    have hA := hR.some ⟨_, SV.size (s := SV.zero) rfl, QS.out⟩ (rf2_s1 (SV.size (ansV_len HV.out 14 1)))
    have hB := hR.some (n := 5) ⟨_, (show zCw.size = 5 from rfl), QW.out⟩ (rf2_s2 hW5)
    rcases (show j = 0 ∨ j = 1 ∨ j = 2 ∨ j = 3 ∨ j = 4 by omega) with rfl | rfl | rfl | rfl | rfl
    · exact wpOp_run (.agg (SV.c v)) rfl (by kernel_rfl) (exec_load 26 rfl (by kernel_rfl) w3 (loadSt hS HV.out)) ⟨_, by kernel_rfl, rfl, (later_rf _).refl _⟩
    · have e0 : x0 = .agg (SV.c v) := hpre 0 (by kernel_rfl)
      subst e0
      refine wpOp_callR (R := fun u w4 => u = .agg (SV.c (ansV v 14 1)) ∧ Below w3.heap.size w3 w4) 43 #[.agg (SV.c v), .int .u32 14, .int .u32 1] rfl (by kernel_rfl) (by kernel_rfl) ((HBK.out w3).mono fun e w4 h => ⟨_, h.1, rfl, h.2⟩) ?_
      rintro _ w4 ⟨rfl, hb⟩
      exact ⟨_, by kernel_rfl, rfl, RF.of_below hb⟩
    · exact wpOp_run (.agg CW) rfl (by kernel_rfl) (exec_load 30 rfl (by kernel_rfl) w3 (loadCrR hW hW5)) ⟨_, by kernel_rfl, rfl, (later_rf _).refl _⟩
    · have e1 : x1 = .agg (SV.c (ansV v 14 1)) := hpre 1 (by kernel_rfl)
      subst e1
      obtain ⟨old, hs1, hs2⟩ := hA
      exact wpOp_put rfl (by kernel_rfl) (exec_storeG (g := q) (cs := SV.c (ansV v 14 1)) (old := old) rfl (by kernel_rfl) (by kernel_rfl) w3 hs2 (by rw [SV.size (ansV_len HV.out 14 1)]; exact sizeSV) (by rw [hs1, SV.size (ansV_len HV.out 14 1)]) (SV.one _)) ⟨.bool true, by kernel_rfl, ⟨rfl, setRow_heap w3 (q) old _ 26 (0, 0) hs2⟩, RF.of_only (only_rowV w3 (q) _) (setRow_heap w3 (q) old _ 26 (0, 0) hs2) rf2_m1⟩
    · have e2 : x2 = .agg CW := hpre 2 (by kernel_rfl)
      subst e2
      obtain ⟨old, hs1, hs2⟩ := hB
      exact wpOp_put rfl (by kernel_rfl) (exec_storeG (g := q + 1) (cs := CW) (old := old) rfl (by kernel_rfl) (by kernel_rfl) w3 hs2 (by rw [hW5]; exact sizeCr) (by rw [hs1, hW5]) HC1.out) ⟨.bool true, by kernel_rfl, ⟨rfl, setRow_heap w3 (q + 1) old _ 30 (0, 0) hs2⟩, RF.of_only (only_rowV w3 (q + 1) _) (setRow_heap w3 (q + 1) old _ 30 (0, 0) hs2) rf2_m2⟩
  · intro xs w3 hxs hR hall
    obtain ⟨x0, x1, x2, x3, x4, rfl⟩ := lstRb xs hxs
    obtain ⟨_, kA⟩ : x3 = .bool true ∧ Blk w3 (q) (SV.c (ansV v 14 1)) 26 := hall 3 (by omega)
    obtain ⟨_, kB⟩ : x4 = .bool true ∧ Blk w3 (q + 1) (CW) 30 := hall 4 (by omega)
    have RA := hidden kA
    have RB := hidden kB
    have HRF := hidden hR
    have KP := hidden (P.out.both HRF.out)
    clear hR hall hxs kA kB HRF P KS KW QS QW
    simp only [slotsOn, putAll]
    go_wp2
    refine bodyPost_ret (results_cc rfl _ _ q (q + 1) _ _ (by kernel_rfl) (by kernel_rfl) (loadSt RA.out (ansV_len HV.out 14 1)) (loadCrR RB.out HC5.out)) rfl ⟨by first | rfl | (rw [← HC.out]; rfl), KP.out.below (Nat.le_refl _) fun _ hb => hb.elim⟩
set_option maxRecDepth 20000 in
set_option maxHeartbeats 2000000 in
theorem rread_nil (w : World) (s : MS) (t : S5) (hM : M5 w t) (hs : Sim s t.l) (v : SV) (hv : v.ok) (CW : Array Value) (hc1 : CW.all (·.oneCell') = true) (hc5 : CW.size = 5) (hfd : v.R.getD 4 0 = 0) (hbig : ¬ 16384 < v.R.getD 6 0) (hmay : mayB s (v.R.getD 5 0).toNat (v.R.getD 6 0).toNat 2 = true) (h60 : v.R.getD 6 0 = 0) : Calls Try.prog 41 #[.pointer (some ⟨t.m, 0, none⟩), .agg v.c, .agg CW] w fun x w' => x = .returned (.tuple #[.agg (ansV v 0 0).c, .agg CW]) ∧ Below w.heap.size w w' := by
  obtain ⟨n, hn⟩ : ∃ n, w.heap.size = n := ⟨_, rfl⟩
  obtain ⟨q, hq⟩ : ∃ q, n + 1 + 1 = q := ⟨_, rfl⟩
  have HV := hidden hv.1
  have HQ := hidden hq
  have HC1 := hidden hc1
  have HC5 := hidden hc5
  have HBK := hidden (fun u => back_any v hv.1 0 0 u)
  clear hq hc1 hc5
  obtain ⟨r2, h2⟩ : ∃ r2 : Nat, v.R.getD 2 0 = (r2 : Int) := ⟨(v.R.getD 2 0).toNat, by have := (hv.2.1 2 (by omega)).1; omega⟩
  obtain ⟨r4, h4⟩ : ∃ r4 : Nat, v.R.getD 4 0 = (r4 : Int) := ⟨(v.R.getD 4 0).toNat, by have := (hv.2.1 4 (by omega)).1; omega⟩
  obtain ⟨r5, h5⟩ : ∃ r5 : Nat, v.R.getD 5 0 = (r5 : Int) := ⟨(v.R.getD 5 0).toNat, by have := (hv.2.1 5 (by omega)).1; omega⟩
  obtain ⟨r6, h6⟩ : ∃ r6 : Nat, v.R.getD 6 0 = (r6 : Int) := ⟨(v.R.getD 6 0).toNat, by have := (hv.2.1 6 (by omega)).1; omega⟩
  have l5 : r5 < 4294967296 := by have := (hv.2.1 5 (by omega)).2; omega
  have l6 : r6 < 4294967296 := by have := (hv.2.1 6 (by omega)).2; omega
  have H2 := hidden h2
  have H4 := hidden h4
  have H5 := hidden h5
  have H6 := hidden h6
  rw [h4] at hfd
  have f4 : ((r4 : Int) != 0) = false := by rw [bne_eq_false_iff_eq]; omega
  have g4 : ((r4 : Int) == 0) = true := beq_iff_eq.2 (by omega)
  rw [h6] at hbig
  rw [h5, h6, Int.toNat_natCast, Int.toNat_natCast] at hmay
  have HTH : Hid (∀ u, Below w.heap.size w u → Calls Try.prog 68 #[.pointer (some ⟨t.m, 0, none⟩), .int .u32 (r5 : Int), .int .i64 (r6 : Int), .int .i64 2] u fun e w' => e = .returned (.bool (mayB s r5 r6 2)) ∧ ∃ k, w' = u.drewN k) := hidden (fun u hu => there_any u s t r5 r6 2 (hM.later hu) hs l5 (by omega))
  rw [hmay] at HTH
  rw [h6] at h60
  have f6 : ((r6 : Int) == 0) = true := beq_iff_eq.2 h60
  have hi4 : ∀ u, (Instr.indexAt 24 (.pointer (some ⟨n, 0, none⟩)) (.int .i64 4)).run Try.prog u = .ok (.pointer (some ⟨n, 4, none⟩)) u := fun u => index_reg n 4 (by omega) u
  have hi5 : ∀ u, (Instr.indexAt 24 (.pointer (some ⟨n, 0, none⟩)) (.int .i64 5)).run Try.prog u = .ok (.pointer (some ⟨n, 5, none⟩)) u := fun u => index_reg n 5 (by omega) u
  have hi6 : ∀ u, (Instr.indexAt 24 (.pointer (some ⟨n, 0, none⟩)) (.int .i64 6)).run Try.prog u = .ok (.pointer (some ⟨n, 6, none⟩)) u := fun u => index_reg n 6 (by omega) u
  obtain ⟨C, hC⟩ : ∃ C, v.c = C := ⟨_, rfl⟩
  rw [hC]
  have HC := hidden hC
  clear hC hv h2 h4 h5 h6 hfd l5 hM hs hmay h60
  go_enter Try.func41, Try.ntmps41
  go_upto_region 1 with (first
    | (refine wpList_boxG rfl 26 _ rfl C rfl ?_; rintro w1 k1 s1 b1; rw [hn] at k1 s1 b1 ⊢; have K1 : Hid (Blk w1 n v.c 26) := hidden (by rw [HC.out]; exact k1); have S1 := hidden s1; have B1 := hidden b1; clear k1 s1 b1)
    | (refine wpList_boxG rfl 30 _ rfl CW rfl ?_; rintro w2 k2 s2 b2; rw [S1.out] at k2 s2 b2 ⊢; have K2 := hidden k2; have S2 : Hid (w2.heap.size = q) := hidden (by rw [s2]; exact HQ.out); have B2 := hidden b2; clear k2 s2 b2)
    | (refine wpList_allocV rfl rfl ?_; rintro w3 k3 s3 b3; rw [S2.out] at k3 s3 b3 ⊢; have K3 := hidden k3; have S3 := hidden s3; have B3 := hidden b3; clear k3 s3 b3)
    | (refine wpList_allocCr rfl rfl ?_; rintro w4 k4 s4 b4; rw [S3.out] at k4 s4 b4 ⊢; have P := hidden (WB.mk4 (F := nought) hn HQ.out K1.out S1.out B1.out K2.out S2.out B2.out K3.out S3.out B3.out k4 b4); clear k4 s4 b4 K1 S1 B1 K2 S2 B2 K3 S3 B3; obtain ⟨c2, c4, c5, c6⟩ := P.out.regs HV.out H2.out H4.out H5.out H6.out))
  go_upto_region 9 with (go_at_call 68; refine (HTH.out _ P.out.bel).mono ?_; rintro x w5 ⟨rfl, k5, rfl⟩; clear c2 c4 c5 c6; have Q := hidden (P.out.later (below_drewN (Below.refl _ _) k5)); clear P; have P := Q; clear Q; obtain ⟨c2, c4, c5, c6⟩ := P.out.regs HV.out H2.out H4.out H5.out H6.out)
  have KS := hidden P.out.s
  have KW := hidden P.out.c
  have QS := hidden P.out.rs
  have QW := hidden P.out.rw
  have PQ := P.out.hq
  have hW5 := HC5.out
  refine wp_region_on (later_rf [(q, Obj.cells (SV.c (ansV v 0 0)) 26 (0, 0)), (q + 1, Obj.cells (CW) 30 (0, 0))]) [42, 43, 44, 1003, 1004] 5 (phiRb n q v CW 0 0) (by kernel_rfl) (by kernel_rfl) rfl rfl (phiRb_mono n q v CW 0 0) ?_ ?_
  · intro j hj xs w3 hxs hR hpre
    obtain ⟨x0, x1, x2, x3, x4, rfl⟩ := lstRb xs hxs
    have hS : Blk w3 (n) (SV.c v) 26 := hR.blk KS.out (rf2_no (by omega) (by omega))
    have hW : Blk w3 (n + 1) CW 30 := hR.blk KW.out (rf2_no (by omega) (by omega))
    have hA := hR.some ⟨_, SV.size (s := SV.zero) rfl, QS.out⟩ (rf2_s1 (SV.size (ansV_len HV.out 0 0)))
    have hB := hR.some (n := 5) ⟨_, (show zCw.size = 5 from rfl), QW.out⟩ (rf2_s2 hW5)
    rcases (show j = 0 ∨ j = 1 ∨ j = 2 ∨ j = 3 ∨ j = 4 by omega) with rfl | rfl | rfl | rfl | rfl
    · exact wpOp_run (.agg (SV.c v)) rfl (by kernel_rfl) (exec_load 26 rfl (by kernel_rfl) w3 (loadSt hS HV.out)) ⟨_, by kernel_rfl, rfl, (later_rf _).refl _⟩
    · have e0 : x0 = .agg (SV.c v) := hpre 0 (by kernel_rfl)
      subst e0
      refine wpOp_callR (R := fun u w4 => u = .agg (SV.c (ansV v 0 0)) ∧ Below w3.heap.size w3 w4) 43 #[.agg (SV.c v), .int .u32 0, .int .u32 0] rfl (by kernel_rfl) (by kernel_rfl) ((HBK.out w3).mono fun e w4 h => ⟨_, h.1, rfl, h.2⟩) ?_
      rintro _ w4 ⟨rfl, hb⟩
      exact ⟨_, by kernel_rfl, rfl, RF.of_below hb⟩
    · exact wpOp_run (.agg CW) rfl (by kernel_rfl) (exec_load 30 rfl (by kernel_rfl) w3 (loadCrR hW hW5)) ⟨_, by kernel_rfl, rfl, (later_rf _).refl _⟩
    · have e1 : x1 = .agg (SV.c (ansV v 0 0)) := hpre 1 (by kernel_rfl)
      subst e1
      obtain ⟨old, hs1, hs2⟩ := hA
      exact wpOp_put rfl (by kernel_rfl) (exec_storeG (g := q) (cs := SV.c (ansV v 0 0)) (old := old) rfl (by kernel_rfl) (by kernel_rfl) w3 hs2 (by rw [SV.size (ansV_len HV.out 0 0)]; exact sizeSV) (by rw [hs1, SV.size (ansV_len HV.out 0 0)]) (SV.one _)) ⟨.bool true, by kernel_rfl, ⟨rfl, setRow_heap w3 (q) old _ 26 (0, 0) hs2⟩, RF.of_only (only_rowV w3 (q) _) (setRow_heap w3 (q) old _ 26 (0, 0) hs2) rf2_m1⟩
    · have e2 : x2 = .agg CW := hpre 2 (by kernel_rfl)
      subst e2
      obtain ⟨old, hs1, hs2⟩ := hB
      exact wpOp_put rfl (by kernel_rfl) (exec_storeG (g := q + 1) (cs := CW) (old := old) rfl (by kernel_rfl) (by kernel_rfl) w3 hs2 (by rw [hW5]; exact sizeCr) (by rw [hs1, hW5]) HC1.out) ⟨.bool true, by kernel_rfl, ⟨rfl, setRow_heap w3 (q + 1) old _ 30 (0, 0) hs2⟩, RF.of_only (only_rowV w3 (q + 1) _) (setRow_heap w3 (q + 1) old _ 30 (0, 0) hs2) rf2_m2⟩
  · intro xs w3 hxs hR hall
    obtain ⟨x0, x1, x2, x3, x4, rfl⟩ := lstRb xs hxs
    obtain ⟨_, kA⟩ : x3 = .bool true ∧ Blk w3 (q) (SV.c (ansV v 0 0)) 26 := hall 3 (by omega)
    obtain ⟨_, kB⟩ : x4 = .bool true ∧ Blk w3 (q + 1) (CW) 30 := hall 4 (by omega)
    have RA := hidden kA
    have RB := hidden kB
    have HRF := hidden hR
    have KP := hidden (P.out.both HRF.out)
    clear hR hall hxs kA kB HRF P KS KW QS QW
    simp only [slotsOn, putAll]
    go_wp2
    refine bodyPost_ret (results_cc rfl _ _ q (q + 1) _ _ (by kernel_rfl) (by kernel_rfl) (loadSt RA.out (ansV_len HV.out 0 0)) (loadCrR RB.out HC5.out)) rfl ⟨by first | rfl | (rw [← HC.out]; rfl), KP.out.below (Nat.le_refl _) fun _ hb => hb.elim⟩
end Go.Proofs.Ytodoenimlhldjaa
namespace Go.Proofs.Ytodoenimlhldjaa
open Go.ChangeShapes Go.WideShapes Go.ChangeAt Go.RowKit
set_option linter.unusedVariables false
set_option maxRecDepth 20000 in
set_option maxHeartbeats 2000000 in
theorem rwrite_fd (w : World) (s : MS) (t : S5) (hM : M5 w t) (hs : Sim s t.l) (v : SV) (hv : v.ok) (CW : Array Value) (hc1 : CW.all (·.oneCell') = true) (hc5 : CW.size = 5) (hfd : v.R.getD 4 0 ≠ 1 ∧ v.R.getD 4 0 ≠ 2) : Calls Try.prog 42 #[.pointer (some ⟨t.m, 0, none⟩), .agg v.c, .agg CW] w fun x w' => x = .returned (.tuple #[.agg (ansV v 9 1).c, .agg CW]) ∧ Below w.heap.size w w' := by
  obtain ⟨n, hn⟩ : ∃ n, w.heap.size = n := ⟨_, rfl⟩
  obtain ⟨q, hq⟩ : ∃ q, n + 1 + 1 = q := ⟨_, rfl⟩
  have HV := hidden hv.1
  have HQ := hidden hq
  have HC1 := hidden hc1
  have HC5 := hidden hc5
  have HBK := hidden (fun u => back_any v hv.1 9 1 u)
  clear hq hc1 hc5
  obtain ⟨r2, h2⟩ : ∃ r2 : Nat, v.R.getD 2 0 = (r2 : Int) := ⟨(v.R.getD 2 0).toNat, by have := (hv.2.1 2 (by omega)).1; omega⟩
  obtain ⟨r4, h4⟩ : ∃ r4 : Nat, v.R.getD 4 0 = (r4 : Int) := ⟨(v.R.getD 4 0).toNat, by have := (hv.2.1 4 (by omega)).1; omega⟩
  obtain ⟨r5, h5⟩ : ∃ r5 : Nat, v.R.getD 5 0 = (r5 : Int) := ⟨(v.R.getD 5 0).toNat, by have := (hv.2.1 5 (by omega)).1; omega⟩
  obtain ⟨r6, h6⟩ : ∃ r6 : Nat, v.R.getD 6 0 = (r6 : Int) := ⟨(v.R.getD 6 0).toNat, by have := (hv.2.1 6 (by omega)).1; omega⟩
  have l5 : r5 < 4294967296 := by have := (hv.2.1 5 (by omega)).2; omega
  have l6 : r6 < 4294967296 := by have := (hv.2.1 6 (by omega)).2; omega
  have H2 := hidden h2
  have H4 := hidden h4
  have H5 := hidden h5
  have H6 := hidden h6
  rw [h4] at hfd
  have f41 : ((r4 : Int) != 1) = true := bne_iff_ne.2 (by omega)
  have g41 : ((r4 : Int) == 1) = false := beq_eq_false_iff_ne.2 (by omega)
  have f42 : ((r4 : Int) != 2) = true := bne_iff_ne.2 (by omega)
  have g42 : ((r4 : Int) == 2) = false := beq_eq_false_iff_ne.2 (by omega)
  have hi4 : ∀ u, (Instr.indexAt 24 (.pointer (some ⟨n, 0, none⟩)) (.int .i64 4)).run Try.prog u = .ok (.pointer (some ⟨n, 4, none⟩)) u := fun u => index_reg n 4 (by omega) u
  have hi5 : ∀ u, (Instr.indexAt 24 (.pointer (some ⟨n, 0, none⟩)) (.int .i64 5)).run Try.prog u = .ok (.pointer (some ⟨n, 5, none⟩)) u := fun u => index_reg n 5 (by omega) u
  have hi6 : ∀ u, (Instr.indexAt 24 (.pointer (some ⟨n, 0, none⟩)) (.int .i64 6)).run Try.prog u = .ok (.pointer (some ⟨n, 6, none⟩)) u := fun u => index_reg n 6 (by omega) u
  obtain ⟨C, hC⟩ : ∃ C, v.c = C := ⟨_, rfl⟩
  rw [hC]
  have HC := hidden hC
  clear hC hv h2 h4 h5 h6 hfd l5 hM hs
  go_enter Try.func42, Try.ntmps42
  go_upto_region 1 with (first
    | (refine wpList_boxG rfl 26 _ rfl C rfl ?_; rintro w1 k1 s1 b1; rw [hn] at k1 s1 b1 ⊢; have K1 : Hid (Blk w1 n v.c 26) := hidden (by rw [HC.out]; exact k1); have S1 := hidden s1; have B1 := hidden b1; clear k1 s1 b1)
    | (refine wpList_boxG rfl 30 _ rfl CW rfl ?_; rintro w2 k2 s2 b2; rw [S1.out] at k2 s2 b2 ⊢; have K2 := hidden k2; have S2 : Hid (w2.heap.size = q) := hidden (by rw [s2]; exact HQ.out); have B2 := hidden b2; clear k2 s2 b2)
    | (refine wpList_allocV rfl rfl ?_; rintro w3 k3 s3 b3; rw [S2.out] at k3 s3 b3 ⊢; have K3 := hidden k3; have S3 := hidden s3; have B3 := hidden b3; clear k3 s3 b3)
    | (refine wpList_allocCr rfl rfl ?_; rintro w4 k4 s4 b4; rw [S3.out] at k4 s4 b4 ⊢; have P := hidden (WB.mk4 (F := nought) hn HQ.out K1.out S1.out B1.out K2.out S2.out B2.out K3.out S3.out B3.out k4 b4); clear k4 s4 b4 K1 S1 B1 K2 S2 B2 K3 S3 B3; obtain ⟨c2, c4, c5, c6⟩ := P.out.regs HV.out H2.out H4.out H5.out H6.out))
  go_upto_region 3 with fail
  have KS := hidden P.out.s
  have KW := hidden P.out.c
  have QS := hidden P.out.rs
  have QW := hidden P.out.rw
  have PQ := P.out.hq
  have hW5 := HC5.out
  refine wp_region_on (later_rf [(q, Obj.cells (SV.c (ansV v 9 1)) 26 (0, 0)), (q + 1, Obj.cells (CW) 30 (0, 0))]) [24, 25, 26, 1003, 1004] 5 (phiRb n q v CW 9 1) (by kernel_rfl) (by kernel_rfl) rfl rfl (phiRb_mono n q v CW 9 1) ?_ ?_
  · intro j hj xs w3 hxs hR hpre
    obtain ⟨x0, x1, x2, x3, x4, rfl⟩ := lstRb xs hxs
    have hS : Blk w3 (n) (SV.c v) 26 := hR.blk KS.out (rf2_no (by omega) (by omega))
    have hW : Blk w3 (n + 1) CW 30 := hR.blk KW.out (rf2_no (by omega) (by omega))
    have hA := hR.some ⟨_, SV.size (s := SV.zero) rfl, QS.out⟩ (rf2_s1 (SV.size (ansV_len HV.out 9 1)))
    have hB := hR.some (n := 5) ⟨_, (show zCw.size = 5 from rfl), QW.out⟩ (rf2_s2 hW5)
    rcases (show j = 0 ∨ j = 1 ∨ j = 2 ∨ j = 3 ∨ j = 4 by omega) with rfl | rfl | rfl | rfl | rfl
    · exact wpOp_run (.agg (SV.c v)) rfl (by kernel_rfl) (exec_load 26 rfl (by kernel_rfl) w3 (loadSt hS HV.out)) ⟨_, by kernel_rfl, rfl, (later_rf _).refl _⟩
    · have e0 : x0 = .agg (SV.c v) := hpre 0 (by kernel_rfl)
      subst e0
      refine wpOp_callR (R := fun u w4 => u = .agg (SV.c (ansV v 9 1)) ∧ Below w3.heap.size w3 w4) 43 #[.agg (SV.c v), .int .u32 9, .int .u32 1] rfl (by kernel_rfl) (by kernel_rfl) ((HBK.out w3).mono fun e w4 h => ⟨_, h.1, rfl, h.2⟩) ?_
      rintro _ w4 ⟨rfl, hb⟩
      exact ⟨_, by kernel_rfl, rfl, RF.of_below hb⟩
    · exact wpOp_run (.agg CW) rfl (by kernel_rfl) (exec_load 30 rfl (by kernel_rfl) w3 (loadCrR hW hW5)) ⟨_, by kernel_rfl, rfl, (later_rf _).refl _⟩
    · have e1 : x1 = .agg (SV.c (ansV v 9 1)) := hpre 1 (by kernel_rfl)
      subst e1
      obtain ⟨old, hs1, hs2⟩ := hA
      exact wpOp_put rfl (by kernel_rfl) (exec_storeG (g := q) (cs := SV.c (ansV v 9 1)) (old := old) rfl (by kernel_rfl) (by kernel_rfl) w3 hs2 (by rw [SV.size (ansV_len HV.out 9 1)]; exact sizeSV) (by rw [hs1, SV.size (ansV_len HV.out 9 1)]) (SV.one _)) ⟨.bool true, by kernel_rfl, ⟨rfl, setRow_heap w3 (q) old _ 26 (0, 0) hs2⟩, RF.of_only (only_rowV w3 (q) _) (setRow_heap w3 (q) old _ 26 (0, 0) hs2) rf2_m1⟩
    · have e2 : x2 = .agg CW := hpre 2 (by kernel_rfl)
      subst e2
      obtain ⟨old, hs1, hs2⟩ := hB
      exact wpOp_put rfl (by kernel_rfl) (exec_storeG (g := q + 1) (cs := CW) (old := old) rfl (by kernel_rfl) (by kernel_rfl) w3 hs2 (by rw [hW5]; exact sizeCr) (by rw [hs1, hW5]) HC1.out) ⟨.bool true, by kernel_rfl, ⟨rfl, setRow_heap w3 (q + 1) old _ 30 (0, 0) hs2⟩, RF.of_only (only_rowV w3 (q + 1) _) (setRow_heap w3 (q + 1) old _ 30 (0, 0) hs2) rf2_m2⟩
  · intro xs w3 hxs hR hall
    obtain ⟨x0, x1, x2, x3, x4, rfl⟩ := lstRb xs hxs
    obtain ⟨_, kA⟩ : x3 = .bool true ∧ Blk w3 (q) (SV.c (ansV v 9 1)) 26 := hall 3 (by omega)
    obtain ⟨_, kB⟩ : x4 = .bool true ∧ Blk w3 (q + 1) (CW) 30 := hall 4 (by omega)
    have RA := hidden kA
    have RB := hidden kB
    have HRF := hidden hR
    have KP := hidden (P.out.both HRF.out)
    clear hR hall hxs kA kB HRF P KS KW QS QW
    simp only [slotsOn, putAll]
    go_wp2
    refine bodyPost_ret (results_cc rfl _ _ q (q + 1) _ _ (by kernel_rfl) (by kernel_rfl) (loadSt RA.out (ansV_len HV.out 9 1)) (loadCrR RB.out HC5.out)) rfl ⟨by first | rfl | (rw [← HC.out]; rfl), KP.out.below (Nat.le_refl _) fun _ hb => hb.elim⟩
set_option maxRecDepth 20000 in
set_option maxHeartbeats 2000000 in
theorem rwrite_big1 (w : World) (s : MS) (t : S5) (hM : M5 w t) (hs : Sim s t.l) (v : SV) (hv : v.ok) (CW : Array Value) (hc1 : CW.all (·.oneCell') = true) (hc5 : CW.size = 5) (hfd : v.R.getD 4 0 = 1) (hbig : 16384 < v.R.getD 6 0) : Calls Try.prog 42 #[.pointer (some ⟨t.m, 0, none⟩), .agg v.c, .agg CW] w fun x w' => x = .returned (.tuple #[.agg (ansV v 22 1).c, .agg CW]) ∧ Below w.heap.size w w' := by
  obtain ⟨n, hn⟩ : ∃ n, w.heap.size = n := ⟨_, rfl⟩
  obtain ⟨q, hq⟩ : ∃ q, n + 1 + 1 = q := ⟨_, rfl⟩
  have HV := hidden hv.1
  have HQ := hidden hq
  have HC1 := hidden hc1
  have HC5 := hidden hc5
  have HBK := hidden (fun u => back_any v hv.1 22 1 u)
  clear hq hc1 hc5
  obtain ⟨r2, h2⟩ : ∃ r2 : Nat, v.R.getD 2 0 = (r2 : Int) := ⟨(v.R.getD 2 0).toNat, by have := (hv.2.1 2 (by omega)).1; omega⟩
  obtain ⟨r4, h4⟩ : ∃ r4 : Nat, v.R.getD 4 0 = (r4 : Int) := ⟨(v.R.getD 4 0).toNat, by have := (hv.2.1 4 (by omega)).1; omega⟩
  obtain ⟨r5, h5⟩ : ∃ r5 : Nat, v.R.getD 5 0 = (r5 : Int) := ⟨(v.R.getD 5 0).toNat, by have := (hv.2.1 5 (by omega)).1; omega⟩
  obtain ⟨r6, h6⟩ : ∃ r6 : Nat, v.R.getD 6 0 = (r6 : Int) := ⟨(v.R.getD 6 0).toNat, by have := (hv.2.1 6 (by omega)).1; omega⟩
  have l5 : r5 < 4294967296 := by have := (hv.2.1 5 (by omega)).2; omega
  have l6 : r6 < 4294967296 := by have := (hv.2.1 6 (by omega)).2; omega
  have H2 := hidden h2
  have H4 := hidden h4
  have H5 := hidden h5
  have H6 := hidden h6
  rw [h4] at hfd
  have e4 : r4 = 1 := by omega
  subst e4
  rw [h6] at hbig
  have hi4 : ∀ u, (Instr.indexAt 24 (.pointer (some ⟨n, 0, none⟩)) (.int .i64 4)).run Try.prog u = .ok (.pointer (some ⟨n, 4, none⟩)) u := fun u => index_reg n 4 (by omega) u
  have hi5 : ∀ u, (Instr.indexAt 24 (.pointer (some ⟨n, 0, none⟩)) (.int .i64 5)).run Try.prog u = .ok (.pointer (some ⟨n, 5, none⟩)) u := fun u => index_reg n 5 (by omega) u
  have hi6 : ∀ u, (Instr.indexAt 24 (.pointer (some ⟨n, 0, none⟩)) (.int .i64 6)).run Try.prog u = .ok (.pointer (some ⟨n, 6, none⟩)) u := fun u => index_reg n 6 (by omega) u
  obtain ⟨C, hC⟩ : ∃ C, v.c = C := ⟨_, rfl⟩
  rw [hC]
  have HC := hidden hC
  clear hC hv h2 h4 h5 h6 hfd l5 hM hs
  go_enter Try.func42, Try.ntmps42
  go_upto_region 1 with (first
    | (refine wpList_boxG rfl 26 _ rfl C rfl ?_; rintro w1 k1 s1 b1; rw [hn] at k1 s1 b1 ⊢; have K1 : Hid (Blk w1 n v.c 26) := hidden (by rw [HC.out]; exact k1); have S1 := hidden s1; have B1 := hidden b1; clear k1 s1 b1)
    | (refine wpList_boxG rfl 30 _ rfl CW rfl ?_; rintro w2 k2 s2 b2; rw [S1.out] at k2 s2 b2 ⊢; have K2 := hidden k2; have S2 : Hid (w2.heap.size = q) := hidden (by rw [s2]; exact HQ.out); have B2 := hidden b2; clear k2 s2 b2)
    | (refine wpList_allocV rfl rfl ?_; rintro w3 k3 s3 b3; rw [S2.out] at k3 s3 b3 ⊢; have K3 := hidden k3; have S3 := hidden s3; have B3 := hidden b3; clear k3 s3 b3)
    | (refine wpList_allocCr rfl rfl ?_; rintro w4 k4 s4 b4; rw [S3.out] at k4 s4 b4 ⊢; have P := hidden (WB.mk4 (F := nought) hn HQ.out K1.out S1.out B1.out K2.out S2.out B2.out K3.out S3.out B3.out k4 b4); clear k4 s4 b4 K1 S1 B1 K2 S2 B2 K3 S3 B3; obtain ⟨c2, c4, c5, c6⟩ := P.out.regs HV.out H2.out H4.out H5.out H6.out))
  go_upto_region 5 with fail
  have KS := hidden P.out.s
  have KW := hidden P.out.c
  have QS := hidden P.out.rs
  have QW := hidden P.out.rw
  have PQ := P.out.hq
  have hW5 := HC5.out
  refine wp_region_on (later_rf [(q, Obj.cells (SV.c (ansV v 22 1)) 26 (0, 0)), (q + 1, Obj.cells (CW) 30 (0, 0))]) [30, 31, 32, 1003, 1004] 5 (phiRb n q v CW 22 1) (by kernel_rfl) (by kernel_rfl) rfl rfl (phiRb_mono n q v CW 22 1) ?_ ?_
  · intro j hj xs w3 hxs hR hpre
    obtain ⟨x0, x1, x2, x3, x4, rfl⟩ := lstRb xs hxs
    have hS : Blk w3 (n) (SV.c v) 26 := hR.blk KS.out (rf2_no (by omega) (by omega))
    have hW : Blk w3 (n + 1) CW 30 := hR.blk KW.out (rf2_no (by omega) (by omega))
    have hA := hR.some ⟨_, SV.size (s := SV.zero) rfl, QS.out⟩ (rf2_s1 (SV.size (ansV_len HV.out 22 1)))
    have hB := hR.some (n := 5) ⟨_, (show zCw.size = 5 from rfl), QW.out⟩ (rf2_s2 hW5)
    rcases (show j = 0 ∨ j = 1 ∨ j = 2 ∨ j = 3 ∨ j = 4 by omega) with rfl | rfl | rfl | rfl | rfl
    · exact wpOp_run (.agg (SV.c v)) rfl (by kernel_rfl) (exec_load 26 rfl (by kernel_rfl) w3 (loadSt hS HV.out)) ⟨_, by kernel_rfl, rfl, (later_rf _).refl _⟩
    · have e0 : x0 = .agg (SV.c v) := hpre 0 (by kernel_rfl)
      subst e0
      refine wpOp_callR (R := fun u w4 => u = .agg (SV.c (ansV v 22 1)) ∧ Below w3.heap.size w3 w4) 43 #[.agg (SV.c v), .int .u32 22, .int .u32 1] rfl (by kernel_rfl) (by kernel_rfl) ((HBK.out w3).mono fun e w4 h => ⟨_, h.1, rfl, h.2⟩) ?_
      rintro _ w4 ⟨rfl, hb⟩
      exact ⟨_, by kernel_rfl, rfl, RF.of_below hb⟩
    · exact wpOp_run (.agg CW) rfl (by kernel_rfl) (exec_load 30 rfl (by kernel_rfl) w3 (loadCrR hW hW5)) ⟨_, by kernel_rfl, rfl, (later_rf _).refl _⟩
    · have e1 : x1 = .agg (SV.c (ansV v 22 1)) := hpre 1 (by kernel_rfl)
      subst e1
      obtain ⟨old, hs1, hs2⟩ := hA
      exact wpOp_put rfl (by kernel_rfl) (exec_storeG (g := q) (cs := SV.c (ansV v 22 1)) (old := old) rfl (by kernel_rfl) (by kernel_rfl) w3 hs2 (by rw [SV.size (ansV_len HV.out 22 1)]; exact sizeSV) (by rw [hs1, SV.size (ansV_len HV.out 22 1)]) (SV.one _)) ⟨.bool true, by kernel_rfl, ⟨rfl, setRow_heap w3 (q) old _ 26 (0, 0) hs2⟩, RF.of_only (only_rowV w3 (q) _) (setRow_heap w3 (q) old _ 26 (0, 0) hs2) rf2_m1⟩
    · have e2 : x2 = .agg CW := hpre 2 (by kernel_rfl)
      subst e2
      obtain ⟨old, hs1, hs2⟩ := hB
      exact wpOp_put rfl (by kernel_rfl) (exec_storeG (g := q + 1) (cs := CW) (old := old) rfl (by kernel_rfl) (by kernel_rfl) w3 hs2 (by rw [hW5]; exact sizeCr) (by rw [hs1, hW5]) HC1.out) ⟨.bool true, by kernel_rfl, ⟨rfl, setRow_heap w3 (q + 1) old _ 30 (0, 0) hs2⟩, RF.of_only (only_rowV w3 (q + 1) _) (setRow_heap w3 (q + 1) old _ 30 (0, 0) hs2) rf2_m2⟩
  · intro xs w3 hxs hR hall
    obtain ⟨x0, x1, x2, x3, x4, rfl⟩ := lstRb xs hxs
    obtain ⟨_, kA⟩ : x3 = .bool true ∧ Blk w3 (q) (SV.c (ansV v 22 1)) 26 := hall 3 (by omega)
    obtain ⟨_, kB⟩ : x4 = .bool true ∧ Blk w3 (q + 1) (CW) 30 := hall 4 (by omega)
    have RA := hidden kA
    have RB := hidden kB
    have HRF := hidden hR
    have KP := hidden (P.out.both HRF.out)
    clear hR hall hxs kA kB HRF P KS KW QS QW
    simp only [slotsOn, putAll]
    go_wp2
    refine bodyPost_ret (results_cc rfl _ _ q (q + 1) _ _ (by kernel_rfl) (by kernel_rfl) (loadSt RA.out (ansV_len HV.out 22 1)) (loadCrR RB.out HC5.out)) rfl ⟨by first | rfl | (rw [← HC.out]; rfl), KP.out.below (Nat.le_refl _) fun _ hb => hb.elim⟩
set_option maxRecDepth 20000 in
set_option maxHeartbeats 2000000 in
theorem rwrite_no1 (w : World) (s : MS) (t : S5) (hM : M5 w t) (hs : Sim s t.l) (v : SV) (hv : v.ok) (CW : Array Value) (hc1 : CW.all (·.oneCell') = true) (hc5 : CW.size = 5) (hfd : v.R.getD 4 0 = 1) (hbig : ¬ 16384 < v.R.getD 6 0) (hmay : mayB s (v.R.getD 5 0).toNat (v.R.getD 6 0).toNat 4 = false) : Calls Try.prog 42 #[.pointer (some ⟨t.m, 0, none⟩), .agg v.c, .agg CW] w fun x w' => x = .returned (.tuple #[.agg (ansV v 14 1).c, .agg CW]) ∧ Below w.heap.size w w' := by
  obtain ⟨n, hn⟩ : ∃ n, w.heap.size = n := ⟨_, rfl⟩
  obtain ⟨q, hq⟩ : ∃ q, n + 1 + 1 = q := ⟨_, rfl⟩
  have HV := hidden hv.1
  have HQ := hidden hq
  have HC1 := hidden hc1
  have HC5 := hidden hc5
  have HBK := hidden (fun u => back_any v hv.1 14 1 u)
  clear hq hc1 hc5
  obtain ⟨r2, h2⟩ : ∃ r2 : Nat, v.R.getD 2 0 = (r2 : Int) := ⟨(v.R.getD 2 0).toNat, by have := (hv.2.1 2 (by omega)).1; omega⟩
  obtain ⟨r4, h4⟩ : ∃ r4 : Nat, v.R.getD 4 0 = (r4 : Int) := ⟨(v.R.getD 4 0).toNat, by have := (hv.2.1 4 (by omega)).1; omega⟩
  obtain ⟨r5, h5⟩ : ∃ r5 : Nat, v.R.getD 5 0 = (r5 : Int) := ⟨(v.R.getD 5 0).toNat, by have := (hv.2.1 5 (by omega)).1; omega⟩
  obtain ⟨r6, h6⟩ : ∃ r6 : Nat, v.R.getD 6 0 = (r6 : Int) := ⟨(v.R.getD 6 0).toNat, by have := (hv.2.1 6 (by omega)).1; omega⟩
  have l5 : r5 < 4294967296 := by have := (hv.2.1 5 (by omega)).2; omega
  have l6 : r6 < 4294967296 := by have := (hv.2.1 6 (by omega)).2; omega
  have H2 := hidden h2
  have H4 := hidden h4
  have H5 := hidden h5
  have H6 := hidden h6
  rw [h4] at hfd
  have e4 : r4 = 1 := by omega
  subst e4
  rw [h6] at hbig
  rw [h5, h6, Int.toNat_natCast, Int.toNat_natCast] at hmay
  have HTH : Hid (∀ u, Below w.heap.size w u → Calls Try.prog 68 #[.pointer (some ⟨t.m, 0, none⟩), .int .u32 (r5 : Int), .int .i64 (r6 : Int), .int .i64 4] u fun e w' => e = .returned (.bool (mayB s r5 r6 4)) ∧ ∃ k, w' = u.drewN k) := hidden (fun u hu => there_any u s t r5 r6 4 (hM.later hu) hs l5 (by omega))
  rw [hmay] at HTH
  have hi4 : ∀ u, (Instr.indexAt 24 (.pointer (some ⟨n, 0, none⟩)) (.int .i64 4)).run Try.prog u = .ok (.pointer (some ⟨n, 4, none⟩)) u := fun u => index_reg n 4 (by omega) u
  have hi5 : ∀ u, (Instr.indexAt 24 (.pointer (some ⟨n, 0, none⟩)) (.int .i64 5)).run Try.prog u = .ok (.pointer (some ⟨n, 5, none⟩)) u := fun u => index_reg n 5 (by omega) u
  have hi6 : ∀ u, (Instr.indexAt 24 (.pointer (some ⟨n, 0, none⟩)) (.int .i64 6)).run Try.prog u = .ok (.pointer (some ⟨n, 6, none⟩)) u := fun u => index_reg n 6 (by omega) u
  obtain ⟨C, hC⟩ : ∃ C, v.c = C := ⟨_, rfl⟩
  rw [hC]
  have HC := hidden hC
  clear hC hv h2 h4 h5 h6 hfd l5 hM hs hmay
  go_enter Try.func42, Try.ntmps42
  go_upto_region 1 with (first
    | (refine wpList_boxG rfl 26 _ rfl C rfl ?_; rintro w1 k1 s1 b1; rw [hn] at k1 s1 b1 ⊢; have K1 : Hid (Blk w1 n v.c 26) := hidden (by rw [HC.out]; exact k1); have S1 := hidden s1; have B1 := hidden b1; clear k1 s1 b1)
    | (refine wpList_boxG rfl 30 _ rfl CW rfl ?_; rintro w2 k2 s2 b2; rw [S1.out] at k2 s2 b2 ⊢; have K2 := hidden k2; have S2 : Hid (w2.heap.size = q) := hidden (by rw [s2]; exact HQ.out); have B2 := hidden b2; clear k2 s2 b2)
    | (refine wpList_allocV rfl rfl ?_; rintro w3 k3 s3 b3; rw [S2.out] at k3 s3 b3 ⊢; have K3 := hidden k3; have S3 := hidden s3; have B3 := hidden b3; clear k3 s3 b3)
    | (refine wpList_allocCr rfl rfl ?_; rintro w4 k4 s4 b4; rw [S3.out] at k4 s4 b4 ⊢; have P := hidden (WB.mk4 (F := nought) hn HQ.out K1.out S1.out B1.out K2.out S2.out B2.out K3.out S3.out B3.out k4 b4); clear k4 s4 b4 K1 S1 B1 K2 S2 B2 K3 S3 B3; obtain ⟨c2, c4, c5, c6⟩ := P.out.regs HV.out H2.out H4.out H5.out H6.out))
  go_upto_region 7 with (go_at_call 68; refine (HTH.out _ P.out.bel).mono ?_; rintro x w5 ⟨rfl, k5, rfl⟩; clear c2 c4 c5 c6; have Q := hidden (P.out.later (below_drewN (Below.refl _ _) k5)); clear P; have P := Q; clear Q; obtain ⟨c2, c4, c5, c6⟩ := P.out.regs HV.out H2.out H4.out H5.out H6.out)
  have KS := hidden P.out.s
  have KW := hidden P.out.c
  have QS := hidden P.out.rs
  have QW := hidden P.out.rw
  have PQ := P.out.hq
  have hW5 := HC5.out
  refine wp_region_on (later_rf [(q, Obj.cells (SV.c (ansV v 14 1)) 26 (0, 0)), (q + 1, Obj.cells (CW) 30 (0, 0))]) [41, 42, 43, 1003, 1004] 5 (phiRb n q v CW 14 1) (by kernel_rfl) (by kernel_rfl) rfl rfl (phiRb_mono n q v CW 14 1) ?_ ?_
  · intro j hj xs w3 hxs hR hpre
    obtain ⟨x0, x1, x2, x3, x4, rfl⟩ := lstRb xs hxs
    have hS : Blk w3 (n) (SV.c v) 26 := hR.blk KS.out (rf2_no (by omega) (by omega))
    have hW : Blk w3 (n + 1) CW 30 := hR.blk KW.out (rf2_no (by omega) (by omega))
    have hA := hR.some ⟨_, SV.size (s := SV.zero) rfl, QS.out⟩ (rf2_s1 (SV.size (ansV_len HV.out 14 1)))
    have hB := hR.some (n := 5) ⟨_, (show zCw.size = 5 from rfl), QW.out⟩ (rf2_s2 hW5)
    rcases (show j = 0 ∨ j = 1 ∨ j = 2 ∨ j = 3 ∨ j = 4 by omega) with rfl | rfl | rfl | rfl | rfl
    · exact wpOp_run (.agg (SV.c v)) rfl (by kernel_rfl) (exec_load 26 rfl (by kernel_rfl) w3 (loadSt hS HV.out)) ⟨_, by kernel_rfl, rfl, (later_rf _).refl _⟩
    · have e0 : x0 = .agg (SV.c v) := hpre 0 (by kernel_rfl)
      subst e0
      refine wpOp_callR (R := fun u w4 => u = .agg (SV.c (ansV v 14 1)) ∧ Below w3.heap.size w3 w4) 43 #[.agg (SV.c v), .int .u32 14, .int .u32 1] rfl (by kernel_rfl) (by kernel_rfl) ((HBK.out w3).mono fun e w4 h => ⟨_, h.1, rfl, h.2⟩) ?_
      rintro _ w4 ⟨rfl, hb⟩
      exact ⟨_, by kernel_rfl, rfl, RF.of_below hb⟩
    · exact wpOp_run (.agg CW) rfl (by kernel_rfl) (exec_load 30 rfl (by kernel_rfl) w3 (loadCrR hW hW5)) ⟨_, by kernel_rfl, rfl, (later_rf _).refl _⟩
    · have e1 : x1 = .agg (SV.c (ansV v 14 1)) := hpre 1 (by kernel_rfl)
      subst e1
      obtain ⟨old, hs1, hs2⟩ := hA
      exact wpOp_put rfl (by kernel_rfl) (exec_storeG (g := q) (cs := SV.c (ansV v 14 1)) (old := old) rfl (by kernel_rfl) (by kernel_rfl) w3 hs2 (by rw [SV.size (ansV_len HV.out 14 1)]; exact sizeSV) (by rw [hs1, SV.size (ansV_len HV.out 14 1)]) (SV.one _)) ⟨.bool true, by kernel_rfl, ⟨rfl, setRow_heap w3 (q) old _ 26 (0, 0) hs2⟩, RF.of_only (only_rowV w3 (q) _) (setRow_heap w3 (q) old _ 26 (0, 0) hs2) rf2_m1⟩
    · have e2 : x2 = .agg CW := hpre 2 (by kernel_rfl)
      subst e2
      obtain ⟨old, hs1, hs2⟩ := hB
      exact wpOp_put rfl (by kernel_rfl) (exec_storeG (g := q + 1) (cs := CW) (old := old) rfl (by kernel_rfl) (by kernel_rfl) w3 hs2 (by rw [hW5]; exact sizeCr) (by rw [hs1, hW5]) HC1.out) ⟨.bool true, by kernel_rfl, ⟨rfl, setRow_heap w3 (q + 1) old _ 30 (0, 0) hs2⟩, RF.of_only (only_rowV w3 (q + 1) _) (setRow_heap w3 (q + 1) old _ 30 (0, 0) hs2) rf2_m2⟩
  · intro xs w3 hxs hR hall
    obtain ⟨x0, x1, x2, x3, x4, rfl⟩ := lstRb xs hxs
    obtain ⟨_, kA⟩ : x3 = .bool true ∧ Blk w3 (q) (SV.c (ansV v 14 1)) 26 := hall 3 (by omega)
    obtain ⟨_, kB⟩ : x4 = .bool true ∧ Blk w3 (q + 1) (CW) 30 := hall 4 (by omega)
    have RA := hidden kA
    have RB := hidden kB
    have HRF := hidden hR
    have KP := hidden (P.out.both HRF.out)
    clear hR hall hxs kA kB HRF P KS KW QS QW
    simp only [slotsOn, putAll]
    go_wp2
    refine bodyPost_ret (results_cc rfl _ _ q (q + 1) _ _ (by kernel_rfl) (by kernel_rfl) (loadSt RA.out (ansV_len HV.out 14 1)) (loadCrR RB.out HC5.out)) rfl ⟨by first | rfl | (rw [← HC.out]; rfl), KP.out.below (Nat.le_refl _) fun _ hb => hb.elim⟩
set_option maxRecDepth 20000 in
set_option maxHeartbeats 2000000 in
theorem rwrite_big2 (w : World) (s : MS) (t : S5) (hM : M5 w t) (hs : Sim s t.l) (v : SV) (hv : v.ok) (CW : Array Value) (hc1 : CW.all (·.oneCell') = true) (hc5 : CW.size = 5) (hfd : v.R.getD 4 0 = 2) (hbig : 16384 < v.R.getD 6 0) : Calls Try.prog 42 #[.pointer (some ⟨t.m, 0, none⟩), .agg v.c, .agg CW] w fun x w' => x = .returned (.tuple #[.agg (ansV v 22 1).c, .agg CW]) ∧ Below w.heap.size w w' := by
  obtain ⟨n, hn⟩ : ∃ n, w.heap.size = n := ⟨_, rfl⟩
  obtain ⟨q, hq⟩ : ∃ q, n + 1 + 1 = q := ⟨_, rfl⟩
  have HV := hidden hv.1
  have HQ := hidden hq
  have HC1 := hidden hc1
  have HC5 := hidden hc5
  have HBK := hidden (fun u => back_any v hv.1 22 1 u)
  clear hq hc1 hc5
  obtain ⟨r2, h2⟩ : ∃ r2 : Nat, v.R.getD 2 0 = (r2 : Int) := ⟨(v.R.getD 2 0).toNat, by have := (hv.2.1 2 (by omega)).1; omega⟩
  obtain ⟨r4, h4⟩ : ∃ r4 : Nat, v.R.getD 4 0 = (r4 : Int) := ⟨(v.R.getD 4 0).toNat, by have := (hv.2.1 4 (by omega)).1; omega⟩
  obtain ⟨r5, h5⟩ : ∃ r5 : Nat, v.R.getD 5 0 = (r5 : Int) := ⟨(v.R.getD 5 0).toNat, by have := (hv.2.1 5 (by omega)).1; omega⟩
  obtain ⟨r6, h6⟩ : ∃ r6 : Nat, v.R.getD 6 0 = (r6 : Int) := ⟨(v.R.getD 6 0).toNat, by have := (hv.2.1 6 (by omega)).1; omega⟩
  have l5 : r5 < 4294967296 := by have := (hv.2.1 5 (by omega)).2; omega
  have l6 : r6 < 4294967296 := by have := (hv.2.1 6 (by omega)).2; omega
  have H2 := hidden h2
  have H4 := hidden h4
  have H5 := hidden h5
  have H6 := hidden h6
  rw [h4] at hfd
  have e4 : r4 = 2 := by omega
  subst e4
  rw [h6] at hbig
  have hi4 : ∀ u, (Instr.indexAt 24 (.pointer (some ⟨n, 0, none⟩)) (.int .i64 4)).run Try.prog u = .ok (.pointer (some ⟨n, 4, none⟩)) u := fun u => index_reg n 4 (by omega) u
  have hi5 : ∀ u, (Instr.indexAt 24 (.pointer (some ⟨n, 0, none⟩)) (.int .i64 5)).run Try.prog u = .ok (.pointer (some ⟨n, 5, none⟩)) u := fun u => index_reg n 5 (by omega) u
  have hi6 : ∀ u, (Instr.indexAt 24 (.pointer (some ⟨n, 0, none⟩)) (.int .i64 6)).run Try.prog u = .ok (.pointer (some ⟨n, 6, none⟩)) u := fun u => index_reg n 6 (by omega) u
  obtain ⟨C, hC⟩ : ∃ C, v.c = C := ⟨_, rfl⟩
  rw [hC]
  have HC := hidden hC
  clear hC hv h2 h4 h5 h6 hfd l5 hM hs
  go_enter Try.func42, Try.ntmps42
  go_upto_region 1 with (first
    | (refine wpList_boxG rfl 26 _ rfl C rfl ?_; rintro w1 k1 s1 b1; rw [hn] at k1 s1 b1 ⊢; have K1 : Hid (Blk w1 n v.c 26) := hidden (by rw [HC.out]; exact k1); have S1 := hidden s1; have B1 := hidden b1; clear k1 s1 b1)
    | (refine wpList_boxG rfl 30 _ rfl CW rfl ?_; rintro w2 k2 s2 b2; rw [S1.out] at k2 s2 b2 ⊢; have K2 := hidden k2; have S2 : Hid (w2.heap.size = q) := hidden (by rw [s2]; exact HQ.out); have B2 := hidden b2; clear k2 s2 b2)
    | (refine wpList_allocV rfl rfl ?_; rintro w3 k3 s3 b3; rw [S2.out] at k3 s3 b3 ⊢; have K3 := hidden k3; have S3 := hidden s3; have B3 := hidden b3; clear k3 s3 b3)
    | (refine wpList_allocCr rfl rfl ?_; rintro w4 k4 s4 b4; rw [S3.out] at k4 s4 b4 ⊢; have P := hidden (WB.mk4 (F := nought) hn HQ.out K1.out S1.out B1.out K2.out S2.out B2.out K3.out S3.out B3.out k4 b4); clear k4 s4 b4 K1 S1 B1 K2 S2 B2 K3 S3 B3; obtain ⟨c2, c4, c5, c6⟩ := P.out.regs HV.out H2.out H4.out H5.out H6.out))
  go_upto_region 5 with fail
  have KS := hidden P.out.s
  have KW := hidden P.out.c
  have QS := hidden P.out.rs
  have QW := hidden P.out.rw
  have PQ := P.out.hq
  have hW5 := HC5.out
  refine wp_region_on (later_rf [(q, Obj.cells (SV.c (ansV v 22 1)) 26 (0, 0)), (q + 1, Obj.cells (CW) 30 (0, 0))]) [30, 31, 32, 1003, 1004] 5 (phiRb n q v CW 22 1) (by kernel_rfl) (by kernel_rfl) rfl rfl (phiRb_mono n q v CW 22 1) ?_ ?_
  · intro j hj xs w3 hxs hR hpre
    obtain ⟨x0, x1, x2, x3, x4, rfl⟩ := lstRb xs hxs
    have hS : Blk w3 (n) (SV.c v) 26 := hR.blk KS.out (rf2_no (by omega) (by omega))
    have hW : Blk w3 (n + 1) CW 30 := hR.blk KW.out (rf2_no (by omega) (by omega))
    have hA := hR.some ⟨_, SV.size (s := SV.zero) rfl, QS.out⟩ (rf2_s1 (SV.size (ansV_len HV.out 22 1)))
    have hB := hR.some (n := 5) ⟨_, (show zCw.size = 5 from rfl), QW.out⟩ (rf2_s2 hW5)
    rcases (show j = 0 ∨ j = 1 ∨ j = 2 ∨ j = 3 ∨ j = 4 by omega) with rfl | rfl | rfl | rfl | rfl
    · exact wpOp_run (.agg (SV.c v)) rfl (by kernel_rfl) (exec_load 26 rfl (by kernel_rfl) w3 (loadSt hS HV.out)) ⟨_, by kernel_rfl, rfl, (later_rf _).refl _⟩
    · have e0 : x0 = .agg (SV.c v) := hpre 0 (by kernel_rfl)
      subst e0
      refine wpOp_callR (R := fun u w4 => u = .agg (SV.c (ansV v 22 1)) ∧ Below w3.heap.size w3 w4) 43 #[.agg (SV.c v), .int .u32 22, .int .u32 1] rfl (by kernel_rfl) (by kernel_rfl) ((HBK.out w3).mono fun e w4 h => ⟨_, h.1, rfl, h.2⟩) ?_
      rintro _ w4 ⟨rfl, hb⟩
      exact ⟨_, by kernel_rfl, rfl, RF.of_below hb⟩
    · exact wpOp_run (.agg CW) rfl (by kernel_rfl) (exec_load 30 rfl (by kernel_rfl) w3 (loadCrR hW hW5)) ⟨_, by kernel_rfl, rfl, (later_rf _).refl _⟩
    · have e1 : x1 = .agg (SV.c (ansV v 22 1)) := hpre 1 (by kernel_rfl)
      subst e1
      obtain ⟨old, hs1, hs2⟩ := hA
      exact wpOp_put rfl (by kernel_rfl) (exec_storeG (g := q) (cs := SV.c (ansV v 22 1)) (old := old) rfl (by kernel_rfl) (by kernel_rfl) w3 hs2 (by rw [SV.size (ansV_len HV.out 22 1)]; exact sizeSV) (by rw [hs1, SV.size (ansV_len HV.out 22 1)]) (SV.one _)) ⟨.bool true, by kernel_rfl, ⟨rfl, setRow_heap w3 (q) old _ 26 (0, 0) hs2⟩, RF.of_only (only_rowV w3 (q) _) (setRow_heap w3 (q) old _ 26 (0, 0) hs2) rf2_m1⟩
    · have e2 : x2 = .agg CW := hpre 2 (by kernel_rfl)
      subst e2
      obtain ⟨old, hs1, hs2⟩ := hB
      exact wpOp_put rfl (by kernel_rfl) (exec_storeG (g := q + 1) (cs := CW) (old := old) rfl (by kernel_rfl) (by kernel_rfl) w3 hs2 (by rw [hW5]; exact sizeCr) (by rw [hs1, hW5]) HC1.out) ⟨.bool true, by kernel_rfl, ⟨rfl, setRow_heap w3 (q + 1) old _ 30 (0, 0) hs2⟩, RF.of_only (only_rowV w3 (q + 1) _) (setRow_heap w3 (q + 1) old _ 30 (0, 0) hs2) rf2_m2⟩
  · intro xs w3 hxs hR hall
    obtain ⟨x0, x1, x2, x3, x4, rfl⟩ := lstRb xs hxs
    obtain ⟨_, kA⟩ : x3 = .bool true ∧ Blk w3 (q) (SV.c (ansV v 22 1)) 26 := hall 3 (by omega)
    obtain ⟨_, kB⟩ : x4 = .bool true ∧ Blk w3 (q + 1) (CW) 30 := hall 4 (by omega)
    have RA := hidden kA
    have RB := hidden kB
    have HRF := hidden hR
    have KP := hidden (P.out.both HRF.out)
    clear hR hall hxs kA kB HRF P KS KW QS QW
    simp only [slotsOn, putAll]
    go_wp2
    refine bodyPost_ret (results_cc rfl _ _ q (q + 1) _ _ (by kernel_rfl) (by kernel_rfl) (loadSt RA.out (ansV_len HV.out 22 1)) (loadCrR RB.out HC5.out)) rfl ⟨by first | rfl | (rw [← HC.out]; rfl), KP.out.below (Nat.le_refl _) fun _ hb => hb.elim⟩
set_option maxRecDepth 20000 in
set_option maxHeartbeats 2000000 in
theorem rwrite_no2 (w : World) (s : MS) (t : S5) (hM : M5 w t) (hs : Sim s t.l) (v : SV) (hv : v.ok) (CW : Array Value) (hc1 : CW.all (·.oneCell') = true) (hc5 : CW.size = 5) (hfd : v.R.getD 4 0 = 2) (hbig : ¬ 16384 < v.R.getD 6 0) (hmay : mayB s (v.R.getD 5 0).toNat (v.R.getD 6 0).toNat 4 = false) : Calls Try.prog 42 #[.pointer (some ⟨t.m, 0, none⟩), .agg v.c, .agg CW] w fun x w' => x = .returned (.tuple #[.agg (ansV v 14 1).c, .agg CW]) ∧ Below w.heap.size w w' := by
  obtain ⟨n, hn⟩ : ∃ n, w.heap.size = n := ⟨_, rfl⟩
  obtain ⟨q, hq⟩ : ∃ q, n + 1 + 1 = q := ⟨_, rfl⟩
  have HV := hidden hv.1
  have HQ := hidden hq
  have HC1 := hidden hc1
  have HC5 := hidden hc5
  have HBK := hidden (fun u => back_any v hv.1 14 1 u)
  clear hq hc1 hc5
  obtain ⟨r2, h2⟩ : ∃ r2 : Nat, v.R.getD 2 0 = (r2 : Int) := ⟨(v.R.getD 2 0).toNat, by have := (hv.2.1 2 (by omega)).1; omega⟩
  obtain ⟨r4, h4⟩ : ∃ r4 : Nat, v.R.getD 4 0 = (r4 : Int) := ⟨(v.R.getD 4 0).toNat, by have := (hv.2.1 4 (by omega)).1; omega⟩
  obtain ⟨r5, h5⟩ : ∃ r5 : Nat, v.R.getD 5 0 = (r5 : Int) := ⟨(v.R.getD 5 0).toNat, by have := (hv.2.1 5 (by omega)).1; omega⟩
  obtain ⟨r6, h6⟩ : ∃ r6 : Nat, v.R.getD 6 0 = (r6 : Int) := ⟨(v.R.getD 6 0).toNat, by have := (hv.2.1 6 (by omega)).1; omega⟩
  have l5 : r5 < 4294967296 := by have := (hv.2.1 5 (by omega)).2; omega
  have l6 : r6 < 4294967296 := by have := (hv.2.1 6 (by omega)).2; omega
  have H2 := hidden h2
  have H4 := hidden h4
  have H5 := hidden h5
  have H6 := hidden h6
  rw [h4] at hfd
  have e4 : r4 = 2 := by omega
  subst e4
  rw [h6] at hbig
  rw [h5, h6, Int.toNat_natCast, Int.toNat_natCast] at hmay
  have HTH : Hid (∀ u, Below w.heap.size w u → Calls Try.prog 68 #[.pointer (some ⟨t.m, 0, none⟩), .int .u32 (r5 : Int), .int .i64 (r6 : Int), .int .i64 4] u fun e w' => e = .returned (.bool (mayB s r5 r6 4)) ∧ ∃ k, w' = u.drewN k) := hidden (fun u hu => there_any u s t r5 r6 4 (hM.later hu) hs l5 (by omega))
  rw [hmay] at HTH
  have hi4 : ∀ u, (Instr.indexAt 24 (.pointer (some ⟨n, 0, none⟩)) (.int .i64 4)).run Try.prog u = .ok (.pointer (some ⟨n, 4, none⟩)) u := fun u => index_reg n 4 (by omega) u
  have hi5 : ∀ u, (Instr.indexAt 24 (.pointer (some ⟨n, 0, none⟩)) (.int .i64 5)).run Try.prog u = .ok (.pointer (some ⟨n, 5, none⟩)) u := fun u => index_reg n 5 (by omega) u
  have hi6 : ∀ u, (Instr.indexAt 24 (.pointer (some ⟨n, 0, none⟩)) (.int .i64 6)).run Try.prog u = .ok (.pointer (some ⟨n, 6, none⟩)) u := fun u => index_reg n 6 (by omega) u
  obtain ⟨C, hC⟩ : ∃ C, v.c = C := ⟨_, rfl⟩
  rw [hC]
  have HC := hidden hC
  clear hC hv h2 h4 h5 h6 hfd l5 hM hs hmay
  go_enter Try.func42, Try.ntmps42
  go_upto_region 1 with (first
    | (refine wpList_boxG rfl 26 _ rfl C rfl ?_; rintro w1 k1 s1 b1; rw [hn] at k1 s1 b1 ⊢; have K1 : Hid (Blk w1 n v.c 26) := hidden (by rw [HC.out]; exact k1); have S1 := hidden s1; have B1 := hidden b1; clear k1 s1 b1)
    | (refine wpList_boxG rfl 30 _ rfl CW rfl ?_; rintro w2 k2 s2 b2; rw [S1.out] at k2 s2 b2 ⊢; have K2 := hidden k2; have S2 : Hid (w2.heap.size = q) := hidden (by rw [s2]; exact HQ.out); have B2 := hidden b2; clear k2 s2 b2)
    | (refine wpList_allocV rfl rfl ?_; rintro w3 k3 s3 b3; rw [S2.out] at k3 s3 b3 ⊢; have K3 := hidden k3; have S3 := hidden s3; have B3 := hidden b3; clear k3 s3 b3)
    | (refine wpList_allocCr rfl rfl ?_; rintro w4 k4 s4 b4; rw [S3.out] at k4 s4 b4 ⊢; have P := hidden (WB.mk4 (F := nought) hn HQ.out K1.out S1.out B1.out K2.out S2.out B2.out K3.out S3.out B3.out k4 b4); clear k4 s4 b4 K1 S1 B1 K2 S2 B2 K3 S3 B3; obtain ⟨c2, c4, c5, c6⟩ := P.out.regs HV.out H2.out H4.out H5.out H6.out))
  go_upto_region 7 with (go_at_call 68; refine (HTH.out _ P.out.bel).mono ?_; rintro x w5 ⟨rfl, k5, rfl⟩; clear c2 c4 c5 c6; have Q := hidden (P.out.later (below_drewN (Below.refl _ _) k5)); clear P; have P := Q; clear Q; obtain ⟨c2, c4, c5, c6⟩ := P.out.regs HV.out H2.out H4.out H5.out H6.out)
  have KS := hidden P.out.s
  have KW := hidden P.out.c
  have QS := hidden P.out.rs
  have QW := hidden P.out.rw
  have PQ := P.out.hq
  have hW5 := HC5.out
  refine wp_region_on (later_rf [(q, Obj.cells (SV.c (ansV v 14 1)) 26 (0, 0)), (q + 1, Obj.cells (CW) 30 (0, 0))]) [41, 42, 43, 1003, 1004] 5 (phiRb n q v CW 14 1) (by kernel_rfl) (by kernel_rfl) rfl rfl (phiRb_mono n q v CW 14 1) ?_ ?_
  · intro j hj xs w3 hxs hR hpre
    obtain ⟨x0, x1, x2, x3, x4, rfl⟩ := lstRb xs hxs
    have hS : Blk w3 (n) (SV.c v) 26 := hR.blk KS.out (rf2_no (by omega) (by omega))
    have hW : Blk w3 (n + 1) CW 30 := hR.blk KW.out (rf2_no (by omega) (by omega))
    have hA := hR.some ⟨_, SV.size (s := SV.zero) rfl, QS.out⟩ (rf2_s1 (SV.size (ansV_len HV.out 14 1)))
    have hB := hR.some (n := 5) ⟨_, (show zCw.size = 5 from rfl), QW.out⟩ (rf2_s2 hW5)
    rcases (show j = 0 ∨ j = 1 ∨ j = 2 ∨ j = 3 ∨ j = 4 by omega) with rfl | rfl | rfl | rfl | rfl
    · exact wpOp_run (.agg (SV.c v)) rfl (by kernel_rfl) (exec_load 26 rfl (by kernel_rfl) w3 (loadSt hS HV.out)) ⟨_, by kernel_rfl, rfl, (later_rf _).refl _⟩
    · have e0 : x0 = .agg (SV.c v) := hpre 0 (by kernel_rfl)
      subst e0
      refine wpOp_callR (R := fun u w4 => u = .agg (SV.c (ansV v 14 1)) ∧ Below w3.heap.size w3 w4) 43 #[.agg (SV.c v), .int .u32 14, .int .u32 1] rfl (by kernel_rfl) (by kernel_rfl) ((HBK.out w3).mono fun e w4 h => ⟨_, h.1, rfl, h.2⟩) ?_
      rintro _ w4 ⟨rfl, hb⟩
      exact ⟨_, by kernel_rfl, rfl, RF.of_below hb⟩
    · exact wpOp_run (.agg CW) rfl (by kernel_rfl) (exec_load 30 rfl (by kernel_rfl) w3 (loadCrR hW hW5)) ⟨_, by kernel_rfl, rfl, (later_rf _).refl _⟩
    · have e1 : x1 = .agg (SV.c (ansV v 14 1)) := hpre 1 (by kernel_rfl)
      subst e1
      obtain ⟨old, hs1, hs2⟩ := hA
      exact wpOp_put rfl (by kernel_rfl) (exec_storeG (g := q) (cs := SV.c (ansV v 14 1)) (old := old) rfl (by kernel_rfl) (by kernel_rfl) w3 hs2 (by rw [SV.size (ansV_len HV.out 14 1)]; exact sizeSV) (by rw [hs1, SV.size (ansV_len HV.out 14 1)]) (SV.one _)) ⟨.bool true, by kernel_rfl, ⟨rfl, setRow_heap w3 (q) old _ 26 (0, 0) hs2⟩, RF.of_only (only_rowV w3 (q) _) (setRow_heap w3 (q) old _ 26 (0, 0) hs2) rf2_m1⟩
    · have e2 : x2 = .agg CW := hpre 2 (by kernel_rfl)
      subst e2
      obtain ⟨old, hs1, hs2⟩ := hB
      exact wpOp_put rfl (by kernel_rfl) (exec_storeG (g := q + 1) (cs := CW) (old := old) rfl (by kernel_rfl) (by kernel_rfl) w3 hs2 (by rw [hW5]; exact sizeCr) (by rw [hs1, hW5]) HC1.out) ⟨.bool true, by kernel_rfl, ⟨rfl, setRow_heap w3 (q + 1) old _ 30 (0, 0) hs2⟩, RF.of_only (only_rowV w3 (q + 1) _) (setRow_heap w3 (q + 1) old _ 30 (0, 0) hs2) rf2_m2⟩
  · intro xs w3 hxs hR hall
    obtain ⟨x0, x1, x2, x3, x4, rfl⟩ := lstRb xs hxs
    obtain ⟨_, kA⟩ : x3 = .bool true ∧ Blk w3 (q) (SV.c (ansV v 14 1)) 26 := hall 3 (by omega)
    obtain ⟨_, kB⟩ : x4 = .bool true ∧ Blk w3 (q + 1) (CW) 30 := hall 4 (by omega)
    have RA := hidden kA
    have RB := hidden kB
    have HRF := hidden hR
    have KP := hidden (P.out.both HRF.out)
    clear hR hall hxs kA kB HRF P KS KW QS QW
    simp only [slotsOn, putAll]
    go_wp2
    refine bodyPost_ret (results_cc rfl _ _ q (q + 1) _ _ (by kernel_rfl) (by kernel_rfl) (loadSt RA.out (ansV_len HV.out 14 1)) (loadCrR RB.out HC5.out)) rfl ⟨by first | rfl | (rw [← HC.out]; rfl), KP.out.below (Nat.le_refl _) fun _ hb => hb.elim⟩
end Go.Proofs.Ytodoenimlhldjaa
