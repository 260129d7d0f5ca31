/- write that is done, walked (2). -/
import Derived.Test.YtodoenimlhldjaaQMWC
namespace Go.Proofs.Ytodoenimlhldjaa
open Go.ChangeShapes Go.WideShapes Go.ChangeAt Go.RowKit
set_option linter.unusedVariables false
/-- What the slots of the region hold, whatever the order. -/
def phiWs7 (n q : Nat) (v : SV) (CW : Array Value) (rv : Int) : Nat → Value → World → Prop
  | 0, x, _ => x = .agg (SV.c v)
  | 1, x, _ => x = .pointer (some ⟨n, 0, none⟩)
  | 2, x, _ => x = .pointer (some ⟨n, 6, none⟩)
  | 3, x, _ => x = .int .u32 rv
  | 4, x, _ => x = .agg (SV.c (ansV v rv 0))
  | 5, x, _ => x = .agg CW
  | 6, x, w => x = .bool true ∧ Blk w (q) (SV.c (ansV v rv 0)) 26
  | 7, x, w => x = .bool true ∧ Blk w (q + 1) (CW) 38
  | _ + 8, _, _ => True
theorem phiWs7_mono (n q : Nat) (v : SV) (CW : Array Value) (rv : Int) : ∀ i x w w', phiWs7 n q v CW rv i x w → RF [(q, Obj.cells (SV.c (ansV v rv 0)) 26 (0, 0)), (q + 1, Obj.cells (CW) 38 (0, 0))] w w' → phiWs7 n q v CW rv i x w'
  | 0, _, _, _, h, _ => h
  | 1, _, _, _, h, _ => h
  | 2, _, _, _, h, _ => h
  | 3, _, _, _, h, _ => h
  | 4, _, _, _, h, _ => h
  | 5, _, _, _, h, _ => h
  | 6, x, w, w', h, hb => ⟨h.1, hb.blk h.2 rf2_a⟩
  | 7, x, w, w', h, hb => ⟨h.1, hb.blk h.2 rf2_b⟩
  | _ + 8, _, _, _, _, _ => trivial
theorem lstWs7 : ∀ xs : List Value, xs.length = 8 → ∃ x0 x1 x2 x3 x4 x5 x6 x7, xs = [x0, x1, x2, x3, x4, x5, x6, x7]
  | [x0, x1, x2, x3, x4, x5, x6, x7], _ => ⟨_, _, _, _, _, _, _, _, rfl⟩
set_option maxRecDepth 20000 in
set_option maxHeartbeats 2000000 in
theorem write_yes_two (w : World) (s : MS) (h : MemW w s) (v : SV) (hv : v.ok) (inp : ByteArray) (at_ us : Int) (rd ev : Value) (l : List Int) (e : List (Int × ByteArray)) (N : Nat) (hrd : Fr w N 3 rd l.length (cI l)) (hev : Fr w N 66 ev e.length (cE e)) (hel : e.length ≤ 16384) (hN : N ≤ w.heap.size) (hfo : ∀ b, foot s b → ev.ownBlock ≠ some b) (hfd : v.R.getD 4 0 = 2) (hno : refV s v true 4 = 0) : Calls Try.prog 37 #[.pointer (some ⟨s.mb, 0, none⟩), .agg v.c, .agg (cwC inp at_ rd us ev)] w fun x w' => ∃ ev', x = .returned (.tuple #[.agg (ansV v (v.R.getD 6 0) 0).c, .agg (cwC inp at_ rd us ev')]) ∧ w'.ownsRow N 66 2 ev' (e.length + 1) (cE (e ++ [(v.R.getD 4 0, ⟨(s.span (v.R.getD 5 0).toNat (v.R.getD 6 0).toNat).toArray⟩)])) ∧ Keep (fun b => ev.ownBlock = some b) w w' := by
  obtain ⟨n, hn⟩ : ∃ n, w.heap.size = n := ⟨_, rfl⟩
  obtain ⟨q, hq⟩ : ∃ q, n + 1 + 1 = q := ⟨_, rfl⟩
  obtain ⟨FF, hFF⟩ : ∃ FF : Nat → Prop, (fun b => ev.ownBlock = some b) = FF := ⟨_, rfl⟩
  have HFN : Hid (∀ b, FF b → b < n) := hidden (fun b hb => by
    rw [← hFF] at hb
    obtain ⟨g, _, e1, hk⟩ := hev
    rw [e1] at hb
    have e2 : g = b := Option.some.inj hb
    have := hk.lt
    omega)
  have HV := hidden hv.1
  have HQ := hidden hq
  clear hq
  have HFO : Hid (∀ b, foot s b → ¬ FF b) := hidden (fun b hb => by rw [← hFF]; exact hfo b hb)
  rw [hFF]
  obtain ⟨rv, hrv⟩ : ∃ z, refV s v true 4 = z := ⟨_, rfl⟩
  rw [hrv] at hno
  subst hno
  have HRF0 : Hid (∀ u, Keep nought w u → Calls Try.prog 64 #[.pointer (some ⟨s.mb, 0, none⟩), .agg v.c, .bool true, .int .i64 4] u fun e w' => e = .returned (.int .u32 0) ∧ Below u.heap.size u w') := hidden (fun u hu => by
    have h2 := refusal_any u s (h.keep hu (fun b hb => id)) v hv true 4
    rw [hrv] at h2
    exact h2)
  obtain ⟨r2, h2⟩ : ∃ r2 : Nat, v.R.getD 2 0 = (r2 : Int) := ⟨(v.R.getD 2 0).toNat, by have := (hv.2.1 2 (by omega)).1; omega⟩
  obtain ⟨r4, h4⟩ : ∃ r4 : Nat, v.R.getD 4 0 = (r4 : Int) := ⟨(v.R.getD 4 0).toNat, by have := (hv.2.1 4 (by omega)).1; omega⟩
  obtain ⟨r5, h5⟩ : ∃ r5 : Nat, v.R.getD 5 0 = (r5 : Int) := ⟨(v.R.getD 5 0).toNat, by have := (hv.2.1 5 (by omega)).1; omega⟩
  obtain ⟨r6, h6⟩ : ∃ r6 : Nat, v.R.getD 6 0 = (r6 : Int) := ⟨(v.R.getD 6 0).toNat, by have := (hv.2.1 6 (by omega)).1; omega⟩
  have l5 : r5 < 4294967296 := by have := (hv.2.1 5 (by omega)).2; omega
  have l6 : r6 < 4294967296 := by have := (hv.2.1 6 (by omega)).2; omega
  have H2 := hidden h2
  have H4 := hidden h4
  have H5 := hidden h5
  have H6 := hidden h6
  have l66 : (r6 : Int) ≤ 16384 := by
    unfold refV at hrv
    rw [if_neg (by decide), h6] at hrv
    by_cases hg : 16384 < (r6 : Int)
    · rw [if_pos hg] at hrv; exact absurd hrv (by decide)
    · omega
  rw [h4] at hfd ⊢
  rw [h5, h6, Int.toNat_natCast, Int.toNat_natCast]
  have HRI := hidden (fun u => right_any v hv.1 (r6 : Int) u)
  have f1 : ((r4 : Int) == 1) = false := beq_eq_false_iff_ne.2 (by omega)
  have f2 : ((r4 : Int) == 2) = true := beq_iff_eq.2 (by omega)
  have hi4 : ∀ u, (Instr.indexAt 24 (.pointer (some ⟨n, 0, none⟩)) (.int .i64 4)).run Try.prog u = .ok (.pointer (some ⟨n, 4, none⟩)) u := fun u => index_reg n 4 (by omega) u
  have hi5 : ∀ u, (Instr.indexAt 24 (.pointer (some ⟨n, 0, none⟩)) (.int .i64 5)).run Try.prog u = .ok (.pointer (some ⟨n, 5, none⟩)) u := fun u => index_reg n 5 (by omega) u
  have hi6 : ∀ u, (Instr.indexAt 24 (.pointer (some ⟨n, 0, none⟩)) (.int .i64 6)).run Try.prog u = .ok (.pointer (some ⟨n, 6, none⟩)) u := fun u => index_reg n 6 (by omega) u
  have HBY : Hid (∀ u, Keep nought w u → Calls Try.prog 22 #[.pointer (some ⟨s.mb, 0, none⟩), .int .u32 (r5 : Int), .int .i64 (r6 : Int)] u fun x w' => ∃ ao, x = .returned (.slice ao r6 r6) ∧ Row w' ao (s.span r5 r6) r6 ∧ Below u.heap.size u w') := hidden (fun u hu => by
    have h2 := mbytes_any u s r5 (r6 : Int) (h.keep hu (fun b hb => id)) l5
    have e1 : cutLen (r6 : Int) = r6 := by unfold cutLen; omega
    rw [e1, span_len] at h2
    exact h2)
  have HEV := hidden hev
  have HEL := hidden hel
  have HNN := hidden hN
  have HSL := hidden (span_len s r5 r6)
  have HC1 : Hid (∀ ev', ev'.oneCell' = true → (cwC inp at_ rd us ev').all (·.oneCell') = true) := hidden (fun ev' he => cw_one hrd.one he)
  have HFE := hidden hFF
  obtain ⟨C, hC⟩ : ∃ C, v.c = C := ⟨_, rfl⟩
  rw [hC]
  have HC := hidden hC
  obtain ⟨CW, hCW⟩ : ∃ CW, cwC inp at_ rd us ev = CW := ⟨_, rfl⟩
  rw [hCW]
  have HCW := hidden hCW
  have HC54 : Hid (4 < CW.size) := hidden (by rw [← hCW]; exact (show 4 < 5 by decide))
  obtain ⟨data, hdata⟩ : ∃ data, s.span r5 r6 = data := ⟨_, rfl⟩
  rw [hdata] at HBY HSL ⊢
  clear hC hCW hdata hv hrv h2 h4 h5 h6 hfd hrd hev hel hFF l5 l6 h hfo hN
  have l60 : (0 : Int) ≤ (r6 : Int) := by omega
  go_enter Try.func37, Try.ntmps37
  go_upto_region 1 with (first
    | (refine wpList_boxG rfl 26 _ rfl C rfl ?_; rintro w1 k1 s1 b1; rw [hn] at k1 s1 b1 ⊢; have K1 : Hid (Blk w1 n v.c 26) := hidden (by rw [HC.out]; exact k1); have S1 := hidden s1; have B1 := hidden b1; clear k1 s1 b1)
    | (refine wpList_boxG rfl 38 _ rfl CW rfl ?_; rintro w2 k2 s2 b2; rw [S1.out] at k2 s2 b2 ⊢; have K2 := hidden k2; have S2 : Hid (w2.heap.size = q) := hidden (by rw [s2]; exact HQ.out); have B2 := hidden b2; clear k2 s2 b2)
    | (refine wpList_allocV rfl rfl ?_; rintro w3 k3 s3 b3; rw [S2.out] at k3 s3 b3 ⊢; have K3 := hidden k3; have S3 := hidden s3; have B3 := hidden b3; clear k3 s3 b3)
    | (refine wpList_allocCw rfl rfl ?_; rintro w4 k4 s4 b4; rw [S3.out] at k4 s4 b4 ⊢; have P := hidden (WA.mk4 (F := nought) hn HQ.out K1.out S1.out B1.out K2.out S2.out B2.out K3.out S3.out B3.out k4 b4); clear k4 s4 b4 K1 S1 B1 K2 S2 B2 K3 S3 B3; obtain ⟨c2, c4, c5, c6⟩ := P.out.regs HV.out H2.out H4.out H5.out H6.out))
  go_upto_region 3 with (first
    | (go_at_call 64; refine (HRF0.out _ P.out.keep).mono ?_; rintro x w5 ⟨rfl, b5⟩; clear c2 c4 c5 c6; have Q := hidden (P.out.later b5); clear P b5; have P := Q; clear Q; obtain ⟨c2, c4, c5, c6⟩ := P.out.regs HV.out H2.out H4.out H5.out H6.out)
    | (refine wpList_loadV rfl _ rfl n v rfl P.out.s HV.out ?_))
  go_upto_region 6 with (go_at_call 22; refine (HBY.out _ P.out.keep).mono ?_; rintro x w6 ⟨ao, rfl, hrow, b6⟩; clear c2 c4 c5 c6; have Q := hidden (P.out.later b6); clear P; have P := Q; clear Q; have hev6 := HEV.out.later (P.out.keep.below (Nat.le_refl _) (fun b hb => hb.elim)); obtain ⟨v', w', hr, hrw, hkp⟩ := event_append w6 N ev e (r4 : Int) ⟨data.toArray⟩ hev6 (Nat.le_trans HNN.out P.out.keep.size) HEL.out; rw [HFE.out] at hkp; have HRUN := hidden hr; have HRW := hidden hrw; have HKE := hidden hkp; have HLI := hidden hrow.lies; have e4 : w6.cell? ⟨n + 1, 4, none⟩ = some ev := (by have k6 := P.out.c; rw [← HCW.out] at k6; exact k6.cell (j := 4) rfl); clear hrow b6 hev6 hr hrw hkp; obtain ⟨c2, c4, c5, c6⟩ := P.out.regs HV.out H2.out H4.out H5.out H6.out)
  go_upto_region 7 with (first
    | (refine wpList_str rfl _ rfl data ao r6 r6 HSL.out rfl HLI.out ?_)
    | (at_builtin; refine wpList_append_run rfl _ _ 28 28 rfl rfl rfl HRUN.out ?_)
    | (refine wpList_storeC rfl rfl 28 _ _ rfl (n + 1) 4 CW 38 v' rfl rfl (rw_of_own HRW.out).one sizeEs1 (((P.out.wide (G := FF) (fun _ h => h.elim)).turn HKE.out HFN.out).c) HC54.out ?_; rintro w8 k8 o8; have P8 : Hid (WA FF w n q v (cwC inp at_ rd us v') w8) := hidden (((P.out.wide (G := FF) (fun _ h => h.elim)).turn HKE.out HFN.out).putW o8 (by rw [← HCW.out] at k8; exact k8)); have R8 := hidden (own_only HRW.out o8 (((P.out.wide (G := FF) (fun _ h => h.elim)).turn HKE.out HFN.out).c) (by decide)); clear k8 o8))
  have HC2 := hidden (HC1.out v' (rw_of_own HRW.out).one)
  have HC5 : Hid ((cwC inp at_ rd us v').size = 5) := hidden rfl
  obtain ⟨CX, hCX⟩ : ∃ CX, cwC inp at_ rd us v' = CX := ⟨_, rfl⟩
  rw [hCX] at HC2 HC5 P8
  have HCX := hidden hCX
  have KS := hidden P8.out.s
  have KW := hidden P8.out.c
  have QS := hidden P8.out.rs
  have QW := hidden P8.out.rw
  have PQ := P8.out.hq
  have hW5 := HC5.out
  clear hCX P HRUN HRW HKE HLI HBY HRF0 HC1
  refine wp_region_on (later_rf [(q, Obj.cells (SV.c (ansV v (r6 : Int) 0)) 26 (0, 0)), (q + 1, Obj.cells (CX) 38 (0, 0))]) [47, 48, 49, 50, 51, 52, 1006, 1007] 8 (phiWs7 n q v CX (r6 : Int)) (by kernel_rfl) (by kernel_rfl) rfl rfl (phiWs7_mono n q v CX (r6 : Int)) ?_ ?_
  · intro j hj xs w3 hxs hR hpre
    obtain ⟨x0, x1, x2, x3, x4, x5, x6, x7, rfl⟩ := lstWs7 xs hxs
    have hS : Blk w3 (n) (SV.c v) 26 := hR.blk KS.out (rf2_no (by omega) (by omega))
    have hW : Blk w3 (n + 1) CX 38 := hR.blk KW.out (rf2_no (by omega) (by omega))
    have hA := hR.some ⟨_, SV.size (s := SV.zero) rfl, QS.out⟩ (rf2_s1 (SV.size (ansV_len HV.out (r6 : Int) 0)))
    have hB := hR.some (n := 5) ⟨_, (show zCw.size = 5 from rfl), QW.out⟩ (rf2_s2 hW5)
    rcases (show j = 0 ∨ j = 1 ∨ j = 2 ∨ j = 3 ∨ j = 4 ∨ j = 5 ∨ j = 6 ∨ j = 7 by omega) with rfl | rfl | rfl | rfl | rfl | rfl | rfl | rfl
    · exact wpOp_run (.agg (SV.c v)) rfl (by kernel_rfl) (exec_load 26 rfl (by kernel_rfl) w3 (loadSt hS HV.out)) ⟨_, by kernel_rfl, rfl, (later_rf _).refl _⟩
    · exact wpOp_run (.pointer (some ⟨n, 0, none⟩)) rfl (by kernel_rfl) (by kernel_rfl) ⟨_, by kernel_rfl, rfl, (later_rf _).refl _⟩
    · have e1 : x1 = .pointer (some ⟨n, 0, none⟩) := hpre 1 (by kernel_rfl)
      subst e1
      exact wpOp_run (.pointer (some ⟨n, 6, none⟩)) rfl (by kernel_rfl) (exec_indexR (k := 6) (by decide) rfl (by kernel_rfl) (by kernel_rfl) w3) ⟨_, by kernel_rfl, rfl, (later_rf _).refl _⟩
    · have e2 : x2 = .pointer (some ⟨n, 6, none⟩) := hpre 2 (by kernel_rfl)
      subst e2
      exact wpOp_run (.int .u32 (r6 : Int)) rfl (by kernel_rfl) (exec_load 23 rfl (by kernel_rfl) w3 (loadU (by rw [← H6.out]; exact hS.cell (SV.getR HV.out (by decide))))) ⟨_, by kernel_rfl, rfl, (later_rf _).refl _⟩
    · have e0 : x0 = .agg (SV.c v) := hpre 0 (by kernel_rfl)
      subst e0
      have e3 : x3 = .int .u32 (r6 : Int) := hpre 3 (by kernel_rfl)
      subst e3
      refine wpOp_callR (R := fun u w4 => u = .agg (SV.c (ansV v (r6 : Int) 0)) ∧ Below w3.heap.size w3 w4) 65 #[.agg (SV.c v), .int .u32 (r6 : Int)] rfl (by kernel_rfl) (by kernel_rfl) ((HRI.out w3).mono fun e w4 h => ⟨_, h.1, rfl, h.2⟩) ?_
      rintro _ w4 ⟨rfl, hb⟩
      exact ⟨_, by kernel_rfl, rfl, RF.of_below hb⟩
    · exact wpOp_run (.agg CX) rfl (by kernel_rfl) (exec_load 38 rfl (by kernel_rfl) w3 (loadCwR hW hW5)) ⟨_, by kernel_rfl, rfl, (later_rf _).refl _⟩
    · have e4 : x4 = .agg (SV.c (ansV v (r6 : Int) 0)) := hpre 4 (by kernel_rfl)
      subst e4
      obtain ⟨old, hs1, hs2⟩ := hA
      exact wpOp_put rfl (by kernel_rfl) (exec_storeG (g := q) (cs := SV.c (ansV v (r6 : Int) 0)) (old := old) rfl (by kernel_rfl) (by kernel_rfl) w3 hs2 (by rw [SV.size (ansV_len HV.out (r6 : Int) 0)]; exact sizeSV) (by rw [hs1, SV.size (ansV_len HV.out (r6 : Int) 0)]) (SV.one _)) ⟨.bool true, by kernel_rfl, ⟨rfl, setRow_heap w3 (q) old _ 26 (0, 0) hs2⟩, RF.of_only (only_rowV w3 (q) _) (setRow_heap w3 (q) old _ 26 (0, 0) hs2) rf2_m1⟩
    · have e5 : x5 = .agg CX := hpre 5 (by kernel_rfl)
      subst e5
      obtain ⟨old, hs1, hs2⟩ := hB
      exact wpOp_put rfl (by kernel_rfl) (exec_storeG (g := q + 1) (cs := CX) (old := old) rfl (by kernel_rfl) (by kernel_rfl) w3 hs2 (by rw [hW5]; exact sizeCw) (by rw [hs1, hW5]) HC2.out) ⟨.bool true, by kernel_rfl, ⟨rfl, setRow_heap w3 (q + 1) old _ 38 (0, 0) hs2⟩, RF.of_only (only_rowV w3 (q + 1) _) (setRow_heap w3 (q + 1) old _ 38 (0, 0) hs2) rf2_m2⟩
  · intro xs w3 hxs hR hall
    obtain ⟨x0, x1, x2, x3, x4, x5, x6, x7, rfl⟩ := lstWs7 xs hxs
    obtain ⟨_, kA⟩ : x6 = .bool true ∧ Blk w3 (q) (SV.c (ansV v (r6 : Int) 0)) 26 := hall 6 (by omega)
    obtain ⟨_, kB⟩ : x7 = .bool true ∧ Blk w3 (q + 1) (CX) 38 := hall 7 (by omega)
    have RA := hidden kA
    have RB := hidden kB
    have HRF := hidden hR
    have KP := hidden (P8.out.both HRF.out)
    have RO := hidden (own_rf R8.out HRF.out QS.out QW.out (by decide) (by decide))
    clear hR hall hxs kA kB HRF P8 KS KW QS QW R8
    simp only [slotsOn, putAll]
    go_wp2
    refine bodyPost_ret (results_cc rfl _ _ q (q + 1) _ _ (by kernel_rfl) (by kernel_rfl) (loadSt RA.out (ansV_len HV.out _ 0)) (loadCwR RB.out HC5.out)) rfl ⟨v', by rw [HCX.out], RO.out, KP.out⟩
end Go.Proofs.Ytodoenimlhldjaa
