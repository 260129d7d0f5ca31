/- Call that writes, or is refused. -/
import Derived.Test.YtodoenimlhldjaaBXRA
namespace Go.Proofs.Ytodoenimlhldjaa
open Go.ChangeShapes Go.WideShapes Go.ChangeAt Go.RowKit
set_option linter.unusedVariables false
/-- What the slots of the region hold, whatever the order. -/
def phiCbwn (n q : Nat) (v V : SV) (CX : Array Value) (gg : Int) : Nat → Value → World → Prop
  | 0, x, _ => x = .agg (SV.c V)
  | 1, x, _ => x = .agg CX
  | 2, x, _ => x = .int .i64 gg
  | 3, x, w => x = .bool true ∧ Blk w (q) (SV.c (V)) 26
  | 4, x, w => x = .bool true ∧ Blk w (q + 1) (CX) 38
  | 5, x, _ => x = .int .i64 gg
  | 6, x, _ => x = .int .u32 0
  | _ + 7, _, _ => True
theorem phiCbwn_mono (n q : Nat) (v V : SV) (CX : Array Value) (gg : Int) : ∀ i x w w', phiCbwn n q v V CX gg i x w → RF [(q, Obj.cells (SV.c (V)) 26 (0, 0)), (q + 1, Obj.cells (CX) 38 (0, 0))] w w' → phiCbwn n q v V CX gg i x w'
  | 0, _, _, _, h, _ => h
  | 1, _, _, _, h, _ => h
  | 2, _, _, _, h, _ => h
  | 3, x, w, w', h, hb => ⟨h.1, hb.blk h.2 rf2_a⟩
  | 4, x, w, w', h, hb => ⟨h.1, hb.blk h.2 rf2_b⟩
  | 5, _, _, _, h, _ => h
  | 6, _, _, _, h, _ => h
  | _ + 7, _, _, _, _, _ => trivial
theorem lstCbwn : ∀ xs : List Value, xs.length = 7 → ∃ x0 x1 x2 x3 x4 x5 x6, xs = [x0, x1, x2, x3, x4, x5, x6]
  | [x0, x1, x2, x3, x4, x5, x6], _ => ⟨_, _, _, _, _, _, _, rfl⟩
set_option maxRecDepth 20000 in
set_option maxHeartbeats 2000000 in
theorem call_wn (w : World) (s : MS) (h : MemW w s) (v : SV) (hv : v.ok) (inp : ByteArray) (at_ us : Int) (rd ev : Value) (l : List Int) (e : List (Int × ByteArray)) (hrd : Rw w 1 rd l.length (cI l)) (hev : Rw w 2 ev e.length (cE e)) (hl : l.length ≤ 16384) (hel : e.length ≤ 16384) (h2 : v.R.getD 2 0 = 4004) (V : SV) (hVl : V.R.length = 32) (P : MS → Prop) (G : Nat → Prop) (hG : ∀ b, G b → foot s b) (hcal : ∀ (u : World) (rd1 ev1 : Value), Below w.heap.size w u → w.heap.size + 4 ≤ u.heap.size → Fr u (w.heap.size + 4) 3 rd1 l.length (cI l) → Fr u (w.heap.size + 4) 66 ev1 e.length (cE e) → Calls Try.prog 37 #[.pointer (some ⟨s.mb, 0, none⟩), .agg v.c, .agg (cwC inp at_ rd1 us ev1)] u fun x w' => x = .returned (.tuple #[.agg V.c, .agg (cwC inp at_ rd1 us ev1)]) ∧ ∃ s', Step u s w' s' ∧ Keep G u w' ∧ P s') : Calls Try.prog 13 #[.pointer (some ⟨s.mb, 0, none⟩), .agg v.c, .agg (cwC inp at_ rd us ev)] w fun x w' => ∃ rd' ev', x = .returned (.tuple #[.agg (SV.c V), .agg (cwC inp at_ rd' us ev'), .int .i64 0, .int .u32 0]) ∧ Fr w' w.heap.size 3 rd' l.length (cI l) ∧ Fr w' w.heap.size 66 ev' e.length (cE e) ∧ ∃ s', Step w s w' s' ∧ Keep G w w' ∧ P s' := by
  obtain ⟨n, hn⟩ : ∃ n, w.heap.size = n := ⟨_, rfl⟩
  obtain ⟨q, hq⟩ : ∃ q, n + 1 + 1 = q := ⟨_, rfl⟩
  have HQ := hidden hq
  have HV := hidden hv.1
  have HLL := hidden hl
  have HEL := hidden hel
  have HSF : Hid (∀ b, foot s b → b < n) := hidden (fun b hb => by rw [← hn]; exact h.lt hb)
  have HOW := hidden (fun u (hu : Below w.heap.size w u) => own_any u inp at_ us rd ev l e (hrd.later hu) (hev.later hu) hl hel)
  have HL5 := hidden hVl
  have HCAL := hidden hcal
  have HG := hidden hG
  have HGN : Hid (∀ b, G b → b < n) := hidden (fun b hb => HSF.out b (hG b hb))
  rw [hn] at HCAL
  obtain ⟨r2, h22⟩ : ∃ r2 : Nat, v.R.getD 2 0 = (r2 : Int) := ⟨(v.R.getD 2 0).toNat, by have := (hv.2.1 2 (by omega)).1; omega⟩
  obtain ⟨r4, h4⟩ : ∃ r4 : Nat, v.R.getD 4 0 = (r4 : Int) := ⟨(v.R.getD 4 0).toNat, by have := (hv.2.1 4 (by omega)).1; omega⟩
  obtain ⟨r5, h5⟩ : ∃ r5 : Nat, v.R.getD 5 0 = (r5 : Int) := ⟨(v.R.getD 5 0).toNat, by have := (hv.2.1 5 (by omega)).1; omega⟩
  obtain ⟨r6, h6⟩ : ∃ r6 : Nat, v.R.getD 6 0 = (r6 : Int) := ⟨(v.R.getD 6 0).toNat, by have := (hv.2.1 6 (by omega)).1; omega⟩
  have l5 : r5 < 4294967296 := by have := (hv.2.1 5 (by omega)).2; omega
  have l6 : r6 < 4294967296 := by have := (hv.2.1 6 (by omega)).2; omega
  have H2 := hidden h22
  have H4 := hidden h4
  have H5 := hidden h5
  have H6 := hidden h6
  have e2 : r2 = 4004 := by omega
  subst e2
  have hi2 : ∀ u, (Instr.indexAt 24 (.pointer (some ⟨n, 0, none⟩)) (.int .i64 2)).run Try.prog u = .ok (.pointer (some ⟨n, 2, none⟩)) u := fun u => index_reg n 2 (by omega) u
  have HC1 : Hid ((cwC inp at_ rd us ev).all (·.oneCell') = true) := hidden (cw_one hrd.one hev.one)
  have HC5 : Hid ((cwC inp at_ rd us ev).size = 5) := hidden rfl
  obtain ⟨CW, hCW⟩ : ∃ CW, cwC inp at_ rd us ev = CW := ⟨_, rfl⟩
  rw [hCW] at HC1 HC5 HOW ⊢
  obtain ⟨C, hC⟩ : ∃ C, v.c = C := ⟨_, rfl⟩
  rw [hC]
  have HC := hidden hC
  have HM := hidden h
  clear hC hCW hq hv h2 h22 h4 h5 h6 l5 l6 hrd hev hl hel h hVl hcal hG
  go_enter Try.func13, Try.ntmps13
  go_upto_region 1 with (first
    | (refine wpList_boxG rfl 26 _ rfl C rfl ?_; rintro w1 k1 s1 b1; rw [hn] at k1 s1 b1 ⊢; have K1 : Hid (Blk w1 n v.c 26) := hidden (by rw [HC.out]; exact k1); have S1 := hidden s1; have B1 := hidden b1; clear k1 s1 b1)
    | (refine wpList_boxG rfl 38 _ rfl CW rfl ?_; rintro w2 k2 s2 b2; rw [S1.out] at k2 s2 b2 ⊢; have K2 := hidden k2; have S2 : Hid (w2.heap.size = q) := hidden (by rw [s2]; exact HQ.out); have B2 := hidden b2; clear k2 s2 b2)
    | (refine wpList_allocV rfl rfl ?_; rintro w3 k3 s3 b3; rw [S2.out] at k3 s3 b3 ⊢; have K3 := hidden k3; have S3 := hidden s3; have B3 := hidden b3; clear k3 s3 b3)
    | (refine wpList_allocCw rfl rfl ?_; rintro w4 k4 s4 b4; rw [S3.out] at k4 s4 b4 ⊢; have P := hidden (WA.mk4 (F := nought) hn HQ.out K1.out S1.out B1.out K2.out S2.out B2.out K3.out S3.out B3.out k4 b4); clear k4 s4 b4 K1 S1 B1 K2 S2 B2 K3 S3 B3))
  have HNQ : Hid (n + 1 < q + 2) := hidden (by have := HQ.out; omega)
  have HNQ0 : Hid (n < q + 2) := hidden (by have := HQ.out; omega)
  have HNF : Hid (∀ b, foot s b → b < q + 2) := hidden (fun b hb => by have := HSF.out b hb; have := HNQ0.out; omega)
  go_upto_region 2 with (first
    | (refine wpList_loadCw rfl _ rfl (n + 1) CW rfl P.out.c HC5.out ?_)
    | (go_at_call 34; refine (HOW.out _ P.out.bel).mono ?_; rintro x w5 ⟨rd1, ev1, rfl, f1, f2, b5⟩; have F1 := hidden (f1.mono P.out.sz); have F2 := hidden (f2.mono P.out.sz); have Q := hidden (P.out.later b5); clear P f1 f2 b5; have P := Q; clear Q)
    | (refine wpList_storeCw rfl rfl _ _ rfl (n + 1) CW (cwC inp at_ rd1 us ev1) rfl rfl P.out.c HC5.out rfl (cw_one F1.out.one F2.out.one) ?_; rintro w6 k6 o6; have Q := hidden (P.out.putW o6 k6); clear P; have P := Q; clear Q; have F3 := hidden (F1.out.keep (Keep.of_only o6) HNQ.out); have F4 := hidden (F2.out.keep (Keep.of_only o6) HNQ.out); clear k6 o6 F1 F2))
  have c2 : _ := P.out.s.cell (SV.getR HV.out (show 2 < 32 by decide))
  rw [H2.out] at c2
  have HWZ := hidden (HCAL.out _ rd1 ev1 (by rw [← hn]; exact P.out.bel) (by have := P.out.sz; have := HQ.out; omega) (F3.out.mono (by have := HQ.out; omega)) (F4.out.mono (by have := HQ.out; omega)))
  have HUS : Hid (n + 4 ≤ w6.heap.size) := hidden (by have := P.out.sz; have := HQ.out; omega)
  obtain ⟨CY, hCY⟩ : ∃ CY, cwC inp at_ rd1 us ev1 = CY := ⟨_, rfl⟩
  have HCYE := hidden hCY
  have HCY1 : Hid (CY.all (·.oneCell') = true) := hidden (by rw [← hCY]; exact cw_one F3.out.one F4.out.one)
  rw [hCY] at P HWZ
  have HCY5 : Hid (CY.size = 5) := hidden (by rw [← hCY]; rfl)
  clear hCY HOW HC1 HCAL
  go_upto_region 13 with (first
    | (refine wpList_loadV rfl _ rfl n v rfl P.out.s HV.out ?_)
    | (refine wpList_loadCw rfl _ rfl (n + 1) CY rfl P.out.c HCY5.out ?_)
    | (go_at_call 37; refine HWZ.out.mono ?_; rintro x w7 ⟨rfl, s2, hst, hkg, hps⟩; have P7 := hidden ((P.out.wide (G := G) (fun _ h => h.elim)).turn hkg HGN.out); have S7 := hidden (SP.of_step hst HSF.out HUS.out); have F7 := hidden (F3.out.keepF hst.keep HNF.out); have G7 := hidden (F4.out.keepF hst.keep HNF.out); have HPS := hidden hps; clear c2 hst hps hkg HWZ F3 F4 P)
    | (refine wpList_storeV rfl rfl _ _ rfl n v V rfl rfl P7.out.s HV.out HL5.out ?_; rintro w8 k8 o8; have P8 := hidden (P7.out.putS o8 k8); have S8 := hidden (S7.out.only o8 (Nat.le_refl n) (by omega)); have F8 := hidden (F7.out.keep (Keep.of_only o8) HNQ0.out); have G8 := hidden (G7.out.keep (Keep.of_only o8) HNQ0.out); clear k8 o8 P7 F7 G7)
    | (refine wpList_storeCw rfl rfl _ _ rfl (n + 1) CY CY rfl rfl P8.out.c HCY5.out HCY5.out HCY1.out ?_; rintro w9 k9 o9; have P9 := hidden (P8.out.putW o9 k9); have S9 := hidden (S8.out.only o9 (Nat.le_succ n) (by omega)); have F9 := hidden (F8.out.keep (Keep.of_only o9) HNQ.out); have G9 := hidden (G8.out.keep (Keep.of_only o9) HNQ.out); clear k9 o9 P8 S8 F8 G8))
  have HC2 := HCY1
  obtain ⟨CX, hCX⟩ : ∃ CX, CY = CX := ⟨_, rfl⟩
  have HC5X : Hid (CX.size = 5) := hidden (by rw [← hCX]; exact HCY5.out)
  rw [hCX] at HC2 P9
  have HCX : Hid (cwC inp at_ rd1 us ev1 = CX) := hidden (HCYE.out.trans hCX)
  have KS := hidden P9.out.s
  have KW := hidden P9.out.c
  have QS := hidden P9.out.rs
  have QW := hidden P9.out.rw
  have PQ := P9.out.hq
  have hW5 := HC5X.out
  clear hCX HCY5
  refine wp_region_on (later_rf [(q, Obj.cells (SV.c (V)) 26 (0, 0)), (q + 1, Obj.cells (CX) 38 (0, 0))]) [52, 53, 54, 1003, 1004, 8, 9] 7 (phiCbwn n q v V CX (0 : Int)) (by kernel_rfl) (by kernel_rfl) rfl rfl (phiCbwn_mono n q v V CX (0 : Int)) ?_ ?_
  · intro j hj xs w3 hxs hR hpre
    obtain ⟨x0, x1, x2, x3, x4, x5, x6, rfl⟩ := lstCbwn xs hxs
    have hS : Blk w3 (n) (SV.c V) 26 := hR.blk KS.out (rf2_no (by omega) (by omega))
    have hW : Blk w3 (n + 1) CX 38 := hR.blk KW.out (rf2_no (by omega) (by omega))
    have hA := hR.some ⟨_, SV.size (s := SV.zero) rfl, QS.out⟩ (rf2_s1 (SV.size HL5.out))
    have hB := hR.some (n := 5) ⟨_, (show zCw.size = 5 from rfl), QW.out⟩ (rf2_s2 hW5)
    rcases (show j = 0 ∨ j = 1 ∨ j = 2 ∨ j = 3 ∨ j = 4 ∨ j = 5 ∨ j = 6 by omega) with rfl | rfl | rfl | rfl | rfl | rfl | rfl
    · exact wpOp_run (.agg (SV.c V)) rfl (by kernel_rfl) (exec_load 26 rfl (by kernel_rfl) w3 (loadSt hS HL5.out)) ⟨_, by kernel_rfl, rfl, (later_rf _).refl _⟩
    · exact wpOp_run (.agg CX) rfl (by kernel_rfl) (exec_load 38 rfl (by kernel_rfl) w3 (loadCwR hW hW5)) ⟨_, by kernel_rfl, rfl, (later_rf _).refl _⟩
    · exact wpOp_run (.int .i64 0) rfl (by kernel_rfl) (exec_move rfl (by kernel_rfl) w3) ⟨_, by kernel_rfl, rfl, (later_rf _).refl _⟩
    · have e0 : x0 = .agg (SV.c V) := hpre 0 (by kernel_rfl)
      subst e0
      obtain ⟨old, hs1, hs2⟩ := hA
      exact wpOp_put rfl (by kernel_rfl) (exec_storeG (g := q) (cs := SV.c (V)) (old := old) rfl (by kernel_rfl) (by kernel_rfl) w3 hs2 (by rw [SV.size HL5.out]; exact sizeSV) (by rw [hs1, SV.size HL5.out]) (SV.one _)) ⟨.bool true, by kernel_rfl, ⟨rfl, setRow_heap w3 (q) old _ 26 (0, 0) hs2⟩, RF.of_only (only_rowV w3 (q) _) (setRow_heap w3 (q) old _ 26 (0, 0) hs2) rf2_m1⟩
    · have e1 : x1 = .agg CX := hpre 1 (by kernel_rfl)
      subst e1
      obtain ⟨old, hs1, hs2⟩ := hB
      exact wpOp_put rfl (by kernel_rfl) (exec_storeG (g := q + 1) (cs := CX) (old := old) rfl (by kernel_rfl) (by kernel_rfl) w3 hs2 (by rw [hW5]; exact sizeCw) (by rw [hs1, hW5]) HC2.out) ⟨.bool true, by kernel_rfl, ⟨rfl, setRow_heap w3 (q + 1) old _ 38 (0, 0) hs2⟩, RF.of_only (only_rowV w3 (q + 1) _) (setRow_heap w3 (q + 1) old _ 38 (0, 0) hs2) rf2_m2⟩
    · have e2 : x2 = .int .i64 0 := hpre 2 (by kernel_rfl)
      subst e2
      exact wpOp_run (.int .i64 0) rfl (by kernel_rfl) (by kernel_rfl) ⟨_, by kernel_rfl, rfl, (later_rf _).refl _⟩
    · exact wpOp_run (.int .u32 0) rfl (by kernel_rfl) (by kernel_rfl) ⟨_, by kernel_rfl, rfl, (later_rf _).refl _⟩
  · intro xs w3 hxs hR hall
    obtain ⟨x0, x1, x2, x3, x4, x5, x6, rfl⟩ := lstCbwn xs hxs
    obtain ⟨_, kA⟩ : x3 = .bool true ∧ Blk w3 (q) (SV.c (V)) 26 := hall 3 (by omega)
    obtain ⟨_, kB⟩ : x4 = .bool true ∧ Blk w3 (q + 1) (CX) 38 := hall 4 (by omega)
    have RA := hidden kA
    have RB := hidden kB
    have HRF := hidden hR
    have g5 : x5 = .int .i64 0 := hall 5 (by omega)
    have g6 : x6 = .int .u32 0 := hall 6 (by omega)
    subst g5
    subst g6
    have KP := hidden (P9.out.both HRF.out)
    have RI := hidden ((F9.out.rf HRF.out).mono (M := w.heap.size) (by rw [hn]; have := HQ.out; omega))
    have RO := hidden ((G9.out.rf HRF.out).mono (M := w.heap.size) (by rw [hn]; have := HQ.out; omega))
    have SE := hidden (S9.out.rf HRF.out HQ.out)
    clear hR hall hxs kA kB HRF P9 KS KW QS QW G9 F9
    simp only [slotsOn, putAll]
    go_wp2
    refine bodyPost_ret (results_cctt rfl _ _ q (q + 1) _ _ (by kernel_rfl) (by kernel_rfl) (loadSt RA.out HL5.out) (loadCwR RB.out HC5X.out)) rfl ⟨rd1, ev1, ?_, RI.out, RO.out, s2, ⟨SE.out.mem, KP.out.mono (fun b _ hb => HG.out b hb), fun b hb => (SE.out.grow b hb).imp id (fun h => by rw [hn]; exact h)⟩, KP.out, HPS.out⟩
    rw [HCX.out]
    kernel_rfl
end Go.Proofs.Ytodoenimlhldjaa
namespace Go.Proofs.Ytodoenimlhldjaa
open Go.ChangeShapes Go.WideShapes Go.ChangeAt Go.RowKit
set_option linter.unusedVariables false
/-- What the slots of the region hold, whatever the order. -/
def phiCbmr (n q : Nat) (v V : SV) (CX : Array Value) (gg : Int) : Nat → Value → World → Prop
  | 0, x, _ => x = .agg (SV.c V)
  | 1, x, _ => x = .agg CX
  | 2, x, _ => x = .int .i64 gg
  | 3, x, w => x = .bool true ∧ Blk w (q) (SV.c (V)) 26
  | 4, x, w => x = .bool true ∧ Blk w (q + 1) (CX) 38
  | 5, x, _ => x = .int .i64 gg
  | 6, x, _ => x = .int .u32 0
  | _ + 7, _, _ => True
theorem phiCbmr_mono (n q : Nat) (v V : SV) (CX : Array Value) (gg : Int) : ∀ i x w w', phiCbmr n q v V CX gg i x w → RF [(q, Obj.cells (SV.c (V)) 26 (0, 0)), (q + 1, Obj.cells (CX) 38 (0, 0))] w w' → phiCbmr n q v V CX gg i x w'
  | 0, _, _, _, h, _ => h
  | 1, _, _, _, h, _ => h
  | 2, _, _, _, h, _ => h
  | 3, x, w, w', h, hb => ⟨h.1, hb.blk h.2 rf2_a⟩
  | 4, x, w, w', h, hb => ⟨h.1, hb.blk h.2 rf2_b⟩
  | 5, _, _, _, h, _ => h
  | 6, _, _, _, h, _ => h
  | _ + 7, _, _, _, _, _ => trivial
theorem lstCbmr : ∀ xs : List Value, xs.length = 7 → ∃ x0 x1 x2 x3 x4 x5 x6, xs = [x0, x1, x2, x3, x4, x5, x6]
  | [x0, x1, x2, x3, x4, x5, x6], _ => ⟨_, _, _, _, _, _, _, rfl⟩
set_option maxRecDepth 20000 in
set_option maxHeartbeats 2000000 in
theorem call_mr (w : World) (s : MS) (h : MemW w s) (v : SV) (hv : v.ok) (inp : ByteArray) (at_ us : Int) (rd ev : Value) (l : List Int) (e : List (Int × ByteArray)) (hrd : Rw w 1 rd l.length (cI l)) (hev : Rw w 2 ev e.length (cE e)) (hl : l.length ≤ 16384) (hel : e.length ≤ 16384) (h2 : v.R.getD 2 0 = 4090) (V : SV) (hVl : V.R.length = 32) (P : MS → Prop) (G : Nat → Prop) (hG : ∀ b, G b → foot s b) (gg : Int) (hcal : ∀ (u : World) (rd1 ev1 : Value), Below w.heap.size w u → w.heap.size + 4 ≤ u.heap.size → Fr u (w.heap.size + 4) 3 rd1 l.length (cI l) → Fr u (w.heap.size + 4) 66 ev1 e.length (cE e) → Calls Try.prog 38 #[.pointer (some ⟨s.mb, 0, none⟩), .agg v.c] u fun x w' => x = .returned (.tuple #[.agg V.c, .int .i64 gg]) ∧ ∃ s', Step u s w' s' ∧ Keep G u w' ∧ P s') : Calls Try.prog 13 #[.pointer (some ⟨s.mb, 0, none⟩), .agg v.c, .agg (cwC inp at_ rd us ev)] w fun x w' => ∃ rd' ev', x = .returned (.tuple #[.agg (SV.c V), .agg (cwC inp at_ rd' us ev'), .int .i64 gg, .int .u32 0]) ∧ Fr w' w.heap.size 3 rd' l.length (cI l) ∧ Fr w' w.heap.size 66 ev' e.length (cE e) ∧ ∃ s', Step w s w' s' ∧ Keep G w w' ∧ P s' := by
  obtain ⟨n, hn⟩ : ∃ n, w.heap.size = n := ⟨_, rfl⟩
  obtain ⟨q, hq⟩ : ∃ q, n + 1 + 1 = q := ⟨_, rfl⟩
  have HQ := hidden hq
  have HV := hidden hv.1
  have HLL := hidden hl
  have HEL := hidden hel
  have HSF : Hid (∀ b, foot s b → b < n) := hidden (fun b hb => by rw [← hn]; exact h.lt hb)
  have HOW := hidden (fun u (hu : Below w.heap.size w u) => own_any u inp at_ us rd ev l e (hrd.later hu) (hev.later hu) hl hel)
  have HL5 := hidden hVl
  have HCAL := hidden hcal
  have HG := hidden hG
  have HGN : Hid (∀ b, G b → b < n) := hidden (fun b hb => HSF.out b (hG b hb))
  rw [hn] at HCAL
  obtain ⟨r2, h22⟩ : ∃ r2 : Nat, v.R.getD 2 0 = (r2 : Int) := ⟨(v.R.getD 2 0).toNat, by have := (hv.2.1 2 (by omega)).1; omega⟩
  obtain ⟨r4, h4⟩ : ∃ r4 : Nat, v.R.getD 4 0 = (r4 : Int) := ⟨(v.R.getD 4 0).toNat, by have := (hv.2.1 4 (by omega)).1; omega⟩
  obtain ⟨r5, h5⟩ : ∃ r5 : Nat, v.R.getD 5 0 = (r5 : Int) := ⟨(v.R.getD 5 0).toNat, by have := (hv.2.1 5 (by omega)).1; omega⟩
  obtain ⟨r6, h6⟩ : ∃ r6 : Nat, v.R.getD 6 0 = (r6 : Int) := ⟨(v.R.getD 6 0).toNat, by have := (hv.2.1 6 (by omega)).1; omega⟩
  have l5 : r5 < 4294967296 := by have := (hv.2.1 5 (by omega)).2; omega
  have l6 : r6 < 4294967296 := by have := (hv.2.1 6 (by omega)).2; omega
  have H2 := hidden h22
  have H4 := hidden h4
  have H5 := hidden h5
  have H6 := hidden h6
  have e2 : r2 = 4090 := by omega
  subst e2
  have hi2 : ∀ u, (Instr.indexAt 24 (.pointer (some ⟨n, 0, none⟩)) (.int .i64 2)).run Try.prog u = .ok (.pointer (some ⟨n, 2, none⟩)) u := fun u => index_reg n 2 (by omega) u
  have HC1 : Hid ((cwC inp at_ rd us ev).all (·.oneCell') = true) := hidden (cw_one hrd.one hev.one)
  have HC5 : Hid ((cwC inp at_ rd us ev).size = 5) := hidden rfl
  obtain ⟨CW, hCW⟩ : ∃ CW, cwC inp at_ rd us ev = CW := ⟨_, rfl⟩
  rw [hCW] at HC1 HC5 HOW ⊢
  obtain ⟨C, hC⟩ : ∃ C, v.c = C := ⟨_, rfl⟩
  rw [hC]
  have HC := hidden hC
  have HM := hidden h
  clear hC hCW hq hv h2 h22 h4 h5 h6 l5 l6 hrd hev hl hel h hVl hcal hG
  go_enter Try.func13, Try.ntmps13
  go_upto_region 1 with (first
    | (refine wpList_boxG rfl 26 _ rfl C rfl ?_; rintro w1 k1 s1 b1; rw [hn] at k1 s1 b1 ⊢; have K1 : Hid (Blk w1 n v.c 26) := hidden (by rw [HC.out]; exact k1); have S1 := hidden s1; have B1 := hidden b1; clear k1 s1 b1)
    | (refine wpList_boxG rfl 38 _ rfl CW rfl ?_; rintro w2 k2 s2 b2; rw [S1.out] at k2 s2 b2 ⊢; have K2 := hidden k2; have S2 : Hid (w2.heap.size = q) := hidden (by rw [s2]; exact HQ.out); have B2 := hidden b2; clear k2 s2 b2)
    | (refine wpList_allocV rfl rfl ?_; rintro w3 k3 s3 b3; rw [S2.out] at k3 s3 b3 ⊢; have K3 := hidden k3; have S3 := hidden s3; have B3 := hidden b3; clear k3 s3 b3)
    | (refine wpList_allocCw rfl rfl ?_; rintro w4 k4 s4 b4; rw [S3.out] at k4 s4 b4 ⊢; have P := hidden (WA.mk4 (F := nought) hn HQ.out K1.out S1.out B1.out K2.out S2.out B2.out K3.out S3.out B3.out k4 b4); clear k4 s4 b4 K1 S1 B1 K2 S2 B2 K3 S3 B3))
  have HNQ : Hid (n + 1 < q + 2) := hidden (by have := HQ.out; omega)
  have HNQ0 : Hid (n < q + 2) := hidden (by have := HQ.out; omega)
  have HNF : Hid (∀ b, foot s b → b < q + 2) := hidden (fun b hb => by have := HSF.out b hb; have := HNQ0.out; omega)
  go_upto_region 2 with (first
    | (refine wpList_loadCw rfl _ rfl (n + 1) CW rfl P.out.c HC5.out ?_)
    | (go_at_call 34; refine (HOW.out _ P.out.bel).mono ?_; rintro x w5 ⟨rd1, ev1, rfl, f1, f2, b5⟩; have F1 := hidden (f1.mono P.out.sz); have F2 := hidden (f2.mono P.out.sz); have Q := hidden (P.out.later b5); clear P f1 f2 b5; have P := Q; clear Q)
    | (refine wpList_storeCw rfl rfl _ _ rfl (n + 1) CW (cwC inp at_ rd1 us ev1) rfl rfl P.out.c HC5.out rfl (cw_one F1.out.one F2.out.one) ?_; rintro w6 k6 o6; have Q := hidden (P.out.putW o6 k6); clear P; have P := Q; clear Q; have F3 := hidden (F1.out.keep (Keep.of_only o6) HNQ.out); have F4 := hidden (F2.out.keep (Keep.of_only o6) HNQ.out); clear k6 o6 F1 F2))
  have c2 : _ := P.out.s.cell (SV.getR HV.out (show 2 < 32 by decide))
  rw [H2.out] at c2
  have HWZ := hidden (HCAL.out _ rd1 ev1 (by rw [← hn]; exact P.out.bel) (by have := P.out.sz; have := HQ.out; omega) (F3.out.mono (by have := HQ.out; omega)) (F4.out.mono (by have := HQ.out; omega)))
  have HUS : Hid (n + 4 ≤ w6.heap.size) := hidden (by have := P.out.sz; have := HQ.out; omega)
  obtain ⟨CY, hCY⟩ : ∃ CY, cwC inp at_ rd1 us ev1 = CY := ⟨_, rfl⟩
  have HCYE := hidden hCY
  rw [hCY] at P
  have HCY5 : Hid (CY.size = 5) := hidden (by rw [← hCY]; rfl)
  clear hCY HOW HC1 HCAL
  go_upto_region 13 with (first
    | (refine wpList_loadV rfl _ rfl n v rfl P.out.s HV.out ?_)
    | (refine wpList_loadCw rfl _ rfl (n + 1) CY rfl P.out.c HCY5.out ?_)
    | (go_at_call 38; refine HWZ.out.mono ?_; rintro x w7 ⟨rfl, s2, hst, hkg, hps⟩; have P7 := hidden ((P.out.wide (G := G) (fun _ h => h.elim)).turn hkg HGN.out); have S7 := hidden (SP.of_step hst HSF.out HUS.out); have F7 := hidden (F3.out.keepF hst.keep HNF.out); have G7 := hidden (F4.out.keepF hst.keep HNF.out); have HPS := hidden hps; clear c2 hst hps hkg HWZ F3 F4 P)
    | (refine wpList_storeV rfl rfl _ _ rfl n v V rfl rfl P7.out.s HV.out HL5.out ?_; rintro w8 k8 o8; have P8 := hidden (P7.out.putS o8 k8); have S8 := hidden (S7.out.only o8 (Nat.le_refl n) (by omega)); have F8 := hidden (F7.out.keep (Keep.of_only o8) HNQ0.out); have G8 := hidden (G7.out.keep (Keep.of_only o8) HNQ0.out); clear k8 o8 P7 F7 G7))
  have F9 := F8
  have G9 := G8
  have P9 := P8
  have HC2 : Hid (CY.all (·.oneCell') = true) := hidden (by rw [← HCYE.out]; exact cw_one F9.out.one G9.out.one)
  obtain ⟨CX, hCX⟩ : ∃ CX, CY = CX := ⟨_, rfl⟩
  have HC5X : Hid (CX.size = 5) := hidden (by rw [← hCX]; exact HCY5.out)
  rw [hCX] at HC2 P9
  have HCX : Hid (cwC inp at_ rd1 us ev1 = CX) := hidden (HCYE.out.trans hCX)
  clear P8 F8 G8
  have S9 := S8
  have KS := hidden P9.out.s
  have KW := hidden P9.out.c
  have QS := hidden P9.out.rs
  have QW := hidden P9.out.rw
  have PQ := P9.out.hq
  have hW5 := HC5X.out
  clear hCX HCY5
  refine wp_region_on (later_rf [(q, Obj.cells (SV.c (V)) 26 (0, 0)), (q + 1, Obj.cells (CX) 38 (0, 0))]) [52, 53, 54, 1003, 1004, 8, 9] 7 (phiCbmr n q v V CX gg) (by kernel_rfl) (by kernel_rfl) rfl rfl (phiCbmr_mono n q v V CX gg) ?_ ?_
  · intro j hj xs w3 hxs hR hpre
    obtain ⟨x0, x1, x2, x3, x4, x5, x6, rfl⟩ := lstCbmr xs hxs
    have hS : Blk w3 (n) (SV.c V) 26 := hR.blk KS.out (rf2_no (by omega) (by omega))
    have hW : Blk w3 (n + 1) CX 38 := hR.blk KW.out (rf2_no (by omega) (by omega))
    have hA := hR.some ⟨_, SV.size (s := SV.zero) rfl, QS.out⟩ (rf2_s1 (SV.size HL5.out))
    have hB := hR.some (n := 5) ⟨_, (show zCw.size = 5 from rfl), QW.out⟩ (rf2_s2 hW5)
    rcases (show j = 0 ∨ j = 1 ∨ j = 2 ∨ j = 3 ∨ j = 4 ∨ j = 5 ∨ j = 6 by omega) with rfl | rfl | rfl | rfl | rfl | rfl | rfl
    · exact wpOp_run (.agg (SV.c V)) rfl (by kernel_rfl) (exec_load 26 rfl (by kernel_rfl) w3 (loadSt hS HL5.out)) ⟨_, by kernel_rfl, rfl, (later_rf _).refl _⟩
    · exact wpOp_run (.agg CX) rfl (by kernel_rfl) (exec_load 38 rfl (by kernel_rfl) w3 (loadCwR hW hW5)) ⟨_, by kernel_rfl, rfl, (later_rf _).refl _⟩
    · exact wpOp_run (.int .i64 gg) rfl (by kernel_rfl) (exec_move rfl (by kernel_rfl) w3) ⟨_, by kernel_rfl, rfl, (later_rf _).refl _⟩
    · have e0 : x0 = .agg (SV.c V) := hpre 0 (by kernel_rfl)
      subst e0
      obtain ⟨old, hs1, hs2⟩ := hA
      exact wpOp_put rfl (by kernel_rfl) (exec_storeG (g := q) (cs := SV.c (V)) (old := old) rfl (by kernel_rfl) (by kernel_rfl) w3 hs2 (by rw [SV.size HL5.out]; exact sizeSV) (by rw [hs1, SV.size HL5.out]) (SV.one _)) ⟨.bool true, by kernel_rfl, ⟨rfl, setRow_heap w3 (q) old _ 26 (0, 0) hs2⟩, RF.of_only (only_rowV w3 (q) _) (setRow_heap w3 (q) old _ 26 (0, 0) hs2) rf2_m1⟩
    · have e1 : x1 = .agg CX := hpre 1 (by kernel_rfl)
      subst e1
      obtain ⟨old, hs1, hs2⟩ := hB
      exact wpOp_put rfl (by kernel_rfl) (exec_storeG (g := q + 1) (cs := CX) (old := old) rfl (by kernel_rfl) (by kernel_rfl) w3 hs2 (by rw [hW5]; exact sizeCw) (by rw [hs1, hW5]) HC2.out) ⟨.bool true, by kernel_rfl, ⟨rfl, setRow_heap w3 (q + 1) old _ 38 (0, 0) hs2⟩, RF.of_only (only_rowV w3 (q + 1) _) (setRow_heap w3 (q + 1) old _ 38 (0, 0) hs2) rf2_m2⟩
    · have e2 : x2 = .int .i64 gg := hpre 2 (by kernel_rfl)
      subst e2
      exact wpOp_run (.int .i64 gg) rfl (by kernel_rfl) (by kernel_rfl) ⟨_, by kernel_rfl, rfl, (later_rf _).refl _⟩
    · exact wpOp_run (.int .u32 0) rfl (by kernel_rfl) (by kernel_rfl) ⟨_, by kernel_rfl, rfl, (later_rf _).refl _⟩
  · intro xs w3 hxs hR hall
    obtain ⟨x0, x1, x2, x3, x4, x5, x6, rfl⟩ := lstCbmr xs hxs
    obtain ⟨_, kA⟩ : x3 = .bool true ∧ Blk w3 (q) (SV.c (V)) 26 := hall 3 (by omega)
    obtain ⟨_, kB⟩ : x4 = .bool true ∧ Blk w3 (q + 1) (CX) 38 := hall 4 (by omega)
    have RA := hidden kA
    have RB := hidden kB
    have HRF := hidden hR
    have g5 : x5 = .int .i64 gg := hall 5 (by omega)
    have g6 : x6 = .int .u32 0 := hall 6 (by omega)
    subst g5
    subst g6
    have KP := hidden (P9.out.both HRF.out)
    have RI := hidden ((F9.out.rf HRF.out).mono (M := w.heap.size) (by rw [hn]; have := HQ.out; omega))
    have RO := hidden ((G9.out.rf HRF.out).mono (M := w.heap.size) (by rw [hn]; have := HQ.out; omega))
    have SE := hidden (S9.out.rf HRF.out HQ.out)
    clear hR hall hxs kA kB HRF P9 KS KW QS QW G9 F9
    simp only [slotsOn, putAll]
    go_wp2
    refine bodyPost_ret (results_cctt rfl _ _ q (q + 1) _ _ (by kernel_rfl) (by kernel_rfl) (loadSt RA.out HL5.out) (loadCwR RB.out HC5X.out)) rfl ⟨rd1, ev1, ?_, RI.out, RO.out, s2, ⟨SE.out.mem, KP.out.mono (fun b _ hb => HG.out b hb), fun b hb => (SE.out.grow b hb).imp id (fun h => by rw [hn]; exact h)⟩, KP.out, HPS.out⟩
    rw [HCX.out]
    kernel_rfl
end Go.Proofs.Ytodoenimlhldjaa
namespace Go.Proofs.Ytodoenimlhldjaa
open Go.ChangeShapes Go.WideShapes Go.ChangeAt Go.RowKit
set_option linter.unusedVariables false
/-- What the slots of the region hold, whatever the order. -/
def phiCbdf (n q : Nat) (v V : SV) (CX : Array Value) (gg : Int) : Nat → Value → World → Prop
  | 0, x, _ => x = .agg (SV.c V)
  | 1, x, _ => x = .agg CX
  | 2, x, _ => x = .int .i64 gg
  | 3, x, w => x = .bool true ∧ Blk w (q) (SV.c (V)) 26
  | 4, x, w => x = .bool true ∧ Blk w (q + 1) (CX) 38
  | 5, x, _ => x = .int .i64 gg
  | 6, x, _ => x = .int .u32 0
  | _ + 7, _, _ => True
theorem phiCbdf_mono (n q : Nat) (v V : SV) (CX : Array Value) (gg : Int) : ∀ i x w w', phiCbdf n q v V CX gg i x w → RF [(q, Obj.cells (SV.c (V)) 26 (0, 0)), (q + 1, Obj.cells (CX) 38 (0, 0))] w w' → phiCbdf n q v V CX gg i x w'
  | 0, _, _, _, h, _ => h
  | 1, _, _, _, h, _ => h
  | 2, _, _, _, h, _ => h
  | 3, x, w, w', h, hb => ⟨h.1, hb.blk h.2 rf2_a⟩
  | 4, x, w, w', h, hb => ⟨h.1, hb.blk h.2 rf2_b⟩
  | 5, _, _, _, h, _ => h
  | 6, _, _, _, h, _ => h
  | _ + 7, _, _, _, _, _ => trivial
theorem lstCbdf : ∀ xs : List Value, xs.length = 7 → ∃ x0 x1 x2 x3 x4 x5 x6, xs = [x0, x1, x2, x3, x4, x5, x6]
  | [x0, x1, x2, x3, x4, x5, x6], _ => ⟨_, _, _, _, _, _, _, rfl⟩
set_option maxRecDepth 20000 in
set_option maxHeartbeats 2000000 in
theorem call_df (w : World) (s : MS) (h : MemW w s) (v : SV) (hv : v.ok) (inp : ByteArray) (at_ us : Int) (rd ev : Value) (l : List Int) (e : List (Int × ByteArray)) (hrd : Rw w 1 rd l.length (cI l)) (hev : Rw w 2 ev e.length (cE e)) (hl : l.length ≤ 16384) (hel : e.length ≤ 16384) (h2 : v.R.getD 2 0 ≠ 4001 ∧ v.R.getD 2 0 ≠ 4003 ∧ v.R.getD 2 0 ≠ 4004 ∧ v.R.getD 2 0 ≠ 4090) : Calls Try.prog 13 #[.pointer (some ⟨s.mb, 0, none⟩), .agg v.c, .agg (cwC inp at_ rd us ev)] w fun x w' => ∃ rd' ev', x = .returned (.tuple #[.agg (SV.c (ansV v 89 1)), .agg (cwC inp at_ rd' us ev'), .int .i64 0, .int .u32 0]) ∧ Fr w' w.heap.size 3 rd' l.length (cI l) ∧ Fr w' w.heap.size 66 ev' e.length (cE e) ∧ Below w.heap.size w w' := by
  obtain ⟨n, hn⟩ : ∃ n, w.heap.size = n := ⟨_, rfl⟩
  obtain ⟨q, hq⟩ : ∃ q, n + 1 + 1 = q := ⟨_, rfl⟩
  have HQ := hidden hq
  have HV := hidden hv.1
  have HLL := hidden hl
  have HEL := hidden hel
  have HSF : Hid (∀ b, foot s b → b < n) := hidden (fun b hb => by rw [← hn]; exact h.lt hb)
  have HOW := hidden (fun u (hu : Below w.heap.size w u) => own_any u inp at_ us rd ev l e (hrd.later hu) (hev.later hu) hl hel)
  obtain ⟨V, hV⟩ : ∃ V, ansV v 89 1 = V := ⟨_, rfl⟩
  have HL5 : Hid (V.R.length = 32) := hidden (by rw [← hV]; exact ansV_len hv.1 _ _)
  have HWR := hidden (fun u => wrong_any v hv.1 89 u)
  rw [hV] at HWR ⊢
  obtain ⟨r2, h22⟩ : ∃ r2 : Nat, v.R.getD 2 0 = (r2 : Int) := ⟨(v.R.getD 2 0).toNat, by have := (hv.2.1 2 (by omega)).1; omega⟩
  obtain ⟨r4, h4⟩ : ∃ r4 : Nat, v.R.getD 4 0 = (r4 : Int) := ⟨(v.R.getD 4 0).toNat, by have := (hv.2.1 4 (by omega)).1; omega⟩
  obtain ⟨r5, h5⟩ : ∃ r5 : Nat, v.R.getD 5 0 = (r5 : Int) := ⟨(v.R.getD 5 0).toNat, by have := (hv.2.1 5 (by omega)).1; omega⟩
  obtain ⟨r6, h6⟩ : ∃ r6 : Nat, v.R.getD 6 0 = (r6 : Int) := ⟨(v.R.getD 6 0).toNat, by have := (hv.2.1 6 (by omega)).1; omega⟩
  have l5 : r5 < 4294967296 := by have := (hv.2.1 5 (by omega)).2; omega
  have l6 : r6 < 4294967296 := by have := (hv.2.1 6 (by omega)).2; omega
  have H2 := hidden h22
  have H4 := hidden h4
  have H5 := hidden h5
  have H6 := hidden h6
  rw [h22] at h2
  have f0 : ((r2 : Int) == 4001) = false := beq_eq_false_iff_ne.2 (by omega)
  have f1 : ((r2 : Int) == 4003) = false := beq_eq_false_iff_ne.2 (by omega)
  have f2 : ((r2 : Int) == 4004) = false := beq_eq_false_iff_ne.2 (by omega)
  have f3 : ((r2 : Int) == 4090) = false := beq_eq_false_iff_ne.2 (by omega)
  have hi2 : ∀ u, (Instr.indexAt 24 (.pointer (some ⟨n, 0, none⟩)) (.int .i64 2)).run Try.prog u = .ok (.pointer (some ⟨n, 2, none⟩)) u := fun u => index_reg n 2 (by omega) u
  have HC1 : Hid ((cwC inp at_ rd us ev).all (·.oneCell') = true) := hidden (cw_one hrd.one hev.one)
  have HC5 : Hid ((cwC inp at_ rd us ev).size = 5) := hidden rfl
  obtain ⟨CW, hCW⟩ : ∃ CW, cwC inp at_ rd us ev = CW := ⟨_, rfl⟩
  rw [hCW] at HC1 HC5 HOW ⊢
  obtain ⟨C, hC⟩ : ∃ C, v.c = C := ⟨_, rfl⟩
  rw [hC]
  have HC := hidden hC
  have HM := hidden h
  clear hC hCW hq hv h2 h22 h4 h5 h6 l5 l6 hrd hev hl hel h hV
  go_enter Try.func13, Try.ntmps13
  go_upto_region 1 with (first
    | (refine wpList_boxG rfl 26 _ rfl C rfl ?_; rintro w1 k1 s1 b1; rw [hn] at k1 s1 b1 ⊢; have K1 : Hid (Blk w1 n v.c 26) := hidden (by rw [HC.out]; exact k1); have S1 := hidden s1; have B1 := hidden b1; clear k1 s1 b1)
    | (refine wpList_boxG rfl 38 _ rfl CW rfl ?_; rintro w2 k2 s2 b2; rw [S1.out] at k2 s2 b2 ⊢; have K2 := hidden k2; have S2 : Hid (w2.heap.size = q) := hidden (by rw [s2]; exact HQ.out); have B2 := hidden b2; clear k2 s2 b2)
    | (refine wpList_allocV rfl rfl ?_; rintro w3 k3 s3 b3; rw [S2.out] at k3 s3 b3 ⊢; have K3 := hidden k3; have S3 := hidden s3; have B3 := hidden b3; clear k3 s3 b3)
    | (refine wpList_allocCw rfl rfl ?_; rintro w4 k4 s4 b4; rw [S3.out] at k4 s4 b4 ⊢; have P := hidden (WA.mk4 (F := nought) hn HQ.out K1.out S1.out B1.out K2.out S2.out B2.out K3.out S3.out B3.out k4 b4); clear k4 s4 b4 K1 S1 B1 K2 S2 B2 K3 S3 B3))
  have HNQ : Hid (n + 1 < q + 2) := hidden (by have := HQ.out; omega)
  have HNQ0 : Hid (n < q + 2) := hidden (by have := HQ.out; omega)
  have HNF : Hid (∀ b, foot s b → b < q + 2) := hidden (fun b hb => by have := HSF.out b hb; have := HNQ0.out; omega)
  go_upto_region 2 with (first
    | (refine wpList_loadCw rfl _ rfl (n + 1) CW rfl P.out.c HC5.out ?_)
    | (go_at_call 34; refine (HOW.out _ P.out.bel).mono ?_; rintro x w5 ⟨rd1, ev1, rfl, f1, f2, b5⟩; have F1 := hidden (f1.mono P.out.sz); have F2 := hidden (f2.mono P.out.sz); have Q := hidden (P.out.later b5); clear P f1 f2 b5; have P := Q; clear Q)
    | (refine wpList_storeCw rfl rfl _ _ rfl (n + 1) CW (cwC inp at_ rd1 us ev1) rfl rfl P.out.c HC5.out rfl (cw_one F1.out.one F2.out.one) ?_; rintro w6 k6 o6; have Q := hidden (P.out.putW o6 k6); clear P; have P := Q; clear Q; have F3 := hidden (F1.out.keep (Keep.of_only o6) HNQ.out); have F4 := hidden (F2.out.keep (Keep.of_only o6) HNQ.out); clear k6 o6 F1 F2))
  have c2 : _ := P.out.s.cell (SV.getR HV.out (show 2 < 32 by decide))
  rw [H2.out] at c2
  obtain ⟨CY, hCY⟩ : ∃ CY, cwC inp at_ rd1 us ev1 = CY := ⟨_, rfl⟩
  have HCYE := hidden hCY
  rw [hCY] at P
  have HCY5 : Hid (CY.size = 5) := hidden (by rw [← hCY]; rfl)
  clear hCY HOW HC1
  go_upto_region 13 with (first
    | (refine wpList_loadV rfl _ rfl n v rfl P.out.s HV.out ?_)
    | (refine wpList_loadCw rfl _ rfl (n + 1) CY rfl P.out.c HCY5.out ?_)
    | (go_at_call 39; refine (HWR.out _).mono ?_; rintro x w7 ⟨rfl, b7⟩; have P7 := hidden (P.out.later b7); have F7 := hidden (F3.out.later b7); have G7 := hidden (F4.out.later b7); clear c2 b7 F3 F4 P)
    | (refine wpList_storeV rfl rfl _ _ rfl n v V rfl rfl P7.out.s HV.out HL5.out ?_; rintro w8 k8 o8; have P8 := hidden (P7.out.putS o8 k8); have F8 := hidden (F7.out.keep (Keep.of_only o8) HNQ0.out); have G8 := hidden (G7.out.keep (Keep.of_only o8) HNQ0.out); clear k8 o8 P7 F7 G7))
  have F9 := F8
  have G9 := G8
  have P9 := P8
  have HC2 : Hid (CY.all (·.oneCell') = true) := hidden (by rw [← HCYE.out]; exact cw_one F9.out.one G9.out.one)
  obtain ⟨CX, hCX⟩ : ∃ CX, CY = CX := ⟨_, rfl⟩
  have HC5X : Hid (CX.size = 5) := hidden (by rw [← hCX]; exact HCY5.out)
  rw [hCX] at HC2 P9
  have HCX : Hid (cwC inp at_ rd1 us ev1 = CX) := hidden (HCYE.out.trans hCX)
  clear P8 F8 G8
  have KS := hidden P9.out.s
  have KW := hidden P9.out.c
  have QS := hidden P9.out.rs
  have QW := hidden P9.out.rw
  have PQ := P9.out.hq
  have hW5 := HC5X.out
  clear hCX HCY5
  refine wp_region_on (later_rf [(q, Obj.cells (SV.c (V)) 26 (0, 0)), (q + 1, Obj.cells (CX) 38 (0, 0))]) [52, 53, 54, 1003, 1004, 8, 9] 7 (phiCbdf n q v V CX (0 : Int)) (by kernel_rfl) (by kernel_rfl) rfl rfl (phiCbdf_mono n q v V CX (0 : Int)) ?_ ?_
  · intro j hj xs w3 hxs hR hpre
    obtain ⟨x0, x1, x2, x3, x4, x5, x6, rfl⟩ := lstCbdf xs hxs
    have hS : Blk w3 (n) (SV.c V) 26 := hR.blk KS.out (rf2_no (by omega) (by omega))
    have hW : Blk w3 (n + 1) CX 38 := hR.blk KW.out (rf2_no (by omega) (by omega))
    have hA := hR.some ⟨_, SV.size (s := SV.zero) rfl, QS.out⟩ (rf2_s1 (SV.size HL5.out))
    have hB := hR.some (n := 5) ⟨_, (show zCw.size = 5 from rfl), QW.out⟩ (rf2_s2 hW5)
    rcases (show j = 0 ∨ j = 1 ∨ j = 2 ∨ j = 3 ∨ j = 4 ∨ j = 5 ∨ j = 6 by omega) with rfl | rfl | rfl | rfl | rfl | rfl | rfl
    · exact wpOp_run (.agg (SV.c V)) rfl (by kernel_rfl) (exec_load 26 rfl (by kernel_rfl) w3 (loadSt hS HL5.out)) ⟨_, by kernel_rfl, rfl, (later_rf _).refl _⟩
    · exact wpOp_run (.agg CX) rfl (by kernel_rfl) (exec_load 38 rfl (by kernel_rfl) w3 (loadCwR hW hW5)) ⟨_, by kernel_rfl, rfl, (later_rf _).refl _⟩
    · exact wpOp_run (.int .i64 0) rfl (by kernel_rfl) (exec_move rfl (by kernel_rfl) w3) ⟨_, by kernel_rfl, rfl, (later_rf _).refl _⟩
    · have e0 : x0 = .agg (SV.c V) := hpre 0 (by kernel_rfl)
      subst e0
      obtain ⟨old, hs1, hs2⟩ := hA
      exact wpOp_put rfl (by kernel_rfl) (exec_storeG (g := q) (cs := SV.c (V)) (old := old) rfl (by kernel_rfl) (by kernel_rfl) w3 hs2 (by rw [SV.size HL5.out]; exact sizeSV) (by rw [hs1, SV.size HL5.out]) (SV.one _)) ⟨.bool true, by kernel_rfl, ⟨rfl, setRow_heap w3 (q) old _ 26 (0, 0) hs2⟩, RF.of_only (only_rowV w3 (q) _) (setRow_heap w3 (q) old _ 26 (0, 0) hs2) rf2_m1⟩
    · have e1 : x1 = .agg CX := hpre 1 (by kernel_rfl)
      subst e1
      obtain ⟨old, hs1, hs2⟩ := hB
      exact wpOp_put rfl (by kernel_rfl) (exec_storeG (g := q + 1) (cs := CX) (old := old) rfl (by kernel_rfl) (by kernel_rfl) w3 hs2 (by rw [hW5]; exact sizeCw) (by rw [hs1, hW5]) HC2.out) ⟨.bool true, by kernel_rfl, ⟨rfl, setRow_heap w3 (q + 1) old _ 38 (0, 0) hs2⟩, RF.of_only (only_rowV w3 (q + 1) _) (setRow_heap w3 (q + 1) old _ 38 (0, 0) hs2) rf2_m2⟩
    · have e2 : x2 = .int .i64 0 := hpre 2 (by kernel_rfl)
      subst e2
      exact wpOp_run (.int .i64 0) rfl (by kernel_rfl) (by kernel_rfl) ⟨_, by kernel_rfl, rfl, (later_rf _).refl _⟩
    · exact wpOp_run (.int .u32 0) rfl (by kernel_rfl) (by kernel_rfl) ⟨_, by kernel_rfl, rfl, (later_rf _).refl _⟩
  · intro xs w3 hxs hR hall
    obtain ⟨x0, x1, x2, x3, x4, x5, x6, rfl⟩ := lstCbdf xs hxs
    obtain ⟨_, kA⟩ : x3 = .bool true ∧ Blk w3 (q) (SV.c (V)) 26 := hall 3 (by omega)
    obtain ⟨_, kB⟩ : x4 = .bool true ∧ Blk w3 (q + 1) (CX) 38 := hall 4 (by omega)
    have RA := hidden kA
    have RB := hidden kB
    have HRF := hidden hR
    have g5 : x5 = .int .i64 0 := hall 5 (by omega)
    have g6 : x6 = .int .u32 0 := hall 6 (by omega)
    subst g5
    subst g6
    have KP := hidden (P9.out.both HRF.out)
    have RI := hidden ((F9.out.rf HRF.out).mono (M := w.heap.size) (by rw [hn]; have := HQ.out; omega))
    have RO := hidden ((G9.out.rf HRF.out).mono (M := w.heap.size) (by rw [hn]; have := HQ.out; omega))
    clear hR hall hxs kA kB HRF P9 KS KW QS QW G9 F9
    simp only [slotsOn, putAll]
    go_wp2
    refine bodyPost_ret (results_cctt rfl _ _ q (q + 1) _ _ (by kernel_rfl) (by kernel_rfl) (loadSt RA.out HL5.out) (loadCwR RB.out HC5X.out)) rfl ⟨rd1, ev1, ?_, RI.out, RO.out, KP.out.below (Nat.le_refl _) fun _ hb => hb.elim⟩
    rw [HCX.out]
    kernel_rfl
end Go.Proofs.Ytodoenimlhldjaa
namespace Go.Proofs.Ytodoenimlhldjaa
open Go.ChangeShapes Go.WideShapes Go.ChangeAt Go.RowKit
set_option linter.unusedVariables false
/-- What the slots of the region hold, whatever the order. -/
def phiCbex (n q : Nat) (v : SV) (CX : Array Value) (r4 : Nat) : Nat → Value → World → Prop
  | 0, x, _ => x = .agg (SV.c v)
  | 1, x, _ => x = .agg (SV.c v.on)
  | 2, x, _ => x = .agg CX
  | 3, x, _ => x = .pointer (some ⟨n, 0, none⟩)
  | 4, x, _ => x = .pointer (some ⟨n, 4, none⟩)
  | 5, x, _ => x = .int .u32 (r4 : Int)
  | 6, x, w => x = .bool true ∧ Blk w (q) (SV.c (v.on)) 26
  | 7, x, w => x = .bool true ∧ Blk w (q + 1) (CX) 38
  | 8, x, _ => x = .int .i64 1
  | 9, x, _ => x = .int .u32 (r4 : Int)
  | _ + 10, _, _ => True
theorem phiCbex_mono (n q : Nat) (v : SV) (CX : Array Value) (r4 : Nat) : ∀ i x w w', phiCbex n q v CX r4 i x w → RF [(q, Obj.cells (SV.c (v.on)) 26 (0, 0)), (q + 1, Obj.cells (CX) 38 (0, 0))] w w' → phiCbex n q v CX r4 i x w'
  | 0, _, _, _, h, _ => h
  | 1, _, _, _, h, _ => h
  | 2, _, _, _, h, _ => h
  | 3, _, _, _, h, _ => h
  | 4, _, _, _, h, _ => h
  | 5, _, _, _, h, _ => h
  | 6, x, w, w', h, hb => ⟨h.1, hb.blk h.2 rf2_a⟩
  | 7, x, w, w', h, hb => ⟨h.1, hb.blk h.2 rf2_b⟩
  | 8, _, _, _, h, _ => h
  | 9, _, _, _, h, _ => h
  | _ + 10, _, _, _, _, _ => trivial
theorem lstCbex : ∀ xs : List Value, xs.length = 10 → ∃ x0 x1 x2 x3 x4 x5 x6 x7 x8 x9, xs = [x0, x1, x2, x3, x4, x5, x6, x7, x8, x9]
  | [x0, x1, x2, x3, x4, x5, x6, x7, x8, x9], _ => ⟨_, _, _, _, _, _, _, _, _, _, rfl⟩
set_option maxRecDepth 20000 in
set_option maxHeartbeats 2000000 in
theorem call_ex (w : World) (s : MS) (h : MemW w s) (v : SV) (hv : v.ok) (inp : ByteArray) (at_ us : Int) (rd ev : Value) (l : List Int) (e : List (Int × ByteArray)) (hrd : Rw w 1 rd l.length (cI l)) (hev : Rw w 2 ev e.length (cE e)) (hl : l.length ≤ 16384) (hel : e.length ≤ 16384) (h2 : v.R.getD 2 0 = 4001) : Calls Try.prog 13 #[.pointer (some ⟨s.mb, 0, none⟩), .agg v.c, .agg (cwC inp at_ rd us ev)] w fun x w' => ∃ rd' ev', x = .returned (.tuple #[.agg v.on.c, .agg (cwC inp at_ rd' us ev'), .int .i64 1, .int .u32 (v.R.getD 4 0)]) ∧ Fr w' w.heap.size 3 rd' l.length (cI l) ∧ Fr w' w.heap.size 66 ev' e.length (cE e) ∧ Below w.heap.size w w' := by
  obtain ⟨n, hn⟩ : ∃ n, w.heap.size = n := ⟨_, rfl⟩
  obtain ⟨q, hq⟩ : ∃ q, n + 1 + 1 = q := ⟨_, rfl⟩
  have HQ := hidden hq
  have HV := hidden hv.1
  have HLL := hidden hl
  have HEL := hidden hel
  have HOW := hidden (fun u (hu : Below w.heap.size w u) => own_any u inp at_ us rd ev l e (hrd.later hu) (hev.later hu) hl hel)
  have HON := hidden (fun u => on_any v hv.1 u)
  obtain ⟨r2, h22⟩ : ∃ r2 : Nat, v.R.getD 2 0 = (r2 : Int) := ⟨(v.R.getD 2 0).toNat, by have := (hv.2.1 2 (by omega)).1; omega⟩
  obtain ⟨r4, h4⟩ : ∃ r4 : Nat, v.R.getD 4 0 = (r4 : Int) := ⟨(v.R.getD 4 0).toNat, by have := (hv.2.1 4 (by omega)).1; omega⟩
  obtain ⟨r5, h5⟩ : ∃ r5 : Nat, v.R.getD 5 0 = (r5 : Int) := ⟨(v.R.getD 5 0).toNat, by have := (hv.2.1 5 (by omega)).1; omega⟩
  obtain ⟨r6, h6⟩ : ∃ r6 : Nat, v.R.getD 6 0 = (r6 : Int) := ⟨(v.R.getD 6 0).toNat, by have := (hv.2.1 6 (by omega)).1; omega⟩
  have l5 : r5 < 4294967296 := by have := (hv.2.1 5 (by omega)).2; omega
  have l6 : r6 < 4294967296 := by have := (hv.2.1 6 (by omega)).2; omega
  have H2 := hidden h22
  have H4 := hidden h4
  have H5 := hidden h5
  have H6 := hidden h6
  have e2 : r2 = 4001 := by omega
  subst e2
  rw [h4]
  have hi2 : ∀ u, (Instr.indexAt 24 (.pointer (some ⟨n, 0, none⟩)) (.int .i64 2)).run Try.prog u = .ok (.pointer (some ⟨n, 2, none⟩)) u := fun u => index_reg n 2 (by omega) u
  have hi4 : ∀ u, (Instr.indexAt 24 (.pointer (some ⟨n, 0, none⟩)) (.int .i64 4)).run Try.prog u = .ok (.pointer (some ⟨n, 4, none⟩)) u := fun u => index_reg n 4 (by omega) u
  have HC1 : Hid ((cwC inp at_ rd us ev).all (·.oneCell') = true) := hidden (cw_one hrd.one hev.one)
  have HC5 : Hid ((cwC inp at_ rd us ev).size = 5) := hidden rfl
  obtain ⟨CW, hCW⟩ : ∃ CW, cwC inp at_ rd us ev = CW := ⟨_, rfl⟩
  rw [hCW] at HC1 HC5 HOW ⊢
  obtain ⟨C, hC⟩ : ∃ C, v.c = C := ⟨_, rfl⟩
  rw [hC]
  have HC := hidden hC
  clear hC hCW hq hv h2 h22 h4 h5 h6 l5 l6 hrd hev hl hel h
  go_enter Try.func13, Try.ntmps13
  go_upto_region 1 with (first
    | (refine wpList_boxG rfl 26 _ rfl C rfl ?_; rintro w1 k1 s1 b1; rw [hn] at k1 s1 b1 ⊢; have K1 : Hid (Blk w1 n v.c 26) := hidden (by rw [HC.out]; exact k1); have S1 := hidden s1; have B1 := hidden b1; clear k1 s1 b1)
    | (refine wpList_boxG rfl 38 _ rfl CW rfl ?_; rintro w2 k2 s2 b2; rw [S1.out] at k2 s2 b2 ⊢; have K2 := hidden k2; have S2 : Hid (w2.heap.size = q) := hidden (by rw [s2]; exact HQ.out); have B2 := hidden b2; clear k2 s2 b2)
    | (refine wpList_allocV rfl rfl ?_; rintro w3 k3 s3 b3; rw [S2.out] at k3 s3 b3 ⊢; have K3 := hidden k3; have S3 := hidden s3; have B3 := hidden b3; clear k3 s3 b3)
    | (refine wpList_allocCw rfl rfl ?_; rintro w4 k4 s4 b4; rw [S3.out] at k4 s4 b4 ⊢; have P := hidden (WA.mk4 (F := nought) hn HQ.out K1.out S1.out B1.out K2.out S2.out B2.out K3.out S3.out B3.out k4 b4); clear k4 s4 b4 K1 S1 B1 K2 S2 B2 K3 S3 B3))
  have HNQ : Hid (n + 1 < q + 2) := hidden (by have := HQ.out; omega)
  go_upto_region 2 with (first
    | (refine wpList_loadCw rfl _ rfl (n + 1) CW rfl P.out.c HC5.out ?_)
    | (go_at_call 34; refine (HOW.out _ P.out.bel).mono ?_; rintro x w5 ⟨rd1, ev1, rfl, f1, f2, b5⟩; have F1 := hidden (f1.mono P.out.sz); have F2 := hidden (f2.mono P.out.sz); have Q := hidden (P.out.later b5); clear P f1 f2 b5; have P := Q; clear Q)
    | (refine wpList_storeCw rfl rfl _ _ rfl (n + 1) CW (cwC inp at_ rd1 us ev1) rfl rfl P.out.c HC5.out rfl (cw_one F1.out.one F2.out.one) ?_; rintro w6 k6 o6; have Q := hidden (P.out.putW o6 k6); clear P; have P := Q; clear Q; have F3 := hidden (F1.out.keep (Keep.of_only o6) HNQ.out); have F4 := hidden (F2.out.keep (Keep.of_only o6) HNQ.out); clear k6 o6 F1 F2))
  have c2 : _ := P.out.s.cell (SV.getR HV.out (show 2 < 32 by decide))
  rw [H2.out] at c2
  have HC2 : Hid ((cwC inp at_ rd1 us ev1).all (·.oneCell') = true) := hidden (cw_one F3.out.one F4.out.one)
  obtain ⟨CX, hCX⟩ : ∃ CX, cwC inp at_ rd1 us ev1 = CX := ⟨_, rfl⟩
  have HC5X : Hid (CX.size = 5) := hidden (by rw [← hCX]; rfl)
  rw [hCX] at HC2 P
  have HCX := hidden hCX
  clear hCX HOW HC1
  go_upto_region 6 with fail
  have KS := hidden P.out.s
  have KW := hidden P.out.c
  have QS := hidden P.out.rs
  have QW := hidden P.out.rw
  have PQ := P.out.hq
  have hW5 := HC5X.out
  refine wp_region_on (later_rf [(q, Obj.cells (SV.c (v.on)) 26 (0, 0)), (q + 1, Obj.cells (CX) 38 (0, 0))]) [20, 21, 22, 23, 24, 25, 1006, 1007, 8, 9] 10 (phiCbex n q v CX r4) (by kernel_rfl) (by kernel_rfl) rfl rfl (phiCbex_mono n q v CX r4) ?_ ?_
  · intro j hj xs w3 hxs hR hpre
    obtain ⟨x0, x1, x2, x3, x4, x5, x6, x7, x8, x9, rfl⟩ := lstCbex xs hxs
    have hS : Blk w3 (n) (SV.c v) 26 := hR.blk KS.out (rf2_no (by omega) (by omega))
    have hW : Blk w3 (n + 1) CX 38 := hR.blk KW.out (rf2_no (by omega) (by omega))
    have hA := hR.some ⟨_, SV.size (s := SV.zero) rfl, QS.out⟩ (rf2_s1 (SV.size (SV.on_len HV.out)))
    have hB := hR.some (n := 5) ⟨_, (show zCw.size = 5 from rfl), QW.out⟩ (rf2_s2 hW5)
    rcases (show j = 0 ∨ j = 1 ∨ j = 2 ∨ j = 3 ∨ j = 4 ∨ j = 5 ∨ j = 6 ∨ j = 7 ∨ j = 8 ∨ j = 9 by omega) with rfl | rfl | rfl | rfl | rfl | rfl | rfl | rfl | rfl | rfl
    · exact wpOp_run (.agg (SV.c v)) rfl (by kernel_rfl) (exec_load 26 rfl (by kernel_rfl) w3 (loadSt hS HV.out)) ⟨_, by kernel_rfl, rfl, (later_rf _).refl _⟩
    · have e0 : x0 = .agg (SV.c v) := hpre 0 (by kernel_rfl)
      subst e0
      refine wpOp_callR (R := fun u w4 => u = .agg (SV.c v.on) ∧ Below w3.heap.size w3 w4) 35 #[.agg (SV.c v)] rfl (by kernel_rfl) (by kernel_rfl) ((HON.out w3).mono fun e w4 h => ⟨_, h.1, rfl, h.2⟩) ?_
      rintro _ w4 ⟨rfl, hb⟩
      exact ⟨_, by kernel_rfl, rfl, RF.of_below hb⟩
    · exact wpOp_run (.agg CX) rfl (by kernel_rfl) (exec_load 38 rfl (by kernel_rfl) w3 (loadCwR hW hW5)) ⟨_, by kernel_rfl, rfl, (later_rf _).refl _⟩
    · exact wpOp_run (.pointer (some ⟨n, 0, none⟩)) rfl (by kernel_rfl) (by kernel_rfl) ⟨_, by kernel_rfl, rfl, (later_rf _).refl _⟩
    · have e3 : x3 = .pointer (some ⟨n, 0, none⟩) := hpre 3 (by kernel_rfl)
      subst e3
      exact wpOp_run (.pointer (some ⟨n, 4, none⟩)) rfl (by kernel_rfl) (exec_indexR (k := 4) (by decide) rfl (by kernel_rfl) (by kernel_rfl) w3) ⟨_, by kernel_rfl, rfl, (later_rf _).refl _⟩
    · have e4 : x4 = .pointer (some ⟨n, 4, none⟩) := hpre 4 (by kernel_rfl)
      subst e4
      exact wpOp_run (.int .u32 (r4 : Int)) rfl (by kernel_rfl) (exec_load 23 rfl (by kernel_rfl) w3 (loadU (by rw [← H4.out]; exact hS.cell (SV.getR HV.out (by decide))))) ⟨_, by kernel_rfl, rfl, (later_rf _).refl _⟩
    · have e1 : x1 = .agg (SV.c v.on) := hpre 1 (by kernel_rfl)
      subst e1
      obtain ⟨old, hs1, hs2⟩ := hA
      exact wpOp_put rfl (by kernel_rfl) (exec_storeG (g := q) (cs := SV.c (v.on)) (old := old) rfl (by kernel_rfl) (by kernel_rfl) w3 hs2 (by rw [SV.size (SV.on_len HV.out)]; exact sizeSV) (by rw [hs1, SV.size (SV.on_len HV.out)]) (SV.one _)) ⟨.bool true, by kernel_rfl, ⟨rfl, setRow_heap w3 (q) old _ 26 (0, 0) hs2⟩, RF.of_only (only_rowV w3 (q) _) (setRow_heap w3 (q) old _ 26 (0, 0) hs2) rf2_m1⟩
    · have e2 : x2 = .agg CX := hpre 2 (by kernel_rfl)
      subst e2
      obtain ⟨old, hs1, hs2⟩ := hB
      exact wpOp_put rfl (by kernel_rfl) (exec_storeG (g := q + 1) (cs := CX) (old := old) rfl (by kernel_rfl) (by kernel_rfl) w3 hs2 (by rw [hW5]; exact sizeCw) (by rw [hs1, hW5]) HC2.out) ⟨.bool true, by kernel_rfl, ⟨rfl, setRow_heap w3 (q + 1) old _ 38 (0, 0) hs2⟩, RF.of_only (only_rowV w3 (q + 1) _) (setRow_heap w3 (q + 1) old _ 38 (0, 0) hs2) rf2_m2⟩
    · exact wpOp_run (.int .i64 1) rfl (by kernel_rfl) (by kernel_rfl) ⟨_, by kernel_rfl, rfl, (later_rf _).refl _⟩
    · have e5 : x5 = .int .u32 (r4 : Int) := hpre 5 (by kernel_rfl)
      subst e5
      exact wpOp_run (.int .u32 (r4 : Int)) rfl (by kernel_rfl) (by kernel_rfl) ⟨_, by kernel_rfl, rfl, (later_rf _).refl _⟩
  · intro xs w3 hxs hR hall
    obtain ⟨x0, x1, x2, x3, x4, x5, x6, x7, x8, x9, rfl⟩ := lstCbex xs hxs
    obtain ⟨_, kA⟩ : x6 = .bool true ∧ Blk w3 (q) (SV.c (v.on)) 26 := hall 6 (by omega)
    obtain ⟨_, kB⟩ : x7 = .bool true ∧ Blk w3 (q + 1) (CX) 38 := hall 7 (by omega)
    have RA := hidden kA
    have RB := hidden kB
    have HRF := hidden hR
    have g8 : x8 = .int .i64 1 := hall 8 (by omega)
    have g9 : x9 = .int .u32 (r4 : Int) := hall 9 (by omega)
    subst g8
    subst g9
    have KP := hidden (P.out.both HRF.out)
    have RI := hidden ((F3.out.rf HRF.out).mono (M := w.heap.size) (by rw [hn]; have := HQ.out; omega))
    have RO := hidden ((F4.out.rf HRF.out).mono (M := w.heap.size) (by rw [hn]; have := HQ.out; omega))
    clear hR hall hxs kA kB HRF P KS KW QS QW F3 F4
    simp only [slotsOn, putAll]
    go_wp2
    refine bodyPost_ret (results_cctt rfl _ _ q (q + 1) _ _ (by kernel_rfl) (by kernel_rfl) (loadSt RA.out (SV.on_len HV.out)) (loadCwR RB.out HC5X.out)) rfl ⟨rd1, ev1, ?_, RI.out, RO.out, KP.out.below (Nat.le_refl _) fun _ hb => hb.elim⟩
    rw [HCX.out]
    kernel_rfl
end Go.Proofs.Ytodoenimlhldjaa
namespace Go.Proofs.Ytodoenimlhldjaa
open Go.ChangeShapes Go.WideShapes Go.ChangeAt Go.RowKit
set_option linter.unusedVariables false
/-- The pages behind so many rounds; none: there was no room. -/
def moreKs (ks : List Nat) (most a : Nat) : Nat → Option (List Nat)
  | 0 => some ks
  | k + 1 => match moreKs ks most a k with
    | none => none
    | some l => if pageOf (wrapAt a (256 * k)) ∈ l then some l else if l.length < most then some (l ++ [pageOf (wrapAt a (256 * k))]) else none
def moreF (f : AM) (a : Nat) : Nat → AM
  | 0 => f
  | k + 1 => amap (moreF f a k) (wrapAt a (256 * k)) 6
theorem moreKs_none {ks : List Nat} {most a k : Nat} (h : moreKs ks most a k = none) : ∀ n, k ≤ n → moreKs ks most a n = none := by
  intro n hn
  induction n with
  | zero =>
    obtain rfl : k = 0 := by omega
    exact h
  | succ n ih =>
    by_cases e : k = n + 1
    · rw [← e]; exact h
    · show (match moreKs ks most a n with | none => none | some l => _) = none
      rw [ih (by omega)]
structure MoreK (s : MS) (a k : Nat) (t : MS) : Prop where
  ks : moreKs s.ks s.most a k = some t.ks
  abs : t.abs = moreF s.abs a k
  mb : t.mb = s.mb
  most : t.most = s.most
  ts : t.ts = s.ts
  tv : t.tv = s.tv
  c : t.c = s.c
theorem MoreK.zero (s : MS) (a : Nat) : MoreK s a 0 s := ⟨rfl, rfl, rfl, rfl, rfl, rfl, rfl⟩
theorem MoreK.ne {s t : MS} {a k : Nat} (h : MoreK s a k t) (e : t.mapErr (wrapAt a (256 * k)) = 0) : pageOf (wrapAt a (256 * k)) ∈ t.ks ∨ t.ks.length < t.most := by
  unfold MS.mapErr at e
  by_cases h1 : pageOf (wrapAt a (256 * k)) ∈ t.ks ∨ t.ks.length < t.most
  · exact h1
  · rw [if_neg h1] at e
    exact absurd e (by decide)
theorem MoreK.next {s t : MS} {a k : Nat} (h : MoreK s a k t) (e : t.mapErr (wrapAt a (256 * k)) = 0) (b : Nat) : MoreK s a (k + 1) (t.mapped (wrapAt a (256 * k)) 6 b) := by
  have h1 := h.ne e
  refine ⟨?_, ?_, (mapped_mb _ _ _ _).trans h.mb, (mapped_most _ _ _ _).trans h.most, (mapped_ts _ _ _ _).trans h.ts, (mapped_tv _ _ _ _).trans h.tv, (mapped_c _ _ _ _).trans h.c⟩
  · show (match moreKs s.ks s.most a k with | none => none | some l => _) = _
    rw [h.ks]
    unfold MS.mapped
    by_cases h2 : pageOf (wrapAt a (256 * k)) ∈ t.ks
    · rw [if_pos h2]
      simp only [if_pos h2]
      rfl
    · have h3 : t.ks.length < t.most := h1.resolve_left h2
      rw [if_neg h2, if_pos h3]
      simp only [if_neg h2]
      rw [← h.most, if_pos h3]
      rfl
  · rw [abs_mapped h1, h.abs]
    rfl
theorem MoreK.full {s t : MS} {a k : Nat} (h : MoreK s a k t) (e : t.mapErr (wrapAt a (256 * k)) = 2) : moreKs s.ks s.most a (k + 1) = none := by
  have h1 : ¬ (pageOf (wrapAt a (256 * k)) ∈ t.ks ∨ t.ks.length < t.most) := fun h1 => by
    unfold MS.mapErr at e
    rw [if_pos h1] at e
    exact absurd e (by decide)
  show (match moreKs s.ks s.most a k with | none => none | some l => _) = _
  rw [h.ks]
  simp only [if_neg (fun h2 => h1 (.inl h2))]
  rw [← h.most, if_neg (fun h2 => h1 (.inr h2))]
theorem mapErr_or (t : MS) (a : Nat) : t.mapErr a = 0 ∨ t.mapErr a = 2 := by
  unfold MS.mapErr
  split
  · exact .inl rfl
  · exact .inr rfl
theorem mapped_full {t : MS} {a b : Nat} {z : Int} (e : t.mapErr a = 2) : t.mapped a z b = t := by
  have h1 : ¬ (pageOf a ∈ t.ks ∨ t.ks.length < t.most) := fun h1 => by
    unfold MS.mapErr at e
    rw [if_pos h1] at e
    exact absurd e (by decide)
  unfold MS.mapped
  rw [if_neg (fun h => h1 (.inl h)), if_neg (fun h => h1 (.inr h))]
theorem results_ct {fn : Func} {p t : Tmp} {ty : TypeId} (h : fn.results = #[.cell p ty, .tmp t]) (tmps : Array Value) (w : World) (g : Nat) (v : Value)
    (hp : tmps.getD p undef = .pointer (some ⟨g, 0, none⟩)) (hv : (loadVar ty ⟨g, 0, none⟩).run Try.prog w = .ok v w) :
    (results fn tmps).run Try.prog w = .ok (.tuple #[v, tmps.getD t undef]) w := by
  have hp' : tmps[p]?.getD undef = .pointer (some ⟨g, 0, none⟩) := by simpa using hp
  simp [results, h, hp', asAddr, hv]
/-- Within more: the state, what is answered, the memory. -/
structure WM (s : MS) (w : World) (n : Nat) (v : SV) (wr : World) (t : MS) : Prop where
  s0 : Blk wr n v.c 26
  r : Blk wr (n + 1) SV.zero.c 26
  mem : MemW wr t
  keep : Keep (foot s) w wr
  grow : ∀ b, foot t b → foot s b ∨ n + 2 ≤ b
  nn : w.heap.size = n
  old : MemW w s
theorem WM.sz {s t : MS} {w wr : World} {n : Nat} {v : SV} (h : WM s w n v wr t) : n + 2 ≤ wr.heap.size := h.r.lt
theorem WM.step {s t t' : MS} {w wr w' : World} {n : Nat} {v : SV} (h : WM s w n v wr t) (k : Step wr t w' t') : WM s w n v w' t' := by
  have off : ∀ b, b = n ∨ b = n + 1 → ¬ foot t b := fun b hb hf => by
    rcases h.grow b hf with h1 | h1
    · have := h.old.lt h1
      have := h.nn
      omega
    · omega
  refine ⟨(k.keep.block n h.s0.lt (off n (.inl rfl))).trans h.s0, (k.keep.block (n + 1) h.r.lt (off _ (.inr rfl))).trans h.r, k.mem, h.keep.trans k.keep fun b hb hf => ?_, fun b hb => ?_, h.nn, h.old⟩
  · rcases h.grow b hf with h1 | h1
    · exact h1
    · have := h.nn
      omega
  · rcases k.grow b hb with h1 | h1
    · exact h.grow b h1
    · have := h.sz
      exact .inr (by omega)
theorem WM.later {s t : MS} {w wr w' : World} {n : Nat} {v : SV} (h : WM s w n v wr t) (hb : Below wr.heap.size wr w') : WM s w n v w' t := h.step (Step.later h.mem hb)
theorem WM.mk2 {s : MS} {w w1 w2 : World} {n : Nat} {v : SV} (h : MemW w s) (hn : w.heap.size = n) (k1 : Blk w1 n v.c 26) (s1 : w1.heap.size = n + 1) (b1 : Below n w w1) (k2 : Blk w2 (n + 1) SV.zero.c 26) (b2 : Below (n + 1) w1 w2) : WM s w n v w2 s := by
  have hb : Below w.heap.size w w2 := by rw [hn]; exact b1.trans (b2.mono (Nat.le_succ n))
  exact ⟨(b2.block n (Nat.lt_succ_self n)).trans k1, k2, h.later hb, Keep.of_below hb, fun b hb => .inl hb, hn, h⟩
/-- What is put into the answer. -/
theorem WM.put {s t : MS} {w wr w' : World} {n : Nat} {v V : SV} (h : WM s w n v wr t) (ho : Only (n + 1) wr w') (hk : Blk w' (n + 1) V.c 26) : Blk w' (n + 1) V.c 26 ∧ Step w s w' t := by
  have off : ¬ foot t (n + 1) := fun hf => by
    rcases h.grow _ hf with h1 | h1
    · have := h.old.lt h1
      have := h.nn
      omega
    · omega
  refine ⟨hk, h.mem.same fun b hb => ho.block b fun e => off (by rw [← e]; exact hb), h.keep.trans (Keep.of_only ho) fun b hb e => ?_, fun b hb => ?_⟩
  · have := h.nn
    omega
  · rcases h.grow b hb with h1 | h1
    · exact .inl h1
    · have := h.nn
      exact .inr (by omega)
set_option maxRecDepth 20000 in
set_option maxHeartbeats 1000000 in
theorem more_any (w : World) (s : MS) (h : MemW w s) (v : SV) (hv : v.ok) (a m : Nat) (h4 : v.R.getD 4 0 = (a : Int)) (h5 : v.R.getD 5 0 = (m : Int)) (hm : m ≤ 64) : Calls Try.prog 38 #[.pointer (some ⟨s.mb, 0, none⟩), .agg v.c] w fun x w' => ∃ t k, MoreK s a k t ∧ Step w s w' t ∧ ((k = m ∧ x = .returned (.tuple #[.agg (ansV v 0 0).c, .int .i64 0])) ∨ (k < m ∧ t.mapErr (wrapAt a (256 * k)) = 2 ∧ x = .returned (.tuple #[.agg v.c, .int .i64 2]))) := by
  obtain ⟨n, hn⟩ : ∃ n, w.heap.size = n := ⟨_, rfl⟩
  have HN := hidden hn
  have HV := hidden hv.1
  have H4 := hidden h4
  have H5 := hidden h5
  have HM := hidden h
  have HA : Hid (a < 4294967296) := hidden (by have := (hv.2.1 4 (by omega)).2; omega)
  have hi4 : ∀ u, (Instr.indexAt 24 (.pointer (some ⟨n, 0, none⟩)) (.int .i64 4)).run Try.prog u = .ok (.pointer (some ⟨n, 4, none⟩)) u := fun u => index_reg n 4 (by omega) u
  have hi5 : ∀ u, (Instr.indexAt 24 (.pointer (some ⟨n, 0, none⟩)) (.int .i64 5)).run Try.prog u = .ok (.pointer (some ⟨n, 5, none⟩)) u := fun u => index_reg n 5 (by omega) u
  have HRI := hidden (fun u => right_any v hv.1 0 u)
  have HLA := hidden (ansV_len hv.1 0 0)
  have hmi : (m : Int) ≤ 64 := by omega
  have hmg : ¬ (64 : Int) < (m : Int) := by omega
  obtain ⟨mb, hmb⟩ : ∃ mb, s.mb = mb := ⟨_, rfl⟩
  have HMB := hidden hmb
  rw [hmb]
  obtain ⟨C, hC⟩ : ∃ C, v.c = C := ⟨_, rfl⟩
  rw [hC]
  have HC := hidden hC
  clear hC hmb hv h4 h5 h hm
  go_enter Try.func38, Try.ntmps38
  go_upto_region 1 with (first
    | (refine wpList_boxG rfl 26 _ rfl C rfl ?_; rintro w1 k1 s1 b1; rw [hn] at k1 s1 b1 ⊢; have K1 : Hid (Blk w1 n v.c 26) := hidden (by rw [HC.out]; exact k1); have S1 := hidden s1; have B1 := hidden b1; clear k1 s1 b1)
    | (refine wpList_allocV rfl rfl ?_; rintro w2 k2 s2 b2; rw [S1.out] at k2 s2 b2 ⊢; have P := hidden (WM.mk2 HM.out HN.out K1.out S1.out B1.out k2 b2); clear k2 s2 b2 K1 S1 B1))
  have c5 := P.out.s0.cell (SV.getR HV.out (show 5 < 32 by decide))
  rw [H5.out] at c5
  have HP0 := P
  clear P
  go_wp2
  clear c5
  go_loopw [16] (fun x16 wr => ∃ (k : Nat) (t : MS), k ≤ m ∧ x16 = .int .u32 (k : Int) ∧ WM s w n v wr t ∧ MoreK s a k t) (fun x16 _ => m - (intOf x16).toNat)
  case atStart => exact ⟨0, s, by omega, rfl, HP0.out, MoreK.zero s a⟩
  case round =>
    obtain ⟨k, t, hk, rfl, hwm, hmk⟩ := hrel
    have P := hidden hwm
    have MK := hidden hmk
    have HTB : Hid (t.mb = mb) := hidden (hmk.mb.trans HMB.out)
    have hki : (k : Int) ≤ (m : Int) := by omega
    clear hwm hmk HP0
    by_cases hlt : k < m
    · have hl : (k : Int) < (m : Int) := by omega
      obtain ⟨b, hb⟩ : ∃ b : Nat, ((a : Int) + (k : Int) * 256) % 4294967296 = (b : Int) := ⟨(a + k * 256) % 4294967296, by omega⟩
      have HB : Hid (wrapAt a (256 * k) = b) := hidden (by unfold wrapAt; omega)
      have HBL : Hid (b < 4294967296) := hidden (by omega)
      have HMP := hidden (fun (u : World) (hu : MemW u t) => map_any u t b 6 hu HBL.out)
      rw [HTB.out] at HMP
      have c4 := P.out.s0.cell (SV.getR HV.out (show 4 < 32 by decide))
      rw [H4.out] at c4
      rcases mapErr_or t b with herr | herr
      · rw [herr] at HMP
        have HERR := hidden herr
        clear herr
        go_wp2_with (first
          | (go_at_call 27; refine (HMP.out _ P.out.mem).mono ?_; rintro e w5 ⟨rfl, hst⟩; have P5 := hidden (P.out.step hst); clear hst c4 HMP))
        go_roundw
        case rel => exact ⟨k + 1, t.mapped b 6 wr.heap.size, by omega, by first | rfl | simp, P5.out, by have h := MK.out.next (by rw [HB.out]; exact HERR.out) wr.heap.size; rw [HB.out] at h; exact h⟩
        case measure => simp [intOf]; omega
      · rw [herr] at HMP
        have HERR := hidden herr
        clear herr
        go_wp2_with (first
          | (go_at_call 27; refine (HMP.out _ P.out.mem).mono ?_; rintro e w5 ⟨rfl, hst⟩; have P5 := hidden (P.out.step hst); clear hst c4 HMP)
          | (refine wpList_loadV rfl _ rfl n v rfl P5.out.s0 HV.out ?_)
          | (refine wpList_storeV rfl rfl _ _ rfl (n + 1) SV.zero v rfl rfl P5.out.r rfl HV.out ?_; rintro w6 k6 o6; have Q6 := hidden (P5.out.put o6 k6); clear k6 o6))
        refine bodyPost_ret (results_ct rfl _ _ (n + 1) _ (by kernel_rfl) (loadSt Q6.out.1 HV.out)) rfl ⟨t.mapped b 6 wr.heap.size, k, ?_, Q6.out.2, .inr ⟨hlt, ?_, ?_⟩⟩
        · have e : t.mapped b 6 wr.heap.size = t := mapped_full HERR.out
          rw [e]; exact MK.out
        · have e : t.mapped b 6 wr.heap.size = t := mapped_full HERR.out
          rw [e, HB.out]; exact HERR.out
        · rw [← HC.out]
          kernel_rfl
    · have hl : ¬ (k : Int) < (m : Int) := by omega
      obtain rfl : k = m := by omega
      go_wp2_with (first
        | (refine wpList_loadV rfl _ rfl n v rfl P.out.s0 HV.out ?_)
        | (go_at_call 65; refine (HRI.out _).mono ?_; rintro e w5 ⟨rfl, b5⟩; have P5 := hidden (P.out.later b5); clear b5)
        | (refine wpList_storeV rfl rfl _ _ rfl (n + 1) SV.zero (ansV v 0 0) rfl rfl P5.out.r rfl HLA.out ?_; rintro w6 k6 o6; have Q6 := hidden (P5.out.put o6 k6); clear k6 o6))
      refine bodyPost_ret (results_ct rfl _ _ (n + 1) _ (by kernel_rfl) (loadSt Q6.out.1 HLA.out)) rfl ⟨t, k, MK.out, Q6.out.2, .inl ⟨rfl, ?_⟩⟩
      kernel_rfl
set_option maxRecDepth 20000 in
set_option maxHeartbeats 1000000 in
theorem more_big (w : World) (s : MS) (h : MemW w s) (v : SV) (hv : v.ok) (hm : 64 < v.R.getD 5 0) : Calls Try.prog 38 #[.pointer (some ⟨s.mb, 0, none⟩), .agg v.c] w fun x w' => x = .returned (.tuple #[.agg (ansV v 22 1).c, .int .i64 0]) ∧ Step w s w' s := by
  obtain ⟨n, hn⟩ : ∃ n, w.heap.size = n := ⟨_, rfl⟩
  obtain ⟨m, h5⟩ : ∃ m : Nat, v.R.getD 5 0 = (m : Int) := ⟨(v.R.getD 5 0).toNat, by omega⟩
  have HN := hidden hn
  have HV := hidden hv.1
  have H5 := hidden h5
  have HM := hidden h
  have hi5 : ∀ u, (Instr.indexAt 24 (.pointer (some ⟨n, 0, none⟩)) (.int .i64 5)).run Try.prog u = .ok (.pointer (some ⟨n, 5, none⟩)) u := fun u => index_reg n 5 (by omega) u
  have HWR := hidden (fun u => wrong_any v hv.1 22 u)
  have HLA := hidden (ansV_len hv.1 22 1)
  have hmg : (64 : Int) < (m : Int) := by omega
  obtain ⟨C, hC⟩ : ∃ C, v.c = C := ⟨_, rfl⟩
  rw [hC]
  have HC := hidden hC
  clear hC hv h5 h hm
  go_enter Try.func38, Try.ntmps38
  go_upto_region 1 with (first
    | (refine wpList_boxG rfl 26 _ rfl C rfl ?_; rintro w1 k1 s1 b1; rw [hn] at k1 s1 b1 ⊢; have K1 : Hid (Blk w1 n v.c 26) := hidden (by rw [HC.out]; exact k1); have S1 := hidden s1; have B1 := hidden b1; clear k1 s1 b1)
    | (refine wpList_allocV rfl rfl ?_; rintro w2 k2 s2 b2; rw [S1.out] at k2 s2 b2 ⊢; have P := hidden (WM.mk2 HM.out HN.out K1.out S1.out B1.out k2 b2); clear k2 s2 b2 K1 S1 B1))
  have c5 := P.out.s0.cell (SV.getR HV.out (show 5 < 32 by decide))
  rw [H5.out] at c5
  go_wp2_with (first
    | (refine wpList_loadV rfl _ rfl n v rfl P.out.s0 HV.out ?_)
    | (go_at_call 39; refine (HWR.out _).mono ?_; rintro e w5 ⟨rfl, b5⟩; have P5 := hidden (P.out.later b5); clear b5 c5)
    | (refine wpList_storeV rfl rfl _ _ rfl (n + 1) SV.zero (ansV v 22 1) rfl rfl P5.out.r rfl HLA.out ?_; rintro w6 k6 o6; have Q6 := hidden (P5.out.put o6 k6); clear k6 o6))
  refine bodyPost_ret (results_ct rfl _ _ (n + 1) _ (by kernel_rfl) (loadSt Q6.out.1 HLA.out)) rfl ⟨?_, Q6.out.2⟩
  kernel_rfl
end Go.Proofs.Ytodoenimlhldjaa
