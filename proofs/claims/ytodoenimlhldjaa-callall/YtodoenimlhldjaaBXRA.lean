/- Call that reads. -/
import Derived.Test.YtodoenimlhldjaaBMAO
namespace Go.Proofs.Ytodoenimlhldjaa
open Go.ChangeShapes Go.WideShapes Go.ChangeAt Go.RowKit
set_option linter.unusedVariables false
/-- Keeps what lies behind N. -/
theorem Fr.keepF {w w' : World} {N m : Nat} {T : TypeId} {v : Value} {cs : List Value} {F : Nat → Prop} (h : Fr w N T v m cs) (k : Keep F w w') (hF : ∀ b, F b → b < N) : Fr w' N T v m cs := by
  obtain ⟨g, hN, e, hk⟩ := h
  exact ⟨g, hN, e, (k.block g hk.lt (fun hb => by have := hF g hb; omega)).trans hk⟩
/-- A memory beside a call's own four blocks. -/
structure SP (s : MS) (n : Nat) (wr : World) (s' : MS) : Prop where
  mem : MemW wr s'
  off : ∀ b, foot s' b → b < n ∨ n + 4 ≤ b
  grow : ∀ b, foot s' b → foot s b ∨ n ≤ b
theorem SP.of_step {s s' : MS} {n : Nat} {u wr : World} (k : Step u s wr s') (hs : ∀ b, foot s b → b < n) (hu : n + 4 ≤ u.heap.size) : SP s n wr s' :=
  ⟨k.mem, fun b hb => (k.grow b hb).elim (fun h => .inl (hs b h)) (fun h => .inr (by omega)), fun b hb => (k.grow b hb).elim .inl (fun h => .inr (by omega))⟩
theorem SP.only {s s' : MS} {n k : Nat} {wr w' : World} (h : SP s n wr s') (ho : Only k wr w') (h1 : n ≤ k) (h2 : k < n + 4) : SP s n w' s' :=
  ⟨h.mem.same fun b hb => ho.block b (by have := h.off b hb; omega), h.off, h.grow⟩
theorem SP.rf {s s' : MS} {n q : Nat} {wr w' : World} {A B : Obj} (h : SP s n wr s') (hR : RF [(q, A), (q + 1, B)] wr w') (hq : n + 1 + 1 = q) : SP s n w' s' :=
  ⟨h.mem.same fun b hb => by
    rcases hR.block b (h.mem.lt hb) with e | ⟨o, ho, e⟩
    · exact e
    · have h1 := h.off b hb
      simp only [List.mem_cons, Prod.mk.injEq, List.mem_nil_iff, or_false] at ho
      omega, h.off, h.grow⟩
/-- What the slots of the region hold, whatever the order. -/
def phiCbrd (n q : Nat) (v V : SV) (CX : Array Value) (gg : Int) : Nat → Value → World → Prop
  | 0, x, _ => x = .agg (SV.c V)
  | 1, x, _ => x = .agg CX
  | 2, x, _ => x = .int .i64 gg
  | 3, x, w => x = .bool true ∧ Blk w (q) (SV.c (V)) 26
  | 4, x, w => x = .bool true ∧ Blk w (q + 1) (CX) 38
  | 5, x, _ => x = .int .i64 gg
  | 6, x, _ => x = .int .u32 0
  | _ + 7, _, _ => True
theorem phiCbrd_mono (n q : Nat) (v V : SV) (CX : Array Value) (gg : Int) : ∀ i x w w', phiCbrd n q v V CX gg i x w → RF [(q, Obj.cells (SV.c (V)) 26 (0, 0)), (q + 1, Obj.cells (CX) 38 (0, 0))] w w' → phiCbrd n q v V CX gg i x w'
  | 0, _, _, _, h, _ => h
  | 1, _, _, _, h, _ => h
  | 2, _, _, _, h, _ => h
  | 3, x, w, w', h, hb => ⟨h.1, hb.blk h.2 rf2_a⟩
  | 4, x, w, w', h, hb => ⟨h.1, hb.blk h.2 rf2_b⟩
  | 5, _, _, _, h, _ => h
  | 6, _, _, _, h, _ => h
  | _ + 7, _, _, _, _, _ => trivial
theorem lstCbrd : ∀ xs : List Value, xs.length = 7 → ∃ x0 x1 x2 x3 x4 x5 x6, xs = [x0, x1, x2, x3, x4, x5, x6]
  | [x0, x1, x2, x3, x4, x5, x6], _ => ⟨_, _, _, _, _, _, _, rfl⟩
set_option maxRecDepth 20000 in
set_option maxHeartbeats 2000000 in
theorem call_rd (w : World) (s : MS) (h : MemW w s) (v : SV) (hv : v.ok) (inp : ByteArray) (at_ us : Int) (rd ev : Value) (l : List Int) (e : List (Int × ByteArray)) (hrd : Rw w 1 rd l.length (cI l)) (hev : Rw w 2 ev e.length (cE e)) (hl : l.length ≤ 16384) (hel : e.length ≤ 16384) (h2 : v.R.getD 2 0 = 4003) (V : SV) (hVl : V.R.length = 32) (P : MS → Prop) (G : Nat → Prop) (hG : ∀ b, G b → foot s b) (at2 us2 : Int) (hcal : ∀ (u : World) (rd1 ev1 : Value), Below w.heap.size w u → w.heap.size + 4 ≤ u.heap.size → Fr u (w.heap.size + 4) 3 rd1 l.length (cI l) → Fr u (w.heap.size + 4) 66 ev1 e.length (cE e) → Calls Try.prog 36 #[.pointer (some ⟨s.mb, 0, none⟩), .agg v.c, .agg (cwC inp at_ rd1 us ev1)] u fun x w' => x = .returned (.tuple #[.agg V.c, .agg (cwC inp at2 rd1 us2 ev1)]) ∧ ∃ s', Step u s w' s' ∧ Keep G u w' ∧ P s') : Calls Try.prog 13 #[.pointer (some ⟨s.mb, 0, none⟩), .agg v.c, .agg (cwC inp at_ rd us ev)] w fun x w' => ∃ rd' ev', x = .returned (.tuple #[.agg (SV.c V), .agg (cwC inp at2 rd' us2 ev'), .int .i64 0, .int .u32 0]) ∧ Fr w' w.heap.size 3 rd' l.length (cI l) ∧ Fr w' w.heap.size 66 ev' e.length (cE e) ∧ ∃ s', Step w s w' s' ∧ Keep G w w' ∧ P s' := by
  obtain ⟨n, hn⟩ : ∃ n, w.heap.size = n := ⟨_, rfl⟩
  obtain ⟨q, hq⟩ : ∃ q, n + 1 + 1 = q := ⟨_, rfl⟩
  have HQ := hidden hq
  have HV := hidden hv.1
  have HLL := hidden hl
  have HEL := hidden hel
  have HSF : Hid (∀ b, foot s b → b < n) := hidden (fun b hb => by rw [← hn]; exact h.lt hb)
  have HOW := hidden (fun u (hu : Below w.heap.size w u) => own_any u inp at_ us rd ev l e (hrd.later hu) (hev.later hu) hl hel)
  have HL5 := hidden hVl
  have HCAL := hidden hcal
  have HG := hidden hG
  have HGN : Hid (∀ b, G b → b < n) := hidden (fun b hb => HSF.out b (hG b hb))
  rw [hn] at HCAL
  obtain ⟨r2, h22⟩ : ∃ r2 : Nat, v.R.getD 2 0 = (r2 : Int) := ⟨(v.R.getD 2 0).toNat, by have := (hv.2.1 2 (by omega)).1; omega⟩
  obtain ⟨r4, h4⟩ : ∃ r4 : Nat, v.R.getD 4 0 = (r4 : Int) := ⟨(v.R.getD 4 0).toNat, by have := (hv.2.1 4 (by omega)).1; omega⟩
  obtain ⟨r5, h5⟩ : ∃ r5 : Nat, v.R.getD 5 0 = (r5 : Int) := ⟨(v.R.getD 5 0).toNat, by have := (hv.2.1 5 (by omega)).1; omega⟩
  obtain ⟨r6, h6⟩ : ∃ r6 : Nat, v.R.getD 6 0 = (r6 : Int) := ⟨(v.R.getD 6 0).toNat, by have := (hv.2.1 6 (by omega)).1; omega⟩
  have l5 : r5 < 4294967296 := by have := (hv.2.1 5 (by omega)).2; omega
  have l6 : r6 < 4294967296 := by have := (hv.2.1 6 (by omega)).2; omega
  have H2 := hidden h22
  have H4 := hidden h4
  have H5 := hidden h5
  have H6 := hidden h6
  have e2 : r2 = 4003 := by omega
  subst e2
  have hi2 : ∀ u, (Instr.indexAt 24 (.pointer (some ⟨n, 0, none⟩)) (.int .i64 2)).run Try.prog u = .ok (.pointer (some ⟨n, 2, none⟩)) u := fun u => index_reg n 2 (by omega) u
  have HC1 : Hid ((cwC inp at_ rd us ev).all (·.oneCell') = true) := hidden (cw_one hrd.one hev.one)
  have HC5 : Hid ((cwC inp at_ rd us ev).size = 5) := hidden rfl
  obtain ⟨CW, hCW⟩ : ∃ CW, cwC inp at_ rd us ev = CW := ⟨_, rfl⟩
  rw [hCW] at HC1 HC5 HOW ⊢
  obtain ⟨C, hC⟩ : ∃ C, v.c = C := ⟨_, rfl⟩
  rw [hC]
  have HC := hidden hC
  have HM := hidden h
  clear hC hCW hq hv h2 h22 h4 h5 h6 l5 l6 hrd hev hl hel h hVl hcal hG
  go_enter Try.func13, Try.ntmps13
  go_upto_region 1 with (first
    | (refine wpList_boxG rfl 26 _ rfl C rfl ?_; rintro w1 k1 s1 b1; rw [hn] at k1 s1 b1 ⊢; have K1 : Hid (Blk w1 n v.c 26) := hidden (by rw [HC.out]; exact k1); have S1 := hidden s1; have B1 := hidden b1; clear k1 s1 b1)
    | (refine wpList_boxG rfl 38 _ rfl CW rfl ?_; rintro w2 k2 s2 b2; rw [S1.out] at k2 s2 b2 ⊢; have K2 := hidden k2; have S2 : Hid (w2.heap.size = q) := hidden (by rw [s2]; exact HQ.out); have B2 := hidden b2; clear k2 s2 b2)
    | (refine wpList_allocV rfl rfl ?_; rintro w3 k3 s3 b3; rw [S2.out] at k3 s3 b3 ⊢; have K3 := hidden k3; have S3 := hidden s3; have B3 := hidden b3; clear k3 s3 b3)
    | (refine wpList_allocCw rfl rfl ?_; rintro w4 k4 s4 b4; rw [S3.out] at k4 s4 b4 ⊢; have P := hidden (WA.mk4 (F := nought) hn HQ.out K1.out S1.out B1.out K2.out S2.out B2.out K3.out S3.out B3.out k4 b4); clear k4 s4 b4 K1 S1 B1 K2 S2 B2 K3 S3 B3))
  have HNQ : Hid (n + 1 < q + 2) := hidden (by have := HQ.out; omega)
  have HNQ0 : Hid (n < q + 2) := hidden (by have := HQ.out; omega)
  have HNF : Hid (∀ b, foot s b → b < q + 2) := hidden (fun b hb => by have := HSF.out b hb; have := HNQ0.out; omega)
  go_upto_region 2 with (first
    | (refine wpList_loadCw rfl _ rfl (n + 1) CW rfl P.out.c HC5.out ?_)
    | (go_at_call 34; refine (HOW.out _ P.out.bel).mono ?_; rintro x w5 ⟨rd1, ev1, rfl, f1, f2, b5⟩; have F1 := hidden (f1.mono P.out.sz); have F2 := hidden (f2.mono P.out.sz); have Q := hidden (P.out.later b5); clear P f1 f2 b5; have P := Q; clear Q)
    | (refine wpList_storeCw rfl rfl _ _ rfl (n + 1) CW (cwC inp at_ rd1 us ev1) rfl rfl P.out.c HC5.out rfl (cw_one F1.out.one F2.out.one) ?_; rintro w6 k6 o6; have Q := hidden (P.out.putW o6 k6); clear P; have P := Q; clear Q; have F3 := hidden (F1.out.keep (Keep.of_only o6) HNQ.out); have F4 := hidden (F2.out.keep (Keep.of_only o6) HNQ.out); clear k6 o6 F1 F2))
  have c2 : _ := P.out.s.cell (SV.getR HV.out (show 2 < 32 by decide))
  rw [H2.out] at c2
  have HWZ := hidden (HCAL.out _ rd1 ev1 (by rw [← hn]; exact P.out.bel) (by have := P.out.sz; have := HQ.out; omega) (F3.out.mono (by have := HQ.out; omega)) (F4.out.mono (by have := HQ.out; omega)))
  have HUS : Hid (n + 4 ≤ w6.heap.size) := hidden (by have := P.out.sz; have := HQ.out; omega)
  obtain ⟨CY, hCY⟩ : ∃ CY, cwC inp at_ rd1 us ev1 = CY := ⟨_, rfl⟩
  rw [hCY] at P HWZ
  have HCY5 : Hid (CY.size = 5) := hidden (by rw [← hCY]; rfl)
  clear hCY HOW HC1 HCAL
  go_upto_region 13 with (first
    | (refine wpList_loadV rfl _ rfl n v rfl P.out.s HV.out ?_)
    | (refine wpList_loadCw rfl _ rfl (n + 1) CY rfl P.out.c HCY5.out ?_)
    | (go_at_call 36; refine HWZ.out.mono ?_; rintro x w7 ⟨rfl, s2, hst, hkg, hps⟩; have P7 := hidden ((P.out.wide (G := G) (fun _ h => h.elim)).turn hkg HGN.out); have S7 := hidden (SP.of_step hst HSF.out HUS.out); have F7 := hidden (F3.out.keepF hst.keep HNF.out); have G7 := hidden (F4.out.keepF hst.keep HNF.out); have HPS := hidden hps; clear c2 hst hps hkg HWZ F3 F4 P)
    | (refine wpList_storeV rfl rfl _ _ rfl n v V rfl rfl P7.out.s HV.out HL5.out ?_; rintro w8 k8 o8; have P8 := hidden (P7.out.putS o8 k8); have S8 := hidden (S7.out.only o8 (Nat.le_refl n) (by omega)); have F8 := hidden (F7.out.keep (Keep.of_only o8) HNQ0.out); have G8 := hidden (G7.out.keep (Keep.of_only o8) HNQ0.out); clear k8 o8 P7 F7 G7)
    | (refine wpList_storeCw rfl rfl _ _ rfl (n + 1) CY (cwC inp at2 rd1 us2 ev1) rfl rfl P8.out.c HCY5.out rfl (cw_one F8.out.one G8.out.one) ?_; rintro w9 k9 o9; have P9 := hidden (P8.out.putW o9 k9); have S9 := hidden (S8.out.only o9 (Nat.le_succ n) (by omega)); have F9 := hidden (F8.out.keep (Keep.of_only o9) HNQ.out); have G9 := hidden (G8.out.keep (Keep.of_only o9) HNQ.out); clear k9 o9 P8 S8 F8 G8))
  have HC2 : Hid ((cwC inp at2 rd1 us2 ev1).all (·.oneCell') = true) := hidden (cw_one F9.out.one G9.out.one)
  obtain ⟨CX, hCX⟩ : ∃ CX, cwC inp at2 rd1 us2 ev1 = CX := ⟨_, rfl⟩
  have HC5X : Hid (CX.size = 5) := hidden (by rw [← hCX]; rfl)
  rw [hCX] at HC2 P9
  have HCX := hidden hCX
  have KS := hidden P9.out.s
  have KW := hidden P9.out.c
  have QS := hidden P9.out.rs
  have QW := hidden P9.out.rw
  have PQ := P9.out.hq
  have hW5 := HC5X.out
  clear hCX HCY5
  refine wp_region_on (later_rf [(q, Obj.cells (SV.c (V)) 26 (0, 0)), (q + 1, Obj.cells (CX) 38 (0, 0))]) [52, 53, 54, 1003, 1004, 8, 9] 7 (phiCbrd n q v V CX (0 : Int)) (by kernel_rfl) (by kernel_rfl) rfl rfl (phiCbrd_mono n q v V CX (0 : Int)) ?_ ?_
  · intro j hj xs w3 hxs hR hpre
    obtain ⟨x0, x1, x2, x3, x4, x5, x6, rfl⟩ := lstCbrd xs hxs
    have hS : Blk w3 (n) (SV.c V) 26 := hR.blk KS.out (rf2_no (by omega) (by omega))
    have hW : Blk w3 (n + 1) CX 38 := hR.blk KW.out (rf2_no (by omega) (by omega))
    have hA := hR.some ⟨_, SV.size (s := SV.zero) rfl, QS.out⟩ (rf2_s1 (SV.size HL5.out))
    have hB := hR.some (n := 5) ⟨_, (show zCw.size = 5 from rfl), QW.out⟩ (rf2_s2 hW5)
    rcases (show j = 0 ∨ j = 1 ∨ j = 2 ∨ j = 3 ∨ j = 4 ∨ j = 5 ∨ j = 6 by omega) with rfl | rfl | rfl | rfl | rfl | rfl | rfl
    · exact wpOp_run (.agg (SV.c V)) rfl (by kernel_rfl) (exec_load 26 rfl (by kernel_rfl) w3 (loadSt hS HL5.out)) ⟨_, by kernel_rfl, rfl, (later_rf _).refl _⟩
    · exact wpOp_run (.agg CX) rfl (by kernel_rfl) (exec_load 38 rfl (by kernel_rfl) w3 (loadCwR hW hW5)) ⟨_, by kernel_rfl, rfl, (later_rf _).refl _⟩
    · exact wpOp_run (.int .i64 0) rfl (by kernel_rfl) (exec_move rfl (by kernel_rfl) w3) ⟨_, by kernel_rfl, rfl, (later_rf _).refl _⟩
    · have e0 : x0 = .agg (SV.c V) := hpre 0 (by kernel_rfl)
      subst e0
      obtain ⟨old, hs1, hs2⟩ := hA
      exact wpOp_put rfl (by kernel_rfl) (exec_storeG (g := q) (cs := SV.c (V)) (old := old) rfl (by kernel_rfl) (by kernel_rfl) w3 hs2 (by rw [SV.size HL5.out]; exact sizeSV) (by rw [hs1, SV.size HL5.out]) (SV.one _)) ⟨.bool true, by kernel_rfl, ⟨rfl, setRow_heap w3 (q) old _ 26 (0, 0) hs2⟩, RF.of_only (only_rowV w3 (q) _) (setRow_heap w3 (q) old _ 26 (0, 0) hs2) rf2_m1⟩
    · have e1 : x1 = .agg CX := hpre 1 (by kernel_rfl)
      subst e1
      obtain ⟨old, hs1, hs2⟩ := hB
      exact wpOp_put rfl (by kernel_rfl) (exec_storeG (g := q + 1) (cs := CX) (old := old) rfl (by kernel_rfl) (by kernel_rfl) w3 hs2 (by rw [hW5]; exact sizeCw) (by rw [hs1, hW5]) HC2.out) ⟨.bool true, by kernel_rfl, ⟨rfl, setRow_heap w3 (q + 1) old _ 38 (0, 0) hs2⟩, RF.of_only (only_rowV w3 (q + 1) _) (setRow_heap w3 (q + 1) old _ 38 (0, 0) hs2) rf2_m2⟩
    · have e2 : x2 = .int .i64 0 := hpre 2 (by kernel_rfl)
      subst e2
      exact wpOp_run (.int .i64 0) rfl (by kernel_rfl) (by kernel_rfl) ⟨_, by kernel_rfl, rfl, (later_rf _).refl _⟩
    · exact wpOp_run (.int .u32 0) rfl (by kernel_rfl) (by kernel_rfl) ⟨_, by kernel_rfl, rfl, (later_rf _).refl _⟩
  · intro xs w3 hxs hR hall
    obtain ⟨x0, x1, x2, x3, x4, x5, x6, rfl⟩ := lstCbrd xs hxs
    obtain ⟨_, kA⟩ : x3 = .bool true ∧ Blk w3 (q) (SV.c (V)) 26 := hall 3 (by omega)
    obtain ⟨_, kB⟩ : x4 = .bool true ∧ Blk w3 (q + 1) (CX) 38 := hall 4 (by omega)
    have RA := hidden kA
    have RB := hidden kB
    have HRF := hidden hR
    have g5 : x5 = .int .i64 0 := hall 5 (by omega)
    have g6 : x6 = .int .u32 0 := hall 6 (by omega)
    subst g5
    subst g6
    have KP := hidden (P9.out.both HRF.out)
    have RI := hidden ((F9.out.rf HRF.out).mono (M := w.heap.size) (by rw [hn]; have := HQ.out; omega))
    have RO := hidden ((G9.out.rf HRF.out).mono (M := w.heap.size) (by rw [hn]; have := HQ.out; omega))
    have SE := hidden (S9.out.rf HRF.out HQ.out)
    clear hR hall hxs kA kB HRF P9 KS KW QS QW G9 F9
    simp only [slotsOn, putAll]
    go_wp2
    refine bodyPost_ret (results_cctt rfl _ _ q (q + 1) _ _ (by kernel_rfl) (by kernel_rfl) (loadSt RA.out HL5.out) (loadCwR RB.out HC5X.out)) rfl ⟨rd1, ev1, ?_, RI.out, RO.out, s2, ⟨SE.out.mem, KP.out.mono (fun b _ hb => HG.out b hb), fun b hb => (SE.out.grow b hb).imp id (fun h => by rw [hn]; exact h)⟩, KP.out, HPS.out⟩
    rw [HCX.out]
    kernel_rfl
end Go.Proofs.Ytodoenimlhldjaa
namespace Go.Proofs.Ytodoenimlhldjaa
open Go.ChangeShapes Go.WideShapes Go.ChangeAt Go.RowKit
set_option linter.unusedVariables false
/-- How many bytes were not read; whether there is a next choice; how many are read. -/
def leftV (inp : ByteArray) (a : Int) : Int := if a < 0 then 0 else if (inp.size : Int) < a then 0 else (inp.size : Int) - a
def hasB (us : Int) (l : List Int) : Bool := decide (0 ≤ us) && decide (us < (l.length : Int))
def takeN (m : Int) (inp : ByteArray) (a us : Int) (l : List Int) : Int := if hasB us l = true then min m (min (leftV inp a) (max (l.getD us.toNat 0) 1)) else min m (leftV inp a)
def takeU (us : Int) (l : List Int) : Int := if hasB us l = true then us + 1 else us
theorem leftV_range (inp : ByteArray) (a : Int) : 0 ≤ leftV inp a ∧ leftV inp a ≤ inp.size := by
  unfold leftV
  split
  · omega
  · split <;> omega
theorem takeN_range {m : Int} (hm : 0 ≤ m) (inp : ByteArray) (a us : Int) (l : List Int) : 0 ≤ takeN m inp a us l ∧ takeN m inp a us l ≤ m ∧ takeN m inp a us l ≤ leftV inp a := by
  have h := leftV_range inp a
  unfold takeN
  split <;> omega
theorem take_in {m : Int} (hm : 0 ≤ m) (inp : ByteArray) (a us : Int) (l : List Int) (h : takeN m inp a us l ≠ 0) : 0 ≤ a ∧ a + takeN m inp a us l ≤ inp.size := by
  have h1 := takeN_range hm inp a us l
  have h2 : leftV inp a ≠ 0 := by omega
  unfold leftV at h1 h2
  by_cases e1 : a < 0
  · rw [if_pos e1] at h2; omega
  · rw [if_neg e1] at h1 h2
    by_cases e2 : (inp.size : Int) < a
    · rw [if_pos e2] at h2; omega
    · rw [if_neg e2] at h1; omega
theorem extract_nil (inp : ByteArray) (a : Nat) : inp.extract a a = ⟨#[]⟩ := by
  apply ByteArray.ext
  simp
set_option maxRecDepth 20000 in
set_option maxHeartbeats 1000000 in
theorem left_any (w : World) (inp : ByteArray) (a us : Int) (rd ev : Value) (hs : inp.size ≤ 4611686018427387904) : Calls Try.prog 79 #[.agg (cwC inp a rd us ev)] w fun e w' => e = .returned (.int .i64 (leftV inp a)) ∧ Below w.heap.size w w' := by
  obtain ⟨n, hn⟩ : ∃ n, w.heap.size = n := ⟨_, rfl⟩
  obtain ⟨CW, hCW⟩ : ∃ CW, cwC inp a rd us ev = CW := ⟨_, rfl⟩
  have HCW := hidden hCW
  rw [hCW]
  obtain ⟨z, hz⟩ : ∃ z, inp.size = z := ⟨_, rfl⟩
  have HZ := hidden hz
  rw [hz] at hs
  have hs0 : (z : Int) ≤ 4611686018427387904 := by omega
  clear hCW hs
  by_cases h1 : a < 0
  · have HL : Hid (leftV inp a = 0) := hidden (by unfold leftV; rw [if_pos h1])
    rw [HL.out]
    clear hz
    go_enter Try.func79, Try.ntmps79
    go_wp2_with (first
      | (refine wpList_boxG rfl 38 _ rfl CW rfl ?_; rintro w1 k1 s1 b1; rw [hn] at k1 s1 b1 ⊢; rw [← HCW.out] at k1; have c1 := k1.cell (j := 1) rfl; have c0 := k1.cell (j := 0) rfl; have B1 := hidden b1; clear k1 s1 b1))
    go_ret
    exact ⟨rfl, by first | exact B1.out | (rw [hn]; exact B1.out)⟩
  · by_cases h2 : (z : Int) < a
    · have HL : Hid (leftV inp a = 0) := hidden (by unfold leftV; rw [if_neg h1, HZ.out, if_pos h2])
      rw [HL.out]
      go_enter Try.func79, Try.ntmps79
      go_wp2_with (first
        | (refine wpList_boxG rfl 38 _ rfl CW rfl ?_; rintro w1 k1 s1 b1; rw [hn] at k1 s1 b1 ⊢; rw [← HCW.out] at k1; have c1 := k1.cell (j := 1) rfl; have c0 := k1.cell (j := 0) rfl; have B1 := hidden b1; clear k1 s1 b1))
      go_ret
      exact ⟨rfl, by first | exact B1.out | (rw [hn]; exact B1.out)⟩
    · have HL : Hid (leftV inp a = (z : Int) - a) := hidden (by unfold leftV; rw [if_neg h1, HZ.out, if_neg h2])
      rw [HL.out]
      have h3 : a ≤ (z : Int) := by omega
      have h4 : 0 ≤ a := by omega
      go_enter Try.func79, Try.ntmps79
      go_wp2_with (first
        | (refine wpList_boxG rfl 38 _ rfl CW rfl ?_; rintro w1 k1 s1 b1; rw [hn] at k1 s1 b1 ⊢; rw [← HCW.out] at k1; have c1 := k1.cell (j := 1) rfl; have c0 := k1.cell (j := 0) rfl; have B1 := hidden b1; clear k1 s1 b1))
      go_ret
      exact ⟨rfl, by first | exact B1.out | (rw [hn]; exact B1.out)⟩
set_option maxRecDepth 20000 in
set_option maxHeartbeats 1000000 in
theorem has_any (w : World) (inp : ByteArray) (a us : Int) (ao : Option Addr) (cap : Nat) (ev : Value) (l : List Int) : Calls Try.prog 80 #[.agg (cwC inp a (.slice ao l.length cap) us ev)] w fun e w' => e = .returned (.bool (hasB us l)) ∧ Below w.heap.size w w' := by
  obtain ⟨n, hn⟩ : ∃ n, w.heap.size = n := ⟨_, rfl⟩
  obtain ⟨ln, hln⟩ : ∃ ln, l.length = ln := ⟨_, rfl⟩
  obtain ⟨hb, hhb⟩ : ∃ b, hasB us l = b := ⟨_, rfl⟩
  have HHB := hidden hhb
  unfold hasB at hhb
  rw [hln] at hhb ⊢
  rw [HHB.out]
  obtain ⟨CW, hCW⟩ : ∃ CW, cwC inp a (.slice ao ln cap) us ev = CW := ⟨_, rfl⟩
  have HCW := hidden hCW
  rw [hCW]
  clear hCW hln
  by_cases h1 : 0 ≤ us
  · by_cases h2 : us < (ln : Int)
    · have e : hb = true := by rw [← hhb, decide_eq_true h1, decide_eq_true h2]; rfl
      subst e
      clear hhb
      go_enter Try.func80, Try.ntmps80
      go_wp2_with (first
        | (refine wpList_boxG rfl 38 _ rfl CW rfl ?_; rintro w1 k1 s1 b1; rw [hn] at k1 s1 b1 ⊢; rw [← HCW.out] at k1; have c3 := k1.cell (j := 3) rfl; have c2 := k1.cell (j := 2) rfl; have B1 := hidden b1; clear k1 s1 b1))
      go_ret
      exact ⟨rfl, by first | exact B1.out | (rw [hn]; exact B1.out)⟩
    · have e : hb = false := by rw [← hhb, decide_eq_true h1, decide_eq_false h2]; rfl
      subst e
      clear hhb
      go_enter Try.func80, Try.ntmps80
      go_wp2_with (first
        | (refine wpList_boxG rfl 38 _ rfl CW rfl ?_; rintro w1 k1 s1 b1; rw [hn] at k1 s1 b1 ⊢; rw [← HCW.out] at k1; have c3 := k1.cell (j := 3) rfl; have c2 := k1.cell (j := 2) rfl; have B1 := hidden b1; clear k1 s1 b1))
      go_ret
      exact ⟨rfl, by first | exact B1.out | (rw [hn]; exact B1.out)⟩
  · have e : hb = false := by rw [← hhb, decide_eq_false h1]; rfl
    subst e
    clear hhb
    go_enter Try.func80, Try.ntmps80
    go_wp2_with (first
      | (refine wpList_boxG rfl 38 _ rfl CW rfl ?_; rintro w1 k1 s1 b1; rw [hn] at k1 s1 b1 ⊢; rw [← HCW.out] at k1; have c3 := k1.cell (j := 3) rfl; have c2 := k1.cell (j := 2) rfl; have B1 := hidden b1; clear k1 s1 b1))
    go_ret
    exact ⟨rfl, by first | exact B1.out | (rw [hn]; exact B1.out)⟩
end Go.Proofs.Ytodoenimlhldjaa
namespace Go.Proofs.Ytodoenimlhldjaa
open Go.ChangeShapes Go.WideShapes Go.ChangeAt Go.RowKit
set_option linter.unusedVariables false
theorem rf1_a {q : Nat} {A : Obj} : ∀ o, (q, o) ∈ [(q, A)] → o = A := by
  intro o ho
  simpa using ho
theorem rf1_no {q b : Nat} {A X : Obj} (h1 : b ≠ q) : ∀ o, (b, o) ∈ [(q, A)] → o = X := by
  intro o ho
  simp only [List.mem_cons, Prod.mk.injEq, List.mem_nil_iff, or_false] at ho
  exact absurd ho.1 h1
theorem rf1_s {q n : Nat} {a : Array Value} {T : TypeId} (h : a.size = n) : ∀ o, (q, o) ∈ [(q, Obj.cells a T (0, 0))] → ∃ cs : Array Value, cs.size = n ∧ o = Obj.cells cs T (0, 0) := fun o ho => ⟨a, h, rf1_a o ho⟩
theorem rf1_m {q : Nat} {A : Obj} : (q, A) ∈ [(q, A)] := List.mem_cons_self
theorem index_is2 (b off ln lc k : Nat) (hk : k < ln) (u : World) : (Instr.indexAt 27 (.slice (some ⟨b, off, none⟩) ln lc) (.int .i64 (k : Int))).run Try.prog u = .ok (.pointer (some ⟨b, off + k, none⟩)) u := by
  have hs : (Try.prog.info? 3).map (·.size) = some 1 := by kernel_rfl
  cases hq : Try.prog.info? 3 with
  | none => simp [hq] at hs
  | some i =>
    have hs2 : i.size = 1 := by simpa [hq] using hs
    simp [Instr.indexAt, run_underlying Try.underlying27, sizeOf, typeInfo, hq, hs2, hk, Addr.add_lit, go_sem]
theorem results_tc {fn : Func} {p t : Tmp} {ty : TypeId} (h : fn.results = #[.tmp t, .cell p ty]) (tmps : Array Value) (w : World) (g : Nat) (v : Value)
    (hp : tmps.getD p undef = .pointer (some ⟨g, 0, none⟩)) (hv : (loadVar ty ⟨g, 0, none⟩).run Try.prog w = .ok v w) :
    (results fn tmps).run Try.prog w = .ok (.tuple #[tmps.getD t undef, v]) w := by
  have hp' : tmps[p]?.getD undef = .pointer (some ⟨g, 0, none⟩) := by simpa using hp
  simp [results, h, hp', asAddr, hv]
/-- What the slots of the region hold, whatever the order. -/
def phiTk9 (n : Nat) (CW CY : Array Value) (D : ByteArray) : Nat → Value → World → Prop
  | 0, x, _ => x = .string D
  | 1, x, _ => x = .agg CY
  | 2, x, _ => x = .string D
  | 3, x, w => x = .bool true ∧ Blk w (n + 1) (CY) 38
  | _ + 4, _, _ => True
theorem phiTk9_mono (n : Nat) (CW CY : Array Value) (D : ByteArray) : ∀ i x w w', phiTk9 n CW CY D i x w → RF [(n + 1, Obj.cells (CY) 38 (0, 0))] w w' → phiTk9 n CW CY D i x w'
  | 0, _, _, _, h, _ => h
  | 1, _, _, _, h, _ => h
  | 2, _, _, _, h, _ => h
  | 3, x, w, w', h, hb => ⟨h.1, hb.blk h.2 rf1_a⟩
  | _ + 4, _, _, _, _, _ => trivial
theorem lstTk9 : ∀ xs : List Value, xs.length = 4 → ∃ x0 x1 x2 x3, xs = [x0, x1, x2, x3]
  | [x0, x1, x2, x3], _ => ⟨_, _, _, _, rfl⟩
/-- What the slots of the region hold, whatever the order. -/
def phiTk6 (n : Nat) (CW CY : Array Value) (D : ByteArray) : Nat → Value → World → Prop
  | 0, x, _ => x = .agg CY
  | 1, x, _ => x = .string ⟨#[]⟩
  | 2, x, w => x = .bool true ∧ Blk w (n + 1) (CY) 38
  | _ + 3, _, _ => True
theorem phiTk6_mono (n : Nat) (CW CY : Array Value) (D : ByteArray) : ∀ i x w w', phiTk6 n CW CY D i x w → RF [(n + 1, Obj.cells (CY) 38 (0, 0))] w w' → phiTk6 n CW CY D i x w'
  | 0, _, _, _, h, _ => h
  | 1, _, _, _, h, _ => h
  | 2, x, w, w', h, hb => ⟨h.1, hb.blk h.2 rf1_a⟩
  | _ + 3, _, _, _, _, _ => trivial
theorem lstTk6 : ∀ xs : List Value, xs.length = 3 → ∃ x0 x1 x2, xs = [x0, x1, x2]
  | [x0, x1, x2], _ => ⟨_, _, _, rfl⟩
set_option maxRecDepth 20000 in
set_option maxHeartbeats 1000000 in
theorem take_hz (w : World) (inp : ByteArray) (a us m : Int) (ao : Option Addr) (cap : Nat) (ev : Value) (l : List Int) (hr : Rw w 1 (.slice ao l.length cap) l.length (cI l)) (he : ev.oneCell' = true) (hl : l.length ≤ 16384) (hs : inp.size ≤ 4611686018427387904) (hm : 0 ≤ m) (hm2 : m ≤ 16384) (hh : hasB us l = true) (h0 : takeN m inp a us l = 0) : Calls Try.prog 66 #[.agg (cwC inp a (.slice ao l.length cap) us ev), .int .i64 m] w fun x w' => x = .returned (.tuple #[.string (inp.extract a.toNat (a + takeN m inp a us l).toNat), .agg (cwC inp (a + takeN m inp a us l) (.slice ao l.length cap) (takeU us l) ev)]) ∧ Below w.heap.size w w' := by
  obtain ⟨n, hn⟩ : ∃ n, w.heap.size = n := ⟨_, rfl⟩
  have HN := hidden hn
  have hrange := takeN_range hm inp a us l
  have hlr := leftV_range inp a
  obtain ⟨L, hL⟩ : ∃ L, leftV inp a = L := ⟨_, rfl⟩
  obtain ⟨N, hN⟩ : ∃ N, takeN m inp a us l = N := ⟨_, rfl⟩
  have HLE := hidden (fun (u : World) => left_any u inp a us (.slice ao l.length cap) ev hs)
  have HHA := hidden (fun (u : World) => has_any u inp a us ao cap ev l)
  rw [hL] at HLE hrange hlr
  rw [hh] at HHA
  rw [hN] at h0 hrange ⊢
  unfold takeN at hN
  rw [hh, hL] at hN
  have hU : takeU us l = us + 1 := by unfold takeU; rw [hh]; rfl
  rw [hU]
  rw [if_pos rfl] at hN
  have hus : 0 ≤ us ∧ us < (l.length : Int) := by
    unfold hasB at hh
    rw [Bool.and_eq_true, decide_eq_true_eq, decide_eq_true_eq] at hh
    exact hh
  obtain ⟨j, rfl⟩ : ∃ j : Nat, us = (j : Int) := ⟨us.toNat, by omega⟩
  rw [Int.toNat_natCast] at hN
  have hjl : j < l.length := by omega
  obtain ⟨b, off, hao, hcl⟩ : ∃ b off, ao = some ⟨b, off, none⟩ ∧ ∀ u, Below w.heap.size w u → u.cell? ⟨b, off + j, none⟩ = some (.int .i64 (l.getD j 0)) := by
    obtain ⟨_, ao2, cap2, e, h⟩ := hr
    injection e with e1 e2 e3
    subst e1
    rcases h with h | ⟨b, off, e4, hlt, hc⟩
    · omega
    · refine ⟨b, off, e4, fun u hu => (hu.cell (p := ⟨b, off + j, none⟩) hlt).trans (hc j _ ?_)⟩
      unfold cI
      rw [List.getElem?_map, List.getElem?_eq_getElem hjl, List.getD_eq_getElem?_getD, List.getElem?_eq_getElem hjl]
      rfl
  subst hao
  obtain ⟨q, hq⟩ : ∃ q, l.getD j 0 = q := ⟨_, rfl⟩
  rw [hq] at hcl hN
  have HCL := hidden hcl
  have hix : ∀ u, (Instr.indexAt 27 (.slice (some ⟨b, off, none⟩) l.length cap) (.int .i64 (j : Int))).run Try.prog u = .ok (.pointer (some ⟨b, off + j, none⟩)) u := fun u => index_is2 b off l.length cap j hjl u
  have hj0 : (j : Int) ≤ 16384 := by omega
  have hj1 : (0 : Int) ≤ (j : Int) := by omega
  obtain ⟨ln, hln⟩ : ∃ ln, l.length = ln := ⟨_, rfl⟩
  have HCE : Hid (∀ x y : Int, (cwC inp x (.slice (some ⟨b, off, none⟩) l.length cap) y ev).all (·.oneCell') = true) := hidden (fun x y => cw_one rfl he)
  subst h0
  have e00 : a + 0 = a := by omega
  rw [e00, extract_nil]
  obtain ⟨CY, hCY⟩ : ∃ CY, cwC inp a (.slice (some ⟨b, off, none⟩) l.length cap) ((j : Int) + 1) ev = CY := ⟨_, rfl⟩
  have HCY := hidden hCY
  rw [hCY]
  obtain ⟨CW, hCW⟩ : ∃ CW, cwC inp a (.slice (some ⟨b, off, none⟩) l.length cap) (j : Int) ev = CW := ⟨_, rfl⟩
  have HCW := hidden hCW
  rw [hCW] at HLE HHA ⊢
  have HM := hidden (And.intro hm hm2)
  have HMIN := hidden hN
  clear hCW hr he hl hs hh hlr hL hU hcl hus hln 
  go_enter Try.func66, Try.ntmps66
  go_upto_region 1 with (first
    | (refine wpList_boxG rfl 38 _ rfl CW rfl ?_; rintro w1 k1 s1 b1; rw [hn] at k1 s1 b1 ⊢; have K1 := hidden k1; have S1 := hidden s1; have B1 := hidden b1; clear k1 s1 b1)
    | (refine wpList_allocCw rfl rfl ?_; rintro w2 k2 s2 b2; rw [S1.out] at k2 s2 b2 ⊢; have Q2 := hidden k2; have K2 := hidden ((b2.block n (Nat.lt_succ_self n)).trans K1.out); have S2 := hidden s2; have B2 := hidden (B1.out.trans (b2.mono (Nat.le_succ n))); clear k2 s2 b2 K1 S1 B1))
  have HS0 : Hid (n + 2 ≤ w2.heap.size) := hidden (by rw [S2.out]; omega)
  have HC5 : Hid (CW.size = 5) := hidden (by rw [← HCW.out]; rfl)
  go_upto_region 2 with (first
    | (refine wpList_loadCw rfl _ rfl n CW rfl K2.out HC5.out ?_)
    | (go_at_call 79; refine (HLE.out _).mono ?_; rintro x1 w3 ⟨rfl, b3⟩; have Q3 := hidden (Q2.out.later b3); have K3 := hidden (Blk.later (show Blk w2 n CW 38 from K2.out) b3); have B3 := hidden (B2.out.trans (b3.mono (Nat.le_trans (Nat.le_of_lt (Nat.lt_of_succ_lt HS0.out)) (Nat.le_refl _)))); have S3 := hidden (Nat.le_trans HS0.out b3.size); clear b3 K2 Q2 B2))
  go_upto_region 3 with (first
    | (refine wpList_loadCw rfl _ rfl n CW rfl K3.out HC5.out ?_)
    | (go_at_call 80; refine (HHA.out _).mono ?_; rintro x2 w4 ⟨rfl, b4⟩; have Q4 := hidden (Q3.out.later b4); have K4 := hidden (Blk.later (show Blk w3 n CW 38 from K3.out) b4); have B4 := hidden (B3.out.trans (b4.mono (Nat.le_trans (Nat.le_of_lt (Nat.lt_of_succ_lt S3.out)) (Nat.le_refl _)))); have S4 := hidden (Nat.le_trans S3.out b4.size); clear b4 K3 Q3 B3))
  have k4 : Blk w4 n (cwC inp a (.slice (some ⟨b, off, none⟩) l.length cap) (j : Int) ev) 38 := by rw [HCW.out]; exact K4.out
  have c1 := k4.cell (j := 1) rfl
  have c2 := k4.cell (j := 2) rfl
  have c3 := k4.cell (j := 3) rfl
  have cq := HCL.out w4 (by rw [HN.out]; exact B4.out)
  clear k4
  go_upto_region 4 with fail
  try rw [hN]
  clear c1 c2 c3 cq
  have c3 := (show Blk w4 n (cwC inp a (.slice (some ⟨b, off, none⟩) l.length cap) (j : Int) ev) 38 by rw [HCW.out]; exact K4.out).cell (j := 3) rfl
  go_upto_region 5 with (first
    | (refine wpList_storeC rfl rfl 3 _ _ rfl n 3 CW 38 (.int .i64 ((j : Int) + 1)) rfl rfl rfl sizeI1 K4.out (by rw [HC5.out]; decide) ?_; rintro w5 k5 o5; have K5 : Hid (Blk w5 n (cwC inp a (.slice (some ⟨b, off, none⟩) l.length cap) ((j : Int) + 1) ev) 38) := hidden (by rw [← HCW.out] at k5; exact k5); have Q5 := hidden (Q4.out.only o5 (Nat.succ_ne_self n)); have B5 := hidden (Below.only B4.out o5 (Nat.le_refl n)); clear k5 o5 K4 Q4 B4 c3))
  go_upto_region 6 with fail
  have K6 := K5
  have Q6 := Q5
  have B6 := B5
  have HY1 := hidden (HCE.out a ((j : Int) + 1))
  rw [HCY.out] at K6 HY1
  clear K5 Q5 B5
  have hW5 : CY.size = 5 := by rw [← HCY.out]; rfl
  have HW5 := hidden hW5
  have KW := K6
  have QW := Q6
  have hne : n ≠ n + 1 := Nat.ne_of_lt (Nat.lt_succ_self n)
  refine wp_region_on (later_rf [(n + 1, Obj.cells (CY) 38 (0, 0))]) [29, 4, 1002] 3 (phiTk6 n CY CY ⟨#[]⟩) (by kernel_rfl) (by kernel_rfl) rfl rfl (phiTk6_mono n CY CY ⟨#[]⟩) ?_ ?_
  · intro j hj xs w3 hxs hR hpre
    obtain ⟨x0, x1, x2, rfl⟩ := lstTk6 xs hxs
    have hW : Blk w3 (n) CY 38 := hR.blk KW.out (rf1_no hne)
    have hB := hR.some (n := 5) ⟨_, (show zCw.size = 5 from rfl), QW.out⟩ (rf1_s hW5)
    rcases (show j = 0 ∨ j = 1 ∨ j = 2 by omega) with rfl | rfl | rfl
    · exact wpOp_run (.agg CY) rfl (by kernel_rfl) (exec_load 38 rfl (by kernel_rfl) w3 (loadCwR hW hW5)) ⟨_, by kernel_rfl, rfl, (later_rf _).refl _⟩
    · exact wpOp_run (.string ⟨#[]⟩) rfl (by kernel_rfl) (by kernel_rfl) ⟨_, by kernel_rfl, rfl, (later_rf _).refl _⟩
    · have e0 : x0 = .agg CY := hpre 0 (by kernel_rfl)
      subst e0
      obtain ⟨old, hs1, hs2⟩ := hB
      exact wpOp_put rfl (by kernel_rfl) (exec_storeG (g := n + 1) (cs := CY) (old := old) rfl (by kernel_rfl) (by kernel_rfl) w3 hs2 (by rw [hW5]; exact sizeCw) (by rw [hs1, hW5]) HY1.out) ⟨.bool true, by kernel_rfl, ⟨rfl, setRow_heap w3 (n + 1) old _ 38 (0, 0) hs2⟩, RF.of_only (only_rowV w3 (n + 1) _) (setRow_heap w3 (n + 1) old _ 38 (0, 0) hs2) rf1_m⟩
  · intro xs w3 hxs hR hall
    obtain ⟨x0, x1, x2, rfl⟩ := lstTk6 xs hxs
    obtain ⟨_, kB⟩ : x2 = .bool true ∧ Blk w3 (n + 1) (CY) 38 := hall 2 (by omega)
    have RB := hidden kB
    have HRF := hidden hR
    have g1 : x1 = .string ⟨#[]⟩ := hall 1 (by omega)
    subst g1
    have HBL := hidden (B6.out.trans (HRF.out.below (N := n) (by have := KW.out.lt; omega) (fun x hx => by have e := List.mem_singleton.1 hx; rw [e]; exact Nat.le_succ n)))
    clear hR hall hxs kB HRF KW QW
    simp only [slotsOn, putAll]
    go_wp2
    refine bodyPost_ret (results_tc rfl _ _ (n + 1) _ (by kernel_rfl) (loadCwR RB.out HW5.out)) rfl ⟨?_, by rw [HN.out]; exact HBL.out⟩
    kernel_rfl
set_option maxRecDepth 20000 in
set_option maxHeartbeats 1000000 in
theorem take_hp (w : World) (inp : ByteArray) (a us m : Int) (ao : Option Addr) (cap : Nat) (ev : Value) (l : List Int) (hr : Rw w 1 (.slice ao l.length cap) l.length (cI l)) (he : ev.oneCell' = true) (hl : l.length ≤ 16384) (hs : inp.size ≤ 4611686018427387904) (hm : 0 ≤ m) (hm2 : m ≤ 16384) (hh : hasB us l = true) (h0 : takeN m inp a us l ≠ 0) : Calls Try.prog 66 #[.agg (cwC inp a (.slice ao l.length cap) us ev), .int .i64 m] w fun x w' => x = .returned (.tuple #[.string (inp.extract a.toNat (a + takeN m inp a us l).toNat), .agg (cwC inp (a + takeN m inp a us l) (.slice ao l.length cap) (takeU us l) ev)]) ∧ Below w.heap.size w w' := by
  obtain ⟨n, hn⟩ : ∃ n, w.heap.size = n := ⟨_, rfl⟩
  have HN := hidden hn
  have hrange := takeN_range hm inp a us l
  have hlr := leftV_range inp a
  have hin := take_in hm inp a us l h0
  obtain ⟨L, hL⟩ : ∃ L, leftV inp a = L := ⟨_, rfl⟩
  obtain ⟨N, hN⟩ : ∃ N, takeN m inp a us l = N := ⟨_, rfl⟩
  have HLE := hidden (fun (u : World) => left_any u inp a us (.slice ao l.length cap) ev hs)
  have HHA := hidden (fun (u : World) => has_any u inp a us ao cap ev l)
  rw [hL] at HLE hrange hlr
  rw [hh] at HHA
  rw [hN] at h0 hrange ⊢
  unfold takeN at hN
  rw [hh, hL] at hN
  have hU : takeU us l = us + 1 := by unfold takeU; rw [hh]; rfl
  rw [hU]
  rw [show takeN m inp a us l = N from by unfold takeN; rw [hh, hL]; exact hN] at hin
  rw [if_pos rfl] at hN
  have hus : 0 ≤ us ∧ us < (l.length : Int) := by
    unfold hasB at hh
    rw [Bool.and_eq_true, decide_eq_true_eq, decide_eq_true_eq] at hh
    exact hh
  obtain ⟨j, rfl⟩ : ∃ j : Nat, us = (j : Int) := ⟨us.toNat, by omega⟩
  rw [Int.toNat_natCast] at hN
  have hjl : j < l.length := by omega
  obtain ⟨b, off, hao, hcl⟩ : ∃ b off, ao = some ⟨b, off, none⟩ ∧ ∀ u, Below w.heap.size w u → u.cell? ⟨b, off + j, none⟩ = some (.int .i64 (l.getD j 0)) := by
    obtain ⟨_, ao2, cap2, e, h⟩ := hr
    injection e with e1 e2 e3
    subst e1
    rcases h with h | ⟨b, off, e4, hlt, hc⟩
    · omega
    · refine ⟨b, off, e4, fun u hu => (hu.cell (p := ⟨b, off + j, none⟩) hlt).trans (hc j _ ?_)⟩
      unfold cI
      rw [List.getElem?_map, List.getElem?_eq_getElem hjl, List.getD_eq_getElem?_getD, List.getElem?_eq_getElem hjl]
      rfl
  subst hao
  obtain ⟨q, hq⟩ : ∃ q, l.getD j 0 = q := ⟨_, rfl⟩
  rw [hq] at hcl hN
  have HCL := hidden hcl
  have hix : ∀ u, (Instr.indexAt 27 (.slice (some ⟨b, off, none⟩) l.length cap) (.int .i64 (j : Int))).run Try.prog u = .ok (.pointer (some ⟨b, off + j, none⟩)) u := fun u => index_is2 b off l.length cap j hjl u
  have hj0 : (j : Int) ≤ 16384 := by omega
  have hj1 : (0 : Int) ≤ (j : Int) := by omega
  obtain ⟨ln, hln⟩ : ∃ ln, l.length = ln := ⟨_, rfl⟩
  have HCE : Hid (∀ x y : Int, (cwC inp x (.slice (some ⟨b, off, none⟩) l.length cap) y ev).all (·.oneCell') = true) := hidden (fun x y => cw_one rfl he)
  obtain ⟨CY, hCY⟩ : ∃ CY, cwC inp (a + N) (.slice (some ⟨b, off, none⟩) l.length cap) ((j : Int) + 1) ev = CY := ⟨_, rfl⟩
  have HCY := hidden hCY
  rw [hCY]
  obtain ⟨CW, hCW⟩ : ∃ CW, cwC inp a (.slice (some ⟨b, off, none⟩) l.length cap) (j : Int) ev = CW := ⟨_, rfl⟩
  have HCW := hidden hCW
  rw [hCW] at HLE HHA ⊢
  obtain ⟨D, hD⟩ : ∃ D, inp.extract a.toNat (a + N).toNat = D := ⟨_, rfl⟩
  have HD := hidden hD
  have hsl : ∀ u, (Instr.slice 9 (.string inp) (some (.int .i64 a)) (some (.int .i64 (a + N))) none).run Try.prog u = .ok (.string D) u := fun u => by
    rw [← hD]
    exact run_slice_string u 9 inp .i64 .i64 a (a + N) (by kernel_rfl) (by omega) (by omega) (by omega)
  have hnz : (N == 0) = false := beq_eq_false_iff_ne.2 h0
  have ha0 : 0 ≤ a := hin.1
  have haN : a + N ≤ 4611686018427387904 := by have := hin.2; omega
  have hN0 : 0 ≤ N := hrange.1
  have hNm : N ≤ 16384 := by have := hrange.2.1; omega
  have hax : a ≤ 4611686018427387904 := by omega
  rw [hD]
  have HM := hidden (And.intro hm hm2)
  have HMIN := hidden hN
  clear hCW hr he hl hs hh hlr hL hU hD hin hrange h0 hcl hus hln 
  go_enter Try.func66, Try.ntmps66
  go_upto_region 1 with (first
    | (refine wpList_boxG rfl 38 _ rfl CW rfl ?_; rintro w1 k1 s1 b1; rw [hn] at k1 s1 b1 ⊢; have K1 := hidden k1; have S1 := hidden s1; have B1 := hidden b1; clear k1 s1 b1)
    | (refine wpList_allocCw rfl rfl ?_; rintro w2 k2 s2 b2; rw [S1.out] at k2 s2 b2 ⊢; have Q2 := hidden k2; have K2 := hidden ((b2.block n (Nat.lt_succ_self n)).trans K1.out); have S2 := hidden s2; have B2 := hidden (B1.out.trans (b2.mono (Nat.le_succ n))); clear k2 s2 b2 K1 S1 B1))
  have HS0 : Hid (n + 2 ≤ w2.heap.size) := hidden (by rw [S2.out]; omega)
  have HC5 : Hid (CW.size = 5) := hidden (by rw [← HCW.out]; rfl)
  go_upto_region 2 with (first
    | (refine wpList_loadCw rfl _ rfl n CW rfl K2.out HC5.out ?_)
    | (go_at_call 79; refine (HLE.out _).mono ?_; rintro x1 w3 ⟨rfl, b3⟩; have Q3 := hidden (Q2.out.later b3); have K3 := hidden (Blk.later (show Blk w2 n CW 38 from K2.out) b3); have B3 := hidden (B2.out.trans (b3.mono (Nat.le_trans (Nat.le_of_lt (Nat.lt_of_succ_lt HS0.out)) (Nat.le_refl _)))); have S3 := hidden (Nat.le_trans HS0.out b3.size); clear b3 K2 Q2 B2))
  go_upto_region 3 with (first
    | (refine wpList_loadCw rfl _ rfl n CW rfl K3.out HC5.out ?_)
    | (go_at_call 80; refine (HHA.out _).mono ?_; rintro x2 w4 ⟨rfl, b4⟩; have Q4 := hidden (Q3.out.later b4); have K4 := hidden (Blk.later (show Blk w3 n CW 38 from K3.out) b4); have B4 := hidden (B3.out.trans (b4.mono (Nat.le_trans (Nat.le_of_lt (Nat.lt_of_succ_lt S3.out)) (Nat.le_refl _)))); have S4 := hidden (Nat.le_trans S3.out b4.size); clear b4 K3 Q3 B3))
  have k4 : Blk w4 n (cwC inp a (.slice (some ⟨b, off, none⟩) l.length cap) (j : Int) ev) 38 := by rw [HCW.out]; exact K4.out
  have c1 := k4.cell (j := 1) rfl
  have c2 := k4.cell (j := 2) rfl
  have c3 := k4.cell (j := 3) rfl
  have cq := HCL.out w4 (by rw [HN.out]; exact B4.out)
  clear k4
  go_upto_region 4 with fail
  try rw [hN]
  clear c1 c2 c3 cq
  have c3 := (show Blk w4 n (cwC inp a (.slice (some ⟨b, off, none⟩) l.length cap) (j : Int) ev) 38 by rw [HCW.out]; exact K4.out).cell (j := 3) rfl
  go_upto_region 5 with (first
    | (refine wpList_storeC rfl rfl 3 _ _ rfl n 3 CW 38 (.int .i64 ((j : Int) + 1)) rfl rfl rfl sizeI1 K4.out (by rw [HC5.out]; decide) ?_; rintro w5 k5 o5; have K5 : Hid (Blk w5 n (cwC inp a (.slice (some ⟨b, off, none⟩) l.length cap) ((j : Int) + 1) ev) 38) := hidden (by rw [← HCW.out] at k5; exact k5); have Q5 := hidden (Q4.out.only o5 (Nat.succ_ne_self n)); have B5 := hidden (Below.only B4.out o5 (Nat.le_refl n)); clear k5 o5 K4 Q4 B4 c3))
  have c0 := K5.out.cell (j := 0) rfl
  have c1 := K5.out.cell (j := 1) rfl
  go_upto_region 8 with fail
  go_upto_region 9 with (first
    | (refine wpList_storeC rfl rfl 3 _ _ rfl n 1 (cwC inp a (.slice (some ⟨b, off, none⟩) l.length cap) ((j : Int) + 1) ev) 38 (.int .i64 (a + N)) rfl rfl rfl sizeI1 K5.out (show 1 < 5 by decide) ?_; rintro w6 k6 o6; have K6 : Hid (Blk w6 n (cwC inp (a + N) (.slice (some ⟨b, off, none⟩) l.length cap) ((j : Int) + 1) ev) 38) := hidden k6; have Q6 := hidden (Q5.out.only o6 (Nat.succ_ne_self n)); have B6 := hidden (Below.only B5.out o6 (Nat.le_refl n)); clear k6 o6 K5 Q5 B5 c0 c1))
  have HY1 := hidden (HCE.out (a + N) ((j : Int) + 1))
  rw [HCY.out] at K6 HY1
  have hW5 : CY.size = 5 := by rw [← HCY.out]; rfl
  have HW5 := hidden hW5
  have KW := K6
  have QW := Q6
  have hne : n ≠ n + 1 := Nat.ne_of_lt (Nat.lt_succ_self n)
  refine wp_region_on (later_rf [(n + 1, Obj.cells (CY) 38 (0, 0))]) [44, 45, 4, 1003] 4 (phiTk9 n CY CY D) (by kernel_rfl) (by kernel_rfl) rfl rfl (phiTk9_mono n CY CY D) ?_ ?_
  · intro j hj xs w3 hxs hR hpre
    obtain ⟨x0, x1, x2, x3, rfl⟩ := lstTk9 xs hxs
    have hW : Blk w3 (n) CY 38 := hR.blk KW.out (rf1_no hne)
    have hB := hR.some (n := 5) ⟨_, (show zCw.size = 5 from rfl), QW.out⟩ (rf1_s hW5)
    rcases (show j = 0 ∨ j = 1 ∨ j = 2 ∨ j = 3 by omega) with rfl | rfl | rfl | rfl
    · exact wpOp_run (.string D) rfl (by kernel_rfl) (exec_move rfl (by kernel_rfl) w3) ⟨_, by kernel_rfl, rfl, (later_rf _).refl _⟩
    · exact wpOp_run (.agg CY) rfl (by kernel_rfl) (exec_load 38 rfl (by kernel_rfl) w3 (loadCwR hW hW5)) ⟨_, by kernel_rfl, rfl, (later_rf _).refl _⟩
    · have e0 : x0 = .string D := hpre 0 (by kernel_rfl)
      subst e0
      exact wpOp_run (.string D) rfl (by kernel_rfl) (by kernel_rfl) ⟨_, by kernel_rfl, rfl, (later_rf _).refl _⟩
    · have e1 : x1 = .agg CY := hpre 1 (by kernel_rfl)
      subst e1
      obtain ⟨old, hs1, hs2⟩ := hB
      exact wpOp_put rfl (by kernel_rfl) (exec_storeG (g := n + 1) (cs := CY) (old := old) rfl (by kernel_rfl) (by kernel_rfl) w3 hs2 (by rw [hW5]; exact sizeCw) (by rw [hs1, hW5]) HY1.out) ⟨.bool true, by kernel_rfl, ⟨rfl, setRow_heap w3 (n + 1) old _ 38 (0, 0) hs2⟩, RF.of_only (only_rowV w3 (n + 1) _) (setRow_heap w3 (n + 1) old _ 38 (0, 0) hs2) rf1_m⟩
  · intro xs w3 hxs hR hall
    obtain ⟨x0, x1, x2, x3, rfl⟩ := lstTk9 xs hxs
    obtain ⟨_, kB⟩ : x3 = .bool true ∧ Blk w3 (n + 1) (CY) 38 := hall 3 (by omega)
    have RB := hidden kB
    have HRF := hidden hR
    have g2 : x2 = .string D := hall 2 (by omega)
    subst g2
    have HBL := hidden (B6.out.trans (HRF.out.below (N := n) (by have := KW.out.lt; omega) (fun x hx => by have e := List.mem_singleton.1 hx; rw [e]; exact Nat.le_succ n)))
    clear hR hall hxs kB HRF KW QW
    simp only [slotsOn, putAll]
    go_wp2
    refine bodyPost_ret (results_tc rfl _ _ (n + 1) _ (by kernel_rfl) (loadCwR RB.out HW5.out)) rfl ⟨?_, by rw [HN.out]; exact HBL.out⟩
    kernel_rfl
set_option maxRecDepth 20000 in
set_option maxHeartbeats 1000000 in
theorem take_nz (w : World) (inp : ByteArray) (a us m : Int) (ao : Option Addr) (cap : Nat) (ev : Value) (l : List Int) (hr : Rw w 1 (.slice ao l.length cap) l.length (cI l)) (he : ev.oneCell' = true) (hl : l.length ≤ 16384) (hs : inp.size ≤ 4611686018427387904) (hm : 0 ≤ m) (hm2 : m ≤ 16384) (hh : hasB us l = false) (h0 : takeN m inp a us l = 0) : Calls Try.prog 66 #[.agg (cwC inp a (.slice ao l.length cap) us ev), .int .i64 m] w fun x w' => x = .returned (.tuple #[.string (inp.extract a.toNat (a + takeN m inp a us l).toNat), .agg (cwC inp (a + takeN m inp a us l) (.slice ao l.length cap) (takeU us l) ev)]) ∧ Below w.heap.size w w' := by
  obtain ⟨n, hn⟩ : ∃ n, w.heap.size = n := ⟨_, rfl⟩
  have HN := hidden hn
  have hrange := takeN_range hm inp a us l
  have hlr := leftV_range inp a
  obtain ⟨L, hL⟩ : ∃ L, leftV inp a = L := ⟨_, rfl⟩
  obtain ⟨N, hN⟩ : ∃ N, takeN m inp a us l = N := ⟨_, rfl⟩
  have HLE := hidden (fun (u : World) => left_any u inp a us (.slice ao l.length cap) ev hs)
  have HHA := hidden (fun (u : World) => has_any u inp a us ao cap ev l)
  rw [hL] at HLE hrange hlr
  rw [hh] at HHA
  rw [hN] at h0 hrange ⊢
  unfold takeN at hN
  rw [hh, hL] at hN
  have hU : takeU us l = us := by unfold takeU; rw [hh]; rfl
  rw [hU]
  rw [if_neg (by decide)] at hN
  obtain ⟨ln, hln⟩ : ∃ ln, l.length = ln := ⟨_, rfl⟩
  have HCE : Hid (∀ x y : Int, (cwC inp x (.slice ao l.length cap) y ev).all (·.oneCell') = true) := hidden (fun x y => cw_one rfl he)
  subst h0
  have e00 : a + 0 = a := by omega
  rw [e00, extract_nil]
  obtain ⟨CW, hCW⟩ : ∃ CW, cwC inp a (.slice ao l.length cap) us ev = CW := ⟨_, rfl⟩
  have HCW := hidden hCW
  rw [hCW] at HLE HHA ⊢
  have HM := hidden (And.intro hm hm2)
  have HMIN := hidden hN
  clear hCW hr he hl hs hh hlr hL hU hln 
  go_enter Try.func66, Try.ntmps66
  go_upto_region 1 with (first
    | (refine wpList_boxG rfl 38 _ rfl CW rfl ?_; rintro w1 k1 s1 b1; rw [hn] at k1 s1 b1 ⊢; have K1 := hidden k1; have S1 := hidden s1; have B1 := hidden b1; clear k1 s1 b1)
    | (refine wpList_allocCw rfl rfl ?_; rintro w2 k2 s2 b2; rw [S1.out] at k2 s2 b2 ⊢; have Q2 := hidden k2; have K2 := hidden ((b2.block n (Nat.lt_succ_self n)).trans K1.out); have S2 := hidden s2; have B2 := hidden (B1.out.trans (b2.mono (Nat.le_succ n))); clear k2 s2 b2 K1 S1 B1))
  have HS0 : Hid (n + 2 ≤ w2.heap.size) := hidden (by rw [S2.out]; omega)
  have HC5 : Hid (CW.size = 5) := hidden (by rw [← HCW.out]; rfl)
  go_upto_region 2 with (first
    | (refine wpList_loadCw rfl _ rfl n CW rfl K2.out HC5.out ?_)
    | (go_at_call 79; refine (HLE.out _).mono ?_; rintro x1 w3 ⟨rfl, b3⟩; have Q3 := hidden (Q2.out.later b3); have K3 := hidden (Blk.later (show Blk w2 n CW 38 from K2.out) b3); have B3 := hidden (B2.out.trans (b3.mono (Nat.le_trans (Nat.le_of_lt (Nat.lt_of_succ_lt HS0.out)) (Nat.le_refl _)))); have S3 := hidden (Nat.le_trans HS0.out b3.size); clear b3 K2 Q2 B2))
  go_upto_region 5 with (first
    | (refine wpList_loadCw rfl _ rfl n CW rfl K3.out HC5.out ?_)
    | (go_at_call 80; refine (HHA.out _).mono ?_; rintro x2 w4 ⟨rfl, b4⟩; have Q4 := hidden (Q3.out.later b4); have K4 := hidden (Blk.later (show Blk w3 n CW 38 from K3.out) b4); have B4 := hidden (B3.out.trans (b4.mono (Nat.le_trans (Nat.le_of_lt (Nat.lt_of_succ_lt S3.out)) (Nat.le_refl _)))); have S4 := hidden (Nat.le_trans S3.out b4.size); clear b4 K3 Q3 B3))
  try rw [hN]
  have K5 : Hid (Blk w4 n (cwC inp a (.slice ao l.length cap) us ev) 38) := hidden (by rw [HCW.out]; exact K4.out)
  have Q5 := Q4
  have B5 := B4
  clear K4 Q4 B4
  go_upto_region 6 with fail
  have K6 := K5
  have Q6 := Q5
  have B6 := B5
  have HY1 := hidden (HCE.out a us)
  rw [HCW.out] at K6 HY1
  clear K5 Q5 B5
  have hW5 : CW.size = 5 := by rw [← HCW.out]; rfl
  have HW5 := hidden hW5
  have KW := K6
  have QW := Q6
  have hne : n ≠ n + 1 := Nat.ne_of_lt (Nat.lt_succ_self n)
  refine wp_region_on (later_rf [(n + 1, Obj.cells (CW) 38 (0, 0))]) [29, 4, 1002] 3 (phiTk6 n CW CW ⟨#[]⟩) (by kernel_rfl) (by kernel_rfl) rfl rfl (phiTk6_mono n CW CW ⟨#[]⟩) ?_ ?_
  · intro j hj xs w3 hxs hR hpre
    obtain ⟨x0, x1, x2, rfl⟩ := lstTk6 xs hxs
    have hW : Blk w3 (n) CW 38 := hR.blk KW.out (rf1_no hne)
    have hB := hR.some (n := 5) ⟨_, (show zCw.size = 5 from rfl), QW.out⟩ (rf1_s hW5)
    rcases (show j = 0 ∨ j = 1 ∨ j = 2 by omega) with rfl | rfl | rfl
    · exact wpOp_run (.agg CW) rfl (by kernel_rfl) (exec_load 38 rfl (by kernel_rfl) w3 (loadCwR hW hW5)) ⟨_, by kernel_rfl, rfl, (later_rf _).refl _⟩
    · exact wpOp_run (.string ⟨#[]⟩) rfl (by kernel_rfl) (by kernel_rfl) ⟨_, by kernel_rfl, rfl, (later_rf _).refl _⟩
    · have e0 : x0 = .agg CW := hpre 0 (by kernel_rfl)
      subst e0
      obtain ⟨old, hs1, hs2⟩ := hB
      exact wpOp_put rfl (by kernel_rfl) (exec_storeG (g := n + 1) (cs := CW) (old := old) rfl (by kernel_rfl) (by kernel_rfl) w3 hs2 (by rw [hW5]; exact sizeCw) (by rw [hs1, hW5]) HY1.out) ⟨.bool true, by kernel_rfl, ⟨rfl, setRow_heap w3 (n + 1) old _ 38 (0, 0) hs2⟩, RF.of_only (only_rowV w3 (n + 1) _) (setRow_heap w3 (n + 1) old _ 38 (0, 0) hs2) rf1_m⟩
  · intro xs w3 hxs hR hall
    obtain ⟨x0, x1, x2, rfl⟩ := lstTk6 xs hxs
    obtain ⟨_, kB⟩ : x2 = .bool true ∧ Blk w3 (n + 1) (CW) 38 := hall 2 (by omega)
    have RB := hidden kB
    have HRF := hidden hR
    have g1 : x1 = .string ⟨#[]⟩ := hall 1 (by omega)
    subst g1
    have HBL := hidden (B6.out.trans (HRF.out.below (N := n) (by have := KW.out.lt; omega) (fun x hx => by have e := List.mem_singleton.1 hx; rw [e]; exact Nat.le_succ n)))
    clear hR hall hxs kB HRF KW QW
    simp only [slotsOn, putAll]
    go_wp2
    refine bodyPost_ret (results_tc rfl _ _ (n + 1) _ (by kernel_rfl) (loadCwR RB.out HW5.out)) rfl ⟨?_, by rw [HN.out]; exact HBL.out⟩
    kernel_rfl
set_option maxRecDepth 20000 in
set_option maxHeartbeats 1000000 in
theorem take_np (w : World) (inp : ByteArray) (a us m : Int) (ao : Option Addr) (cap : Nat) (ev : Value) (l : List Int) (hr : Rw w 1 (.slice ao l.length cap) l.length (cI l)) (he : ev.oneCell' = true) (hl : l.length ≤ 16384) (hs : inp.size ≤ 4611686018427387904) (hm : 0 ≤ m) (hm2 : m ≤ 16384) (hh : hasB us l = false) (h0 : takeN m inp a us l ≠ 0) : Calls Try.prog 66 #[.agg (cwC inp a (.slice ao l.length cap) us ev), .int .i64 m] w fun x w' => x = .returned (.tuple #[.string (inp.extract a.toNat (a + takeN m inp a us l).toNat), .agg (cwC inp (a + takeN m inp a us l) (.slice ao l.length cap) (takeU us l) ev)]) ∧ Below w.heap.size w w' := by
  obtain ⟨n, hn⟩ : ∃ n, w.heap.size = n := ⟨_, rfl⟩
  have HN := hidden hn
  have hrange := takeN_range hm inp a us l
  have hlr := leftV_range inp a
  have hin := take_in hm inp a us l h0
  obtain ⟨L, hL⟩ : ∃ L, leftV inp a = L := ⟨_, rfl⟩
  obtain ⟨N, hN⟩ : ∃ N, takeN m inp a us l = N := ⟨_, rfl⟩
  have HLE := hidden (fun (u : World) => left_any u inp a us (.slice ao l.length cap) ev hs)
  have HHA := hidden (fun (u : World) => has_any u inp a us ao cap ev l)
  rw [hL] at HLE hrange hlr
  rw [hh] at HHA
  rw [hN] at h0 hrange ⊢
  unfold takeN at hN
  rw [hh, hL] at hN
  have hU : takeU us l = us := by unfold takeU; rw [hh]; rfl
  rw [hU]
  rw [show takeN m inp a us l = N from by unfold takeN; rw [hh, hL]; exact hN] at hin
  rw [if_neg (by decide)] at hN
  obtain ⟨ln, hln⟩ : ∃ ln, l.length = ln := ⟨_, rfl⟩
  have HCE : Hid (∀ x y : Int, (cwC inp x (.slice ao l.length cap) y ev).all (·.oneCell') = true) := hidden (fun x y => cw_one rfl he)
  obtain ⟨CY, hCY⟩ : ∃ CY, cwC inp (a + N) (.slice ao l.length cap) us ev = CY := ⟨_, rfl⟩
  have HCY := hidden hCY
  rw [hCY]
  obtain ⟨CW, hCW⟩ : ∃ CW, cwC inp a (.slice ao l.length cap) us ev = CW := ⟨_, rfl⟩
  have HCW := hidden hCW
  rw [hCW] at HLE HHA ⊢
  obtain ⟨D, hD⟩ : ∃ D, inp.extract a.toNat (a + N).toNat = D := ⟨_, rfl⟩
  have HD := hidden hD
  have hsl : ∀ u, (Instr.slice 9 (.string inp) (some (.int .i64 a)) (some (.int .i64 (a + N))) none).run Try.prog u = .ok (.string D) u := fun u => by
    rw [← hD]
    exact run_slice_string u 9 inp .i64 .i64 a (a + N) (by kernel_rfl) (by omega) (by omega) (by omega)
  have hnz : (N == 0) = false := beq_eq_false_iff_ne.2 h0
  have ha0 : 0 ≤ a := hin.1
  have haN : a + N ≤ 4611686018427387904 := by have := hin.2; omega
  have hN0 : 0 ≤ N := hrange.1
  have hNm : N ≤ 16384 := by have := hrange.2.1; omega
  have hax : a ≤ 4611686018427387904 := by omega
  rw [hD]
  have HM := hidden (And.intro hm hm2)
  have HMIN := hidden hN
  clear hCW hr he hl hs hh hlr hL hU hD hin hrange h0 hln 
  go_enter Try.func66, Try.ntmps66
  go_upto_region 1 with (first
    | (refine wpList_boxG rfl 38 _ rfl CW rfl ?_; rintro w1 k1 s1 b1; rw [hn] at k1 s1 b1 ⊢; have K1 := hidden k1; have S1 := hidden s1; have B1 := hidden b1; clear k1 s1 b1)
    | (refine wpList_allocCw rfl rfl ?_; rintro w2 k2 s2 b2; rw [S1.out] at k2 s2 b2 ⊢; have Q2 := hidden k2; have K2 := hidden ((b2.block n (Nat.lt_succ_self n)).trans K1.out); have S2 := hidden s2; have B2 := hidden (B1.out.trans (b2.mono (Nat.le_succ n))); clear k2 s2 b2 K1 S1 B1))
  have HS0 : Hid (n + 2 ≤ w2.heap.size) := hidden (by rw [S2.out]; omega)
  have HC5 : Hid (CW.size = 5) := hidden (by rw [← HCW.out]; rfl)
  go_upto_region 2 with (first
    | (refine wpList_loadCw rfl _ rfl n CW rfl K2.out HC5.out ?_)
    | (go_at_call 79; refine (HLE.out _).mono ?_; rintro x1 w3 ⟨rfl, b3⟩; have Q3 := hidden (Q2.out.later b3); have K3 := hidden (Blk.later (show Blk w2 n CW 38 from K2.out) b3); have B3 := hidden (B2.out.trans (b3.mono (Nat.le_trans (Nat.le_of_lt (Nat.lt_of_succ_lt HS0.out)) (Nat.le_refl _)))); have S3 := hidden (Nat.le_trans HS0.out b3.size); clear b3 K2 Q2 B2))
  go_upto_region 5 with (first
    | (refine wpList_loadCw rfl _ rfl n CW rfl K3.out HC5.out ?_)
    | (go_at_call 80; refine (HHA.out _).mono ?_; rintro x2 w4 ⟨rfl, b4⟩; have Q4 := hidden (Q3.out.later b4); have K4 := hidden (Blk.later (show Blk w3 n CW 38 from K3.out) b4); have B4 := hidden (B3.out.trans (b4.mono (Nat.le_trans (Nat.le_of_lt (Nat.lt_of_succ_lt S3.out)) (Nat.le_refl _)))); have S4 := hidden (Nat.le_trans S3.out b4.size); clear b4 K3 Q3 B3))
  try rw [hN]
  have K5 : Hid (Blk w4 n (cwC inp a (.slice ao l.length cap) us ev) 38) := hidden (by rw [HCW.out]; exact K4.out)
  have Q5 := Q4
  have B5 := B4
  clear K4 Q4 B4
  have c0 := K5.out.cell (j := 0) rfl
  have c1 := K5.out.cell (j := 1) rfl
  go_upto_region 8 with fail
  go_upto_region 9 with (first
    | (refine wpList_storeC rfl rfl 3 _ _ rfl n 1 (cwC inp a (.slice ao l.length cap) us ev) 38 (.int .i64 (a + N)) rfl rfl rfl sizeI1 K5.out (show 1 < 5 by decide) ?_; rintro w6 k6 o6; have K6 : Hid (Blk w6 n (cwC inp (a + N) (.slice ao l.length cap) us ev) 38) := hidden k6; have Q6 := hidden (Q5.out.only o6 (Nat.succ_ne_self n)); have B6 := hidden (Below.only B5.out o6 (Nat.le_refl n)); clear k6 o6 K5 Q5 B5 c0 c1))
  have HY1 := hidden (HCE.out (a + N) us)
  rw [HCY.out] at K6 HY1
  have hW5 : CY.size = 5 := by rw [← HCY.out]; rfl
  have HW5 := hidden hW5
  have KW := K6
  have QW := Q6
  have hne : n ≠ n + 1 := Nat.ne_of_lt (Nat.lt_succ_self n)
  refine wp_region_on (later_rf [(n + 1, Obj.cells (CY) 38 (0, 0))]) [44, 45, 4, 1003] 4 (phiTk9 n CY CY D) (by kernel_rfl) (by kernel_rfl) rfl rfl (phiTk9_mono n CY CY D) ?_ ?_
  · intro j hj xs w3 hxs hR hpre
    obtain ⟨x0, x1, x2, x3, rfl⟩ := lstTk9 xs hxs
    have hW : Blk w3 (n) CY 38 := hR.blk KW.out (rf1_no hne)
    have hB := hR.some (n := 5) ⟨_, (show zCw.size = 5 from rfl), QW.out⟩ (rf1_s hW5)
    rcases (show j = 0 ∨ j = 1 ∨ j = 2 ∨ j = 3 by omega) with rfl | rfl | rfl | rfl
    · exact wpOp_run (.string D) rfl (by kernel_rfl) (exec_move rfl (by kernel_rfl) w3) ⟨_, by kernel_rfl, rfl, (later_rf _).refl _⟩
    · exact wpOp_run (.agg CY) rfl (by kernel_rfl) (exec_load 38 rfl (by kernel_rfl) w3 (loadCwR hW hW5)) ⟨_, by kernel_rfl, rfl, (later_rf _).refl _⟩
    · have e0 : x0 = .string D := hpre 0 (by kernel_rfl)
      subst e0
      exact wpOp_run (.string D) rfl (by kernel_rfl) (by kernel_rfl) ⟨_, by kernel_rfl, rfl, (later_rf _).refl _⟩
    · have e1 : x1 = .agg CY := hpre 1 (by kernel_rfl)
      subst e1
      obtain ⟨old, hs1, hs2⟩ := hB
      exact wpOp_put rfl (by kernel_rfl) (exec_storeG (g := n + 1) (cs := CY) (old := old) rfl (by kernel_rfl) (by kernel_rfl) w3 hs2 (by rw [hW5]; exact sizeCw) (by rw [hs1, hW5]) HY1.out) ⟨.bool true, by kernel_rfl, ⟨rfl, setRow_heap w3 (n + 1) old _ 38 (0, 0) hs2⟩, RF.of_only (only_rowV w3 (n + 1) _) (setRow_heap w3 (n + 1) old _ 38 (0, 0) hs2) rf1_m⟩
  · intro xs w3 hxs hR hall
    obtain ⟨x0, x1, x2, x3, rfl⟩ := lstTk9 xs hxs
    obtain ⟨_, kB⟩ : x3 = .bool true ∧ Blk w3 (n + 1) (CY) 38 := hall 3 (by omega)
    have RB := hidden kB
    have HRF := hidden hR
    have g2 : x2 = .string D := hall 2 (by omega)
    subst g2
    have HBL := hidden (B6.out.trans (HRF.out.below (N := n) (by have := KW.out.lt; omega) (fun x hx => by have e := List.mem_singleton.1 hx; rw [e]; exact Nat.le_succ n)))
    clear hR hall hxs kB HRF KW QW
    simp only [slotsOn, putAll]
    go_wp2
    refine bodyPost_ret (results_tc rfl _ _ (n + 1) _ (by kernel_rfl) (loadCwR RB.out HW5.out)) rfl ⟨?_, by rw [HN.out]; exact HBL.out⟩
    kernel_rfl
end Go.Proofs.Ytodoenimlhldjaa
namespace Go.Proofs.Ytodoenimlhldjaa
open Go.ChangeShapes Go.WideShapes Go.ChangeAt Go.RowKit
set_option linter.unusedVariables false
/-- What the slots of the region hold, whatever the order. -/
def phiWq4 (n q : Nat) (v : SV) (CW : Array Value) (rv : Int) : Nat → Value → World → Prop
  | 0, x, _ => x = .agg (SV.c v)
  | 1, x, _ => x = .int .u32 rv
  | 2, x, _ => x = .agg (SV.c (ansV v rv 1))
  | 3, x, _ => x = .agg CW
  | 4, x, w => x = .bool true ∧ Blk w (q) (SV.c (ansV v rv 1)) 26
  | 5, x, w => x = .bool true ∧ Blk w (q + 1) (CW) 38
  | _ + 6, _, _ => True
theorem phiWq4_mono (n q : Nat) (v : SV) (CW : Array Value) (rv : Int) : ∀ i x w w', phiWq4 n q v CW rv i x w → RF [(q, Obj.cells (SV.c (ansV v rv 1)) 26 (0, 0)), (q + 1, Obj.cells (CW) 38 (0, 0))] w w' → phiWq4 n q v CW rv i x w'
  | 0, _, _, _, h, _ => h
  | 1, _, _, _, h, _ => h
  | 2, _, _, _, h, _ => h
  | 3, _, _, _, h, _ => h
  | 4, x, w, w', h, hb => ⟨h.1, hb.blk h.2 rf2_a⟩
  | 5, x, w, w', h, hb => ⟨h.1, hb.blk h.2 rf2_b⟩
  | _ + 6, _, _, _, _, _ => trivial
theorem lstWq4 : ∀ xs : List Value, xs.length = 6 → ∃ x0 x1 x2 x3 x4 x5, xs = [x0, x1, x2, x3, x4, x5]
  | [x0, x1, x2, x3, x4, x5], _ => ⟨_, _, _, _, _, _, rfl⟩
/-- What the slots of the region hold, whatever the order. -/
def phiRq3 (n q : Nat) (v : SV) (CW : Array Value) (rv : Int) : Nat → Value → World → Prop
  | 0, x, _ => x = .agg (SV.c v)
  | 1, x, _ => x = .int .u32 rv
  | 2, x, _ => x = .agg (SV.c (ansV v rv 1))
  | 3, x, _ => x = .agg CW
  | 4, x, w => x = .bool true ∧ Blk w (q) (SV.c (ansV v rv 1)) 26
  | 5, x, w => x = .bool true ∧ Blk w (q + 1) (CW) 38
  | _ + 6, _, _ => True
theorem phiRq3_mono (n q : Nat) (v : SV) (CW : Array Value) (rv : Int) : ∀ i x w w', phiRq3 n q v CW rv i x w → RF [(q, Obj.cells (SV.c (ansV v rv 1)) 26 (0, 0)), (q + 1, Obj.cells (CW) 38 (0, 0))] w w' → phiRq3 n q v CW rv i x w'
  | 0, _, _, _, h, _ => h
  | 1, _, _, _, h, _ => h
  | 2, _, _, _, h, _ => h
  | 3, _, _, _, h, _ => h
  | 4, x, w, w', h, hb => ⟨h.1, hb.blk h.2 rf2_a⟩
  | 5, x, w, w', h, hb => ⟨h.1, hb.blk h.2 rf2_b⟩
  | _ + 6, _, _, _, _, _ => trivial
theorem lstRq3 : ∀ xs : List Value, xs.length = 6 → ∃ x0 x1 x2 x3 x4 x5, xs = [x0, x1, x2, x3, x4, x5]
  | [x0, x1, x2, x3, x4, x5], _ => ⟨_, _, _, _, _, _, rfl⟩
set_option maxRecDepth 20000 in
set_option maxHeartbeats 2000000 in
theorem read_not_no (w : World) (s : MS) (h : MemW w s) (v : SV) (hv : v.ok) (CW : Array Value) (hc1 : CW.all (·.oneCell') = true) (hc5 : CW.size = 5) (hfd : v.R.getD 4 0 ≠ 0) (hno : refV s v false 2 ≠ 0) : Calls Try.prog 36 #[.pointer (some ⟨s.mb, 0, none⟩), .agg v.c, .agg CW] w fun x w' => x = .returned (.tuple #[.agg (ansV v (refV s v false 2) 1).c, .agg CW]) ∧ Below w.heap.size w w' := by
  obtain ⟨n, hn⟩ : ∃ n, w.heap.size = n := ⟨_, rfl⟩
  obtain ⟨q, hq⟩ : ∃ q, n + 1 + 1 = q := ⟨_, rfl⟩
  have HV := hidden hv.1
  have HQ := hidden hq
  have HC1 := hidden hc1
  have HC5 := hidden hc5
  clear hq hc1 hc5
  obtain ⟨rv, hrv⟩ : ∃ z, refV s v false 2 = z := ⟨_, rfl⟩
  rw [hrv] at hno ⊢
  have HRF0 : Hid (∀ u, Keep nought w u → Calls Try.prog 64 #[.pointer (some ⟨s.mb, 0, none⟩), .agg v.c, .bool false, .int .i64 2] u fun e w' => e = .returned (.int .u32 rv) ∧ Below u.heap.size u w') := hidden (fun u hu => by
    have h2 := refusal_any u s (h.keep hu (fun b hb => id)) v hv false 2
    rw [hrv] at h2
    exact h2)
  have HWR := hidden (fun u => wrong_any v hv.1 rv u)
  obtain ⟨r2, h2⟩ : ∃ r2 : Nat, v.R.getD 2 0 = (r2 : Int) := ⟨(v.R.getD 2 0).toNat, by have := (hv.2.1 2 (by omega)).1; omega⟩
  obtain ⟨r4, h4⟩ : ∃ r4 : Nat, v.R.getD 4 0 = (r4 : Int) := ⟨(v.R.getD 4 0).toNat, by have := (hv.2.1 4 (by omega)).1; omega⟩
  obtain ⟨r5, h5⟩ : ∃ r5 : Nat, v.R.getD 5 0 = (r5 : Int) := ⟨(v.R.getD 5 0).toNat, by have := (hv.2.1 5 (by omega)).1; omega⟩
  obtain ⟨r6, h6⟩ : ∃ r6 : Nat, v.R.getD 6 0 = (r6 : Int) := ⟨(v.R.getD 6 0).toNat, by have := (hv.2.1 6 (by omega)).1; omega⟩
  have l5 : r5 < 4294967296 := by have := (hv.2.1 5 (by omega)).2; omega
  have l6 : r6 < 4294967296 := by have := (hv.2.1 6 (by omega)).2; omega
  have H2 := hidden h2
  have H4 := hidden h4
  have H5 := hidden h5
  have H6 := hidden h6
  rw [h4] at hfd
  have f1 : ((r4 : Int) == 0) = false := beq_eq_false_iff_ne.2 (by omega)
  have e0 : (rv != 0) = true := bne_iff_ne.2 hno
  have e1 : (rv == 0) = false := beq_eq_false_iff_ne.2 hno
  have e2 : ¬ rv = 0 := hno
  have hi4 : ∀ u, (Instr.indexAt 24 (.pointer (some ⟨n, 0, none⟩)) (.int .i64 4)).run Try.prog u = .ok (.pointer (some ⟨n, 4, none⟩)) u := fun u => index_reg n 4 (by omega) u
  obtain ⟨C, hC⟩ : ∃ C, v.c = C := ⟨_, rfl⟩
  rw [hC]
  have HC := hidden hC
  clear hC hv hrv h2 h4 h5 h6 hfd hno l5 l6 h
  go_enter Try.func36, Try.ntmps36
  go_upto_region 1 with (first
    | (refine wpList_boxG rfl 26 _ rfl C rfl ?_; rintro w1 k1 s1 b1; rw [hn] at k1 s1 b1 ⊢; have K1 : Hid (Blk w1 n v.c 26) := hidden (by rw [HC.out]; exact k1); have S1 := hidden s1; have B1 := hidden b1; clear k1 s1 b1)
    | (refine wpList_boxG rfl 38 _ rfl CW rfl ?_; rintro w2 k2 s2 b2; rw [S1.out] at k2 s2 b2 ⊢; have K2 := hidden k2; have S2 : Hid (w2.heap.size = q) := hidden (by rw [s2]; exact HQ.out); have B2 := hidden b2; clear k2 s2 b2)
    | (refine wpList_allocV rfl rfl ?_; rintro w3 k3 s3 b3; rw [S2.out] at k3 s3 b3 ⊢; have K3 := hidden k3; have S3 := hidden s3; have B3 := hidden b3; clear k3 s3 b3)
    | (refine wpList_allocCw rfl rfl ?_; rintro w4 k4 s4 b4; rw [S3.out] at k4 s4 b4 ⊢; have P := hidden (WA.mk4 (F := nought) hn HQ.out K1.out S1.out B1.out K2.out S2.out B2.out K3.out S3.out B3.out k4 b4); clear k4 s4 b4 K1 S1 B1 K2 S2 B2 K3 S3 B3; obtain ⟨c2, c4, c5, c6⟩ := P.out.regs HV.out H2.out H4.out H5.out H6.out))
  go_upto_region 3 with (first | (go_at_call 64; refine (HRF0.out _ P.out.keep).mono ?_; rintro x w5 ⟨rfl, b5⟩; clear c2 c4 c5 c6; have Q := hidden (P.out.later b5); clear P b5; have P := Q; clear Q; obtain ⟨c2, c4, c5, c6⟩ := P.out.regs HV.out H2.out H4.out H5.out H6.out) | (refine wpList_loadV rfl _ rfl n v rfl P.out.s HV.out ?_))
  have KS := hidden P.out.s
  have KW := hidden P.out.c
  have QS := hidden P.out.rs
  have QW := hidden P.out.rw
  have PQ := P.out.hq
  have hW5 := HC5.out
  refine wp_region_on (later_rf [(q, Obj.cells (SV.c (ansV v rv 1)) 26 (0, 0)), (q + 1, Obj.cells (CW) 38 (0, 0))]) [21, 22, 23, 24, 1004, 1005] 6 (phiRq3 n q v CW rv) (by kernel_rfl) (by kernel_rfl) rfl rfl (phiRq3_mono n q v CW rv) ?_ ?_
  · intro j hj xs w3 hxs hR hpre
    obtain ⟨x0, x1, x2, x3, x4, x5, rfl⟩ := lstRq3 xs hxs
    have hS : Blk w3 (n) (SV.c v) 26 := hR.blk KS.out (rf2_no (by omega) (by omega))
    have hW : Blk w3 (n + 1) CW 38 := hR.blk KW.out (rf2_no (by omega) (by omega))
    have hA := hR.some ⟨_, SV.size (s := SV.zero) rfl, QS.out⟩ (rf2_s1 (SV.size (ansV_len HV.out rv 1)))
    have hB := hR.some (n := 5) ⟨_, (show zCw.size = 5 from rfl), QW.out⟩ (rf2_s2 hW5)
    rcases (show j = 0 ∨ j = 1 ∨ j = 2 ∨ j = 3 ∨ j = 4 ∨ j = 5 by omega) with rfl | rfl | rfl | rfl | rfl | rfl
    · exact wpOp_run (.agg (SV.c v)) rfl (by kernel_rfl) (exec_load 26 rfl (by kernel_rfl) w3 (loadSt hS HV.out)) ⟨_, by kernel_rfl, rfl, (later_rf _).refl _⟩
    · exact wpOp_run (.int .u32 rv) rfl (by kernel_rfl) (exec_move rfl (by kernel_rfl) w3) ⟨_, by kernel_rfl, rfl, (later_rf _).refl _⟩
    · have e0 : x0 = .agg (SV.c v) := hpre 0 (by kernel_rfl)
      subst e0
      have e1 : x1 = .int .u32 rv := hpre 1 (by kernel_rfl)
      subst e1
      refine wpOp_callR (R := fun u w4 => u = .agg (SV.c (ansV v rv 1)) ∧ Below w3.heap.size w3 w4) 39 #[.agg (SV.c v), .int .u32 rv] rfl (by kernel_rfl) (by kernel_rfl) ((HWR.out w3).mono fun e w4 h => ⟨_, h.1, rfl, h.2⟩) ?_
      rintro _ w4 ⟨rfl, hb⟩
      exact ⟨_, by kernel_rfl, rfl, RF.of_below hb⟩
    · exact wpOp_run (.agg CW) rfl (by kernel_rfl) (exec_load 38 rfl (by kernel_rfl) w3 (loadCwR hW hW5)) ⟨_, by kernel_rfl, rfl, (later_rf _).refl _⟩
    · have e2 : x2 = .agg (SV.c (ansV v rv 1)) := hpre 2 (by kernel_rfl)
      subst e2
      obtain ⟨old, hs1, hs2⟩ := hA
      exact wpOp_put rfl (by kernel_rfl) (exec_storeG (g := q) (cs := SV.c (ansV v rv 1)) (old := old) rfl (by kernel_rfl) (by kernel_rfl) w3 hs2 (by rw [SV.size (ansV_len HV.out rv 1)]; exact sizeSV) (by rw [hs1, SV.size (ansV_len HV.out rv 1)]) (SV.one _)) ⟨.bool true, by kernel_rfl, ⟨rfl, setRow_heap w3 (q) old _ 26 (0, 0) hs2⟩, RF.of_only (only_rowV w3 (q) _) (setRow_heap w3 (q) old _ 26 (0, 0) hs2) rf2_m1⟩
    · have e3 : x3 = .agg CW := hpre 3 (by kernel_rfl)
      subst e3
      obtain ⟨old, hs1, hs2⟩ := hB
      exact wpOp_put rfl (by kernel_rfl) (exec_storeG (g := q + 1) (cs := CW) (old := old) rfl (by kernel_rfl) (by kernel_rfl) w3 hs2 (by rw [hW5]; exact sizeCw) (by rw [hs1, hW5]) HC1.out) ⟨.bool true, by kernel_rfl, ⟨rfl, setRow_heap w3 (q + 1) old _ 38 (0, 0) hs2⟩, RF.of_only (only_rowV w3 (q + 1) _) (setRow_heap w3 (q + 1) old _ 38 (0, 0) hs2) rf2_m2⟩
  · intro xs w3 hxs hR hall
    obtain ⟨x0, x1, x2, x3, x4, x5, rfl⟩ := lstRq3 xs hxs
    obtain ⟨_, kA⟩ : x4 = .bool true ∧ Blk w3 (q) (SV.c (ansV v rv 1)) 26 := hall 4 (by omega)
    obtain ⟨_, kB⟩ : x5 = .bool true ∧ Blk w3 (q + 1) (CW) 38 := hall 5 (by omega)
    have RA := hidden kA
    have RB := hidden kB
    have HRF := hidden hR
    have KP := hidden (P.out.both HRF.out)
    clear hR hall hxs kA kB HRF P KS KW QS QW
    simp only [slotsOn, putAll]
    go_wp2
    refine bodyPost_ret (results_cc rfl _ _ q (q + 1) _ _ (by kernel_rfl) (by kernel_rfl) (loadSt RA.out (ansV_len HV.out rv 1)) (loadCwR RB.out HC5.out)) rfl ⟨by first | rfl | (rw [← HC.out]; rfl), KP.out.below (Nat.le_refl _) fun _ hb => hb.elim⟩
set_option maxRecDepth 20000 in
set_option maxHeartbeats 2000000 in
theorem read_not_zero (w : World) (s : MS) (h : MemW w s) (v : SV) (hv : v.ok) (CW : Array Value) (hc1 : CW.all (·.oneCell') = true) (hc5 : CW.size = 5) (hfd : v.R.getD 4 0 = 0) (hno : refV s v true 2 ≠ 0) : Calls Try.prog 36 #[.pointer (some ⟨s.mb, 0, none⟩), .agg v.c, .agg CW] w fun x w' => x = .returned (.tuple #[.agg (ansV v (refV s v true 2) 1).c, .agg CW]) ∧ Below w.heap.size w w' := by
  obtain ⟨n, hn⟩ : ∃ n, w.heap.size = n := ⟨_, rfl⟩
  obtain ⟨q, hq⟩ : ∃ q, n + 1 + 1 = q := ⟨_, rfl⟩
  have HV := hidden hv.1
  have HQ := hidden hq
  have HC1 := hidden hc1
  have HC5 := hidden hc5
  clear hq hc1 hc5
  obtain ⟨rv, hrv⟩ : ∃ z, refV s v true 2 = z := ⟨_, rfl⟩
  rw [hrv] at hno ⊢
  have HRF0 : Hid (∀ u, Keep nought w u → Calls Try.prog 64 #[.pointer (some ⟨s.mb, 0, none⟩), .agg v.c, .bool true, .int .i64 2] u fun e w' => e = .returned (.int .u32 rv) ∧ Below u.heap.size u w') := hidden (fun u hu => by
    have h2 := refusal_any u s (h.keep hu (fun b hb => id)) v hv true 2
    rw [hrv] at h2
    exact h2)
  have HWR := hidden (fun u => wrong_any v hv.1 rv u)
  obtain ⟨r2, h2⟩ : ∃ r2 : Nat, v.R.getD 2 0 = (r2 : Int) := ⟨(v.R.getD 2 0).toNat, by have := (hv.2.1 2 (by omega)).1; omega⟩
  obtain ⟨r4, h4⟩ : ∃ r4 : Nat, v.R.getD 4 0 = (r4 : Int) := ⟨(v.R.getD 4 0).toNat, by have := (hv.2.1 4 (by omega)).1; omega⟩
  obtain ⟨r5, h5⟩ : ∃ r5 : Nat, v.R.getD 5 0 = (r5 : Int) := ⟨(v.R.getD 5 0).toNat, by have := (hv.2.1 5 (by omega)).1; omega⟩
  obtain ⟨r6, h6⟩ : ∃ r6 : Nat, v.R.getD 6 0 = (r6 : Int) := ⟨(v.R.getD 6 0).toNat, by have := (hv.2.1 6 (by omega)).1; omega⟩
  have l5 : r5 < 4294967296 := by have := (hv.2.1 5 (by omega)).2; omega
  have l6 : r6 < 4294967296 := by have := (hv.2.1 6 (by omega)).2; omega
  have H2 := hidden h2
  have H4 := hidden h4
  have H5 := hidden h5
  have H6 := hidden h6
  rw [h4] at hfd
  have f1 : ((r4 : Int) == 0) = true := beq_iff_eq.2 (by omega)
  have e0 : (rv != 0) = true := bne_iff_ne.2 hno
  have e1 : (rv == 0) = false := beq_eq_false_iff_ne.2 hno
  have e2 : ¬ rv = 0 := hno
  have hi4 : ∀ u, (Instr.indexAt 24 (.pointer (some ⟨n, 0, none⟩)) (.int .i64 4)).run Try.prog u = .ok (.pointer (some ⟨n, 4, none⟩)) u := fun u => index_reg n 4 (by omega) u
  obtain ⟨C, hC⟩ : ∃ C, v.c = C := ⟨_, rfl⟩
  rw [hC]
  have HC := hidden hC
  clear hC hv hrv h2 h4 h5 h6 hfd hno l5 l6 h
  go_enter Try.func36, Try.ntmps36
  go_upto_region 1 with (first
    | (refine wpList_boxG rfl 26 _ rfl C rfl ?_; rintro w1 k1 s1 b1; rw [hn] at k1 s1 b1 ⊢; have K1 : Hid (Blk w1 n v.c 26) := hidden (by rw [HC.out]; exact k1); have S1 := hidden s1; have B1 := hidden b1; clear k1 s1 b1)
    | (refine wpList_boxG rfl 38 _ rfl CW rfl ?_; rintro w2 k2 s2 b2; rw [S1.out] at k2 s2 b2 ⊢; have K2 := hidden k2; have S2 : Hid (w2.heap.size = q) := hidden (by rw [s2]; exact HQ.out); have B2 := hidden b2; clear k2 s2 b2)
    | (refine wpList_allocV rfl rfl ?_; rintro w3 k3 s3 b3; rw [S2.out] at k3 s3 b3 ⊢; have K3 := hidden k3; have S3 := hidden s3; have B3 := hidden b3; clear k3 s3 b3)
    | (refine wpList_allocCw rfl rfl ?_; rintro w4 k4 s4 b4; rw [S3.out] at k4 s4 b4 ⊢; have P := hidden (WA.mk4 (F := nought) hn HQ.out K1.out S1.out B1.out K2.out S2.out B2.out K3.out S3.out B3.out k4 b4); clear k4 s4 b4 K1 S1 B1 K2 S2 B2 K3 S3 B3; obtain ⟨c2, c4, c5, c6⟩ := P.out.regs HV.out H2.out H4.out H5.out H6.out))
  go_upto_region 3 with (first | (go_at_call 64; refine (HRF0.out _ P.out.keep).mono ?_; rintro x w5 ⟨rfl, b5⟩; clear c2 c4 c5 c6; have Q := hidden (P.out.later b5); clear P b5; have P := Q; clear Q; obtain ⟨c2, c4, c5, c6⟩ := P.out.regs HV.out H2.out H4.out H5.out H6.out) | (refine wpList_loadV rfl _ rfl n v rfl P.out.s HV.out ?_))
  have KS := hidden P.out.s
  have KW := hidden P.out.c
  have QS := hidden P.out.rs
  have QW := hidden P.out.rw
  have PQ := P.out.hq
  have hW5 := HC5.out
  refine wp_region_on (later_rf [(q, Obj.cells (SV.c (ansV v rv 1)) 26 (0, 0)), (q + 1, Obj.cells (CW) 38 (0, 0))]) [21, 22, 23, 24, 1004, 1005] 6 (phiRq3 n q v CW rv) (by kernel_rfl) (by kernel_rfl) rfl rfl (phiRq3_mono n q v CW rv) ?_ ?_
  · intro j hj xs w3 hxs hR hpre
    obtain ⟨x0, x1, x2, x3, x4, x5, rfl⟩ := lstRq3 xs hxs
    have hS : Blk w3 (n) (SV.c v) 26 := hR.blk KS.out (rf2_no (by omega) (by omega))
    have hW : Blk w3 (n + 1) CW 38 := hR.blk KW.out (rf2_no (by omega) (by omega))
    have hA := hR.some ⟨_, SV.size (s := SV.zero) rfl, QS.out⟩ (rf2_s1 (SV.size (ansV_len HV.out rv 1)))
    have hB := hR.some (n := 5) ⟨_, (show zCw.size = 5 from rfl), QW.out⟩ (rf2_s2 hW5)
    rcases (show j = 0 ∨ j = 1 ∨ j = 2 ∨ j = 3 ∨ j = 4 ∨ j = 5 by omega) with rfl | rfl | rfl | rfl | rfl | rfl
    · exact wpOp_run (.agg (SV.c v)) rfl (by kernel_rfl) (exec_load 26 rfl (by kernel_rfl) w3 (loadSt hS HV.out)) ⟨_, by kernel_rfl, rfl, (later_rf _).refl _⟩
    · exact wpOp_run (.int .u32 rv) rfl (by kernel_rfl) (exec_move rfl (by kernel_rfl) w3) ⟨_, by kernel_rfl, rfl, (later_rf _).refl _⟩
    · have e0 : x0 = .agg (SV.c v) := hpre 0 (by kernel_rfl)
      subst e0
      have e1 : x1 = .int .u32 rv := hpre 1 (by kernel_rfl)
      subst e1
      refine wpOp_callR (R := fun u w4 => u = .agg (SV.c (ansV v rv 1)) ∧ Below w3.heap.size w3 w4) 39 #[.agg (SV.c v), .int .u32 rv] rfl (by kernel_rfl) (by kernel_rfl) ((HWR.out w3).mono fun e w4 h => ⟨_, h.1, rfl, h.2⟩) ?_
      rintro _ w4 ⟨rfl, hb⟩
      exact ⟨_, by kernel_rfl, rfl, RF.of_below hb⟩
    · exact wpOp_run (.agg CW) rfl (by kernel_rfl) (exec_load 38 rfl (by kernel_rfl) w3 (loadCwR hW hW5)) ⟨_, by kernel_rfl, rfl, (later_rf _).refl _⟩
    · have e2 : x2 = .agg (SV.c (ansV v rv 1)) := hpre 2 (by kernel_rfl)
      subst e2
      obtain ⟨old, hs1, hs2⟩ := hA
      exact wpOp_put rfl (by kernel_rfl) (exec_storeG (g := q) (cs := SV.c (ansV v rv 1)) (old := old) rfl (by kernel_rfl) (by kernel_rfl) w3 hs2 (by rw [SV.size (ansV_len HV.out rv 1)]; exact sizeSV) (by rw [hs1, SV.size (ansV_len HV.out rv 1)]) (SV.one _)) ⟨.bool true, by kernel_rfl, ⟨rfl, setRow_heap w3 (q) old _ 26 (0, 0) hs2⟩, RF.of_only (only_rowV w3 (q) _) (setRow_heap w3 (q) old _ 26 (0, 0) hs2) rf2_m1⟩
    · have e3 : x3 = .agg CW := hpre 3 (by kernel_rfl)
      subst e3
      obtain ⟨old, hs1, hs2⟩ := hB
      exact wpOp_put rfl (by kernel_rfl) (exec_storeG (g := q + 1) (cs := CW) (old := old) rfl (by kernel_rfl) (by kernel_rfl) w3 hs2 (by rw [hW5]; exact sizeCw) (by rw [hs1, hW5]) HC1.out) ⟨.bool true, by kernel_rfl, ⟨rfl, setRow_heap w3 (q + 1) old _ 38 (0, 0) hs2⟩, RF.of_only (only_rowV w3 (q + 1) _) (setRow_heap w3 (q + 1) old _ 38 (0, 0) hs2) rf2_m2⟩
  · intro xs w3 hxs hR hall
    obtain ⟨x0, x1, x2, x3, x4, x5, rfl⟩ := lstRq3 xs hxs
    obtain ⟨_, kA⟩ : x4 = .bool true ∧ Blk w3 (q) (SV.c (ansV v rv 1)) 26 := hall 4 (by omega)
    obtain ⟨_, kB⟩ : x5 = .bool true ∧ Blk w3 (q + 1) (CW) 38 := hall 5 (by omega)
    have RA := hidden kA
    have RB := hidden kB
    have HRF := hidden hR
    have KP := hidden (P.out.both HRF.out)
    clear hR hall hxs kA kB HRF P KS KW QS QW
    simp only [slotsOn, putAll]
    go_wp2
    refine bodyPost_ret (results_cc rfl _ _ q (q + 1) _ _ (by kernel_rfl) (by kernel_rfl) (loadSt RA.out (ansV_len HV.out rv 1)) (loadCwR RB.out HC5.out)) rfl ⟨by first | rfl | (rw [← HC.out]; rfl), KP.out.below (Nat.le_refl _) fun _ hb => hb.elim⟩
set_option maxRecDepth 20000 in
set_option maxHeartbeats 2000000 in
theorem write_not_no (w : World) (s : MS) (h : MemW w s) (v : SV) (hv : v.ok) (CW : Array Value) (hc1 : CW.all (·.oneCell') = true) (hc5 : CW.size = 5) (hfd : v.R.getD 4 0 ≠ 1 ∧ v.R.getD 4 0 ≠ 2) (hno : refV s v false 4 ≠ 0) : Calls Try.prog 37 #[.pointer (some ⟨s.mb, 0, none⟩), .agg v.c, .agg CW] w fun x w' => x = .returned (.tuple #[.agg (ansV v (refV s v false 4) 1).c, .agg CW]) ∧ Below w.heap.size w w' := by
  obtain ⟨n, hn⟩ : ∃ n, w.heap.size = n := ⟨_, rfl⟩
  obtain ⟨q, hq⟩ : ∃ q, n + 1 + 1 = q := ⟨_, rfl⟩
  have HV := hidden hv.1
  have HQ := hidden hq
  have HC1 := hidden hc1
  have HC5 := hidden hc5
  clear hq hc1 hc5
  obtain ⟨rv, hrv⟩ : ∃ z, refV s v false 4 = z := ⟨_, rfl⟩
  rw [hrv] at hno ⊢
  have HRF0 : Hid (∀ u, Keep nought w u → Calls Try.prog 64 #[.pointer (some ⟨s.mb, 0, none⟩), .agg v.c, .bool false, .int .i64 4] u fun e w' => e = .returned (.int .u32 rv) ∧ Below u.heap.size u w') := hidden (fun u hu => by
    have h2 := refusal_any u s (h.keep hu (fun b hb => id)) v hv false 4
    rw [hrv] at h2
    exact h2)
  have HWR := hidden (fun u => wrong_any v hv.1 rv u)
  obtain ⟨r2, h2⟩ : ∃ r2 : Nat, v.R.getD 2 0 = (r2 : Int) := ⟨(v.R.getD 2 0).toNat, by have := (hv.2.1 2 (by omega)).1; omega⟩
  obtain ⟨r4, h4⟩ : ∃ r4 : Nat, v.R.getD 4 0 = (r4 : Int) := ⟨(v.R.getD 4 0).toNat, by have := (hv.2.1 4 (by omega)).1; omega⟩
  obtain ⟨r5, h5⟩ : ∃ r5 : Nat, v.R.getD 5 0 = (r5 : Int) := ⟨(v.R.getD 5 0).toNat, by have := (hv.2.1 5 (by omega)).1; omega⟩
  obtain ⟨r6, h6⟩ : ∃ r6 : Nat, v.R.getD 6 0 = (r6 : Int) := ⟨(v.R.getD 6 0).toNat, by have := (hv.2.1 6 (by omega)).1; omega⟩
  have l5 : r5 < 4294967296 := by have := (hv.2.1 5 (by omega)).2; omega
  have l6 : r6 < 4294967296 := by have := (hv.2.1 6 (by omega)).2; omega
  have H2 := hidden h2
  have H4 := hidden h4
  have H5 := hidden h5
  have H6 := hidden h6
  rw [h4] at hfd
  have f1 : ((r4 : Int) == 1) = false := beq_eq_false_iff_ne.2 (by omega)
  have f2 : ((r4 : Int) == 2) = false := beq_eq_false_iff_ne.2 (by omega)
  have e0 : (rv != 0) = true := bne_iff_ne.2 hno
  have e1 : (rv == 0) = false := beq_eq_false_iff_ne.2 hno
  have e2 : ¬ rv = 0 := hno
  have hi4 : ∀ u, (Instr.indexAt 24 (.pointer (some ⟨n, 0, none⟩)) (.int .i64 4)).run Try.prog u = .ok (.pointer (some ⟨n, 4, none⟩)) u := fun u => index_reg n 4 (by omega) u
  obtain ⟨C, hC⟩ : ∃ C, v.c = C := ⟨_, rfl⟩
  rw [hC]
  have HC := hidden hC
  clear hC hv hrv h2 h4 h5 h6 hfd hno l5 l6 h
  go_enter Try.func37, Try.ntmps37
  go_upto_region 1 with (first
    | (refine wpList_boxG rfl 26 _ rfl C rfl ?_; rintro w1 k1 s1 b1; rw [hn] at k1 s1 b1 ⊢; have K1 : Hid (Blk w1 n v.c 26) := hidden (by rw [HC.out]; exact k1); have S1 := hidden s1; have B1 := hidden b1; clear k1 s1 b1)
    | (refine wpList_boxG rfl 38 _ rfl CW rfl ?_; rintro w2 k2 s2 b2; rw [S1.out] at k2 s2 b2 ⊢; have K2 := hidden k2; have S2 : Hid (w2.heap.size = q) := hidden (by rw [s2]; exact HQ.out); have B2 := hidden b2; clear k2 s2 b2)
    | (refine wpList_allocV rfl rfl ?_; rintro w3 k3 s3 b3; rw [S2.out] at k3 s3 b3 ⊢; have K3 := hidden k3; have S3 := hidden s3; have B3 := hidden b3; clear k3 s3 b3)
    | (refine wpList_allocCw rfl rfl ?_; rintro w4 k4 s4 b4; rw [S3.out] at k4 s4 b4 ⊢; have P := hidden (WA.mk4 (F := nought) hn HQ.out K1.out S1.out B1.out K2.out S2.out B2.out K3.out S3.out B3.out k4 b4); clear k4 s4 b4 K1 S1 B1 K2 S2 B2 K3 S3 B3; obtain ⟨c2, c4, c5, c6⟩ := P.out.regs HV.out H2.out H4.out H5.out H6.out))
  go_upto_region 4 with (first | (go_at_call 64; refine (HRF0.out _ P.out.keep).mono ?_; rintro x w5 ⟨rfl, b5⟩; clear c2 c4 c5 c6; have Q := hidden (P.out.later b5); clear P b5; have P := Q; clear Q; obtain ⟨c2, c4, c5, c6⟩ := P.out.regs HV.out H2.out H4.out H5.out H6.out) | (refine wpList_loadV rfl _ rfl n v rfl P.out.s HV.out ?_))
  have KS := hidden P.out.s
  have KW := hidden P.out.c
  have QS := hidden P.out.rs
  have QW := hidden P.out.rw
  have PQ := P.out.hq
  have hW5 := HC5.out
  refine wp_region_on (later_rf [(q, Obj.cells (SV.c (ansV v rv 1)) 26 (0, 0)), (q + 1, Obj.cells (CW) 38 (0, 0))]) [25, 26, 27, 28, 1004, 1005] 6 (phiWq4 n q v CW rv) (by kernel_rfl) (by kernel_rfl) rfl rfl (phiWq4_mono n q v CW rv) ?_ ?_
  · intro j hj xs w3 hxs hR hpre
    obtain ⟨x0, x1, x2, x3, x4, x5, rfl⟩ := lstWq4 xs hxs
    have hS : Blk w3 (n) (SV.c v) 26 := hR.blk KS.out (rf2_no (by omega) (by omega))
    have hW : Blk w3 (n + 1) CW 38 := hR.blk KW.out (rf2_no (by omega) (by omega))
    have hA := hR.some ⟨_, SV.size (s := SV.zero) rfl, QS.out⟩ (rf2_s1 (SV.size (ansV_len HV.out rv 1)))
    have hB := hR.some (n := 5) ⟨_, (show zCw.size = 5 from rfl), QW.out⟩ (rf2_s2 hW5)
    rcases (show j = 0 ∨ j = 1 ∨ j = 2 ∨ j = 3 ∨ j = 4 ∨ j = 5 by omega) with rfl | rfl | rfl | rfl | rfl | rfl
    · exact wpOp_run (.agg (SV.c v)) rfl (by kernel_rfl) (exec_load 26 rfl (by kernel_rfl) w3 (loadSt hS HV.out)) ⟨_, by kernel_rfl, rfl, (later_rf _).refl _⟩
    · exact wpOp_run (.int .u32 rv) rfl (by kernel_rfl) (exec_move rfl (by kernel_rfl) w3) ⟨_, by kernel_rfl, rfl, (later_rf _).refl _⟩
    · have e0 : x0 = .agg (SV.c v) := hpre 0 (by kernel_rfl)
      subst e0
      have e1 : x1 = .int .u32 rv := hpre 1 (by kernel_rfl)
      subst e1
      refine wpOp_callR (R := fun u w4 => u = .agg (SV.c (ansV v rv 1)) ∧ Below w3.heap.size w3 w4) 39 #[.agg (SV.c v), .int .u32 rv] rfl (by kernel_rfl) (by kernel_rfl) ((HWR.out w3).mono fun e w4 h => ⟨_, h.1, rfl, h.2⟩) ?_
      rintro _ w4 ⟨rfl, hb⟩
      exact ⟨_, by kernel_rfl, rfl, RF.of_below hb⟩
    · exact wpOp_run (.agg CW) rfl (by kernel_rfl) (exec_load 38 rfl (by kernel_rfl) w3 (loadCwR hW hW5)) ⟨_, by kernel_rfl, rfl, (later_rf _).refl _⟩
    · have e2 : x2 = .agg (SV.c (ansV v rv 1)) := hpre 2 (by kernel_rfl)
      subst e2
      obtain ⟨old, hs1, hs2⟩ := hA
      exact wpOp_put rfl (by kernel_rfl) (exec_storeG (g := q) (cs := SV.c (ansV v rv 1)) (old := old) rfl (by kernel_rfl) (by kernel_rfl) w3 hs2 (by rw [SV.size (ansV_len HV.out rv 1)]; exact sizeSV) (by rw [hs1, SV.size (ansV_len HV.out rv 1)]) (SV.one _)) ⟨.bool true, by kernel_rfl, ⟨rfl, setRow_heap w3 (q) old _ 26 (0, 0) hs2⟩, RF.of_only (only_rowV w3 (q) _) (setRow_heap w3 (q) old _ 26 (0, 0) hs2) rf2_m1⟩
    · have e3 : x3 = .agg CW := hpre 3 (by kernel_rfl)
      subst e3
      obtain ⟨old, hs1, hs2⟩ := hB
      exact wpOp_put rfl (by kernel_rfl) (exec_storeG (g := q + 1) (cs := CW) (old := old) rfl (by kernel_rfl) (by kernel_rfl) w3 hs2 (by rw [hW5]; exact sizeCw) (by rw [hs1, hW5]) HC1.out) ⟨.bool true, by kernel_rfl, ⟨rfl, setRow_heap w3 (q + 1) old _ 38 (0, 0) hs2⟩, RF.of_only (only_rowV w3 (q + 1) _) (setRow_heap w3 (q + 1) old _ 38 (0, 0) hs2) rf2_m2⟩
  · intro xs w3 hxs hR hall
    obtain ⟨x0, x1, x2, x3, x4, x5, rfl⟩ := lstWq4 xs hxs
    obtain ⟨_, kA⟩ : x4 = .bool true ∧ Blk w3 (q) (SV.c (ansV v rv 1)) 26 := hall 4 (by omega)
    obtain ⟨_, kB⟩ : x5 = .bool true ∧ Blk w3 (q + 1) (CW) 38 := hall 5 (by omega)
    have RA := hidden kA
    have RB := hidden kB
    have HRF := hidden hR
    have KP := hidden (P.out.both HRF.out)
    clear hR hall hxs kA kB HRF P KS KW QS QW
    simp only [slotsOn, putAll]
    go_wp2
    refine bodyPost_ret (results_cc rfl _ _ q (q + 1) _ _ (by kernel_rfl) (by kernel_rfl) (loadSt RA.out (ansV_len HV.out rv 1)) (loadCwR RB.out HC5.out)) rfl ⟨by first | rfl | (rw [← HC.out]; rfl), KP.out.below (Nat.le_refl _) fun _ hb => hb.elim⟩
set_option maxRecDepth 20000 in
set_option maxHeartbeats 2000000 in
theorem write_not_one (w : World) (s : MS) (h : MemW w s) (v : SV) (hv : v.ok) (CW : Array Value) (hc1 : CW.all (·.oneCell') = true) (hc5 : CW.size = 5) (hfd : v.R.getD 4 0 = 1) (hno : refV s v true 4 ≠ 0) : Calls Try.prog 37 #[.pointer (some ⟨s.mb, 0, none⟩), .agg v.c, .agg CW] w fun x w' => x = .returned (.tuple #[.agg (ansV v (refV s v true 4) 1).c, .agg CW]) ∧ Below w.heap.size w w' := by
  obtain ⟨n, hn⟩ : ∃ n, w.heap.size = n := ⟨_, rfl⟩
  obtain ⟨q, hq⟩ : ∃ q, n + 1 + 1 = q := ⟨_, rfl⟩
  have HV := hidden hv.1
  have HQ := hidden hq
  have HC1 := hidden hc1
  have HC5 := hidden hc5
  clear hq hc1 hc5
  obtain ⟨rv, hrv⟩ : ∃ z, refV s v true 4 = z := ⟨_, rfl⟩
  rw [hrv] at hno ⊢
  have HRF0 : Hid (∀ u, Keep nought w u → Calls Try.prog 64 #[.pointer (some ⟨s.mb, 0, none⟩), .agg v.c, .bool true, .int .i64 4] u fun e w' => e = .returned (.int .u32 rv) ∧ Below u.heap.size u w') := hidden (fun u hu => by
    have h2 := refusal_any u s (h.keep hu (fun b hb => id)) v hv true 4
    rw [hrv] at h2
    exact h2)
  have HWR := hidden (fun u => wrong_any v hv.1 rv u)
  obtain ⟨r2, h2⟩ : ∃ r2 : Nat, v.R.getD 2 0 = (r2 : Int) := ⟨(v.R.getD 2 0).toNat, by have := (hv.2.1 2 (by omega)).1; omega⟩
  obtain ⟨r4, h4⟩ : ∃ r4 : Nat, v.R.getD 4 0 = (r4 : Int) := ⟨(v.R.getD 4 0).toNat, by have := (hv.2.1 4 (by omega)).1; omega⟩
  obtain ⟨r5, h5⟩ : ∃ r5 : Nat, v.R.getD 5 0 = (r5 : Int) := ⟨(v.R.getD 5 0).toNat, by have := (hv.2.1 5 (by omega)).1; omega⟩
  obtain ⟨r6, h6⟩ : ∃ r6 : Nat, v.R.getD 6 0 = (r6 : Int) := ⟨(v.R.getD 6 0).toNat, by have := (hv.2.1 6 (by omega)).1; omega⟩
  have l5 : r5 < 4294967296 := by have := (hv.2.1 5 (by omega)).2; omega
  have l6 : r6 < 4294967296 := by have := (hv.2.1 6 (by omega)).2; omega
  have H2 := hidden h2
  have H4 := hidden h4
  have H5 := hidden h5
  have H6 := hidden h6
  rw [h4] at hfd
  have f1 : ((r4 : Int) == 1) = true := beq_iff_eq.2 (by omega)
  have e0 : (rv != 0) = true := bne_iff_ne.2 hno
  have e1 : (rv == 0) = false := beq_eq_false_iff_ne.2 hno
  have e2 : ¬ rv = 0 := hno
  have hi4 : ∀ u, (Instr.indexAt 24 (.pointer (some ⟨n, 0, none⟩)) (.int .i64 4)).run Try.prog u = .ok (.pointer (some ⟨n, 4, none⟩)) u := fun u => index_reg n 4 (by omega) u
  obtain ⟨C, hC⟩ : ∃ C, v.c = C := ⟨_, rfl⟩
  rw [hC]
  have HC := hidden hC
  clear hC hv hrv h2 h4 h5 h6 hfd hno l5 l6 h
  go_enter Try.func37, Try.ntmps37
  go_upto_region 1 with (first
    | (refine wpList_boxG rfl 26 _ rfl C rfl ?_; rintro w1 k1 s1 b1; rw [hn] at k1 s1 b1 ⊢; have K1 : Hid (Blk w1 n v.c 26) := hidden (by rw [HC.out]; exact k1); have S1 := hidden s1; have B1 := hidden b1; clear k1 s1 b1)
    | (refine wpList_boxG rfl 38 _ rfl CW rfl ?_; rintro w2 k2 s2 b2; rw [S1.out] at k2 s2 b2 ⊢; have K2 := hidden k2; have S2 : Hid (w2.heap.size = q) := hidden (by rw [s2]; exact HQ.out); have B2 := hidden b2; clear k2 s2 b2)
    | (refine wpList_allocV rfl rfl ?_; rintro w3 k3 s3 b3; rw [S2.out] at k3 s3 b3 ⊢; have K3 := hidden k3; have S3 := hidden s3; have B3 := hidden b3; clear k3 s3 b3)
    | (refine wpList_allocCw rfl rfl ?_; rintro w4 k4 s4 b4; rw [S3.out] at k4 s4 b4 ⊢; have P := hidden (WA.mk4 (F := nought) hn HQ.out K1.out S1.out B1.out K2.out S2.out B2.out K3.out S3.out B3.out k4 b4); clear k4 s4 b4 K1 S1 B1 K2 S2 B2 K3 S3 B3; obtain ⟨c2, c4, c5, c6⟩ := P.out.regs HV.out H2.out H4.out H5.out H6.out))
  go_upto_region 4 with (first | (go_at_call 64; refine (HRF0.out _ P.out.keep).mono ?_; rintro x w5 ⟨rfl, b5⟩; clear c2 c4 c5 c6; have Q := hidden (P.out.later b5); clear P b5; have P := Q; clear Q; obtain ⟨c2, c4, c5, c6⟩ := P.out.regs HV.out H2.out H4.out H5.out H6.out) | (refine wpList_loadV rfl _ rfl n v rfl P.out.s HV.out ?_))
  have KS := hidden P.out.s
  have KW := hidden P.out.c
  have QS := hidden P.out.rs
  have QW := hidden P.out.rw
  have PQ := P.out.hq
  have hW5 := HC5.out
  refine wp_region_on (later_rf [(q, Obj.cells (SV.c (ansV v rv 1)) 26 (0, 0)), (q + 1, Obj.cells (CW) 38 (0, 0))]) [25, 26, 27, 28, 1004, 1005] 6 (phiWq4 n q v CW rv) (by kernel_rfl) (by kernel_rfl) rfl rfl (phiWq4_mono n q v CW rv) ?_ ?_
  · intro j hj xs w3 hxs hR hpre
    obtain ⟨x0, x1, x2, x3, x4, x5, rfl⟩ := lstWq4 xs hxs
    have hS : Blk w3 (n) (SV.c v) 26 := hR.blk KS.out (rf2_no (by omega) (by omega))
    have hW : Blk w3 (n + 1) CW 38 := hR.blk KW.out (rf2_no (by omega) (by omega))
    have hA := hR.some ⟨_, SV.size (s := SV.zero) rfl, QS.out⟩ (rf2_s1 (SV.size (ansV_len HV.out rv 1)))
    have hB := hR.some (n := 5) ⟨_, (show zCw.size = 5 from rfl), QW.out⟩ (rf2_s2 hW5)
    rcases (show j = 0 ∨ j = 1 ∨ j = 2 ∨ j = 3 ∨ j = 4 ∨ j = 5 by omega) with rfl | rfl | rfl | rfl | rfl | rfl
    · exact wpOp_run (.agg (SV.c v)) rfl (by kernel_rfl) (exec_load 26 rfl (by kernel_rfl) w3 (loadSt hS HV.out)) ⟨_, by kernel_rfl, rfl, (later_rf _).refl _⟩
    · exact wpOp_run (.int .u32 rv) rfl (by kernel_rfl) (exec_move rfl (by kernel_rfl) w3) ⟨_, by kernel_rfl, rfl, (later_rf _).refl _⟩
    · have e0 : x0 = .agg (SV.c v) := hpre 0 (by kernel_rfl)
      subst e0
      have e1 : x1 = .int .u32 rv := hpre 1 (by kernel_rfl)
      subst e1
      refine wpOp_callR (R := fun u w4 => u = .agg (SV.c (ansV v rv 1)) ∧ Below w3.heap.size w3 w4) 39 #[.agg (SV.c v), .int .u32 rv] rfl (by kernel_rfl) (by kernel_rfl) ((HWR.out w3).mono fun e w4 h => ⟨_, h.1, rfl, h.2⟩) ?_
      rintro _ w4 ⟨rfl, hb⟩
      exact ⟨_, by kernel_rfl, rfl, RF.of_below hb⟩
    · exact wpOp_run (.agg CW) rfl (by kernel_rfl) (exec_load 38 rfl (by kernel_rfl) w3 (loadCwR hW hW5)) ⟨_, by kernel_rfl, rfl, (later_rf _).refl _⟩
    · have e2 : x2 = .agg (SV.c (ansV v rv 1)) := hpre 2 (by kernel_rfl)
      subst e2
      obtain ⟨old, hs1, hs2⟩ := hA
      exact wpOp_put rfl (by kernel_rfl) (exec_storeG (g := q) (cs := SV.c (ansV v rv 1)) (old := old) rfl (by kernel_rfl) (by kernel_rfl) w3 hs2 (by rw [SV.size (ansV_len HV.out rv 1)]; exact sizeSV) (by rw [hs1, SV.size (ansV_len HV.out rv 1)]) (SV.one _)) ⟨.bool true, by kernel_rfl, ⟨rfl, setRow_heap w3 (q) old _ 26 (0, 0) hs2⟩, RF.of_only (only_rowV w3 (q) _) (setRow_heap w3 (q) old _ 26 (0, 0) hs2) rf2_m1⟩
    · have e3 : x3 = .agg CW := hpre 3 (by kernel_rfl)
      subst e3
      obtain ⟨old, hs1, hs2⟩ := hB
      exact wpOp_put rfl (by kernel_rfl) (exec_storeG (g := q + 1) (cs := CW) (old := old) rfl (by kernel_rfl) (by kernel_rfl) w3 hs2 (by rw [hW5]; exact sizeCw) (by rw [hs1, hW5]) HC1.out) ⟨.bool true, by kernel_rfl, ⟨rfl, setRow_heap w3 (q + 1) old _ 38 (0, 0) hs2⟩, RF.of_only (only_rowV w3 (q + 1) _) (setRow_heap w3 (q + 1) old _ 38 (0, 0) hs2) rf2_m2⟩
  · intro xs w3 hxs hR hall
    obtain ⟨x0, x1, x2, x3, x4, x5, rfl⟩ := lstWq4 xs hxs
    obtain ⟨_, kA⟩ : x4 = .bool true ∧ Blk w3 (q) (SV.c (ansV v rv 1)) 26 := hall 4 (by omega)
    obtain ⟨_, kB⟩ : x5 = .bool true ∧ Blk w3 (q + 1) (CW) 38 := hall 5 (by omega)
    have RA := hidden kA
    have RB := hidden kB
    have HRF := hidden hR
    have KP := hidden (P.out.both HRF.out)
    clear hR hall hxs kA kB HRF P KS KW QS QW
    simp only [slotsOn, putAll]
    go_wp2
    refine bodyPost_ret (results_cc rfl _ _ q (q + 1) _ _ (by kernel_rfl) (by kernel_rfl) (loadSt RA.out (ansV_len HV.out rv 1)) (loadCwR RB.out HC5.out)) rfl ⟨by first | rfl | (rw [← HC.out]; rfl), KP.out.below (Nat.le_refl _) fun _ hb => hb.elim⟩
set_option maxRecDepth 20000 in
set_option maxHeartbeats 2000000 in
theorem write_not_two (w : World) (s : MS) (h : MemW w s) (v : SV) (hv : v.ok) (CW : Array Value) (hc1 : CW.all (·.oneCell') = true) (hc5 : CW.size = 5) (hfd : v.R.getD 4 0 = 2) (hno : refV s v true 4 ≠ 0) : Calls Try.prog 37 #[.pointer (some ⟨s.mb, 0, none⟩), .agg v.c, .agg CW] w fun x w' => x = .returned (.tuple #[.agg (ansV v (refV s v true 4) 1).c, .agg CW]) ∧ Below w.heap.size w w' := by
  obtain ⟨n, hn⟩ : ∃ n, w.heap.size = n := ⟨_, rfl⟩
  obtain ⟨q, hq⟩ : ∃ q, n + 1 + 1 = q := ⟨_, rfl⟩
  have HV := hidden hv.1
  have HQ := hidden hq
  have HC1 := hidden hc1
  have HC5 := hidden hc5
  clear hq hc1 hc5
  obtain ⟨rv, hrv⟩ : ∃ z, refV s v true 4 = z := ⟨_, rfl⟩
  rw [hrv] at hno ⊢
  have HRF0 : Hid (∀ u, Keep nought w u → Calls Try.prog 64 #[.pointer (some ⟨s.mb, 0, none⟩), .agg v.c, .bool true, .int .i64 4] u fun e w' => e = .returned (.int .u32 rv) ∧ Below u.heap.size u w') := hidden (fun u hu => by
    have h2 := refusal_any u s (h.keep hu (fun b hb => id)) v hv true 4
    rw [hrv] at h2
    exact h2)
  have HWR := hidden (fun u => wrong_any v hv.1 rv u)
  obtain ⟨r2, h2⟩ : ∃ r2 : Nat, v.R.getD 2 0 = (r2 : Int) := ⟨(v.R.getD 2 0).toNat, by have := (hv.2.1 2 (by omega)).1; omega⟩
  obtain ⟨r4, h4⟩ : ∃ r4 : Nat, v.R.getD 4 0 = (r4 : Int) := ⟨(v.R.getD 4 0).toNat, by have := (hv.2.1 4 (by omega)).1; omega⟩
  obtain ⟨r5, h5⟩ : ∃ r5 : Nat, v.R.getD 5 0 = (r5 : Int) := ⟨(v.R.getD 5 0).toNat, by have := (hv.2.1 5 (by omega)).1; omega⟩
  obtain ⟨r6, h6⟩ : ∃ r6 : Nat, v.R.getD 6 0 = (r6 : Int) := ⟨(v.R.getD 6 0).toNat, by have := (hv.2.1 6 (by omega)).1; omega⟩
  have l5 : r5 < 4294967296 := by have := (hv.2.1 5 (by omega)).2; omega
  have l6 : r6 < 4294967296 := by have := (hv.2.1 6 (by omega)).2; omega
  have H2 := hidden h2
  have H4 := hidden h4
  have H5 := hidden h5
  have H6 := hidden h6
  rw [h4] at hfd
  have f1 : ((r4 : Int) == 1) = false := beq_eq_false_iff_ne.2 (by omega)
  have f2 : ((r4 : Int) == 2) = true := beq_iff_eq.2 (by omega)
  have e0 : (rv != 0) = true := bne_iff_ne.2 hno
  have e1 : (rv == 0) = false := beq_eq_false_iff_ne.2 hno
  have e2 : ¬ rv = 0 := hno
  have hi4 : ∀ u, (Instr.indexAt 24 (.pointer (some ⟨n, 0, none⟩)) (.int .i64 4)).run Try.prog u = .ok (.pointer (some ⟨n, 4, none⟩)) u := fun u => index_reg n 4 (by omega) u
  obtain ⟨C, hC⟩ : ∃ C, v.c = C := ⟨_, rfl⟩
  rw [hC]
  have HC := hidden hC
  clear hC hv hrv h2 h4 h5 h6 hfd hno l5 l6 h
  go_enter Try.func37, Try.ntmps37
  go_upto_region 1 with (first
    | (refine wpList_boxG rfl 26 _ rfl C rfl ?_; rintro w1 k1 s1 b1; rw [hn] at k1 s1 b1 ⊢; have K1 : Hid (Blk w1 n v.c 26) := hidden (by rw [HC.out]; exact k1); have S1 := hidden s1; have B1 := hidden b1; clear k1 s1 b1)
    | (refine wpList_boxG rfl 38 _ rfl CW rfl ?_; rintro w2 k2 s2 b2; rw [S1.out] at k2 s2 b2 ⊢; have K2 := hidden k2; have S2 : Hid (w2.heap.size = q) := hidden (by rw [s2]; exact HQ.out); have B2 := hidden b2; clear k2 s2 b2)
    | (refine wpList_allocV rfl rfl ?_; rintro w3 k3 s3 b3; rw [S2.out] at k3 s3 b3 ⊢; have K3 := hidden k3; have S3 := hidden s3; have B3 := hidden b3; clear k3 s3 b3)
    | (refine wpList_allocCw rfl rfl ?_; rintro w4 k4 s4 b4; rw [S3.out] at k4 s4 b4 ⊢; have P := hidden (WA.mk4 (F := nought) hn HQ.out K1.out S1.out B1.out K2.out S2.out B2.out K3.out S3.out B3.out k4 b4); clear k4 s4 b4 K1 S1 B1 K2 S2 B2 K3 S3 B3; obtain ⟨c2, c4, c5, c6⟩ := P.out.regs HV.out H2.out H4.out H5.out H6.out))
  go_upto_region 4 with (first | (go_at_call 64; refine (HRF0.out _ P.out.keep).mono ?_; rintro x w5 ⟨rfl, b5⟩; clear c2 c4 c5 c6; have Q := hidden (P.out.later b5); clear P b5; have P := Q; clear Q; obtain ⟨c2, c4, c5, c6⟩ := P.out.regs HV.out H2.out H4.out H5.out H6.out) | (refine wpList_loadV rfl _ rfl n v rfl P.out.s HV.out ?_))
  have KS := hidden P.out.s
  have KW := hidden P.out.c
  have QS := hidden P.out.rs
  have QW := hidden P.out.rw
  have PQ := P.out.hq
  have hW5 := HC5.out
  refine wp_region_on (later_rf [(q, Obj.cells (SV.c (ansV v rv 1)) 26 (0, 0)), (q + 1, Obj.cells (CW) 38 (0, 0))]) [25, 26, 27, 28, 1004, 1005] 6 (phiWq4 n q v CW rv) (by kernel_rfl) (by kernel_rfl) rfl rfl (phiWq4_mono n q v CW rv) ?_ ?_
  · intro j hj xs w3 hxs hR hpre
    obtain ⟨x0, x1, x2, x3, x4, x5, rfl⟩ := lstWq4 xs hxs
    have hS : Blk w3 (n) (SV.c v) 26 := hR.blk KS.out (rf2_no (by omega) (by omega))
    have hW : Blk w3 (n + 1) CW 38 := hR.blk KW.out (rf2_no (by omega) (by omega))
    have hA := hR.some ⟨_, SV.size (s := SV.zero) rfl, QS.out⟩ (rf2_s1 (SV.size (ansV_len HV.out rv 1)))
    have hB := hR.some (n := 5) ⟨_, (show zCw.size = 5 from rfl), QW.out⟩ (rf2_s2 hW5)
    rcases (show j = 0 ∨ j = 1 ∨ j = 2 ∨ j = 3 ∨ j = 4 ∨ j = 5 by omega) with rfl | rfl | rfl | rfl | rfl | rfl
    · exact wpOp_run (.agg (SV.c v)) rfl (by kernel_rfl) (exec_load 26 rfl (by kernel_rfl) w3 (loadSt hS HV.out)) ⟨_, by kernel_rfl, rfl, (later_rf _).refl _⟩
    · exact wpOp_run (.int .u32 rv) rfl (by kernel_rfl) (exec_move rfl (by kernel_rfl) w3) ⟨_, by kernel_rfl, rfl, (later_rf _).refl _⟩
    · have e0 : x0 = .agg (SV.c v) := hpre 0 (by kernel_rfl)
      subst e0
      have e1 : x1 = .int .u32 rv := hpre 1 (by kernel_rfl)
      subst e1
      refine wpOp_callR (R := fun u w4 => u = .agg (SV.c (ansV v rv 1)) ∧ Below w3.heap.size w3 w4) 39 #[.agg (SV.c v), .int .u32 rv] rfl (by kernel_rfl) (by kernel_rfl) ((HWR.out w3).mono fun e w4 h => ⟨_, h.1, rfl, h.2⟩) ?_
      rintro _ w4 ⟨rfl, hb⟩
      exact ⟨_, by kernel_rfl, rfl, RF.of_below hb⟩
    · exact wpOp_run (.agg CW) rfl (by kernel_rfl) (exec_load 38 rfl (by kernel_rfl) w3 (loadCwR hW hW5)) ⟨_, by kernel_rfl, rfl, (later_rf _).refl _⟩
    · have e2 : x2 = .agg (SV.c (ansV v rv 1)) := hpre 2 (by kernel_rfl)
      subst e2
      obtain ⟨old, hs1, hs2⟩ := hA
      exact wpOp_put rfl (by kernel_rfl) (exec_storeG (g := q) (cs := SV.c (ansV v rv 1)) (old := old) rfl (by kernel_rfl) (by kernel_rfl) w3 hs2 (by rw [SV.size (ansV_len HV.out rv 1)]; exact sizeSV) (by rw [hs1, SV.size (ansV_len HV.out rv 1)]) (SV.one _)) ⟨.bool true, by kernel_rfl, ⟨rfl, setRow_heap w3 (q) old _ 26 (0, 0) hs2⟩, RF.of_only (only_rowV w3 (q) _) (setRow_heap w3 (q) old _ 26 (0, 0) hs2) rf2_m1⟩
    · have e3 : x3 = .agg CW := hpre 3 (by kernel_rfl)
      subst e3
      obtain ⟨old, hs1, hs2⟩ := hB
      exact wpOp_put rfl (by kernel_rfl) (exec_storeG (g := q + 1) (cs := CW) (old := old) rfl (by kernel_rfl) (by kernel_rfl) w3 hs2 (by rw [hW5]; exact sizeCw) (by rw [hs1, hW5]) HC1.out) ⟨.bool true, by kernel_rfl, ⟨rfl, setRow_heap w3 (q + 1) old _ 38 (0, 0) hs2⟩, RF.of_only (only_rowV w3 (q + 1) _) (setRow_heap w3 (q + 1) old _ 38 (0, 0) hs2) rf2_m2⟩
  · intro xs w3 hxs hR hall
    obtain ⟨x0, x1, x2, x3, x4, x5, rfl⟩ := lstWq4 xs hxs
    obtain ⟨_, kA⟩ : x4 = .bool true ∧ Blk w3 (q) (SV.c (ansV v rv 1)) 26 := hall 4 (by omega)
    obtain ⟨_, kB⟩ : x5 = .bool true ∧ Blk w3 (q + 1) (CW) 38 := hall 5 (by omega)
    have RA := hidden kA
    have RB := hidden kB
    have HRF := hidden hR
    have KP := hidden (P.out.both HRF.out)
    clear hR hall hxs kA kB HRF P KS KW QS QW
    simp only [slotsOn, putAll]
    go_wp2
    refine bodyPost_ret (results_cc rfl _ _ q (q + 1) _ _ (by kernel_rfl) (by kernel_rfl) (loadSt RA.out (ansV_len HV.out rv 1)) (loadCwR RB.out HC5.out)) rfl ⟨by first | rfl | (rw [← HC.out]; rfl), KP.out.below (Nat.le_refl _) fun _ hb => hb.elim⟩
end Go.Proofs.Ytodoenimlhldjaa
