/- Call that writes, walked. -/
import Derived.Test.YtodoenimlhldjaaQCwI
import Derived.Test.YtodoenimlhldjaaQCwI2
import Derived.Test.YtodoenimlhldjaaQMWA
namespace Go.Proofs.Ytodoenimlhldjaa
open Go.ChangeShapes Go.WideShapes Go.ChangeAt Go.RowKit
set_option linter.unusedVariables false
theorem WA.turn2 {G : Nat → Prop} {w : World} {n q : Nat} {v : SV} {cw : Array Value} {wr w' : World} (h : WA nought w n q v cw wr) (k : Keep G wr w') (hG : ∀ b, G b → q + 1 < b) : WA nought w n q v cw w' :=
  ⟨⟨k.os.trans h.keep.os, k.tape.trans h.keep.tape, k.output.trans h.keep.output, Nat.le_trans h.keep.size k.size, fun b hl hn => (k.block b (Nat.lt_of_lt_of_le hl h.keep.size) (fun e => by have := hG _ e; have := h.nn; have := h.hq; omega)).trans (h.keep.block b hl hn)⟩, (k.block n h.s.lt (fun e => by have := hG _ e; have := h.hq; omega)).trans h.s, (k.block (n + 1) h.c.lt (fun e => by have := hG _ e; have := h.hq; omega)).trans h.c, (k.block q h.rs.lt (fun e => by have := hG _ e; omega)).trans h.rs, (k.block (q + 1) h.rw.lt (fun e => by have := hG _ e; omega)).trans h.rw, h.nn, h.hq⟩
theorem WA.putS {F : Nat → Prop} {w : World} {n q : Nat} {v v' : SV} {cw : Array Value} {wr w' : World} (h : WA F w n q v cw wr) (ho : Only n wr w') (hk : Blk w' n v'.c 26) : WA F w n q v' cw w' :=
  ⟨⟨ho.os.trans h.keep.os, ho.tape.trans h.keep.tape, ho.output.trans h.keep.output, by rw [ho.size]; exact h.keep.size, fun b hl hn => (ho.block b (by have := h.nn; omega)).trans (h.keep.block b hl hn)⟩, hk, h.c.only ho (by omega), h.rs.only ho (by have := h.hq; omega), h.rw.only ho (by have := h.hq; omega), h.nn, h.hq⟩
theorem WA.bel {w : World} {n q : Nat} {v : SV} {cw : Array Value} {wr : World} (h : WA nought w n q v cw wr) : Below w.heap.size w wr := h.keep.below (Nat.le_refl _) fun _ hb => hb.elim
theorem WA.sz {F : Nat → Prop} {w : World} {n q : Nat} {v : SV} {cw : Array Value} {wr : World} (h : WA F w n q v cw wr) : q + 2 ≤ wr.heap.size := h.rw.lt
theorem Fr.notOwn {w : World} {N m : Nat} {T : TypeId} {v : Value} {cs : List Value} (h : Fr w N T v m cs) {b : Nat} (hb : v.ownBlock = some b) : N ≤ b := by
  obtain ⟨g, hN, e, _⟩ := h
  rw [e] at hb
  have e2 : g = b := Option.some.inj hb
  omega
theorem Fr.rf {w w' : World} {q m : Nat} {T : TypeId} {v : Value} {cs : List Value} {A B : Obj} (h : Fr w (q + 2) T v m cs) (hR : RF [(q, A), (q + 1, B)] w w') : Fr w' (q + 2) T v m cs := by
  obtain ⟨g, hN, e, hk⟩ := h
  exact ⟨g, hN, e, hR.blk hk (rf2_no (by omega) (by omega))⟩
theorem own_zero {w : World} {N z m : Nat} {T : TypeId} {v : Value} {cs : List Value} (h : w.ownsRow N T z v m cs) : w.ownsRow 0 T z v m cs := ⟨h.1, h.2.imp id fun ⟨g, cap, cur, e, _, r⟩ => ⟨g, cap, cur, e, Nat.zero_le _, r⟩⟩
theorem Fr.turn {w w' : World} {N M m m2 : Nat} {T U : TypeId} {v v2 : Value} {cs c2 : List Value} (h : Fr w N T v m cs) (h2 : Fr w M U v2 m2 c2) (k : Keep (fun b => v2.ownBlock = some b) w w') (hne : T ≠ U) : Fr w' N T v m cs := by
  obtain ⟨g, hN, e, hk⟩ := h
  obtain ⟨g2, _, e2, hk2⟩ := h2
  refine ⟨g, hN, e, (k.block g hk.lt fun hb => ?_).trans hk⟩
  rw [e2] at hb
  have e3 : g2 = g := Option.some.inj hb
  subst e3
  have h3 := (show w.heap[g2]? = _ from hk).symm.trans hk2
  injection h3 with h3
  injection h3 with _ h3
  exact hne h3
theorem write_yes (w : World) (s : MS) (h : MemW w s) (v : SV) (hv : v.ok) (inp : ByteArray) (at_ us : Int) (rd ev : Value) (l : List Int) (e : List (Int × ByteArray)) (N : Nat) (hrd : Fr w N 3 rd l.length (cI l)) (hev : Fr w N 66 ev e.length (cE e)) (hel : e.length ≤ 16384) (hN : N ≤ w.heap.size) (hfo : ∀ b, foot s b → ev.ownBlock ≠ some b) (hfd : v.R.getD 4 0 = 1 ∨ v.R.getD 4 0 = 2) (hno : refV s v true 4 = 0) : Calls Try.prog 37 #[.pointer (some ⟨s.mb, 0, none⟩), .agg v.c, .agg (cwC inp at_ rd us ev)] w fun x w' => ∃ ev', x = .returned (.tuple #[.agg (ansV v (v.R.getD 6 0) 0).c, .agg (cwC inp at_ rd us ev')]) ∧ w'.ownsRow N 66 2 ev' (e.length + 1) (cE (e ++ [(v.R.getD 4 0, ⟨(s.span (v.R.getD 5 0).toNat (v.R.getD 6 0).toNat).toArray⟩)])) ∧ Keep (fun b => ev.ownBlock = some b) w w' := by
  rcases hfd with hfd | hfd
  · exact write_yes_one w s h v hv inp at_ us rd ev l e N hrd hev hel hN hfo hfd hno
  · exact write_yes_two w s h v hv inp at_ us rd ev l e N hrd hev hel hN hfo hfd hno
/-- What the slots of the region hold, whatever the order. -/
def phiCa13 (n q : Nat) (v V : SV) (CX : Array Value) : Nat → Value → World → Prop
  | 0, x, _ => x = .agg (SV.c V)
  | 1, x, _ => x = .agg CX
  | 2, x, _ => x = .int .i64 0
  | 3, x, w => x = .bool true ∧ Blk w (q) (SV.c (V)) 26
  | 4, x, w => x = .bool true ∧ Blk w (q + 1) (CX) 38
  | 5, x, _ => x = .int .i64 0
  | 6, x, _ => x = .int .u32 0
  | _ + 7, _, _ => True
theorem phiCa13_mono (n q : Nat) (v V : SV) (CX : Array Value) : ∀ i x w w', phiCa13 n q v V CX i x w → RF [(q, Obj.cells (SV.c (V)) 26 (0, 0)), (q + 1, Obj.cells (CX) 38 (0, 0))] w w' → phiCa13 n q v V CX i x w'
  | 0, _, _, _, h, _ => h
  | 1, _, _, _, h, _ => h
  | 2, _, _, _, h, _ => h
  | 3, x, w, w', h, hb => ⟨h.1, hb.blk h.2 rf2_a⟩
  | 4, x, w, w', h, hb => ⟨h.1, hb.blk h.2 rf2_b⟩
  | 5, _, _, _, h, _ => h
  | 6, _, _, _, h, _ => h
  | _ + 7, _, _, _, _, _ => trivial
theorem lstCa13 : ∀ xs : List Value, xs.length = 7 → ∃ x0 x1 x2 x3 x4 x5 x6, xs = [x0, x1, x2, x3, x4, x5, x6]
  | [x0, x1, x2, x3, x4, x5, x6], _ => ⟨_, _, _, _, _, _, _, rfl⟩
set_option maxRecDepth 20000 in
set_option maxHeartbeats 2000000 in
theorem call_wr (w : World) (s : MS) (h : MemW w s) (v : SV) (hv : v.ok) (inp : ByteArray) (at_ us : Int) (rd ev : Value) (l : List Int) (e : List (Int × ByteArray)) (hrd : Rw w 1 rd l.length (cI l)) (hev : Rw w 2 ev e.length (cE e)) (hl : l.length ≤ 16384) (hel : e.length ≤ 16384) (h2 : v.R.getD 2 0 = 4004) (hfd : v.R.getD 4 0 = 1 ∨ v.R.getD 4 0 = 2) (hno : refV s v true 4 = 0) : Calls Try.prog 13 #[.pointer (some ⟨s.mb, 0, none⟩), .agg v.c, .agg (cwC inp at_ rd us ev)] w fun x w' => ∃ rd' ev', x = .returned (.tuple #[.agg (ansV v (v.R.getD 6 0) 0).c, .agg (cwC inp at_ rd' us ev'), .int .i64 0, .int .u32 0]) ∧ Fr w' 0 3 rd' l.length (cI l) ∧ w'.ownsRow 0 66 2 ev' (e.length + 1) (cE (e ++ [(v.R.getD 4 0, ⟨(s.span (v.R.getD 5 0).toNat (v.R.getD 6 0).toNat).toArray⟩)])) ∧ Below w.heap.size w w' := by
  obtain ⟨n, hn⟩ : ∃ n, w.heap.size = n := ⟨_, rfl⟩
  obtain ⟨q, hq⟩ : ∃ q, n + 1 + 1 = q := ⟨_, rfl⟩
  have HQ := hidden hq
  have HV := hidden hv.1
  have HLL := hidden hl
  have HEL := hidden hel
  have HOW := hidden (fun u (hu : Below w.heap.size w u) => own_any u inp at_ us rd ev l e (hrd.later hu) (hev.later hu) hl hel)
  obtain ⟨es, hes⟩ : ∃ es, e ++ [(v.R.getD 4 0, (⟨(s.span (v.R.getD 5 0).toNat (v.R.getD 6 0).toNat).toArray⟩ : ByteArray))] = es := ⟨_, rfl⟩
  obtain ⟨V, hV⟩ : ∃ V, ansV v (v.R.getD 6 0) 0 = V := ⟨_, rfl⟩
  have HL5 : Hid (V.R.length = 32) := hidden (by rw [← hV]; exact ansV_len hv.1 _ _)
  have HWY : Hid (∀ (u : World) (rd1 ev1 : Value), Below w.heap.size w u → q + 2 ≤ u.heap.size → Fr u (q + 2) 3 rd1 l.length (cI l) → Fr u (q + 2) 66 ev1 e.length (cE e) → Calls Try.prog 37 #[.pointer (some ⟨s.mb, 0, none⟩), .agg v.c, .agg (cwC inp at_ rd1 us ev1)] u fun x w' => ∃ ev', x = .returned (.tuple #[.agg V.c, .agg (cwC inp at_ rd1 us ev')]) ∧ w'.ownsRow (q + 2) 66 2 ev' (e.length + 1) (cE es) ∧ Keep (fun b => ev1.ownBlock = some b) u w') := hidden (fun u rd1 ev1 hu hs hf1 hf2 => by
    rw [← hes, ← hV]
    exact write_yes u s (h.later hu) v hv inp at_ us rd1 ev1 l e (q + 2) hf1 hf2 hel hs (fun b hb hbb => by
      have h3 := hf2.notOwn hbb
      have h4 := h.lt hb
      omega) hfd hno)
  rw [hes, hV]
  obtain ⟨r2, h22⟩ : ∃ r2 : Nat, v.R.getD 2 0 = (r2 : Int) := ⟨(v.R.getD 2 0).toNat, by have := (hv.2.1 2 (by omega)).1; omega⟩
  obtain ⟨r4, h4⟩ : ∃ r4 : Nat, v.R.getD 4 0 = (r4 : Int) := ⟨(v.R.getD 4 0).toNat, by have := (hv.2.1 4 (by omega)).1; omega⟩
  obtain ⟨r5, h5⟩ : ∃ r5 : Nat, v.R.getD 5 0 = (r5 : Int) := ⟨(v.R.getD 5 0).toNat, by have := (hv.2.1 5 (by omega)).1; omega⟩
  obtain ⟨r6, h6⟩ : ∃ r6 : Nat, v.R.getD 6 0 = (r6 : Int) := ⟨(v.R.getD 6 0).toNat, by have := (hv.2.1 6 (by omega)).1; omega⟩
  have l5 : r5 < 4294967296 := by have := (hv.2.1 5 (by omega)).2; omega
  have l6 : r6 < 4294967296 := by have := (hv.2.1 6 (by omega)).2; omega
  have H2 := hidden h22
  have H4 := hidden h4
  have H5 := hidden h5
  have H6 := hidden h6
  have e2 : r2 = 4004 := by omega
  subst e2
  have hi2 : ∀ u, (Instr.indexAt 24 (.pointer (some ⟨n, 0, none⟩)) (.int .i64 2)).run Try.prog u = .ok (.pointer (some ⟨n, 2, none⟩)) u := fun u => index_reg n 2 (by omega) u
  have HC1 : Hid ((cwC inp at_ rd us ev).all (·.oneCell') = true) := hidden (cw_one hrd.one hev.one)
  have HC5 : Hid ((cwC inp at_ rd us ev).size = 5) := hidden rfl
  obtain ⟨CW, hCW⟩ : ∃ CW, cwC inp at_ rd us ev = CW := ⟨_, rfl⟩
  rw [hCW] at HC1 HC5 HOW ⊢
  obtain ⟨C, hC⟩ : ∃ C, v.c = C := ⟨_, rfl⟩
  rw [hC]
  have HC := hidden hC
  clear hC hCW hes hV hq hv h2 h22 h4 h5 h6 l5 l6 hfd hno hrd hev hl hel h
  go_enter Try.func13, Try.ntmps13
  go_upto_region 1 with (first
    | (refine wpList_boxG rfl 26 _ rfl C rfl ?_; rintro w1 k1 s1 b1; rw [hn] at k1 s1 b1 ⊢; have K1 : Hid (Blk w1 n v.c 26) := hidden (by rw [HC.out]; exact k1); have S1 := hidden s1; have B1 := hidden b1; clear k1 s1 b1)
    | (refine wpList_boxG rfl 38 _ rfl CW rfl ?_; rintro w2 k2 s2 b2; rw [S1.out] at k2 s2 b2 ⊢; have K2 := hidden k2; have S2 : Hid (w2.heap.size = q) := hidden (by rw [s2]; exact HQ.out); have B2 := hidden b2; clear k2 s2 b2)
    | (refine wpList_allocV rfl rfl ?_; rintro w3 k3 s3 b3; rw [S2.out] at k3 s3 b3 ⊢; have K3 := hidden k3; have S3 := hidden s3; have B3 := hidden b3; clear k3 s3 b3)
    | (refine wpList_allocCw rfl rfl ?_; rintro w4 k4 s4 b4; rw [S3.out] at k4 s4 b4 ⊢; have P := hidden (WA.mk4 (F := nought) hn HQ.out K1.out S1.out B1.out K2.out S2.out B2.out K3.out S3.out B3.out k4 b4); clear k4 s4 b4 K1 S1 B1 K2 S2 B2 K3 S3 B3))
  have HNQ : Hid (n + 1 < q + 2) := hidden (by have := HQ.out; omega)
  have HNQ0 : Hid (n < q + 2) := hidden (by have := HQ.out; omega)
  go_upto_region 2 with (first
    | (refine wpList_loadCw rfl _ rfl (n + 1) CW rfl P.out.c HC5.out ?_)
    | (go_at_call 34; refine (HOW.out _ P.out.bel).mono ?_; rintro x w5 ⟨rd1, ev1, rfl, f1, f2, b5⟩; have F1 := hidden (f1.mono P.out.sz); have F2 := hidden (f2.mono P.out.sz); have Q := hidden (P.out.later b5); clear P f1 f2 b5; have P := Q; clear Q)
    | (refine wpList_storeCw rfl rfl _ _ rfl (n + 1) CW (cwC inp at_ rd1 us ev1) rfl rfl P.out.c HC5.out rfl (cw_one F1.out.one F2.out.one) ?_; rintro w6 k6 o6; have Q := hidden (P.out.putW o6 k6); clear P; have P := Q; clear Q; have F3 := hidden (F1.out.keep (Keep.of_only o6) HNQ.out); have F4 := hidden (F2.out.keep (Keep.of_only o6) HNQ.out); clear k6 o6 F1 F2))
  have c2 : _ := P.out.s.cell (SV.getR HV.out (show 2 < 32 by decide))
  rw [H2.out] at c2
  obtain ⟨CY, hCY⟩ : ∃ CY, cwC inp at_ rd1 us ev1 = CY := ⟨_, rfl⟩
  have HWZ := hidden (HWY.out _ rd1 ev1 P.out.bel P.out.sz F3.out F4.out)
  rw [hCY] at P HWZ
  have HCY5 : Hid (CY.size = 5) := hidden (by rw [← hCY]; rfl)
  clear hCY HWY HOW HC1
  go_upto_region 10 with fail
  go_upto_region 13 with (first
    | (refine wpList_loadV rfl _ rfl n v rfl P.out.s HV.out ?_)
    | (refine wpList_loadCw rfl _ rfl (n + 1) CY rfl P.out.c HCY5.out ?_)
    | (go_at_call 37; refine HWZ.out.mono ?_; rintro x w7 ⟨ev2, rfl, hrw, hk⟩; have R7 := hidden hrw; have P7 := hidden (P.out.turn2 hk (fun b hb => F4.out.notOwn hb)); have F7 := hidden (F3.out.turn F4.out hk (by decide)); clear c2 hrw hk HWZ F3 P)
    | (refine wpList_storeV rfl rfl _ _ rfl n v V rfl rfl P7.out.s HV.out HL5.out ?_; rintro w8 k8 o8; have P8 := hidden (P7.out.putS o8 k8); have R8 := hidden (own_only R7.out o8 P7.out.s (by decide)); have F8 := hidden (F7.out.keep (Keep.of_only o8) HNQ0.out); clear k8 o8 P7 R7 F7)
    | (refine wpList_storeCw rfl rfl _ _ rfl (n + 1) CY (cwC inp at_ rd1 us ev2) rfl rfl P8.out.c HCY5.out rfl (cw_one F8.out.one (rw_of_own R8.out).one) ?_; rintro w9 k9 o9; have P9 := hidden (P8.out.putW o9 k9); have R9 := hidden (own_only R8.out o9 P8.out.c (by decide)); have F9 := hidden (F8.out.keep (Keep.of_only o9) HNQ.out); clear k9 o9 P8 R8 F8))
  have HC2 : Hid ((cwC inp at_ rd1 us ev2).all (·.oneCell') = true) := hidden (cw_one F9.out.one (rw_of_own R9.out).one)
  obtain ⟨CX, hCX⟩ : ∃ CX, cwC inp at_ rd1 us ev2 = CX := ⟨_, rfl⟩
  have HC5X : Hid (CX.size = 5) := hidden (by rw [← hCX]; rfl)
  rw [hCX] at HC2 P9
  have HCX := hidden hCX
  have KS := hidden P9.out.s
  have KW := hidden P9.out.c
  have QS := hidden P9.out.rs
  have QW := hidden P9.out.rw
  have PQ := P9.out.hq
  have hW5 := HC5X.out
  clear hCX HCY5
  refine wp_region_on (later_rf [(q, Obj.cells (SV.c (V)) 26 (0, 0)), (q + 1, Obj.cells (CX) 38 (0, 0))]) [52, 53, 54, 1003, 1004, 8, 9] 7 (phiCa13 n q v V CX) (by kernel_rfl) (by kernel_rfl) rfl rfl (phiCa13_mono n q v V CX) ?_ ?_
  · intro j hj xs w3 hxs hR hpre
    obtain ⟨x0, x1, x2, x3, x4, x5, x6, rfl⟩ := lstCa13 xs hxs
    have hS : Blk w3 (n) (SV.c V) 26 := hR.blk KS.out (rf2_no (by omega) (by omega))
    have hW : Blk w3 (n + 1) CX 38 := hR.blk KW.out (rf2_no (by omega) (by omega))
    have hA := hR.some ⟨_, SV.size (s := SV.zero) rfl, QS.out⟩ (rf2_s1 (SV.size HL5.out))
    have hB := hR.some (n := 5) ⟨_, (show zCw.size = 5 from rfl), QW.out⟩ (rf2_s2 hW5)
    rcases (show j = 0 ∨ j = 1 ∨ j = 2 ∨ j = 3 ∨ j = 4 ∨ j = 5 ∨ j = 6 by omega) with rfl | rfl | rfl | rfl | rfl | rfl | rfl
    · exact wpOp_run (.agg (SV.c V)) rfl (by kernel_rfl) (exec_load 26 rfl (by kernel_rfl) w3 (loadSt hS HL5.out)) ⟨_, by kernel_rfl, rfl, (later_rf _).refl _⟩
    · exact wpOp_run (.agg CX) rfl (by kernel_rfl) (exec_load 38 rfl (by kernel_rfl) w3 (loadCwR hW hW5)) ⟨_, by kernel_rfl, rfl, (later_rf _).refl _⟩
    · exact wpOp_run (.int .i64 0) rfl (by kernel_rfl) (exec_move rfl (by kernel_rfl) w3) ⟨_, by kernel_rfl, rfl, (later_rf _).refl _⟩
    · have e0 : x0 = .agg (SV.c V) := hpre 0 (by kernel_rfl)
      subst e0
      obtain ⟨old, hs1, hs2⟩ := hA
      exact wpOp_put rfl (by kernel_rfl) (exec_storeG (g := q) (cs := SV.c (V)) (old := old) rfl (by kernel_rfl) (by kernel_rfl) w3 hs2 (by rw [SV.size HL5.out]; exact sizeSV) (by rw [hs1, SV.size HL5.out]) (SV.one _)) ⟨.bool true, by kernel_rfl, ⟨rfl, setRow_heap w3 (q) old _ 26 (0, 0) hs2⟩, RF.of_only (only_rowV w3 (q) _) (setRow_heap w3 (q) old _ 26 (0, 0) hs2) rf2_m1⟩
    · have e1 : x1 = .agg CX := hpre 1 (by kernel_rfl)
      subst e1
      obtain ⟨old, hs1, hs2⟩ := hB
      exact wpOp_put rfl (by kernel_rfl) (exec_storeG (g := q + 1) (cs := CX) (old := old) rfl (by kernel_rfl) (by kernel_rfl) w3 hs2 (by rw [hW5]; exact sizeCw) (by rw [hs1, hW5]) HC2.out) ⟨.bool true, by kernel_rfl, ⟨rfl, setRow_heap w3 (q + 1) old _ 38 (0, 0) hs2⟩, RF.of_only (only_rowV w3 (q + 1) _) (setRow_heap w3 (q + 1) old _ 38 (0, 0) hs2) rf2_m2⟩
    · have e2 : x2 = .int .i64 0 := hpre 2 (by kernel_rfl)
      subst e2
      exact wpOp_run (.int .i64 0) rfl (by kernel_rfl) (by kernel_rfl) ⟨_, by kernel_rfl, rfl, (later_rf _).refl _⟩
    · exact wpOp_run (.int .u32 0) rfl (by kernel_rfl) (by kernel_rfl) ⟨_, by kernel_rfl, rfl, (later_rf _).refl _⟩
  · intro xs w3 hxs hR hall
    obtain ⟨x0, x1, x2, x3, x4, x5, x6, rfl⟩ := lstCa13 xs hxs
    obtain ⟨_, kA⟩ : x3 = .bool true ∧ Blk w3 (q) (SV.c (V)) 26 := hall 3 (by omega)
    obtain ⟨_, kB⟩ : x4 = .bool true ∧ Blk w3 (q + 1) (CX) 38 := hall 4 (by omega)
    have RA := hidden kA
    have RB := hidden kB
    have HRF := hidden hR
    have g5 : x5 = .int .i64 0 := hall 5 (by omega)
    have g6 : x6 = .int .u32 0 := hall 6 (by omega)
    subst g5
    subst g6
    have KP := hidden (P9.out.both HRF.out)
    have RO := hidden (own_zero (own_rf R9.out HRF.out QS.out QW.out (by decide) (by decide)))
    have RI := hidden ((F9.out.rf HRF.out).mono (Nat.zero_le _))
    clear hR hall hxs kA kB HRF P9 KS KW QS QW R9 F9
    simp only [slotsOn, putAll]
    go_wp2
    refine bodyPost_ret (results_cctt rfl _ _ q (q + 1) _ _ (by kernel_rfl) (by kernel_rfl) (loadSt RA.out HL5.out) (loadCwR RB.out HC5X.out)) rfl ⟨rd1, ev2, ?_, RI.out, RO.out, KP.out.below (Nat.le_refl _) fun _ hb => hb.elim⟩
    rw [HCX.out]
    kernel_rfl
end Go.Proofs.Ytodoenimlhldjaa
namespace Go.Proofs.Ytodoenimlhldjaa
open Go.ChangeShapes Go.WideShapes Go.ChangeAt Go.RowKit
set_option linter.unusedVariables false
theorem sizeSc : (Try.prog.info? 55).map (·.size) = some 7 := by kernel_rfl
/-- What the slots of the region hold, whatever the order. -/
def phiNw (n : Nat) (inp : ByteArray) (rd : Value) (l : List Int) : Nat → Value → World → Prop
  | 0, x, _ => x = .pointer (some ⟨n, 0, none⟩)
  | 1, x, _ => x = .string inp
  | 2, x, _ => x = .pointer (some ⟨n, 1, none⟩)
  | 3, x, _ => x = rd
  | 4, x, w => Fr w (n + 2) 3 x l.length (cI l)
  | 5, x, w => ∃ rd1, x = .agg (cwC inp 0 rd1 0 (.slice none 0 0)) ∧ Fr w (n + 2) 3 rd1 l.length (cI l)
  | _ + 6, _, _ => True
theorem phiNw_mono (n : Nat) (inp : ByteArray) (rd : Value) (l : List Int) : ∀ i x w w', phiNw n inp rd l i x w → Below w.heap.size w w' → phiNw n inp rd l i x w'
  | 0, _, _, _, h, _ => h
  | 1, _, _, _, h, _ => h
  | 2, _, _, _, h, _ => h
  | 3, _, _, _, h, _ => h
  | 4, x, w, w', h, hb => h.later hb
  | 5, x, w, w', h, hb => by obtain ⟨rd1, e, h1⟩ := h; exact ⟨rd1, e, h1.later hb⟩
  | _ + 6, _, _, _, _, _ => trivial
theorem lstNw : ∀ xs : List Value, xs.length = 6 → ∃ x0 x1 x2 x3 x4 x5, xs = [x0, x1, x2, x3, x4, x5]
  | [x0, x1, x2, x3, x4, x5], _ => ⟨_, _, _, _, _, _, rfl⟩
set_option maxRecDepth 20000 in
set_option maxHeartbeats 1000000 in
theorem cnew_any (w : World) (cs : Array Value) (inp : ByteArray) (rd : Value) (l : List Int) (h7 : cs.size = 7) (h0 : cs[0]? = some (.string inp)) (h1 : cs[1]? = some rd) (hr : Rw w 1 rd l.length (cI l)) (hl : l.length ≤ 16384) : Calls Try.prog 21 #[.agg cs] w fun x w' => ∃ rd', x = .returned (.agg (cwC inp 0 rd' 0 (.slice none 0 0))) ∧ Fr w' w.heap.size 3 rd' l.length (cI l) ∧ Below w.heap.size w w' := by
  obtain ⟨n, hn⟩ : ∃ n, w.heap.size = n := ⟨_, rfl⟩
  have HC0 := hidden h0
  have HC1 := hidden h1
  have HR := hidden hr
  have HL := hidden hl
  clear h0 h1 hr hl
  go_enter Try.func21, Try.ntmps21
  go_upto_region 1 with (first
    | (refine wpList_boxG rfl 55 _ rfl cs rfl ?_; rintro w1 k1 s1 b1; rw [hn] at k1 s1 b1 ⊢; have K1 := hidden k1; have S1 := hidden s1; have B1 := hidden b1; clear k1 s1 b1)
    | (refine wpList_allocCw rfl rfl ?_; rintro w2 k2 s2 b2; rw [S1.out] at k2 s2 b2 ⊢; have K2 := hidden (K1.out.later (by rw [S1.out]; exact b2)); have Z2 := hidden k2; have S2 := hidden s2; have HB2 := hidden (show Below w.heap.size w w2 from by rw [hn]; exact B1.out.trans (b2.mono (by omega))); clear k2 s2 b2 B1 K1))
  refine wp_region_head later_below 6 [3, 4, 5, 6, 7, 8] (phiNw n inp rd l) (by kernel_rfl) (by kernel_rfl) rfl (phiNw_mono n inp rd l) ?_ ?_
  · intro j hj xs w3 hxs hR hpre
    obtain ⟨x0, x1, x2, x3, x4, x5, rfl⟩ := lstNw xs hxs
    have hS : Blk w3 n cs 55 := K2.out.later hR
    have hN3 : n + 2 ≤ w3.heap.size := Nat.le_trans (by have := S2.out; omega) hR.size
    rcases (show j = 0 ∨ j = 1 ∨ j = 2 ∨ j = 3 ∨ j = 4 ∨ j = 5 by omega) with rfl | rfl | rfl | rfl | rfl | rfl
    · exact wpOp_run (.pointer (some ⟨n, 0, none⟩)) rfl (by kernel_rfl) (by kernel_rfl) ⟨_, by kernel_rfl, rfl, Below.refl _ _⟩
    · have e0 : x0 = .pointer (some ⟨n, 0, none⟩) := hpre 0 (by kernel_rfl)
      subst e0
      exact wpOp_run (.string inp) rfl (by kernel_rfl) (exec_load 9 rfl (by kernel_rfl) w3 (loadStr (hS.cell HC0.out))) ⟨_, by kernel_rfl, rfl, Below.refl _ _⟩
    · exact wpOp_run (.pointer (some ⟨n, 1, none⟩)) rfl (by kernel_rfl) (by kernel_rfl) ⟨_, by kernel_rfl, rfl, Below.refl _ _⟩
    · have e2 : x2 = .pointer (some ⟨n, 1, none⟩) := hpre 2 (by kernel_rfl)
      subst e2
      exact wpOp_run rd rfl (by kernel_rfl) (exec_load 27 rfl (by kernel_rfl) w3 (loadIs (hS.cell HC1.out))) ⟨_, by kernel_rfl, rfl, Below.refl _ _⟩
    · have e3 : x3 = rd := hpre 3 (by kernel_rfl)
      subst e3
      refine wpOp_callR (R := fun u w4 => Fr w4 (n + 2) 3 u l.length (cI l) ∧ Below w3.heap.size w3 w4) 49 #[x3] rfl (by kernel_rfl) (by kernel_rfl) ((anewI_any w3 x3 _ _ HL.out (HR.out.later (HB2.out.trans (hR.mono HB2.out.size))) (cI_one l)).mono fun x w4 h => by obtain ⟨v, hv, hf, hb⟩ := h; exact ⟨v, hv, hf.mono hN3, hb⟩) ?_
      rintro u w4 ⟨hf, hb4⟩
      exact ⟨_, by kernel_rfl, hf, hb4⟩
    · have e1 : x1 = .string inp := hpre 1 (by kernel_rfl)
      subst e1
      have f4 : Fr w3 (n + 2) 3 x4 l.length (cI l) := hpre 4 (by kernel_rfl)
      obtain ⟨g, hgN, e4, hgk⟩ := f4
      subst e4
      exact wpOp_run (.agg (cwC inp 0 (.slice (some ⟨g, 0, none⟩) l.length l.length) 0 (.slice none 0 0))) rfl (by kernel_rfl) (by kernel_rfl) ⟨_, by kernel_rfl, ⟨_, rfl, g, hgN, rfl, hgk⟩, Below.refl _ _⟩
  · intro xs w3 hxs hR hall
    obtain ⟨x0, x1, x2, x3, x4, x5, rfl⟩ := lstNw xs hxs
    obtain ⟨rd1, e5, f5⟩ : ∃ rd1, x5 = .agg (cwC inp 0 rd1 0 (.slice none 0 0)) ∧ Fr w3 (n + 2) 3 rd1 l.length (cI l) := hall 5 (by omega)
    subst e5
    have Z3 := hidden (Z2.out.later hR)
    have F3 := hidden f5
    have B3 := hidden (HB2.out.trans (hR.mono HB2.out.size))
    clear hall hR hxs f5
    simp only [slotsOn, putAll, List.drop_succ_cons, List.drop_zero]
    refine wpList_storeCw rfl rfl _ _ rfl (n + 1) zCw (cwC inp 0 rd1 0 (.slice none 0 0)) (by kernel_rfl) (by kernel_rfl) Z3.out rfl rfl (cw_one F3.out.one rfl) ?_
    rintro w4 k4 o4
    have K4 := hidden k4
    have B4 := hidden (Below.only B3.out o4 (by omega))
    have F4 := hidden (F3.out.keep (Keep.of_only o4) (by omega))
    clear k4 o4
    go_wp2
    refine bodyPost_ret (results_cell_row rfl _ _ (n + 1) 38 _ (0, 0) _ (by kernel_rfl) K4.out Try.underlying38 rfl sizeCw) rfl ⟨_, rfl, ?_, B4.out⟩
    rw [hn]
    exact F4.out.mono (by omega)
end Go.Proofs.Ytodoenimlhldjaa
