/- Chapter 12's own read, done. -/
import Derived.Test.YtodoenimlhldjaaBXSC
import Derived.Test.YtodoenimlhldjaaBXRB
import Derived.Deep.QuietTactic
import Derived.BigQuiet
namespace Go.Proofs.Ytodoenimlhldjaa
open Go.ChangeShapes Go.WideShapes Go.ChangeAt Go.RowKit
set_option linter.unusedVariables false
theorem M5.not_u {w : World} {t : S5} (h : M5 w t) {b : Nat} {cs : Array Value} {T : TypeId} (hk : Blk w b cs T) (h1 : T ≠ 96) (h2 : T ≠ 116) (h3 : T ≠ 23) : ¬ foot5 t b := by
  have key : ∀ cs2 T2, Blk w b cs2 T2 → T2 = T := fun cs2 T2 h2 => by
    have h3 := (show w.heap[b]? = _ from hk).symm.trans h2
    injection h3 with h3
    injection h3 with _ h3
    exact h3.symm
  rintro (rfl | hb | hb)
  · exact h1 (key _ _ h.self).symm
  · obtain ⟨cur, hc⟩ := h.blkP hb
    exact h2 (key _ _ hc).symm
  · obtain ⟨cur, hc⟩ := h.blkT hb
    exact h3 (key _ _ hc).symm
/-- Within the document's own call: its four blocks, its memory. -/
structure WQ (t0 : S5) (w : World) (n q : Nat) (v : SV) (cw : Array Value) (wr : World) (t : S5) : Prop where
  wb : WB (foot5 t0) w n q v cw wr
  mem : M5 wr t
  grow : ∀ b, foot5 t b → foot5 t0 b ∨ w.heap.size ≤ b
theorem WQ.step {t0 t t' : S5} {w wr w' : World} {n q : Nat} {v : SV} {cw : Array Value} (h : WQ t0 w n q v cw wr t) (k : Step5 wr t w' t') : WQ t0 w n q v cw w' t' := by
  have keep : ∀ b cs T, Blk wr b cs T → (T = 26 ∨ T = 30) → Blk w' b cs T := fun b cs T hb hT => (k.keep.block b hb.lt (h.mem.not_u hb (by rcases hT with rfl | rfl <;> decide) (by rcases hT with rfl | rfl <;> decide) (by rcases hT with rfl | rfl <;> decide))).trans hb
  refine ⟨⟨h.wb.keep.trans k.keep fun b hb hf => ?_, keep _ _ _ h.wb.s (.inl rfl), keep _ _ _ h.wb.c (.inr rfl), keep _ _ _ h.wb.rs (.inl rfl), keep _ _ _ h.wb.rw (.inr rfl), h.wb.nn, h.wb.hq⟩, k.mem, fun b hb => ?_⟩
  · rcases h.grow b hf with h1 | h1
    · exact h1
    · omega
  · rcases k.grow b hb with h1 | h1
    · exact h.grow b h1
    · have := h.wb.keep.size
      exact .inr (by omega)
theorem WQ.later {t0 t : S5} {w wr w' : World} {n q : Nat} {v : SV} {cw : Array Value} (h : WQ t0 w n q v cw wr t) (hb : Below wr.heap.size wr w') : WQ t0 w n q v cw w' t := h.step (Step5.later (Step5.refl h.mem) hb)
theorem WQ.putW {t0 t : S5} {w wr w' : World} {n q : Nat} {v : SV} {cw cw' : Array Value} (h : WQ t0 w n q v cw wr t) (ho : Only (n + 1) wr w') (hk : Blk w' (n + 1) cw' 30) : WQ t0 w n q v cw' w' t :=
  ⟨h.wb.putW ho hk, h.mem.same fun b hb => ho.block b fun e => h.mem.not_u h.wb.c (by decide) (by decide) (by decide) (by rw [← e]; exact hb), h.grow⟩
theorem WQ.mk0 {t0 : S5} {w wr : World} {n q : Nat} {v : SV} {cw : Array Value} (h : M5 w t0) (hp : WB nought w n q v cw wr) : WQ t0 w n q v cw wr t0 := ⟨hp.wide fun _ hb => hb.elim, h.later hp.bel, fun _ hb => .inl hb⟩
theorem WQ.fin {t0 t : S5} {w wr w' : World} {n q : Nat} {v : SV} {cw : Array Value} {A B : Obj} (h : WQ t0 w n q v cw wr t) (hR : RF [(q, A), (q + 1, B)] wr w') : Step5 w t0 w' t := by
  refine ⟨h.mem.same fun b hb => ?_, h.wb.both hR, h.grow⟩
  rcases hR.block b (h.mem.footLt hb) with e | ⟨o, ho, e⟩
  · exact e
  · simp only [List.mem_cons, Prod.mk.injEq, List.mem_nil_iff, or_false] at ho
    rcases ho with ⟨rfl, _⟩ | ⟨rfl, _⟩
    · exact absurd hb (h.mem.not_u h.wb.rs (by decide) (by decide) (by decide))
    · exact absurd hb (h.mem.not_u h.wb.rw (by decide) (by decide) (by decide))
theorem ext_get (s : ByteArray) (a k N : Nat) (hk : k < N) (h : a + N ≤ s.size) : (s.extract a (a + N)).data.toList.getD k 0 = s.data.toList.getD (a + k) 0 := by
  rw [ByteArray.data_extract, Array.toList_extract, List.extract_eq_take_drop, List.getD_eq_getElem?_getD, List.getD_eq_getElem?_getD, List.getElem?_take_of_lt (by omega), List.getElem?_drop]
/-- The memory that was read to, and the document's own. -/
def RdM (s : MS) (t0 : S5) (a : Nat) (D : List UInt8) (N : Nat) (w w' : World) : Prop := ∃ t, Step5 w t0 w' t ∧ t.m = t0.m ∧ t.most = t0.most ∧ ∃ sh, Sim sh t.l ∧ sh.ts = t.ts ∧ PK s a D N sh
/-- What the slots of the region hold, whatever the order. -/
def phiRd19 (n q : Nat) (v : SV) (CW : Array Value) (rv bv : Int) : Nat → Value → World → Prop
  | 0, x, _ => x = .agg (SV.c v)
  | 1, x, _ => x = .int .i64 rv
  | 2, x, _ => x = .int .u32 rv
  | 3, x, _ => x = .agg (SV.c (ansV v rv bv))
  | 4, x, _ => x = .agg CW
  | 5, x, w => x = .bool true ∧ Blk w (q) (SV.c (ansV v rv bv)) 26
  | 6, x, w => x = .bool true ∧ Blk w (q + 1) (CW) 30
  | _ + 7, _, _ => True
theorem phiRd19_mono (n q : Nat) (v : SV) (CW : Array Value) (rv bv : Int) : ∀ i x w w', phiRd19 n q v CW rv bv i x w → RF [(q, Obj.cells (SV.c (ansV v rv bv)) 26 (0, 0)), (q + 1, Obj.cells (CW) 30 (0, 0))] w w' → phiRd19 n q v CW rv bv i x w'
  | 0, _, _, _, h, _ => h
  | 1, _, _, _, h, _ => h
  | 2, _, _, _, h, _ => h
  | 3, _, _, _, h, _ => h
  | 4, _, _, _, h, _ => h
  | 5, x, w, w', h, hb => ⟨h.1, hb.blk h.2 rf2_a⟩
  | 6, x, w, w', h, hb => ⟨h.1, hb.blk h.2 rf2_b⟩
  | _ + 7, _, _, _, _, _ => trivial
theorem lstRd19 : ∀ xs : List Value, xs.length = 7 → ∃ x0 x1 x2 x3 x4 x5 x6, xs = [x0, x1, x2, x3, x4, x5, x6]
  | [x0, x1, x2, x3, x4, x5, x6], _ => ⟨_, _, _, _, _, _, _, rfl⟩
set_option maxRecDepth 20000 in
set_option maxHeartbeats 3000000 in
theorem rread_yes_h (w : World) (s : MS) (t : S5) (hM : M5 w t) (hs : Sim s t.l) (hts : s.ts = t.ts) (htl : t.ts.length < 900000) (v : SV) (hv : v.ok) (inp : ByteArray) (a us : Nat) (ao : Option Addr) (cap : Nat) (ev : Value) (l : List Int) (hr : Rw w 1 (.slice ao l.length cap) l.length (cI l)) (he : ev.oneCell' = true) (hl : l.length ≤ 16384) (hsz : inp.size ≤ 16384) (hat : a ≤ inp.size) (hh : us < l.length) (hfd : v.R.getD 4 0 = 0) (hbig : ¬ 16384 < v.R.getD 6 0) (hmay : mayB s (v.R.getD 5 0).toNat (v.R.getD 6 0).toNat 2 = true) (h60 : v.R.getD 6 0 ≠ 0) : Calls Try.prog 41 #[.pointer (some ⟨t.m, 0, none⟩), .agg v.c, .agg (cwC inp (a : Int) (.slice ao l.length cap) (us : Int) ev)] w fun x w' => x = .returned (.tuple #[.agg (ansV v (takeN (v.R.getD 6 0) inp a us l) 0).c, .agg (cwC inp ((a : Int) + takeN (v.R.getD 6 0) inp a us l) (.slice ao l.length cap) (takeU us l) ev)]) ∧ RdM s t (v.R.getD 5 0).toNat (inp.extract a (a + (takeN (v.R.getD 6 0) inp a us l).toNat)).data.toList (takeN (v.R.getD 6 0) inp a us l).toNat w w' := by
  obtain ⟨n, hn⟩ : ∃ n, w.heap.size = n := ⟨_, rfl⟩
  obtain ⟨q, hq⟩ : ∃ q, n + 1 + 1 = q := ⟨_, rfl⟩
  have HV := hidden hv.1
  have HQ := hidden hq
  clear hq
  obtain ⟨r2, h2⟩ : ∃ r2 : Nat, v.R.getD 2 0 = (r2 : Int) := ⟨(v.R.getD 2 0).toNat, by have := (hv.2.1 2 (by omega)).1; omega⟩
  obtain ⟨r4, h4⟩ : ∃ r4 : Nat, v.R.getD 4 0 = (r4 : Int) := ⟨(v.R.getD 4 0).toNat, by have := (hv.2.1 4 (by omega)).1; omega⟩
  obtain ⟨r5, h5⟩ : ∃ r5 : Nat, v.R.getD 5 0 = (r5 : Int) := ⟨(v.R.getD 5 0).toNat, by have := (hv.2.1 5 (by omega)).1; omega⟩
  obtain ⟨r6, h6⟩ : ∃ r6 : Nat, v.R.getD 6 0 = (r6 : Int) := ⟨(v.R.getD 6 0).toNat, by have := (hv.2.1 6 (by omega)).1; omega⟩
  have l5 : r5 < 4294967296 := by have := (hv.2.1 5 (by omega)).2; omega
  have l6 : r6 < 4294967296 := by have := (hv.2.1 6 (by omega)).2; omega
  have H2 := hidden h2
  have H4 := hidden h4
  have H5 := hidden h5
  have H6 := hidden h6
  rw [h4] at hfd
  have f4 : ((r4 : Int) != 0) = false := by rw [bne_eq_false_iff_eq]; omega
  rw [h6] at hbig h60
  rw [h5, h6, Int.toNat_natCast, Int.toNat_natCast] at hmay
  have HTH : Hid (∀ u, Below w.heap.size w u → Calls Try.prog 68 #[.pointer (some ⟨t.m, 0, none⟩), .int .u32 (r5 : Int), .int .i64 (r6 : Int), .int .i64 2] u fun e w' => e = .returned (.bool (mayB s r5 r6 2)) ∧ ∃ k, w' = u.drewN k) := hidden (fun u hu => there_any u s t r5 r6 2 (hM.later hu) hs l5 (by omega))
  rw [hmay] at HTH
  have f6 : ((r6 : Int) == 0) = false := beq_eq_false_iff_ne.2 h60
  rw [h5, h6, Int.toNat_natCast]
  have hrg := takeN_range (show (0 : Int) ≤ (r6 : Int) by omega) inp a us l
  have hlv : leftV inp a = (inp.size : Int) - (a : Int) := by unfold leftV; rw [if_neg (by omega), if_neg (by omega)]
  have hlr := leftV_range inp (a : Int)
  obtain ⟨N, hN⟩ : ∃ N, takeN (r6 : Int) inp a us l = N := ⟨_, rfl⟩
  have hNu := hN
  rw [hN] at hrg ⊢
  obtain ⟨m, rfl⟩ : ∃ m : Nat, N = (m : Int) := ⟨N.toNat, by omega⟩
  rw [Int.toNat_natCast]
  unfold takeN at hNu
  have hhb : hasB (us : Int) l = true := by unfold hasB; rw [decide_eq_true (by omega), decide_eq_true (by omega)]; rfl
  have hU : takeU (us : Int) l = (us : Int) + 1 := by unfold takeU; rw [hhb]; rfl
  rw [hhb, if_pos rfl, Int.toNat_natCast, hlv] at hNu
  rw [hU]
  obtain ⟨b0, off, hao, hcl⟩ : ∃ b off, ao = some ⟨b, off, none⟩ ∧ ∀ u, Below w.heap.size w u → u.cell? ⟨b, off + us, none⟩ = some (.int .i64 (l.getD us 0)) := by
    obtain ⟨_, ao2, cap2, e, h⟩ := hr
    injection e with e1 e2 e3
    subst e1
    rcases h with h | ⟨b, off, e4, hlt, hc⟩
    · omega
    · refine ⟨b, off, e4, fun u hu => (hu.cell (p := ⟨b, off + us, none⟩) hlt).trans (hc us _ ?_)⟩
      unfold cI
      rw [List.getElem?_map, List.getElem?_eq_getElem hh, List.getD_eq_getElem?_getD, List.getElem?_eq_getElem hh]
      rfl
  subst hao
  obtain ⟨qv, hqv⟩ : ∃ qv, l.getD us 0 = qv := ⟨_, rfl⟩
  rw [hqv] at hcl hNu
  have HCL := hidden hcl
  have hix : ∀ u, (Instr.indexAt 27 (.slice (some ⟨b0, off, none⟩) l.length cap) (.int .i64 (us : Int))).run Try.prog u = .ok (.pointer (some ⟨b0, off + us, none⟩)) u := fun u => index_is2 b0 off l.length cap us hh u
  have hj0 : (us : Int) ≤ 16384 := by omega
  have hj1 : (0 : Int) ≤ (us : Int) := by omega
  have hju : (us : Int) < (l.length : Int) := by omega
  obtain ⟨L, hL⟩ : ∃ L, inp.size = L := ⟨_, rfl⟩
  rw [hL] at hNu hlv
  have hlen : ∀ u, (Builtin.len_ #[9] 3 #[.string inp]).run Try.prog u = .ok (.int .i64 (L : Int)) u := fun u => by
    rw [run_len_string u 9 3 inp (by kernel_rfl), hL]
    rfl
  obtain ⟨D, hD⟩ : ∃ D, (inp.extract a (a + m)).data.toList = D := ⟨_, rfl⟩
  have HDG : Hid (∀ k, k < m → D.getD k 0 = inp.data.toList.getD (a + k) 0 ∧ a + k < inp.size) := hidden (fun k hk => by
    rw [← hD]
    exact ⟨ext_get inp a k m hk (by omega), by omega⟩)
  rw [hD]
  have HR0 : Hid (0 ≤ (m : Int) ∧ (m : Int) < 4294967296) := hidden (by omega)
  have HBK := hidden (fun u => back_any v hv.1 (m : Int) 0 u)
  have hm0 : (m : Int) ≤ 16384 := by omega
  have hm1 : (0 : Int) ≤ (m : Int) := by omega
  have ha1 : (a : Int) ≤ (L : Int) := by omega
  have ha0 : (0 : Int) ≤ (a : Int) := by omega
  have hL0 : (L : Int) ≤ 16384 := by omega
  have H5L : Hid (r5 < 4294967296) := hidden l5
  have HTL : Hid (t.ts.length + m < 1000000) := hidden (by omega)
  have HC1 : Hid (∀ x y : Int, (cwC inp x (.slice (some ⟨b0, off, none⟩) l.length cap) y ev).all (·.oneCell') = true) := hidden (fun x y => cw_one rfl he)
  obtain ⟨mb, hmb⟩ : ∃ mb, t.m = mb := ⟨_, rfl⟩
  have HMB := hidden hmb
  have HTS := hidden hts
  have HS := hidden hs
  have hi4 : ∀ u, (Instr.indexAt 24 (.pointer (some ⟨n, 0, none⟩)) (.int .i64 4)).run Try.prog u = .ok (.pointer (some ⟨n, 4, none⟩)) u := fun u => index_reg n 4 (by omega) u
  have hi5 : ∀ u, (Instr.indexAt 24 (.pointer (some ⟨n, 0, none⟩)) (.int .i64 5)).run Try.prog u = .ok (.pointer (some ⟨n, 5, none⟩)) u := fun u => index_reg n 5 (by omega) u
  have hi6 : ∀ u, (Instr.indexAt 24 (.pointer (some ⟨n, 0, none⟩)) (.int .i64 6)).run Try.prog u = .ok (.pointer (some ⟨n, 6, none⟩)) u := fun u => index_reg n 6 (by omega) u
  obtain ⟨C, hC⟩ : ∃ C, v.c = C := ⟨_, rfl⟩
  rw [hC]
  have HC := hidden hC
  have HM5 := hidden hM
  rw [hmb] at HTH ⊢
  obtain ⟨CW, hCW⟩ : ∃ CW, cwC inp (a : Int) (.slice (some ⟨b0, off, none⟩) l.length cap) (us : Int) ev = CW := ⟨_, rfl⟩
  rw [hCW]
  have HCW := hidden hCW
  have HC5 : Hid (CW.size = 5) := hidden (by rw [← hCW]; rfl)
  obtain ⟨CX, hCX⟩ : ∃ CX, cwC inp ((a : Int) + (m : Int)) (.slice (some ⟨b0, off, none⟩) l.length cap) ((us : Int) + 1) ev = CX := ⟨_, rfl⟩
  have HCX := hidden hCX
  have HX5 : Hid (CX.size = 5) := hidden (by rw [← hCX]; rfl)
  have HX1 : Hid (CX.all (·.oneCell') = true) := hidden (by rw [← hCX]; exact HC1.out _ _)
  rw [hCX]
  clear hC hv h2 h4 h5 h6 hfd l5 hM hs hts htl hmay h60 hr he hl hsz hat hrg hlr hN hhb hU hD hL hmb hCW hCX hcl hqv hh
  go_enter Try.func41, Try.ntmps41
  go_upto_region 1 with (first
    | (refine wpList_boxG rfl 26 _ rfl C rfl ?_; rintro w1 k1 s1 b1; rw [hn] at k1 s1 b1 ⊢; have K1 : Hid (Blk w1 n v.c 26) := hidden (by rw [HC.out]; exact k1); have S1 := hidden s1; have B1 := hidden b1; clear k1 s1 b1)
    | (refine wpList_boxG rfl 30 _ rfl CW rfl ?_; rintro w2 k2 s2 b2; rw [S1.out] at k2 s2 b2 ⊢; have K2 := hidden k2; have S2 : Hid (w2.heap.size = q) := hidden (by rw [s2]; exact HQ.out); have B2 := hidden b2; clear k2 s2 b2)
    | (refine wpList_allocV rfl rfl ?_; rintro w3 k3 s3 b3; rw [S2.out] at k3 s3 b3 ⊢; have K3 := hidden k3; have S3 := hidden s3; have B3 := hidden b3; clear k3 s3 b3)
    | (refine wpList_allocCr rfl rfl ?_; rintro w4 k4 s4 b4; rw [S3.out] at k4 s4 b4 ⊢; have P := hidden (WB.mk4 (F := nought) hn HQ.out K1.out S1.out B1.out K2.out S2.out B2.out K3.out S3.out B3.out k4 b4); clear k4 s4 b4 K1 S1 B1 K2 S2 B2 K3 S3 B3; obtain ⟨c2, c4, c5, c6⟩ := P.out.regs HV.out H2.out H4.out H5.out H6.out))
  go_upto_region 10 with (go_at_call 68; refine (HTH.out _ P.out.bel).mono ?_; rintro x w5 ⟨rfl, k5, rfl⟩; clear c2 c4 c5 c6; have Q := hidden (P.out.later (below_drewN (Below.refl _ _) k5)); clear P; have P := Q; clear Q; obtain ⟨c2, c4, c5, c6⟩ := P.out.regs HV.out H2.out H4.out H5.out H6.out)
  have k4 := P.out.c
  rw [← HCW.out] at k4
  have d0 := k4.cell (j := 0) rfl
  have d1 := k4.cell (j := 1) rfl
  have d2 := k4.cell (j := 2) rfl
  have d3 := k4.cell (j := 3) rfl
  have cq := HCL.out _ P.out.bel
  clear k4
  go_upto_region 13 with fail
  try rw [hNu]
  clear d0 d1 d2 cq
  go_upto_region 14 with (first
    | (refine wpList_storeC rfl rfl 3 _ _ rfl (n + 1) 3 CW 30 (.int .i64 ((us : Int) + 1)) rfl rfl rfl sizeI1 P.out.c (by rw [HC5.out]; decide) ?_; rintro w6 k6 o6; have PP : Hid (WQ t w n q v (cwC inp (a : Int) (.slice (some ⟨b0, off, none⟩) l.length cap) ((us : Int) + 1) ev) w6 t) := hidden ((WQ.mk0 HM5.out P.out).putW o6 (by rw [← HCW.out] at k6; exact k6)); clear k6 o6 P d3 c2 c4 c5 c6))
  have HP0 := PP
  clear PP
  go_wp2
  go_loopw [9] (fun x9 wr => ∃ (k : Nat) (t' : S5), k ≤ m ∧ x9 = .int .i64 (k : Int) ∧ WQ t w n q v (cwC inp (a : Int) (.slice (some ⟨b0, off, none⟩) l.length cap) ((us : Int) + 1) ev) wr t' ∧ t'.m = mb ∧ t'.most = t.most ∧ ∃ sh, Sim sh t'.l ∧ sh.ts = t'.ts ∧ PK s r5 D k sh) (fun x9 _ => m - (intOf x9).toNat)
  case atStart => exact ⟨0, t, by omega, rfl, HP0.out, HMB.out, rfl, s, HS.out, HTS.out, PK.zero s r5 _⟩
  case round =>
    obtain ⟨k, t', hk, rfl, hwp, hmb2, hmo2, sh, hsim, hts2, hpk⟩ := hrel
    have P := hidden hwp
    have PKH := hidden hpk
    have HTB := hidden hmb2
    have HMO := hidden hmo2
    have HSI := hidden hsim
    have HT2 := hidden hts2
    have hk0 : (k : Int) ≤ 16384 := by omega
    have hkn : (0 : Int) ≤ (k : Int) := by omega
    clear hwp hpk HP0 hmb2 hmo2 hsim hts2
    by_cases hlt : k < m
    · have hl : (k : Int) < (m : Int) := by omega
      obtain ⟨b, hb⟩ : ∃ b : Nat, ((r5 : Int) + (k : Int)) % 4294967296 = (b : Int) := ⟨(r5 + k) % 4294967296, by have := H5L.out; omega⟩
      have HB : Hid (wrapAt r5 k = b) := hidden (by unfold wrapAt; omega)
      have HBL : Hid (b < 4294967296) := hidden (by omega)
      have hxs : ∀ u, (Instr.index 9 (.string inp) (.int .i64 ((a : Int) + (k : Int)))).run Try.prog u = .ok (.int .u8 ((D.getD k 0).toNat : Int)) u := fun u => by
        rw [(HDG.out k hlt).1, ← index_str inp (a + k) (HDG.out k hlt).2 u, Int.natCast_add]
      obtain ⟨bt, hbt⟩ : ∃ bt, D.getD k 0 = bt := ⟨_, rfl⟩
      rw [hbt] at hxs
      have HBT := hidden hbt
      have HLT : Hid (t'.ts.length < 1000000) := hidden (by
        rw [← HT2.out, PKH.out.ts, List.length_append]
        have h1 := List.length_filter_le (fun b => s.watched b) ((List.range k).map (wrapAt r5))
        rw [List.length_map, List.length_range] at h1
        have h2 := HTL.out
        rw [← HTS.out] at h2
        omega)
      have HPO := hidden (fun (u : World) (hu : M5 u t') => poke5_any u t' hu b bt HBL.out HLT.out)
      rw [HTB.out] at HPO
      have c5 := P.out.wb.s.cell (SV.getR HV.out (show 5 < 32 by decide))
      rw [H5.out] at c5
      have d0 := P.out.wb.c.cell (j := 0) rfl
      have d1 := P.out.wb.c.cell (j := 1) rfl
      clear hbt
      go_upto_region 17 with fail
      refine wp_region_tail 14 (by kernel_rfl) (by kernel_rfl) ?_
      simp only [List.take_succ_cons, List.take_zero, List.drop_succ_cons, List.drop_zero]
      repeat (go_big_quiet_step (fail))
      refine wpQuiet_nil ?_
      rintro _ ⟨nq, rfl⟩
      go_wp2_with (first
        | (go_at_call 32; refine (HPO.out _ (P.out.mem.drewN nq)).mono ?_; rintro e w9 ⟨rfl, t2, hst, hm2, hmo3, hl2, hts3⟩; have P9 := hidden ((P.out.later (below_drewN (Below.refl _ _) nq)).step hst); have M2 := hidden hm2; have MO3 := hidden hmo3; have L2 := hidden hl2; have T3 := hidden hts3; clear hst c5 d0 d1 HPO hm2 hmo3 hl2 hts3))
      go_roundw
      case rel => first | exact ⟨k + 1, t2, by omega, by first | rfl | simp, P9.out, M2.out.trans (by first | exact HTB.out | rfl), MO3.out.trans HMO.out, sh.pokeAt b bt (.slice none 0 0), by rw [L2.out]; exact HSI.out.poke b bt _, by rw [T3.out, HSI.out.touch b bt, HT2.out], by have h := PKH.out.next (.slice none 0 0); rw [HB.out, HBT.out] at h; exact h⟩ | ((repeat apply Exists.intro); refine ⟨?_, rfl⟩; exact ⟨k + 1, t2, by omega, by first | rfl | simp, P9.out, M2.out.trans (by first | exact HTB.out | rfl), MO3.out.trans HMO.out, sh.pokeAt b bt (.slice none 0 0), by rw [L2.out]; exact HSI.out.poke b bt _, by rw [T3.out, HSI.out.touch b bt, HT2.out], by have h := PKH.out.next (.slice none 0 0); rw [HB.out, HBT.out] at h; exact h⟩)
      case measure => simp [intOf]; omega
    · have hl : ¬ (k : Int) < (m : Int) := by omega
      obtain rfl : k = m := by omega
      have d1 := P.out.wb.c.cell (j := 1) rfl
      go_upto_region 19 with (first
        | (refine wpList_storeC rfl rfl 3 _ _ rfl (n + 1) 1 (cwC inp (a : Int) (.slice (some ⟨b0, off, none⟩) l.length cap) ((us : Int) + 1) ev) 30 (.int .i64 ((a : Int) + (k : Int))) rfl rfl rfl sizeI1 P.out.wb.c (show 1 < 5 by decide) ?_; rintro w9 k9 o9; have P9 : Hid (WQ t w n q v CX w9 t') := hidden (P.out.putW o9 (by rw [← HCX.out]; exact k9)); clear k9 o9 P d1; have P := P9; clear P9))
      have KS := hidden P.out.wb.s
      have KW := hidden P.out.wb.c
      have QS := hidden P.out.wb.rs
      have QW := hidden P.out.wb.rw
      have PQ := P.out.wb.hq
      have hW5 := HX5.out
      refine wp_region_on (later_rf [(q, Obj.cells (SV.c (ansV v (k : Int) 0)) 26 (0, 0)), (q + 1, Obj.cells (CX) 30 (0, 0))]) [97, 98, 99, 100, 101, 1005, 1006] 7 (phiRd19 n q v CX (k : Int) 0) (by kernel_rfl) (by kernel_rfl) rfl rfl (phiRd19_mono n q v CX (k : Int) 0) ?_ ?_
      · intro j hj xs w3 hxs hR hpre
        obtain ⟨x0, x1, x2, x3, x4, x5, x6, rfl⟩ := lstRd19 xs hxs
        have hS : Blk w3 (n) (SV.c v) 26 := hR.blk KS.out (rf2_no (by omega) (by omega))
        have hW : Blk w3 (n + 1) CX 30 := hR.blk KW.out (rf2_no (by omega) (by omega))
        have hA := hR.some ⟨_, SV.size (s := SV.zero) rfl, QS.out⟩ (rf2_s1 (SV.size (ansV_len HV.out (k : Int) 0)))
        have hB := hR.some (n := 5) ⟨_, (show zCw.size = 5 from rfl), QW.out⟩ (rf2_s2 hW5)
        rcases (show j = 0 ∨ j = 1 ∨ j = 2 ∨ j = 3 ∨ j = 4 ∨ j = 5 ∨ j = 6 by omega) with rfl | rfl | rfl | rfl | rfl | rfl | rfl
        · exact wpOp_run (.agg (SV.c v)) rfl (by kernel_rfl) (exec_load 26 rfl (by kernel_rfl) w3 (loadSt hS HV.out)) ⟨_, by kernel_rfl, rfl, (later_rf _).refl _⟩
        · exact wpOp_run (.int .i64 (k : Int)) rfl (by kernel_rfl) (by kernel_rfl) ⟨_, by kernel_rfl, rfl, (later_rf _).refl _⟩
        · have e1 : x1 = .int .i64 (k : Int) := hpre 1 (by kernel_rfl)
          subst e1
          exact wpOp_run (.int .u32 (k : Int)) rfl (by kernel_rfl) (exec_cv rfl (by kernel_rfl) HR0.out.1 HR0.out.2 w3) ⟨_, by kernel_rfl, rfl, (later_rf _).refl _⟩
        · have e0 : x0 = .agg (SV.c v) := hpre 0 (by kernel_rfl)
          subst e0
          have e2 : x2 = .int .u32 (k : Int) := hpre 2 (by kernel_rfl)
          subst e2
          refine wpOp_callR (R := fun u w4 => u = .agg (SV.c (ansV v (k : Int) 0)) ∧ Below w3.heap.size w3 w4) 43 #[.agg (SV.c v), .int .u32 (k : Int), .int .u32 0] rfl (by kernel_rfl) (by kernel_rfl) ((HBK.out w3).mono fun e w4 h => ⟨_, h.1, rfl, h.2⟩) ?_
          rintro _ w4 ⟨rfl, hb⟩
          exact ⟨_, by kernel_rfl, rfl, RF.of_below hb⟩
        · exact wpOp_run (.agg CX) rfl (by kernel_rfl) (exec_load 30 rfl (by kernel_rfl) w3 (loadCrR hW hW5)) ⟨_, by kernel_rfl, rfl, (later_rf _).refl _⟩
        · have e3 : x3 = .agg (SV.c (ansV v (k : Int) 0)) := hpre 3 (by kernel_rfl)
          subst e3
          obtain ⟨old, hs1, hs2⟩ := hA
          exact wpOp_put rfl (by kernel_rfl) (exec_storeG (g := q) (cs := SV.c (ansV v (k : Int) 0)) (old := old) rfl (by kernel_rfl) (by kernel_rfl) w3 hs2 (by rw [SV.size (ansV_len HV.out (k : Int) 0)]; exact sizeSV) (by rw [hs1, SV.size (ansV_len HV.out (k : Int) 0)]) (SV.one _)) ⟨.bool true, by kernel_rfl, ⟨rfl, setRow_heap w3 (q) old _ 26 (0, 0) hs2⟩, RF.of_only (only_rowV w3 (q) _) (setRow_heap w3 (q) old _ 26 (0, 0) hs2) rf2_m1⟩
        · have e4 : x4 = .agg CX := hpre 4 (by kernel_rfl)
          subst e4
          obtain ⟨old, hs1, hs2⟩ := hB
          exact wpOp_put rfl (by kernel_rfl) (exec_storeG (g := q + 1) (cs := CX) (old := old) rfl (by kernel_rfl) (by kernel_rfl) w3 hs2 (by rw [hW5]; exact sizeCr) (by rw [hs1, hW5]) HX1.out) ⟨.bool true, by kernel_rfl, ⟨rfl, setRow_heap w3 (q + 1) old _ 30 (0, 0) hs2⟩, RF.of_only (only_rowV w3 (q + 1) _) (setRow_heap w3 (q + 1) old _ 30 (0, 0) hs2) rf2_m2⟩
      · intro xs w3 hxs hR hall
        obtain ⟨x0, x1, x2, x3, x4, x5, x6, rfl⟩ := lstRd19 xs hxs
        obtain ⟨_, kA⟩ : x5 = .bool true ∧ Blk w3 (q) (SV.c (ansV v (k : Int) 0)) 26 := hall 5 (by omega)
        obtain ⟨_, kB⟩ : x6 = .bool true ∧ Blk w3 (q + 1) (CX) 30 := hall 6 (by omega)
        have RA := hidden kA
        have RB := hidden kB
        have HRF := hidden hR
        have SE := hidden (P.out.fin HRF.out)
        clear hR hall hxs kA kB HRF P KS KW QS QW
        simp only [slotsOn, putAll]
        go_wp2
        refine bodyPost_ret (results_cc rfl _ _ q (q + 1) _ _ (by kernel_rfl) (by kernel_rfl) (loadSt RA.out (ansV_len HV.out (k : Int) 0)) (loadCrR RB.out HX5.out)) rfl ⟨by first | rfl | (rw [← HC.out]; rfl), t', SE.out, HTB.out.trans HMB.out.symm, HMO.out, sh, HSI.out, HT2.out, PKH.out⟩
end Go.Proofs.Ytodoenimlhldjaa
namespace Go.Proofs.Ytodoenimlhldjaa
open Go.ChangeShapes Go.WideShapes Go.ChangeAt Go.RowKit
set_option linter.unusedVariables false
set_option maxRecDepth 20000 in
set_option maxHeartbeats 3000000 in
theorem rread_yes_n (w : World) (s : MS) (t : S5) (hM : M5 w t) (hs : Sim s t.l) (hts : s.ts = t.ts) (htl : t.ts.length < 900000) (v : SV) (hv : v.ok) (inp : ByteArray) (a us : Nat) (ao : Option Addr) (cap : Nat) (ev : Value) (l : List Int) (hr : Rw w 1 (.slice ao l.length cap) l.length (cI l)) (he : ev.oneCell' = true) (hl : l.length ≤ 16384) (hsz : inp.size ≤ 16384) (hat : a ≤ inp.size) (hh : us = l.length) (hfd : v.R.getD 4 0 = 0) (hbig : ¬ 16384 < v.R.getD 6 0) (hmay : mayB s (v.R.getD 5 0).toNat (v.R.getD 6 0).toNat 2 = true) (h60 : v.R.getD 6 0 ≠ 0) : Calls Try.prog 41 #[.pointer (some ⟨t.m, 0, none⟩), .agg v.c, .agg (cwC inp (a : Int) (.slice ao l.length cap) (us : Int) ev)] w fun x w' => x = .returned (.tuple #[.agg (ansV v (takeN (v.R.getD 6 0) inp a us l) 0).c, .agg (cwC inp ((a : Int) + takeN (v.R.getD 6 0) inp a us l) (.slice ao l.length cap) (takeU us l) ev)]) ∧ RdM s t (v.R.getD 5 0).toNat (inp.extract a (a + (takeN (v.R.getD 6 0) inp a us l).toNat)).data.toList (takeN (v.R.getD 6 0) inp a us l).toNat w w' := by
  obtain ⟨n, hn⟩ : ∃ n, w.heap.size = n := ⟨_, rfl⟩
  obtain ⟨q, hq⟩ : ∃ q, n + 1 + 1 = q := ⟨_, rfl⟩
  have HV := hidden hv.1
  have HQ := hidden hq
  clear hq
  obtain ⟨r2, h2⟩ : ∃ r2 : Nat, v.R.getD 2 0 = (r2 : Int) := ⟨(v.R.getD 2 0).toNat, by have := (hv.2.1 2 (by omega)).1; omega⟩
  obtain ⟨r4, h4⟩ : ∃ r4 : Nat, v.R.getD 4 0 = (r4 : Int) := ⟨(v.R.getD 4 0).toNat, by have := (hv.2.1 4 (by omega)).1; omega⟩
  obtain ⟨r5, h5⟩ : ∃ r5 : Nat, v.R.getD 5 0 = (r5 : Int) := ⟨(v.R.getD 5 0).toNat, by have := (hv.2.1 5 (by omega)).1; omega⟩
  obtain ⟨r6, h6⟩ : ∃ r6 : Nat, v.R.getD 6 0 = (r6 : Int) := ⟨(v.R.getD 6 0).toNat, by have := (hv.2.1 6 (by omega)).1; omega⟩
  have l5 : r5 < 4294967296 := by have := (hv.2.1 5 (by omega)).2; omega
  have l6 : r6 < 4294967296 := by have := (hv.2.1 6 (by omega)).2; omega
  have H2 := hidden h2
  have H4 := hidden h4
  have H5 := hidden h5
  have H6 := hidden h6
  rw [h4] at hfd
  have f4 : ((r4 : Int) != 0) = false := by rw [bne_eq_false_iff_eq]; omega
  rw [h6] at hbig h60
  rw [h5, h6, Int.toNat_natCast, Int.toNat_natCast] at hmay
  have HTH : Hid (∀ u, Below w.heap.size w u → Calls Try.prog 68 #[.pointer (some ⟨t.m, 0, none⟩), .int .u32 (r5 : Int), .int .i64 (r6 : Int), .int .i64 2] u fun e w' => e = .returned (.bool (mayB s r5 r6 2)) ∧ ∃ k, w' = u.drewN k) := hidden (fun u hu => there_any u s t r5 r6 2 (hM.later hu) hs l5 (by omega))
  rw [hmay] at HTH
  have f6 : ((r6 : Int) == 0) = false := beq_eq_false_iff_ne.2 h60
  rw [h5, h6, Int.toNat_natCast]
  have hrg := takeN_range (show (0 : Int) ≤ (r6 : Int) by omega) inp a us l
  have hlv : leftV inp a = (inp.size : Int) - (a : Int) := by unfold leftV; rw [if_neg (by omega), if_neg (by omega)]
  have hlr := leftV_range inp (a : Int)
  obtain ⟨N, hN⟩ : ∃ N, takeN (r6 : Int) inp a us l = N := ⟨_, rfl⟩
  have hNu := hN
  rw [hN] at hrg ⊢
  obtain ⟨m, rfl⟩ : ∃ m : Nat, N = (m : Int) := ⟨N.toNat, by omega⟩
  rw [Int.toNat_natCast]
  unfold takeN at hNu
  have hhb : hasB (us : Int) l = false := by unfold hasB; rw [decide_eq_false (p := (us : Int) < (l.length : Int)) (by omega), Bool.and_false]
  have hU : takeU (us : Int) l = (us : Int) := by unfold takeU; rw [hhb]; rfl
  rw [hhb, if_neg (by decide), hlv] at hNu
  rw [hU]
  have hju : ¬ (us : Int) < (l.length : Int) := by omega
  have HDN : Hid (decide (us < l.length) = false) := hidden (decide_eq_false (by omega))
  obtain ⟨L, hL⟩ : ∃ L, inp.size = L := ⟨_, rfl⟩
  rw [hL] at hNu hlv
  have hlen : ∀ u, (Builtin.len_ #[9] 3 #[.string inp]).run Try.prog u = .ok (.int .i64 (L : Int)) u := fun u => by
    rw [run_len_string u 9 3 inp (by kernel_rfl), hL]
    rfl
  obtain ⟨D, hD⟩ : ∃ D, (inp.extract a (a + m)).data.toList = D := ⟨_, rfl⟩
  have HDG : Hid (∀ k, k < m → D.getD k 0 = inp.data.toList.getD (a + k) 0 ∧ a + k < inp.size) := hidden (fun k hk => by
    rw [← hD]
    exact ⟨ext_get inp a k m hk (by omega), by omega⟩)
  rw [hD]
  have HR0 : Hid (0 ≤ (m : Int) ∧ (m : Int) < 4294967296) := hidden (by omega)
  have HBK := hidden (fun u => back_any v hv.1 (m : Int) 0 u)
  have hm0 : (m : Int) ≤ 16384 := by omega
  have hm1 : (0 : Int) ≤ (m : Int) := by omega
  have ha1 : (a : Int) ≤ (L : Int) := by omega
  have ha0 : (0 : Int) ≤ (a : Int) := by omega
  have hL0 : (L : Int) ≤ 16384 := by omega
  have H5L : Hid (r5 < 4294967296) := hidden l5
  have HTL : Hid (t.ts.length + m < 1000000) := hidden (by omega)
  have HC1 : Hid (∀ x y : Int, (cwC inp x (.slice ao l.length cap) y ev).all (·.oneCell') = true) := hidden (fun x y => cw_one rfl he)
  obtain ⟨mb, hmb⟩ : ∃ mb, t.m = mb := ⟨_, rfl⟩
  have HMB := hidden hmb
  have HTS := hidden hts
  have HS := hidden hs
  have hi4 : ∀ u, (Instr.indexAt 24 (.pointer (some ⟨n, 0, none⟩)) (.int .i64 4)).run Try.prog u = .ok (.pointer (some ⟨n, 4, none⟩)) u := fun u => index_reg n 4 (by omega) u
  have hi5 : ∀ u, (Instr.indexAt 24 (.pointer (some ⟨n, 0, none⟩)) (.int .i64 5)).run Try.prog u = .ok (.pointer (some ⟨n, 5, none⟩)) u := fun u => index_reg n 5 (by omega) u
  have hi6 : ∀ u, (Instr.indexAt 24 (.pointer (some ⟨n, 0, none⟩)) (.int .i64 6)).run Try.prog u = .ok (.pointer (some ⟨n, 6, none⟩)) u := fun u => index_reg n 6 (by omega) u
  obtain ⟨C, hC⟩ : ∃ C, v.c = C := ⟨_, rfl⟩
  rw [hC]
  have HC := hidden hC
  have HM5 := hidden hM
  rw [hmb] at HTH ⊢
  obtain ⟨CW, hCW⟩ : ∃ CW, cwC inp (a : Int) (.slice ao l.length cap) (us : Int) ev = CW := ⟨_, rfl⟩
  rw [hCW]
  have HCW := hidden hCW
  have HC5 : Hid (CW.size = 5) := hidden (by rw [← hCW]; rfl)
  obtain ⟨CX, hCX⟩ : ∃ CX, cwC inp ((a : Int) + (m : Int)) (.slice ao l.length cap) (us : Int) ev = CX := ⟨_, rfl⟩
  have HCX := hidden hCX
  have HX5 : Hid (CX.size = 5) := hidden (by rw [← hCX]; rfl)
  have HX1 : Hid (CX.all (·.oneCell') = true) := hidden (by rw [← hCX]; exact HC1.out _ _)
  rw [hCX]
  clear hC hv h2 h4 h5 h6 hfd l5 hM hs hts htl hmay h60 hr he hl hsz hat hrg hlr hN hhb hU hD hL hmb hCW hCX hh
  go_enter Try.func41, Try.ntmps41
  go_upto_region 1 with (first
    | (refine wpList_boxG rfl 26 _ rfl C rfl ?_; rintro w1 k1 s1 b1; rw [hn] at k1 s1 b1 ⊢; have K1 : Hid (Blk w1 n v.c 26) := hidden (by rw [HC.out]; exact k1); have S1 := hidden s1; have B1 := hidden b1; clear k1 s1 b1)
    | (refine wpList_boxG rfl 30 _ rfl CW rfl ?_; rintro w2 k2 s2 b2; rw [S1.out] at k2 s2 b2 ⊢; have K2 := hidden k2; have S2 : Hid (w2.heap.size = q) := hidden (by rw [s2]; exact HQ.out); have B2 := hidden b2; clear k2 s2 b2)
    | (refine wpList_allocV rfl rfl ?_; rintro w3 k3 s3 b3; rw [S2.out] at k3 s3 b3 ⊢; have K3 := hidden k3; have S3 := hidden s3; have B3 := hidden b3; clear k3 s3 b3)
    | (refine wpList_allocCr rfl rfl ?_; rintro w4 k4 s4 b4; rw [S3.out] at k4 s4 b4 ⊢; have P := hidden (WB.mk4 (F := nought) hn HQ.out K1.out S1.out B1.out K2.out S2.out B2.out K3.out S3.out B3.out k4 b4); clear k4 s4 b4 K1 S1 B1 K2 S2 B2 K3 S3 B3; obtain ⟨c2, c4, c5, c6⟩ := P.out.regs HV.out H2.out H4.out H5.out H6.out))
  go_upto_region 10 with (go_at_call 68; refine (HTH.out _ P.out.bel).mono ?_; rintro x w5 ⟨rfl, k5, rfl⟩; clear c2 c4 c5 c6; have Q := hidden (P.out.later (below_drewN (Below.refl _ _) k5)); clear P; have P := Q; clear Q; obtain ⟨c2, c4, c5, c6⟩ := P.out.regs HV.out H2.out H4.out H5.out H6.out)
  have k4 := P.out.c
  rw [← HCW.out] at k4
  have d0 := k4.cell (j := 0) rfl
  have d1 := k4.cell (j := 1) rfl
  have d2 := k4.cell (j := 2) rfl
  have d3 := k4.cell (j := 3) rfl
  clear k4
  go_upto_region 14 with fail
  try rw [hNu]
  try rw [HDN.out]
  clear d0 d1 d2 d3 c2 c4 c5 c6
  have PP := hidden (WQ.mk0 HM5.out P.out)
  rw [← HCW.out] at PP
  clear P
  have HP0 := PP
  clear PP
  go_wp2
  go_loopw [9] (fun x9 wr => ∃ (k : Nat) (t' : S5), k ≤ m ∧ x9 = .int .i64 (k : Int) ∧ WQ t w n q v (cwC inp (a : Int) (.slice ao l.length cap) (us : Int) ev) wr t' ∧ t'.m = mb ∧ t'.most = t.most ∧ ∃ sh, Sim sh t'.l ∧ sh.ts = t'.ts ∧ PK s r5 D k sh) (fun x9 _ => m - (intOf x9).toNat)
  case atStart => exact ⟨0, t, by omega, rfl, HP0.out, HMB.out, rfl, s, HS.out, HTS.out, PK.zero s r5 _⟩
  case round =>
    obtain ⟨k, t', hk, rfl, hwp, hmb2, hmo2, sh, hsim, hts2, hpk⟩ := hrel
    have P := hidden hwp
    have PKH := hidden hpk
    have HTB := hidden hmb2
    have HMO := hidden hmo2
    have HSI := hidden hsim
    have HT2 := hidden hts2
    have hk0 : (k : Int) ≤ 16384 := by omega
    have hkn : (0 : Int) ≤ (k : Int) := by omega
    clear hwp hpk HP0 hmb2 hmo2 hsim hts2
    by_cases hlt : k < m
    · have hl : (k : Int) < (m : Int) := by omega
      obtain ⟨b, hb⟩ : ∃ b : Nat, ((r5 : Int) + (k : Int)) % 4294967296 = (b : Int) := ⟨(r5 + k) % 4294967296, by have := H5L.out; omega⟩
      have HB : Hid (wrapAt r5 k = b) := hidden (by unfold wrapAt; omega)
      have HBL : Hid (b < 4294967296) := hidden (by omega)
      have hxs : ∀ u, (Instr.index 9 (.string inp) (.int .i64 ((a : Int) + (k : Int)))).run Try.prog u = .ok (.int .u8 ((D.getD k 0).toNat : Int)) u := fun u => by
        rw [(HDG.out k hlt).1, ← index_str inp (a + k) (HDG.out k hlt).2 u, Int.natCast_add]
      obtain ⟨bt, hbt⟩ : ∃ bt, D.getD k 0 = bt := ⟨_, rfl⟩
      rw [hbt] at hxs
      have HBT := hidden hbt
      have HLT : Hid (t'.ts.length < 1000000) := hidden (by
        rw [← HT2.out, PKH.out.ts, List.length_append]
        have h1 := List.length_filter_le (fun b => s.watched b) ((List.range k).map (wrapAt r5))
        rw [List.length_map, List.length_range] at h1
        have h2 := HTL.out
        rw [← HTS.out] at h2
        omega)
      have HPO := hidden (fun (u : World) (hu : M5 u t') => poke5_any u t' hu b bt HBL.out HLT.out)
      rw [HTB.out] at HPO
      have c5 := P.out.wb.s.cell (SV.getR HV.out (show 5 < 32 by decide))
      rw [H5.out] at c5
      have d0 := P.out.wb.c.cell (j := 0) rfl
      have d1 := P.out.wb.c.cell (j := 1) rfl
      clear hbt
      go_upto_region 17 with fail
      refine wp_region_tail 14 (by kernel_rfl) (by kernel_rfl) ?_
      simp only [List.take_succ_cons, List.take_zero, List.drop_succ_cons, List.drop_zero]
      repeat (go_big_quiet_step (fail))
      refine wpQuiet_nil ?_
      rintro _ ⟨nq, rfl⟩
      go_wp2_with (first
        | (go_at_call 32; refine (HPO.out _ (P.out.mem.drewN nq)).mono ?_; rintro e w9 ⟨rfl, t2, hst, hm2, hmo3, hl2, hts3⟩; have P9 := hidden ((P.out.later (below_drewN (Below.refl _ _) nq)).step hst); have M2 := hidden hm2; have MO3 := hidden hmo3; have L2 := hidden hl2; have T3 := hidden hts3; clear hst c5 d0 d1 HPO hm2 hmo3 hl2 hts3))
      go_roundw
      case rel => first | exact ⟨k + 1, t2, by omega, by first | rfl | simp, P9.out, M2.out.trans (by first | exact HTB.out | rfl), MO3.out.trans HMO.out, sh.pokeAt b bt (.slice none 0 0), by rw [L2.out]; exact HSI.out.poke b bt _, by rw [T3.out, HSI.out.touch b bt, HT2.out], by have h := PKH.out.next (.slice none 0 0); rw [HB.out, HBT.out] at h; exact h⟩ | ((repeat apply Exists.intro); refine ⟨?_, rfl⟩; exact ⟨k + 1, t2, by omega, by first | rfl | simp, P9.out, M2.out.trans (by first | exact HTB.out | rfl), MO3.out.trans HMO.out, sh.pokeAt b bt (.slice none 0 0), by rw [L2.out]; exact HSI.out.poke b bt _, by rw [T3.out, HSI.out.touch b bt, HT2.out], by have h := PKH.out.next (.slice none 0 0); rw [HB.out, HBT.out] at h; exact h⟩)
      case measure => simp [intOf]; omega
    · have hl : ¬ (k : Int) < (m : Int) := by omega
      obtain rfl : k = m := by omega
      have d1 := P.out.wb.c.cell (j := 1) rfl
      go_upto_region 19 with (first
        | (refine wpList_storeC rfl rfl 3 _ _ rfl (n + 1) 1 (cwC inp (a : Int) (.slice ao l.length cap) (us : Int) ev) 30 (.int .i64 ((a : Int) + (k : Int))) rfl rfl rfl sizeI1 P.out.wb.c (show 1 < 5 by decide) ?_; rintro w9 k9 o9; have P9 : Hid (WQ t w n q v CX w9 t') := hidden (P.out.putW o9 (by rw [← HCX.out]; exact k9)); clear k9 o9 P d1; have P := P9; clear P9))
      have KS := hidden P.out.wb.s
      have KW := hidden P.out.wb.c
      have QS := hidden P.out.wb.rs
      have QW := hidden P.out.wb.rw
      have PQ := P.out.wb.hq
      have hW5 := HX5.out
      refine wp_region_on (later_rf [(q, Obj.cells (SV.c (ansV v (k : Int) 0)) 26 (0, 0)), (q + 1, Obj.cells (CX) 30 (0, 0))]) [97, 98, 99, 100, 101, 1005, 1006] 7 (phiRd19 n q v CX (k : Int) 0) (by kernel_rfl) (by kernel_rfl) rfl rfl (phiRd19_mono n q v CX (k : Int) 0) ?_ ?_
      · intro j hj xs w3 hxs hR hpre
        obtain ⟨x0, x1, x2, x3, x4, x5, x6, rfl⟩ := lstRd19 xs hxs
        have hS : Blk w3 (n) (SV.c v) 26 := hR.blk KS.out (rf2_no (by omega) (by omega))
        have hW : Blk w3 (n + 1) CX 30 := hR.blk KW.out (rf2_no (by omega) (by omega))
        have hA := hR.some ⟨_, SV.size (s := SV.zero) rfl, QS.out⟩ (rf2_s1 (SV.size (ansV_len HV.out (k : Int) 0)))
        have hB := hR.some (n := 5) ⟨_, (show zCw.size = 5 from rfl), QW.out⟩ (rf2_s2 hW5)
        rcases (show j = 0 ∨ j = 1 ∨ j = 2 ∨ j = 3 ∨ j = 4 ∨ j = 5 ∨ j = 6 by omega) with rfl | rfl | rfl | rfl | rfl | rfl | rfl
        · exact wpOp_run (.agg (SV.c v)) rfl (by kernel_rfl) (exec_load 26 rfl (by kernel_rfl) w3 (loadSt hS HV.out)) ⟨_, by kernel_rfl, rfl, (later_rf _).refl _⟩
        · exact wpOp_run (.int .i64 (k : Int)) rfl (by kernel_rfl) (by kernel_rfl) ⟨_, by kernel_rfl, rfl, (later_rf _).refl _⟩
        · have e1 : x1 = .int .i64 (k : Int) := hpre 1 (by kernel_rfl)
          subst e1
          exact wpOp_run (.int .u32 (k : Int)) rfl (by kernel_rfl) (exec_cv rfl (by kernel_rfl) HR0.out.1 HR0.out.2 w3) ⟨_, by kernel_rfl, rfl, (later_rf _).refl _⟩
        · have e0 : x0 = .agg (SV.c v) := hpre 0 (by kernel_rfl)
          subst e0
          have e2 : x2 = .int .u32 (k : Int) := hpre 2 (by kernel_rfl)
          subst e2
          refine wpOp_callR (R := fun u w4 => u = .agg (SV.c (ansV v (k : Int) 0)) ∧ Below w3.heap.size w3 w4) 43 #[.agg (SV.c v), .int .u32 (k : Int), .int .u32 0] rfl (by kernel_rfl) (by kernel_rfl) ((HBK.out w3).mono fun e w4 h => ⟨_, h.1, rfl, h.2⟩) ?_
          rintro _ w4 ⟨rfl, hb⟩
          exact ⟨_, by kernel_rfl, rfl, RF.of_below hb⟩
        · exact wpOp_run (.agg CX) rfl (by kernel_rfl) (exec_load 30 rfl (by kernel_rfl) w3 (loadCrR hW hW5)) ⟨_, by kernel_rfl, rfl, (later_rf _).refl _⟩
        · have e3 : x3 = .agg (SV.c (ansV v (k : Int) 0)) := hpre 3 (by kernel_rfl)
          subst e3
          obtain ⟨old, hs1, hs2⟩ := hA
          exact wpOp_put rfl (by kernel_rfl) (exec_storeG (g := q) (cs := SV.c (ansV v (k : Int) 0)) (old := old) rfl (by kernel_rfl) (by kernel_rfl) w3 hs2 (by rw [SV.size (ansV_len HV.out (k : Int) 0)]; exact sizeSV) (by rw [hs1, SV.size (ansV_len HV.out (k : Int) 0)]) (SV.one _)) ⟨.bool true, by kernel_rfl, ⟨rfl, setRow_heap w3 (q) old _ 26 (0, 0) hs2⟩, RF.of_only (only_rowV w3 (q) _) (setRow_heap w3 (q) old _ 26 (0, 0) hs2) rf2_m1⟩
        · have e4 : x4 = .agg CX := hpre 4 (by kernel_rfl)
          subst e4
          obtain ⟨old, hs1, hs2⟩ := hB
          exact wpOp_put rfl (by kernel_rfl) (exec_storeG (g := q + 1) (cs := CX) (old := old) rfl (by kernel_rfl) (by kernel_rfl) w3 hs2 (by rw [hW5]; exact sizeCr) (by rw [hs1, hW5]) HX1.out) ⟨.bool true, by kernel_rfl, ⟨rfl, setRow_heap w3 (q + 1) old _ 30 (0, 0) hs2⟩, RF.of_only (only_rowV w3 (q + 1) _) (setRow_heap w3 (q + 1) old _ 30 (0, 0) hs2) rf2_m2⟩
      · intro xs w3 hxs hR hall
        obtain ⟨x0, x1, x2, x3, x4, x5, x6, rfl⟩ := lstRd19 xs hxs
        obtain ⟨_, kA⟩ : x5 = .bool true ∧ Blk w3 (q) (SV.c (ansV v (k : Int) 0)) 26 := hall 5 (by omega)
        obtain ⟨_, kB⟩ : x6 = .bool true ∧ Blk w3 (q + 1) (CX) 30 := hall 6 (by omega)
        have RA := hidden kA
        have RB := hidden kB
        have HRF := hidden hR
        have SE := hidden (P.out.fin HRF.out)
        clear hR hall hxs kA kB HRF P KS KW QS QW
        simp only [slotsOn, putAll]
        go_wp2
        refine bodyPost_ret (results_cc rfl _ _ q (q + 1) _ _ (by kernel_rfl) (by kernel_rfl) (loadSt RA.out (ansV_len HV.out (k : Int) 0)) (loadCrR RB.out HX5.out)) rfl ⟨by first | rfl | (rw [← HC.out]; rfl), t', SE.out, HTB.out.trans HMB.out.symm, HMO.out, sh, HSI.out, HT2.out, PKH.out⟩
end Go.Proofs.Ytodoenimlhldjaa
