/- CallAll, walked. -/
import Derived.Test.YtodoenimlhldjaaBXSH
namespace Go.Proofs.Ytodoenimlhldjaa
open Go.ChangeShapes Go.WideShapes Go.ChangeAt Go.RowKit
set_option linter.unusedVariables false
theorem loadIz {w : World} {a : Addr} {v : Value} (hc : w.cell? a = some v) : (loadVar 3 a).run Try.prog w = .ok v w := by simp [loadVar, isAgg, Sem.run_bind, run_underlying Try.underlying3, hc, go_sem]
theorem own_slz {w : World} {N z m : Nat} {T : TypeId} {v : Value} {cs : List Value} (h : w.ownsRow N T z v m cs) : ∃ ao cap, v = .slice ao m cap := by
  obtain ⟨_, h⟩ := h
  rcases h with ⟨e, h0⟩ | ⟨g, cap, cur, e, _⟩
  · exact ⟨none, 0, by rw [e, h0]⟩
  · exact ⟨_, cap, e⟩
/-- What the document's call left. -/
structure BackW (s' : MS) (w w' : World) (t t' : S5) (rd rd' ev ev' : Value) (l : List Int) (e : List (Int × ByteArray)) (Q : MS → Prop) : Prop where
  rdA : w'.ownsRow 0 3 1 rd l.length (cI l)
  evA : w'.ownsRow 0 66 2 ev e.length (cE e)
  rdB : Rw w' 1 rd' l.length (cI l)
  evB : Rw w' 2 ev' e.length (cE e)
theorem BackW.later {s' : MS} {w w1 w' : World} {t t' : S5} {rd rd' ev ev' : Value} {l : List Int} {e : List (Int × ByteArray)} {Q : MS → Prop} (h : BackW s' w w1 t t' rd rd' ev ev' l e Q) (hb : Below w1.heap.size w1 w') : BackW s' w w' t t' rd rd' ev ev' l e Q := ⟨own_later h.rdA hb, own_later h.evA hb, h.rdB.later hb, h.evB.later hb⟩
/-- What stands on the heap at the end. -/
structure EndW (W w : World) (g1 g2 : Nat) (V : SV) (CX CZ : Array Value) (s : MS) (t : S5) (m1 m2 : Nat) (inp : ByteArray) (a2 us2 : Int) (l : List Int) (e2 : List (Int × ByteArray)) : Prop where
  a : Blk w g1 V.c 26
  b : Blk w g2 V.c 26
  c : Blk w (g1 + 1) CX 38
  d : Blk w (g2 + 1) CZ 30
  aft : Aft W w s t m1 m2
  same : ∀ u, Below w.heap.size w u → Calls Try.prog 16 #[.agg CX, .agg CZ] u fun x w' => x = .returned (.bool true) ∧ Below u.heap.size u w'
theorem EndW.later {W w w' : World} {g1 g2 : Nat} {V : SV} {CX CZ : Array Value} {s : MS} {t : S5} {m1 m2 : Nat} {inp : ByteArray} {a2 us2 : Int} {l : List Int} {e2 : List (Int × ByteArray)} (h : EndW W w g1 g2 V CX CZ s t m1 m2 inp a2 us2 l e2) (hb : Below w.heap.size w w') : EndW W w' g1 g2 V CX CZ s t m1 m2 inp a2 us2 l e2 :=
  ⟨h.a.later hb, h.b.later hb, h.c.later hb, h.d.later hb, h.aft.later hb, fun u hu => h.same u (hb.trans (hu.mono hb.size))⟩
set_option maxRecDepth 20000 in
set_option maxHeartbeats 4000000 in
theorem callall_yes (W : World) (ao : Option Addr) (cap : Nat) (ps : List Part4) (hpc : Pieces W ao ps) (hln : ps.length ≤ 9223372036854775807) (v : SV) (hv : v.ok) (inp : ByteArray) (a us : Nat) (ro : Option Addr) (rcap : Nat) (ev : Value) (l : List Int) (e : List (Int × ByteArray)) (hrd : Rw W 1 (.slice ro l.length rcap) l.length (cI l)) (hev : Rw W 2 ev e.length (cE e)) (hel : e.length ≤ 9223372036854775807) (hl8 : ps.length ≤ 8) (h600 : ∀ p ∈ ps, p.data.length ≤ 600) (hfp : few ps = true) (hF : FewAll e inp.size l.length e.length (a : Int) (us : Int)) (hsz : inp.size ≤ 5000) (hl3 : l.length ≤ 300) (he2 : e.length ≤ 20) (hat : a ≤ inp.size) (hus : us ≤ l.length) : Calls Try.prog 3 #[.slice ao ps.length cap, .agg v.c, .agg (cwC inp ((a : Int)) (.slice ro l.length rcap) ((us : Int)) ev)] W fun x w' => x = .returned (.bool true) ∧ Below W.heap.size W w' := by
  obtain ⟨n, hn⟩ : ∃ n, W.heap.size = n := ⟨_, rfl⟩
  have HAW := hidden (fun u => awake12_any u)
  have HV := hidden hv.1
  have HFP := hidden (fun (u : World) (hb : Below W.heap.size W u) => few_any u ao cap ps (hpc.later hb) hln)
  have HF2 := hidden (fun (u : World) (hb : Below W.heap.size W u) => few12_any u inp ((a : Int)) ((us : Int)) ro rcap ev l e (hev.later hb) hel)
  obtain ⟨C, hC⟩ : ∃ C, v.c = C := ⟨_, rfl⟩
  obtain ⟨CW, hCW⟩ : ∃ CW, cwC inp ((a : Int)) (.slice ro l.length rcap) ((us : Int)) ev = CW := ⟨_, rfl⟩
  have HC5 : Hid (CW.size = 5) := hidden (by rw [← hCW]; rfl)
  rw [hCW] at HF2
  rw [hC, hCW]
  have HC := hidden hC
  have HCW := hidden hCW
  clear hC hCW
  have HF3 : Hid (∀ (u : World) (hb : Below W.heap.size W u), Calls Try.prog 9 #[.agg CW] u fun x w' => x = .returned (.bool true) ∧ Below u.heap.size u w') := hidden (fun u hb => (HF2.out u hb).mono fun x w' ⟨⟨b, hx, _, h1⟩, h2⟩ => by
    obtain rfl := h1 hF
    exact ⟨hx, h2⟩)
  rw [hfp] at HFP
  have HME := hidden (fun (u : World) (hb : Below W.heap.size W u) => memory_any u ao cap ps (hpc.later hb) hl8 h600)
  have HMO := hidden (fun (u : World) (hb : Below W.heap.size W u) => model_any u ao cap ps (hpc.later hb) hl8 h600)
  have HBO := hidden (fun (s : MS) (h1 : s.ts = []) (h2 : s.c ≤ 4800) (h3 : ∀ k ∈ s.ks, 0 ≤ s.pm k ∧ s.pm k < 8) (h4 : s.ks.length ≤ 500) => both_any hv inp a us h1 hl3 he2 hsz hat hus h2 h3 h4)
  have HRD := hidden hrd
  have HEV := hidden hev
  have HLN := hidden hl3
  have HEN := hidden he2
  obtain ⟨ln, hln2⟩ : ∃ ln, l.length = ln := ⟨_, rfl⟩
  obtain ⟨en, hen2⟩ : ∃ en, e.length = en := ⟨_, rfl⟩
  have HL2 := hidden hln2
  have HE2 := hidden hen2
  clear hpc hln hrd hev hel hv hl8 h600 hfp hF hsz hl3 he2 hat hus HF2 hln2 hen2
  go_enter Try.func3, Try.ntmps3
  go_upto_region 1 with (first
    | (refine wpList_boxG rfl 26 _ rfl C rfl ?_; rintro w1 k1 s1 b1; rw [hn] at k1 s1 b1 ⊢; have K1 : Hid (Blk w1 n v.c 26) := hidden (by rw [HC.out]; exact k1); have S1 := hidden s1; have B1 := hidden b1; clear k1 s1 b1)
    | (refine wpList_boxG rfl 30 _ rfl CW rfl ?_; rintro w2 k2 s2 b2; rw [S1.out] at k2 s2 b2 ⊢; have P : Hid (CA W w2 n v CW) := hidden ⟨K1.out.later (by rw [S1.out]; exact b2), k2, by rw [hn]; exact B1.out.trans (b2.mono (Nat.le_succ n))⟩; clear k2 s2 b2 K1 S1 B1))
  go_upto_region 3 with (first
    | (go_at_call 8; refine (HFP.out _ P.out.bel).mono ?_; rintro x w9 ⟨rfl, hww⟩; rw [hww]; clear hww w9)
    | (refine wpList_loadWrG (by kernel_rfl) _ rfl (n + 1) CW rfl P.out.c HC5.out ?_)
    | (go_at_call 9; refine (HF3.out _ P.out.bel).mono ?_; rintro x w3 ⟨rfl, hb3⟩; have Q := hidden (P.out.later hb3); clear hb3 P; have P := Q; clear Q))
  go_upto_region 4 with (first
    | (go_at_call 11; refine (HME.out _ P.out.bel).mono ?_; rintro x w4 ⟨s, rfl, hown, habs, h64, h32, hts, hcc⟩; have HO := hidden hown; have HAB := hidden habs; have HTS := hidden hts; have HCC := hidden hcc; have H64 := hidden h64; have H32 := hidden h32; clear hown habs h64 h32 hts hcc)
    | (go_at_call 12; refine (HMO.out _ (P.out.bel.trans (HO.out.below.mono P.out.bel.size))).mono ?_; rintro x w5 ⟨m2, rfl, s5, ho5, habs5⟩; have HO5 := hidden ho5; have HAB5 := hidden habs5; clear ho5 habs5))
  obtain ⟨t, hd0, hm2, ht0, hmo, hsim⟩ := duo_made HO.out HO5.out (HAB.out.trans HAB5.out.symm)
  obtain ⟨V, a2, us2, e2, gg, cc, Q, hbo⟩ := HBO.out s HTS.out HCC.out HO.out.mem.perm (by have := H32.out; omega)
  obtain ⟨m1, hm1⟩ : ∃ m1, s.mb = m1 := ⟨_, rfl⟩
  rw [hm1]
  have HM1 := hidden hm1
  have HM2 := hidden hm2
  have HT0 := hidden ht0
  have HMS := hidden hmo
  have HSI := hidden hsim
  have HB := hidden hbo
  have D5 := hidden hd0
  have P5 := hidden (P.out.later hd0.own.below)
  have HVL := hidden hbo.len
  clear hd0 hm2 ht0 hmo hsim hbo hm1 HO HO5 HAB HAB5 HME HMO HBO HF3 HFP
  rw [HL2.out] at HLN HRD
  rw [HE2.out] at HEN HEV
  refine wp_region_head later_below 14 [31, 32, 33, 34, 35, 36, 37, 38, 39, 40, 41, 42, 43, 9] (phiGa n w5.heap.size inp (a : Int) (us : Int) (.slice ro ln rcap) ev l e ln en) (by kernel_rfl) (by kernel_rfl) rfl (phiGa_mono n w5.heap.size inp (a : Int) (us : Int) (.slice ro ln rcap) ev l e ln en) ?_ ?_
  · intro j hj xs w3 hxs hR hpre
    obtain ⟨x0, x1, x2, x3, x4, x5, x6, x7, x8, x9, x10, x11, x12, x13, rfl⟩ := lstGa xs hxs
    have hCB : Blk w3 (n + 1) (cwC inp (a : Int) (.slice ro ln rcap) (us : Int) ev) 30 := by
      have h := P5.out.c.later hR
      rw [← HCW.out, HL2.out] at h
      exact h
    have c0 := hCB.cell (j := 0) rfl
    have c1 := hCB.cell (j := 1) rfl
    have c2 := hCB.cell (j := 2) rfl
    have c3 := hCB.cell (j := 3) rfl
    have c4 := hCB.cell (j := 4) rfl
    rcases (show j = 0 ∨ j = 1 ∨ j = 2 ∨ j = 3 ∨ j = 4 ∨ j = 5 ∨ j = 6 ∨ j = 7 ∨ j = 8 ∨ j = 9 ∨ j = 10 ∨ j = 11 ∨ j = 12 ∨ j = 13 by omega) with rfl | rfl | rfl | rfl | rfl | rfl | rfl | rfl | rfl | rfl | rfl | rfl | rfl | rfl
    · exact wpOp_run (.pointer (some ⟨n + 1, 0, none⟩)) rfl (by kernel_rfl) (by kernel_rfl) ⟨_, by kernel_rfl, rfl, Below.refl _ _⟩
    · have e0 : x0 = .pointer (some ⟨n + 1, 0, none⟩) := hpre 0 (by kernel_rfl)
      subst e0
      exact wpOp_run (.string inp) rfl (by kernel_rfl) (exec_load 9 rfl (by kernel_rfl) w3 (loadStr c0)) ⟨_, by kernel_rfl, rfl, Below.refl _ _⟩
    · exact wpOp_run (.pointer (some ⟨n + 1, 1, none⟩)) rfl (by kernel_rfl) (by kernel_rfl) ⟨_, by kernel_rfl, rfl, Below.refl _ _⟩
    · have e2 : x2 = .pointer (some ⟨n + 1, 1, none⟩) := hpre 2 (by kernel_rfl)
      subst e2
      exact wpOp_run (.int .i64 (a : Int)) rfl (by kernel_rfl) (exec_load 3 rfl (by kernel_rfl) w3 (loadIz c1)) ⟨_, by kernel_rfl, rfl, Below.refl _ _⟩
    · exact wpOp_run (.pointer (some ⟨n + 1, 2, none⟩)) rfl (by kernel_rfl) (by kernel_rfl) ⟨_, by kernel_rfl, rfl, Below.refl _ _⟩
    · have e4 : x4 = .pointer (some ⟨n + 1, 2, none⟩) := hpre 4 (by kernel_rfl)
      subst e4
      exact wpOp_run (.slice ro ln rcap) rfl (by kernel_rfl) (exec_load 27 rfl (by kernel_rfl) w3 (loadIs c2)) ⟨_, by kernel_rfl, rfl, Below.refl _ _⟩
    · have e5 : x5 = .slice ro ln rcap := hpre 5 (by kernel_rfl)
      subst e5
      obtain ⟨v2, w2, hrun, ho, hb2⟩ := append0I w3 0 _ _ (cI l) (HRD.out.later (P5.out.bel.trans (hR.mono P5.out.bel.size))) (cI_one l) (by have := HLN.out; omega) (Nat.zero_le _) 27
      exact wpOp_run v2 rfl (by kernel_rfl) (exec_appI rfl rfl (by kernel_rfl) hrun) ⟨_, by kernel_rfl, ho, hb2⟩
    · exact wpOp_run (.pointer (some ⟨n + 1, 3, none⟩)) rfl (by kernel_rfl) (by kernel_rfl) ⟨_, by kernel_rfl, rfl, Below.refl _ _⟩
    · have e7 : x7 = .pointer (some ⟨n + 1, 3, none⟩) := hpre 7 (by kernel_rfl)
      subst e7
      exact wpOp_run (.int .i64 (us : Int)) rfl (by kernel_rfl) (exec_load 3 rfl (by kernel_rfl) w3 (loadIz c3)) ⟨_, by kernel_rfl, rfl, Below.refl _ _⟩
    · exact wpOp_run (.pointer (some ⟨n + 1, 4, none⟩)) rfl (by kernel_rfl) (by kernel_rfl) ⟨_, by kernel_rfl, rfl, Below.refl _ _⟩
    · have e9 : x9 = .pointer (some ⟨n + 1, 4, none⟩) := hpre 9 (by kernel_rfl)
      subst e9
      exact wpOp_run (ev) rfl (by kernel_rfl) (exec_load 28 rfl (by kernel_rfl) w3 (loadEs c4)) ⟨_, by kernel_rfl, rfl, Below.refl _ _⟩
    · have e10 : x10 = ev := hpre 10 (by kernel_rfl)
      subst e10
      obtain ⟨v2, w2, hrun, ho, hb2⟩ := append0E w3 0 _ _ (cE e) (HEV.out.later (P5.out.bel.trans (hR.mono P5.out.bel.size))) (cE_one e) (by have := HEN.out; omega) (Nat.zero_le _) 28
      exact wpOp_run v2 rfl (by kernel_rfl) (exec_appE rfl rfl (by kernel_rfl) hrun) ⟨_, by kernel_rfl, ho, hb2⟩
    · have e1 : x1 = .string inp := hpre 1 (by kernel_rfl)
      subst e1
      have e3 : x3 = .int .i64 (a : Int) := hpre 3 (by kernel_rfl)
      subst e3
      have f6 : w3.ownsRow 0 3 1 x6 ln (cI l) := hpre 6 (by kernel_rfl)
      have e8 : x8 = .int .i64 (us : Int) := hpre 8 (by kernel_rfl)
      subst e8
      have f11 : w3.ownsRow 0 66 2 x11 en (cE e) := hpre 11 (by kernel_rfl)
      obtain ⟨ao6, c6, e6⟩ := own_slz f6
      subst e6
      obtain ⟨ao11, c11, e11⟩ := own_slz f11
      subst e11
      exact wpOp_run (.agg (cwC inp (a : Int) (.slice ao6 ln c6) (us : Int) (.slice ao11 en c11))) rfl (by kernel_rfl) (by kernel_rfl) ⟨_, by kernel_rfl, ⟨_, _, rfl, f6, f11⟩, Below.refl _ _⟩
    · exact wpOp_run (.pointer (some ⟨w3.heap.size, 0, none⟩)) rfl (by kernel_rfl) (zeroC_run rfl w3) ⟨_, by kernel_rfl, ⟨w3.heap.size, rfl, hR.size, Blk.new w3 _ _⟩, below_new w3 _⟩
  · intro xs w6 hxs hR hall
    obtain ⟨x0, x1, x2, x3, x4, x5, x6, x7, x8, x9, x10, x11, x12, x13, rfl⟩ := lstGa xs hxs
    obtain ⟨rd1, ev1, e12, r1, r2⟩ : ∃ rd1 ev1, x12 = .agg (cwC inp (a : Int) rd1 (us : Int) ev1) ∧ w6.ownsRow 0 3 1 rd1 ln (cI l) ∧ w6.ownsRow 0 66 2 ev1 en (cE e) := hall 12 (by omega)
    obtain ⟨g, e13, hg, hz⟩ : ∃ g, x13 = .pointer (some ⟨g, 0, none⟩) ∧ w5.heap.size ≤ g ∧ Blk w6 g zCw 38 := hall 13 (by omega)
    subst e12
    subst e13
    have HR6 := hidden hR
    have R1 := hidden r1
    have R2 := hidden r2
    have HG := hidden hg
    have HZ := hidden hz
    obtain ⟨CY, hCY⟩ : ∃ CY, cwC inp (a : Int) rd1 (us : Int) ev1 = CY := ⟨_, rfl⟩
    have HCY := hidden hCY
    have HY5 : Hid (CY.size = 5) := hidden (by rw [← hCY]; rfl)
    have HY1 : Hid (CY.all (·.oneCell') = true) := hidden (by rw [← hCY]; exact cw_one (rw_of_own r1).one (rw_of_own r2).one)
    rw [hCY]
    clear hall hR hxs r1 r2 hg hz hCY
    simp only [slotsOn, putAll, List.set_cons_succ, List.set_cons_zero, List.drop_succ_cons, List.drop_zero]
    go_upto_region 5 with (first
      | (refine wpList_storeCw rfl rfl _ _ rfl g zCw CY rfl rfl HZ.out rfl HY5.out HY1.out ?_; rintro w7 k7 o7; have K7 := hidden k7; have B7 := hidden (Below.only HR6.out o7 HG.out); have Q1 := hidden (own_only R1.out o7 HZ.out (by decide)); have Q2 := hidden (own_only R2.out o7 HZ.out (by decide)); clear k7 o7 HZ HR6 R1 R2))
    have D7 := hidden (D5.out.later B7.out)
    have P7 := hidden (P5.out.later B7.out)
    have HCC7 : Hid (Calls Try.prog 13 #[.pointer (some ⟨m1, 0, none⟩), .agg v.c, .agg CY] w7 fun x w' => CodeOut w7 s V inp a2 us2 l e2 gg cc Q x w') := hidden (by
      have q1 := Q1.out
      have q2 := Q2.out
      rw [← HL2.out] at q1
      rw [← HE2.out] at q2
      have h := HB.out.code w7 rd1 ev1 D7.out.own.mem (rw_of_own q1) (rw_of_own q2)
      rw [HM1.out, HCY.out] at h
      exact h)
    clear D5 P5 B7 Q1 Q2
    go_upto_region 6 with (first
      | (refine wpList_loadV rfl _ rfl n v rfl P7.out.s HV.out ?_)
      | (refine wpList_loadCw rfl _ rfl g CY rfl K7.out HY5.out ?_)
      | (go_at_call 13; refine HCC7.out.mono ?_; rintro x w8 ⟨⟨rd2, ev2, rfl, r1, r2, s', hst, hq⟩⟩; have R1 := hidden r1; have R2 := hidden r2; have D8 := hidden (D7.out.code hst); have HQS := hidden hq; obtain ⟨CX, hCX⟩ : ∃ CX, cwC inp a2 rd2 us2 ev2 = CX := ⟨_, rfl⟩; have HCX := hidden hCX; have HX5 : Hid (CX.size = 5) := hidden (by rw [← hCX]; rfl); have HX1 : Hid (CX.all (·.oneCell') = true) := hidden (by rw [← hCX]; exact cw_one (rw_of_own r1).one (rw_of_own r2).one); rw [hCX]; obtain ⟨g1, hg1⟩ : ∃ g1, w8.heap.size = g1 := ⟨_, rfl⟩; have HG1 := hidden hg1; clear r1 r2 hst hq hCX HCC7 D7 hg1 K7)
      | (refine wpList_allocV rfl rfl ?_; rintro w9 k9 s9 b9; rw [HG1.out] at k9 s9 b9 ⊢; have K9 := hidden k9; have S9 := hidden s9; have B9 := hidden b9; clear k9 s9 b9)
      | (refine wpList_allocCw rfl rfl ?_; rintro w10 k10 s10 b10; rw [S9.out] at k10 s10 b10 ⊢; have K10 := hidden k10; have K9b := hidden (K9.out.later (by rw [S9.out]; exact b10)); have B10 := hidden (B9.out.trans (b10.mono (Nat.le_succ g1))); clear k10 s10 b10 K9 B9 S9)
      | (refine wpList_storeV rfl rfl _ _ rfl g1 SV.zero V rfl rfl K9b.out rfl HVL.out ?_; rintro w11 k11 o11; have K11 := hidden k11; have K10b := hidden (K10.out.only o11 (Nat.succ_ne_self g1)); have B11 := hidden (Below.only B10.out o11 (Nat.le_refl g1)); clear k11 o11 K9b K10 B10)
      | (refine wpList_storeCw rfl rfl _ _ rfl (g1 + 1) zCw CX rfl rfl K10b.out rfl HX5.out HX1.out ?_; rintro w12 k12 o12; have K12 := hidden k12; have K11b := hidden (K11.out.only o12 (Nat.ne_of_lt (Nat.lt_succ_self g1))); have B12 := hidden (Below.only B11.out o12 (Nat.le_succ g1)); clear k12 o12 K11 K10b B11))
    have BB12 : Hid (Below w8.heap.size w8 w12) := hidden (by rw [HG1.out]; exact B12.out)
    have D12 := hidden (D8.out.later BB12.out)
    have P12 := hidden (P.out.later D12.out.own.below)
    have R3 := hidden (own_later R1.out BB12.out)
    have R4 := hidden (own_later R2.out BB12.out)
    have HRC : Hid (Calls Try.prog 14 #[.pointer (some ⟨m2, 0, none⟩), .agg v.c, .agg CW] w12 fun x w' => RefOut w12 t V inp a2 us2 l e2 gg cc Q x w') := hidden (by
      have q1 := HRD.out
      have q2 := HEV.out
      rw [← HL2.out] at q1
      rw [← HE2.out] at q2
      have h := HB.out.ref W w12 t (.slice ro ln rcap) ev P12.out.bel (fun b hb => Nat.le_trans P.out.bel.size (D12.out.f5 b hb)) D12.out.mem5 HSI.out (HTS.out.trans HT0.out.symm) (H64.out.trans HMS.out.symm) (by rw [HL2.out] at q1 ⊢; exact q1) q2
      rw [HM2.out] at h
      have hcw := HCW.out
      rw [HL2.out] at hcw
      rw [hcw] at h
      exact h)
    clear D8 R1 R2 BB12 B12 P7
    go_upto_region 7 with (first
      | (refine wpList_loadV rfl _ rfl n v rfl P12.out.s HV.out ?_)
      | (refine wpList_loadCr rfl _ rfl (n + 1) CW rfl P12.out.c HC5.out ?_)
      | (go_at_call 14; refine HRC.out.mono ?_; rintro x w13 ⟨⟨rd3, ev3, rfl, r1, r2, t', hst, em, sh, hsim, hts, hq⟩⟩; have HBW : Hid (BackW s' w12 w13 t t' rd2 rd3 ev2 ev3 l e2 Q) := hidden ⟨own_keep5 R3.out D12.out.mem5 hst (by decide) (by decide) (by decide), own_keep5 R4.out D12.out.mem5 hst (by decide) (by decide) (by decide), r1, r2⟩; have K14 : Hid (Blk w13 g1 V.c 26) := hidden (Eq.trans (hst.keep.block g1 K11b.out.lt (D12.out.mem5.not_u K11b.out (by decide) (by decide) (by decide))) K11b.out); have K15 : Hid (Blk w13 (g1 + 1) CX 38) := hidden (Eq.trans (hst.keep.block (g1 + 1) K12.out.lt (D12.out.mem5.not_u K12.out (by decide) (by decide) (by decide))) K12.out); have D13 := hidden (D12.out.model hst); have HU := hidden (HB.out.uni s' sh HQS.out hq); have HAF : Hid (Aft w3 w13 s' t' m1 m2) := hidden ⟨D13.out, (HB.out.mb s' HQS.out).trans HM1.out, em.trans HM2.out, hsim.abs HU.out.1 D12.out.own.mem.nodup, HU.out.2.trans hts, by rw [← hts]; exact HB.out.few sh hq⟩; obtain ⟨CZ, hCZ⟩ : ∃ CZ, cwC inp a2 rd3 us2 ev3 = CZ := ⟨_, rfl⟩; have HCZ := hidden hCZ; have HZ5 : Hid (CZ.size = 5) := hidden (by rw [← hCZ]; rfl); have HZ1 : Hid (CZ.all (·.oneCell') = true) := hidden (by rw [← hCZ]; exact cw_one r1.one r2.one); rw [hCZ]; obtain ⟨g2, hg2⟩ : ∃ g2, w13.heap.size = g2 := ⟨_, rfl⟩; have HG2 := hidden hg2; clear r1 r2 hst em hsim hts hq hCZ hg2 HRC K11b K12 D12 D13 HU R3 R4 P12)
      | (refine wpList_allocV rfl rfl ?_; rintro w14 k14 s14 b14; rw [HG2.out] at k14 s14 b14 ⊢; have J9 := hidden k14; have S9 := hidden s14; have B9 := hidden b14; clear k14 s14 b14)
      | (refine wpList_allocCr rfl rfl ?_; rintro w15 k15 s15 b15; rw [S9.out] at k15 s15 b15 ⊢; have J10 := hidden k15; have J9b := hidden (J9.out.later (by rw [S9.out]; exact b15)); have B10 := hidden (B9.out.trans (b15.mono (Nat.le_succ g2))); clear k15 s15 b15 J9 B9 S9)
      | (refine wpList_storeV rfl rfl _ _ rfl g2 SV.zero V rfl rfl J9b.out rfl HVL.out ?_; rintro w16 k16 o16; have J11 := hidden k16; have J10b := hidden (J10.out.only o16 (Nat.succ_ne_self g2)); have B11 := hidden (Below.only B10.out o16 (Nat.le_refl g2)); clear k16 o16 J9b J10 B10)
      | (refine wpList_storeCr rfl rfl _ _ rfl (g2 + 1) zCw CZ rfl rfl J10b.out rfl HZ5.out HZ1.out ?_; rintro w17 k17 o17; have J12 := hidden k17; have J11b := hidden (J11.out.only o17 (Nat.ne_of_lt (Nat.lt_succ_self g2))); have B12 := hidden (Below.only B11.out o17 (Nat.le_succ g2)); clear k17 o17 J11 J10b B11))
    have BB17 : Hid (Below w13.heap.size w13 w17) := hidden (by rw [HG2.out]; exact B12.out)
    have HEW : Hid (EndW w3 w17 g1 g2 V CX CZ s' t' m1 m2 inp a2 us2 l e2) := hidden (by
      have hb := HBW.out.later BB17.out
      exact ⟨K14.out.later BB17.out, J11b.out, K15.out.later BB17.out, J12.out, HAF.out.later BB17.out, fun u hu => by
        have h := same12_any u inp a2 us2 rd2 rd3 ev2 ev3 l e2 ((rw_of_own hb.rdA).later hu) (hb.rdB.later hu) ((rw_of_own hb.evA).later hu) (hb.evB.later hu) (by have := HLN.out; have := HL2.out; omega) (by have := HB.out.el; omega)
        rw [HCX.out, HCZ.out] at h
        exact h⟩)
    clear HBW K14 K15 J11b J12 HAF BB17 B12
    have HSS := hidden (fun (u : World) => sameState_eq u V HVL.out)
    go_wp2_with (first
      | (refine wpList_loadV rfl _ rfl g1 V rfl HEW.out.a HVL.out ?_)
      | (refine wpList_loadV rfl _ rfl g2 V rfl HEW.out.b HVL.out ?_)
      | (go_at_call 15; refine (HSS.out _).mono ?_; rintro x w18 ⟨rfl, hb⟩; have E18 := hidden (HEW.out.later hb); clear hb HEW)
      | (refine wpList_loadWcG (by kernel_rfl) _ rfl (g1 + 1) CX rfl E18.out.c HX5.out ?_)
      | (refine wpList_loadWrG (by kernel_rfl) _ rfl (g2 + 1) CZ rfl E18.out.d HZ5.out ?_)
      | (go_at_call 16; refine (E18.out.same _ (Below.refl _ _)).mono ?_; rintro x w19 ⟨rfl, hb⟩; have HA19 := hidden (E18.out.aft.later hb); clear hb)
      | (go_at_call 17; refine (smA HA19.out).mono ?_; rintro x w20 ⟨rfl, ha20⟩; have HA20 := hidden ha20; clear ha20)
      | (go_at_call 19; refine (tlA HA20.out).mono ?_; rintro x w21 ⟨rfl, ht21⟩; have HT21 := hidden ht21; clear ht21)
      | (go_at_call 20; refine (tkA HT21.out).mono ?_; rintro x w22 ⟨rfl, hw22, hb22⟩; have HW22 := hidden hw22; have HB22 := hidden hb22; clear hw22 hb22)
      | (go_at_call 18; refine (swA HT21.out HW22.out).mono ?_; rintro x w23 ⟨rfl, n23, hww23⟩; rw [hww23]; clear hww23 w23)
      | (go_at_call 10; refine (HAW.out _).mono ?_; rintro x w24 ⟨rfl, hb24⟩; have HB24 := hidden hb24; clear hb24))
    go_ret
    have hz := below_drewN (P.out.bel.trans (HB22.out.mono P.out.bel.size)) n23
    exact ⟨rfl, hz.trans (HB24.out.mono hz.size)⟩
end Go.Proofs.Ytodoenimlhldjaa
namespace Go.Proofs.Ytodoenimlhldjaa
open Go.ChangeShapes Go.WideShapes Go.ChangeAt Go.RowKit
set_option linter.unusedVariables false
theorem callall_walk (W : World) (ao : Option Addr) (cap : Nat) (ps : List Part4) (hpc : Pieces W ao ps) (hln : ps.length ≤ 9223372036854775807) (v : SV) (hv : v.ok) (inp : ByteArray) (a us : Int) (ro : Option Addr) (rcap : Nat) (ev : Value) (l : List Int) (e : List (Int × ByteArray)) (hrd : Rw W 1 (.slice ro l.length rcap) l.length (cI l)) (hev : Rw W 2 ev e.length (cE e)) (hel : e.length ≤ 9223372036854775807) : Calls Try.prog 3 #[.slice ao ps.length cap, .agg v.c, .agg (cwC inp (a) (.slice ro l.length rcap) (us) ev)] W fun x w' => x = .returned (.bool true) ∧ Below W.heap.size W w' := by
  by_cases h : few ps = true ∧ FewAll e inp.size l.length e.length a us
  · obtain ⟨hf, hF⟩ := h
    obtain ⟨h1, h2, h3, h4, h5, h6, h7⟩ := hF.2
    obtain ⟨hl8, h600⟩ := few_of12 hf
    obtain ⟨A, rfl⟩ : ∃ A : Nat, a = (A : Int) := ⟨a.toNat, by omega⟩
    obtain ⟨U, rfl⟩ : ∃ U : Nat, us = (U : Int) := ⟨us.toNat, by omega⟩
    exact callall_yes W ao cap ps hpc hln v hv inp A U ro rcap ev l e hrd hev hel hl8 h600 hf hF (by omega) (by omega) (by omega) (by omega) (by omega)
  · refine callall_no W ao cap ps hpc hln v hv inp a us ro rcap ev l e hrd hev hel ?_
    cases hf : few ps with
    | false => exact .inl rfl
    | true => exact .inr fun hF => h ⟨hf, hF⟩
end Go.Proofs.Ytodoenimlhldjaa
