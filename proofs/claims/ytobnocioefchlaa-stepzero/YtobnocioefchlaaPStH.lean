/- A step, walked. -/
import Derived.Test.YtobnocioefchlaaPStG
namespace Go.Proofs.Ytobnocioefchlaa
open Go.ChangeShapes Go.WideShapes Go.ChangeAt Go.RowKit
set_option linter.unusedVariables false
theorem fS_lt (w : Nat) : fS w < 32 := (fields_lt w).1
theorem tk_ok (t : Tk) (a b c d e : Nat) (h : t = ⟨a, b, c, d, e⟩) (h1 : a < 32) (h2 : b < 32) (h3 : c < 32) (h4 : d < 32) (h5 : e < 4294967296) : t.s < 32 ∧ t.t < 32 ∧ t.d < 32 ∧ t.a < 32 ∧ t.imm < 4294967296 := by
  subst h
  exact ⟨h1, h2, h3, h4, h5⟩
theorem tkR_lt (c w : Nat) (hw : w < 4294967296) : (tkR c w).s < 32 ∧ (tkR c w).t < 32 ∧ (tkR c w).d < 32 ∧ (tkR c w).a < 32 ∧ (tkR c w).imm < 4294967296 := by
  have hf := fields_lt w
  have hx := sxw_lt w
  obtain ⟨t, ht⟩ : ∃ t, tkR c w = t := ⟨_, rfl⟩
  rw [ht]
  unfold tkR at ht
  by_cases h68 : c = 68
  · rw [if_pos h68] at ht
    exact tk_ok t _ _ _ _ _ ht.symm (by omega) (by omega) (by omega) (by omega) (by omega)
  rw [if_neg h68] at ht
  by_cases h72 : c = 72
  · rw [if_pos h72] at ht
    exact tk_ok t _ _ _ _ _ ht.symm (by omega) (by omega) (by omega) (by omega) (by omega)
  rw [if_neg h72] at ht
  by_cases h77 : c = 77
  · rw [if_pos h77] at ht
    exact tk_ok t _ _ _ _ _ ht.symm (by omega) (by omega) (by omega) (by omega) (by omega)
  rw [if_neg h77] at ht
  by_cases h70 : c = 70
  · rw [if_pos h70] at ht
    exact tk_ok t _ _ _ _ _ ht.symm (by omega) (by omega) (by omega) (by omega) (by omega)
  rw [if_neg h70] at ht
  by_cases h76 : c = 76
  · rw [if_pos h76] at ht
    exact tk_ok t _ _ _ _ _ ht.symm (by omega) (by omega) (by omega) (by omega) (by omega)
  rw [if_neg h76] at ht
  by_cases h71 : c = 71
  · rw [if_pos h71] at ht
    exact tk_ok t _ _ _ _ _ ht.symm (by omega) (by omega) (by omega) (by omega) (by omega)
  rw [if_neg h71] at ht
  by_cases h84 : c = 84
  · rw [if_pos h84] at ht
    exact tk_ok t _ _ _ _ _ ht.symm (by omega) (by omega) (by omega) (by omega) (by omega)
  rw [if_neg h84] at ht
  by_cases h67 : c = 67
  · rw [if_pos h67] at ht
    exact tk_ok t _ _ _ _ _ ht.symm (by omega) (by omega) (by omega) (by omega) (by omega)
  rw [if_neg h67] at ht
  by_cases h88 : c = 88
  · rw [if_pos h88] at ht
    exact tk_ok t _ _ _ _ _ ht.symm (by omega) (by omega) (by omega) (by omega) (by omega)
  rw [if_neg h88] at ht
  by_cases h89 : c = 89
  · rw [if_pos h89] at ht
    exact tk_ok t _ _ _ _ _ ht.symm (by omega) (by omega) (by omega) (by omega) (by omega)
  rw [if_neg h89] at ht
  by_cases h73 : c = 73
  · rw [if_pos h73] at ht
    exact tk_ok t _ _ _ _ _ ht.symm (by omega) (by omega) (by omega) (by omega) (by omega)
  rw [if_neg h73] at ht
  by_cases h85 : c = 85
  · rw [if_pos h85] at ht
    exact tk_ok t _ _ _ _ _ ht.symm (by omega) (by omega) (by omega) (by omega) (by omega)
  rw [if_neg h85] at ht
  by_cases h86 : c = 86
  · rw [if_pos h86] at ht
    exact tk_ok t _ _ _ _ _ ht.symm (by omega) (by omega) (by omega) (by omega) (by omega)
  rw [if_neg h86] at ht
  by_cases h80 : c = 80
  · rw [if_pos h80] at ht
    exact tk_ok t _ _ _ _ _ ht.symm (by omega) (by omega) (by omega) (by omega) (by omega)
  rw [if_neg h80] at ht
  by_cases h66 : c = 66
  · rw [if_pos h66] at ht
    exact tk_ok t _ _ _ _ _ ht.symm (by omega) (by omega) (by omega) (by omega) (by omega)
  rw [if_neg h66] at ht
  by_cases h90 : c = 90
  · rw [if_pos h90] at ht
    exact tk_ok t _ _ _ _ _ ht.symm (by omega) (by omega) (by omega) (by omega) (by omega)
  rw [if_neg h90] at ht
  by_cases h82 : c = 82
  · rw [if_pos h82] at ht
    exact tk_ok t _ _ _ _ _ ht.symm (by omega) (by omega) (by omega) (by omega) (by omega)
  rw [if_neg h82] at ht
  by_cases h74 : c = 74
  · rw [if_pos h74] at ht
    exact tk_ok t _ _ _ _ _ ht.symm (by omega) (by omega) (by omega) (by omega) (by omega)
  rw [if_neg h74] at ht
  exact tk_ok t _ _ _ _ _ ht.symm (by omega) (by omega) (by omega) (by omega) (by omega)
theorem insR_lt (w : Nat) (hw : w < 4294967296) : (insR w).tk.s < 32 ∧ (insR w).tk.t < 32 ∧ (insR w).tk.d < 32 ∧ (insR w).tk.a < 32 ∧ (insR w).tk.imm < 4294967296 := by
  unfold insR
  split
  · exact ⟨by decide, by decide, by decide, by decide, by decide⟩
  · exact tkR_lt _ w hw
theorem fetch_ok (s : MS) (a : Nat) : 0 ≤ (fetchV s a).1 ∧ (fetchV s a).1 < 4294967296 := by
  unfold fetchV
  split
  · exact ⟨by decide, by decide⟩
  · split
    · exact ⟨by decide, by decide⟩
    · have := preW_lt s a 4
      exact ⟨by omega, by omega⟩
theorem taskOk {i : Fl} {v : SV} (hv : v.ok) (hs : i.tk.s < 32) (ht : i.tk.t < 32) (hm : i.tk.imm < 4294967296) : TOk (taskV i v) := by
  have h1 := SV.reg_ok hv i.tk.s hs
  have h2 := SV.reg_ok hv i.tk.t ht
  refine ⟨by show (v.R.set 0 0).length = 32; rw [List.length_set]; exact hv.1, h1.1, h1.2, h2.1, h2.2, ?_, hm⟩
  show ((v.reg i.tk.s + (i.tk.imm : Int)) % 4294967296).toNat < 4294967296
  omega
theorem writeV_lt (op : Int) (t d : Nat) (ht : t < 32) (hd : d < 32) : 0 ≤ writeV op t d ∧ writeV op t d < 32 := by
  unfold writeV
  repeat' split
  all_goals omega
theorem doP_v0 (s : MS) (v : SV) (op m A x t : Int) (k a : Nat) : doP s { v with R := v.R.set 0 0 } op m A x t k a = doP s v op m A x t k a := by
  unfold doP
  simp only [SV.mk.injEq, and_true]
  unfold setO
  split
  · rw [List.set_set]
  · rw [set_twice]
theorem zeroT_run {ρ : Operand → Value} {o : Oper} (hop : o.op = .alloc 64) (w : World) : (execOp ρ o).run Try.prog w = .ok (.value (.pointer (some ⟨w.heap.size, 0, none⟩))) (w.alloc (.cells zTa 64)) := by
  obtain ⟨dst, op, ty, pos, aft, gd⟩ := o
  simp only at hop
  subst hop
  kernel_rfl
/-- The world while a step is done: the state that came in, the answer's blocks. -/
structure SW (w : World) (n : Nat) (v : SV) (wr : World) : Prop where
  bel : Below n w wr
  st : Blk wr n v.c 26
  re : Blk wr (n + 1) SV.zero.c 26
  fa : Blk wr (n + 2) zFa 32
theorem SW.later {w : World} {n : Nat} {v : SV} {wr w' : World} (h : SW w n v wr) (hb : Below wr.heap.size wr w') : SW w n v w' := ⟨h.bel.trans (hb.mono (Nat.le_of_lt h.st.lt)), h.st.later hb, h.re.later hb, h.fa.later hb⟩
theorem SW.only {w : World} {n g : Nat} {v : SV} {wr w' : World} (h : SW w n v wr) (ho : Only g wr w') (hg : n + 3 ≤ g) : SW w n v w' := ⟨Below.only h.bel ho (by omega), h.st.only ho (by omega), h.re.only ho (by omega), h.fa.only ho (by omega)⟩
/-- The answer's blocks, filled. -/
theorem SW.put1 {w : World} {n : Nat} {v : SV} {wr w' : World} (h : SW w n v wr) (ho : Only (n + 1) wr w') : Below n w w' ∧ Blk w' (n + 2) zFa 32 := ⟨Below.only h.bel ho (by omega), h.fa.only ho (by omega)⟩
/-- The same behind a store. -/
structure SX (w : World) (n : Nat) (s s' : MS) (wr : World) : Prop where
  step : Step w s wr s'
  re : Blk wr (n + 1) SV.zero.c 26
  fa : Blk wr (n + 2) zFa 32
  nn : w.heap.size = n
  f1 : ¬ foot s' (n + 1)
  f2 : ¬ foot s' (n + 2)
structure SY (w : World) (n : Nat) (s s' : MS) (wr : World) : Prop where
  step : Step w s wr s'
  fa : Blk wr (n + 2) zFa 32
  nn : w.heap.size = n
  f2 : ¬ foot s' (n + 2)
theorem SW.store {w : World} {n : Nat} {v : SV} {wr w' : World} {s s' : MS} (h : SW w n v wr) (hm : MemW w s) (hn : w.heap.size = n) (st : Step wr s w' s') : SX w n s s' w' := by
  have hno : ∀ b, n ≤ b → ¬ foot s b := fun b hb hf => by have := hm.lt hf; omega
  have hno2 : ∀ b, n ≤ b → b < wr.heap.size → ¬ foot s' b := fun b hb hb2 hf => by
    rcases st.grow b hf with h1 | h1
    · exact hno b hb h1
    · omega
  exact ⟨(Step.later hm (by rw [hn]; exact h.bel)).trans st, (st.keep.block (n + 1) h.re.lt (hno _ (by omega))).trans h.re, (st.keep.block (n + 2) h.fa.lt (hno _ (by omega))).trans h.fa, hn, hno2 _ (by omega) h.re.lt, hno2 _ (by omega) h.fa.lt⟩
theorem SX.put1 {w : World} {n : Nat} {s s' : MS} {wr w' : World} (h : SX w n s s' wr) (ho : Only (n + 1) wr w') : SY w n s s' w' := ⟨step_only h.step ho (by rw [h.nn]; omega) h.f1, h.fa.only ho (by omega), h.nn, h.f2⟩
theorem SY.put2 {w : World} {n : Nat} {s s' : MS} {wr w' : World} (h : SY w n s s' wr) (ho : Only (n + 2) wr w') : Step w s w' s' := step_only h.step ho (by rw [h.nn]; omega) h.f2
theorem sizeV37 {v : SV} (h : v.R.length = 32) : (Try.prog.info? 26).map (·.size) = some v.c.size := by rw [SV.size h]; exact sizeSV
/-- What the slots of the region hold, whatever the order. -/
def phiSw (n : Nat) (W : Nat) (v : SV) : Nat → Value → World → Prop
  | 0, x, _ => x = .int .u32 (W : Int)
  | 1, x, _ => x = .agg (insT ((insR W).op : Int) (insR W).tk)
  | 2, x, _ => x = .agg v.c
  | 3, x, _ => x = .agg (taskV (insR W) v).c
  | 4, x, w => ∃ g, x = .pointer (some ⟨g, 0, none⟩) ∧ n + 3 ≤ g ∧ Blk w g zTa 64
  | _ + 5, _, _ => True
theorem phiSw_mono (n : Nat) (W : Nat) (v : SV) : ∀ i x w w', phiSw n W v i x w → Below w.heap.size w w' → phiSw n W v i x w'
  | 0, _, _, _, h, _ => h
  | 1, _, _, _, h, _ => h
  | 2, _, _, _, h, _ => h
  | 3, _, _, _, h, _ => h
  | 4, x, w, w', h, hb => (match h with | ⟨g, e, hg, hb2⟩ => ⟨g, e, hg, hb2.later hb⟩)
  | _ + 5, _, _, _, _, _ => trivial
theorem lstSw : ∀ xs : List Value, xs.length = 5 → ∃ x0 x1 x2 x3 x4, xs = [x0, x1, x2, x3, x4]
  | [x0, x1, x2, x3, x4], _ => ⟨_, _, _, _, _, rfl⟩
set_option maxRecDepth 20000 in
set_option maxHeartbeats 4000000 in
theorem step_any (s : MS) (w : World) (hm : MemW w s) (v : SV) (hv : v.ok) (hc : s.c + 4 ≤ 1099511627776) : Calls Try.prog 10 #[.pointer (some ⟨s.mb, 0, none⟩), .agg v.c] w fun e w' => e = .returned (stepP s v).v ∧ ∃ s', PokesTo s (stepL s v) s' ∧ Step w s w' s' := by
  obtain ⟨n, hn⟩ : ∃ n, w.heap.size = n := ⟨_, rfl⟩
  have HM := hidden hm
  have HV := hidden hv
  have HF : Hid (∀ u, Below w.heap.size w u → Calls Try.prog 23 #[.pointer (some ⟨s.mb, 0, none⟩), .int .u32 v.pc] u fun e w' => e = .returned (.tuple #[.int .u32 (fetchV s v.pc.toNat).1, .int .i64 (fetchV s v.pc.toNat).2]) ∧ ∃ n, w' = u.drewN n) := hidden (fun u hu => by have h := accFetch_any u s (hm.later hu) v.pc.toNat (by have := hv.2.2.2.2.1; omega); rw [Int.toNat_of_nonneg hv.2.2.2.2.1.1] at h; exact h)
  rw [hn] at HF
  have hfo := fetch_ok s v.pc.toNat
  unfold stepP stepL
  obtain ⟨fk, hfk⟩ : ∃ fk, (fetchV s v.pc.toNat).2 = fk := ⟨_, rfl⟩
  obtain ⟨W, hW⟩ : ∃ W : Nat, (fetchV s v.pc.toNat).1 = (W : Int) := ⟨_, (Int.toNat_of_nonneg hfo.1).symm⟩
  rw [hW] at hfo
  rw [hW, hfk] at HF
  rw [hW, hfk]
  have hWl : W < 4294967296 := by omega
  obtain ⟨C, hC⟩ : ∃ C, v.c = C := ⟨_, rfl⟩
  rw [hC]
  have HC := hidden hC
  have HSTOP := hidden (fun kd bad u => (show Calls Try.prog 24 #[.agg v.c, .int .i64 kd, .int .u32 bad] u (fun e w' => e = .returned (.tuple #[.agg v.c, .int .i64 2, .agg (faultC kd v.pc v.sl bad)]) ∧ Below u.heap.size u w') from stop_any v hv kd bad u))
  rw [Int.toNat_natCast]
  clear hC hfk hW hfo
  by_cases h0 : fk = 0
  · rw [if_neg (by rw [h0]; decide), if_neg (by rw [h0]; decide)]
    have ef : (fk == 0) = true := beq_iff_eq.2 h0
    have ef2 : (fk != 0) = false := bne_f ef
    clear h0
    have hlt := insR_lt W hWl
    have hok := taskOk hv hlt.1 hlt.2.1 hlt.2.2.2.2
    have hww := writeV_lt (insR W).op (insR W).tk.t (insR W).tk.d hlt.2.1 hlt.2.2.1
    obtain ⟨into, hinto⟩ : ∃ into : Nat, writeV (insR W).op (insR W).tk.t (insR W).tk.d = (into : Int) := ⟨_, (Int.toNat_of_nonneg hww.1).symm⟩
    have hvk : (taskV (insR W) v).v.ok := SV.ok_set hv 0 0 (by omega) (by omega)
    have HWR : Hid (∀ u, Below w.heap.size w u → Calls Try.prog 27 #[.agg (taskV (insR W) v).c, .pointer (some ⟨s.mb, 0, none⟩)] u fun e w' => e = .returned (.tuple #[.int .i64 (wrongP s (taskV (insR W) v).v.sl (insR W).op (insR W).tk.imm (taskV (insR W) v).x (taskV (insR W) v).t (taskV (insR W) v).a).1, .int .u32 (wrongP s (taskV (insR W) v).v.sl (insR W).op (insR W).tk.imm (taskV (insR W) v).x (taskV (insR W) v).t (taskV (insR W) v).a).2]) ∧ Below u.heap.size u w') := hidden (fun u hu => wrong_any s u (hm.later hu) (taskV (insR W) v) hok)
    have HDO : Hid (∀ u, Below w.heap.size w u → Calls Try.prog 28 #[.agg (taskV (insR W) v).c, .pointer (some ⟨s.mb, 0, none⟩)] u fun e w' => e = .returned (.agg (SV.c (doP s v (insR W).op (insR W).tk.imm (insR W).tk.a (taskV (insR W) v).x (taskV (insR W) v).t into (taskV (insR W) v).a))) ∧ ∃ s', PokesTo s (storeL (insR W).op (taskV (insR W) v).a (taskV (insR W) v).t.toNat) s' ∧ Step u s w' s') := hidden (fun u hu => by have h := do_any s u (hm.later hu) (taskV (insR W) v) hok into hinto (by omega) hvk hc; rw [show (taskV (insR W) v).v = { v with R := v.R.set 0 0 } from rfl, doP_v0] at h; exact h)
    rw [hn] at HWR HDO
    unfold insL
    show Calls _ _ _ _ fun e w' => e = .returned (insP s v (insR W)).v ∧ ∃ s', PokesTo s (if (insP s v (insR W)).out = 0 then storeL (insR W).op (taskV (insR W) v).a (taskV (insR W) v).t.toNat else []) s' ∧ Step w s w' s'
    have hins : insP s v (insR W) = if (wrongP s (taskV (insR W) v).v.sl (insR W).op (insR W).tk.imm (taskV (insR W) v).x (taskV (insR W) v).t (taskV (insR W) v).a).1 ≠ 0 then stopO v (wrongP s (taskV (insR W) v).v.sl (insR W).op (insR W).tk.imm (taskV (insR W) v).x (taskV (insR W) v).t (taskV (insR W) v).a).1 (wrongP s (taskV (insR W) v).v.sl (insR W).op (insR W).tk.imm (taskV (insR W) v).x (taskV (insR W) v).t (taskV (insR W) v).a).2 else if ((insR W).op : Nat) = 35 then wentO v 1 else wentO (doP s v (insR W).op (insR W).tk.imm (insR W).tk.a (taskV (insR W) v).x (taskV (insR W) v).t into (taskV (insR W) v).a) 0 := by
      show insP s v (insR W) = _
      unfold insP
      have : (writeV (insR W).op (insR W).tk.t (insR W).tk.d).toNat = into := by rw [hinto]; rfl
      rw [this]
      rfl
    rw [hins]
    obtain ⟨wk, hwk⟩ : ∃ wk, wrongP s (taskV (insR W) v).v.sl (insR W).op (insR W).tk.imm (taskV (insR W) v).x (taskV (insR W) v).t (taskV (insR W) v).a = wk := ⟨_, rfl⟩
    rw [hwk] at HWR ⊢
    obtain ⟨nst, hnst⟩ : ∃ nst, doP s v (insR W).op (insR W).tk.imm (insR W).tk.a (taskV (insR W) v).x (taskV (insR W) v).t into (taskV (insR W) v).a = nst := ⟨_, rfl⟩
    have HNL : Hid (nst.R.length = 32) := hidden (by rw [← hnst]; exact setO_len hv.1 _ _)
    rw [hnst] at HDO ⊢
    obtain ⟨SL, hSL⟩ : ∃ SL, storeL (insR W).op (taskV (insR W) v).a (taskV (insR W) v).t.toNat = SL := ⟨_, rfl⟩
    rw [hSL] at HDO ⊢
    have HLT := hidden hlt
    have HOK := hidden hok
    have HWL := hidden hWl
    clear hins hwk hnst hSL hinto hww hvk hlt hok hWl
    by_cases hw0 : wk.1 = 0
    · have ew : (wk.1 == 0) = true := beq_iff_eq.2 hw0
      have ew2 : (wk.1 != 0) = false := bne_f ew
      rw [if_neg (by rw [hw0]; decide)]
      clear hw0
      by_cases h35 : (insR W).op = 35
      · rw [if_pos h35]
        have HOP : Hid (((insR W).op : Int) = 35) := hidden (by rw [h35]; rfl)
        clear h35
        rw [if_neg (show ¬ (wentO v 1).out = 0 from (by decide : ¬ (1 : Int) = 0))]
        go_enter Try.func10, Try.ntmps10
        go_upto_region 1 with (first
          | (refine wpList_boxG rfl 26 _ rfl C rfl ?_; rintro w1 k1 s1 b1; rw [hn] at k1 s1 b1 ⊢; have K1 : Hid (Blk w1 n v.c 26) := hidden (by rw [HC.out]; exact k1); have S1 := hidden s1; have B1 := hidden b1; clear k1 s1 b1)
          | (refine wpList_allocV rfl rfl ?_; rintro w2 k2 s2 b2; rw [S1.out] at k2 s2 b2 ⊢; have K2 := hidden (K1.out.later (by rw [S1.out]; exact b2)); have R2 := hidden k2; have S2 := hidden s2; have B2 := hidden (B1.out.trans (b2.mono (by omega))); clear k2 s2 b2 K1 B1)
          | (refine wpList_allocFa rfl rfl ?_; rintro w4 k4 s4 b4; rw [S2.out] at k4 s4 b4 ⊢; have P1 := hidden (SW.mk (B2.out.trans (b4.mono (by omega))) (K2.out.later (by rw [S2.out]; exact b4)) (R2.out.later (by rw [S2.out]; exact b4)) k4); have c34 := P1.out.st.cell (SV.get_pc HV.out.1); clear k4 s4 b4 K2 R2 B2))
        go_upto_region 2 with (fail)
        go_at_call 23
        refine (HF.out _ P1.out.bel).mono ?_
        rintro e w5 ⟨rfl, m5, hw5⟩
        have b5 : Below w4.heap.size w4 w5 := (by rw [hw5]; exact below_drewN (Below.refl _ _) m5)
        have Q := hidden (P1.out.later b5)
        clear hw5 b5 P1 c34
        have P1 := Q
        clear Q
        have c34 := P1.out.st.cell (SV.get_pc HV.out.1)
        go_upto_region 4 with (fail)
        refine wp_region_head later_below 5 [29, 30, 31, 32, 9] (phiSw n W v) (by kernel_rfl) (by kernel_rfl) rfl (phiSw_mono n W v) ?_ ?_
        · intro j hj xs w3 hxs hR hpre
          obtain ⟨x0, x1, x2, x3, x4, rfl⟩ := lstSw xs hxs
          have hS : Blk w3 n v.c 26 := P1.out.st.later hR
          have hv := HV.out
          have hW := HWL.out
          have hs := HLT.out.1
          have hT := HLT.out.2.1
          rcases (show j = 0 ∨ j = 1 ∨ j = 2 ∨ j = 3 ∨ j = 4 by omega) with rfl | rfl | rfl | rfl | rfl
          · exact wpOp_run (.int .u32 (W : Int)) rfl (by kernel_rfl) (exec_move rfl (by kernel_rfl) w3) ⟨_, by kernel_rfl, rfl, Below.refl _ _⟩
          · have e0 : x0 = .int .u32 (W : Int) := hpre 0 (by kernel_rfl)
            subst e0
            refine wpOp_callR (R := fun u w4 => u = .agg (insT ((insR W).op : Int) (insR W).tk) ∧ Below w3.heap.size w3 w4) 26 #[.int .u32 (W : Int)] rfl (by kernel_rfl) (by kernel_rfl) ((decode_any W hW w3).mono fun e w4 ⟨he, hb⟩ => ⟨_, he, rfl, hb⟩) ?_
            rintro _ w4 ⟨rfl, hb⟩
            exact ⟨_, by kernel_rfl, rfl, hb⟩
          · exact wpOp_run (.agg v.c) rfl (by kernel_rfl) (exec_load 26 rfl (by kernel_rfl) w3 (loadSt hS hv.1)) ⟨_, by kernel_rfl, rfl, Below.refl _ _⟩
          · have e1 : x1 = .agg (insT ((insR W).op : Int) (insR W).tk) := hpre 1 (by kernel_rfl)
            subst e1
            have e2 : x2 = .agg v.c := hpre 2 (by kernel_rfl)
            subst e2
            refine wpOp_callR (R := fun u w4 => u = .agg (taskV (insR W) v).c ∧ Below w3.heap.size w3 w4) 25 #[.agg (insT ((insR W).op : Int) (insR W).tk), .agg v.c] rfl (by kernel_rfl) (by kernel_rfl) ((take_any (insR W) v hv.1 hs hT w3).mono fun e w4 ⟨he, hb⟩ => ⟨_, he, rfl, hb⟩) ?_
            rintro _ w4 ⟨rfl, hb⟩
            exact ⟨_, by kernel_rfl, rfl, hb⟩
          · exact wpOp_run (.pointer (some ⟨w3.heap.size, 0, none⟩)) rfl (by kernel_rfl) (zeroT_run rfl w3) ⟨_, by kernel_rfl, ⟨_, rfl, (by have h1 := hR.size; have h2 := P1.out.fa.lt; omega), Blk.new w3 _ _⟩, below_new w3 _⟩
        · intro xs w3 hxs hR hall
          obtain ⟨x0, x1, x2, x3, x4, rfl⟩ := lstSw xs hxs
          have e3 : x3 = .agg (taskV (insR W) v).c := hall 3 (by omega)
          subst e3
          have f4 : ∃ g, x4 = .pointer (some ⟨g, 0, none⟩) ∧ n + 3 ≤ g ∧ Blk w3 g zTa 64 := hall 4 (by omega)
          obtain ⟨g, e4, hg4, hb4⟩ := f4
          subst e4
          have HR := hidden hR
          clear hall hR hxs
          simp only [slotsOn, putAll, List.set_cons_succ, List.set_cons_zero, List.drop_succ_cons, List.drop_zero]
          have PR := P1.out.later HR.out
          have hsz : (taskV (insR W) v).c.size = 46 := TV.size HOK.out.len
          refine wpList_storeTa rfl rfl _ _ rfl g zTa (taskV (insR W) v).c (by kernel_rfl) (by kernel_rfl) hb4 rfl hsz (TV.one _) ?_
          rintro w7 k7 o7
          have P2 := hidden (PR.only o7 hg4)
          have T2 := hidden k7
          have G2 := hidden hg4
          have c00 : w7.cell? ⟨g, 0, none⟩ = some (.int .i64 ((insR W).op : Int)) := k7.cell rfl
          clear PR k7 o7 hb4 hg4 HR P1
          go_wp2_with (first
            | (refine wpList_loadTa rfl _ rfl g _ rfl T2.out hsz ?_)
            | (go_at_call 27; refine (HWR.out _ P2.out.bel).mono ?_; rintro e w8 ⟨rfl, b8⟩; have Q := hidden (P2.out.later b8); have T3 := hidden (T2.out.later b8); clear P2 b8 c00 T2; have P2 := Q; clear Q; have T2 := T3; clear T3; have c00 : w8.cell? ⟨g, 0, none⟩ = some (.int .i64 35) := by rw [← HOP.out]; exact T2.out.cell rfl)
            | (refine wpList_loadV rfl _ rfl n v rfl P2.out.st HV.out.1 ?_)
            | (refine wpList_storeV rfl rfl _ _ rfl (n + 1) SV.zero _ rfl rfl P2.out.re rfl HV.out.1 ?_; rintro w9 k9 o9; have Q1 := hidden k9; have Q2 := hidden (P2.out.put1 o9); clear k9 o9)
            | (refine wpList_storeFa rfl rfl _ _ rfl (n + 2) zFa _ rfl rfl Q2.out.2 rfl rfl (by kernel_rfl) ?_; rintro w10 k10 o10; have Q3 := hidden k10; have Q4 := hidden (Below.only Q2.out.1 o10 (by omega)); have Q5 := hidden (Q1.out.only o10 (by omega)); clear k10 o10))
          refine bodyPost_ret (results_ctc rfl _ _ (n + 1) (n + 2) _ _ rfl rfl (loadSt Q5.out HV.out.1) (loadFa Q3.out rfl)) rfl ?_
          exact ⟨rfl, s, rfl, Step.later HM.out (by first | exact Q4.out | (rw [hn]; exact Q4.out))⟩
      · rw [if_neg h35]
        have e35 : ((((insR W).op : Nat) : Int) == 35) = false := beq_eq_false_iff_ne.2 (by omega)
        clear h35
        rw [if_pos (show (wentO nst 0).out = 0 from rfl)]
        go_enter Try.func10, Try.ntmps10
        go_upto_region 1 with (first
          | (refine wpList_boxG rfl 26 _ rfl C rfl ?_; rintro w1 k1 s1 b1; rw [hn] at k1 s1 b1 ⊢; have K1 : Hid (Blk w1 n v.c 26) := hidden (by rw [HC.out]; exact k1); have S1 := hidden s1; have B1 := hidden b1; clear k1 s1 b1)
          | (refine wpList_allocV rfl rfl ?_; rintro w2 k2 s2 b2; rw [S1.out] at k2 s2 b2 ⊢; have K2 := hidden (K1.out.later (by rw [S1.out]; exact b2)); have R2 := hidden k2; have S2 := hidden s2; have B2 := hidden (B1.out.trans (b2.mono (by omega))); clear k2 s2 b2 K1 B1)
          | (refine wpList_allocFa rfl rfl ?_; rintro w4 k4 s4 b4; rw [S2.out] at k4 s4 b4 ⊢; have P1 := hidden (SW.mk (B2.out.trans (b4.mono (by omega))) (K2.out.later (by rw [S2.out]; exact b4)) (R2.out.later (by rw [S2.out]; exact b4)) k4); have c34 := P1.out.st.cell (SV.get_pc HV.out.1); clear k4 s4 b4 K2 R2 B2))
        go_upto_region 2 with (fail)
        go_at_call 23
        refine (HF.out _ P1.out.bel).mono ?_
        rintro e w5 ⟨rfl, m5, hw5⟩
        have b5 : Below w4.heap.size w4 w5 := (by rw [hw5]; exact below_drewN (Below.refl _ _) m5)
        have Q := hidden (P1.out.later b5)
        clear hw5 b5 P1 c34
        have P1 := Q
        clear Q
        have c34 := P1.out.st.cell (SV.get_pc HV.out.1)
        go_upto_region 4 with (fail)
        refine wp_region_head later_below 5 [29, 30, 31, 32, 9] (phiSw n W v) (by kernel_rfl) (by kernel_rfl) rfl (phiSw_mono n W v) ?_ ?_
        · intro j hj xs w3 hxs hR hpre
          obtain ⟨x0, x1, x2, x3, x4, rfl⟩ := lstSw xs hxs
          have hS : Blk w3 n v.c 26 := P1.out.st.later hR
          have hv := HV.out
          have hW := HWL.out
          have hs := HLT.out.1
          have hT := HLT.out.2.1
          rcases (show j = 0 ∨ j = 1 ∨ j = 2 ∨ j = 3 ∨ j = 4 by omega) with rfl | rfl | rfl | rfl | rfl
          · exact wpOp_run (.int .u32 (W : Int)) rfl (by kernel_rfl) (exec_move rfl (by kernel_rfl) w3) ⟨_, by kernel_rfl, rfl, Below.refl _ _⟩
          · have e0 : x0 = .int .u32 (W : Int) := hpre 0 (by kernel_rfl)
            subst e0
            refine wpOp_callR (R := fun u w4 => u = .agg (insT ((insR W).op : Int) (insR W).tk) ∧ Below w3.heap.size w3 w4) 26 #[.int .u32 (W : Int)] rfl (by kernel_rfl) (by kernel_rfl) ((decode_any W hW w3).mono fun e w4 ⟨he, hb⟩ => ⟨_, he, rfl, hb⟩) ?_
            rintro _ w4 ⟨rfl, hb⟩
            exact ⟨_, by kernel_rfl, rfl, hb⟩
          · exact wpOp_run (.agg v.c) rfl (by kernel_rfl) (exec_load 26 rfl (by kernel_rfl) w3 (loadSt hS hv.1)) ⟨_, by kernel_rfl, rfl, Below.refl _ _⟩
          · have e1 : x1 = .agg (insT ((insR W).op : Int) (insR W).tk) := hpre 1 (by kernel_rfl)
            subst e1
            have e2 : x2 = .agg v.c := hpre 2 (by kernel_rfl)
            subst e2
            refine wpOp_callR (R := fun u w4 => u = .agg (taskV (insR W) v).c ∧ Below w3.heap.size w3 w4) 25 #[.agg (insT ((insR W).op : Int) (insR W).tk), .agg v.c] rfl (by kernel_rfl) (by kernel_rfl) ((take_any (insR W) v hv.1 hs hT w3).mono fun e w4 ⟨he, hb⟩ => ⟨_, he, rfl, hb⟩) ?_
            rintro _ w4 ⟨rfl, hb⟩
            exact ⟨_, by kernel_rfl, rfl, hb⟩
          · exact wpOp_run (.pointer (some ⟨w3.heap.size, 0, none⟩)) rfl (by kernel_rfl) (zeroT_run rfl w3) ⟨_, by kernel_rfl, ⟨_, rfl, (by have h1 := hR.size; have h2 := P1.out.fa.lt; omega), Blk.new w3 _ _⟩, below_new w3 _⟩
        · intro xs w3 hxs hR hall
          obtain ⟨x0, x1, x2, x3, x4, rfl⟩ := lstSw xs hxs
          have e3 : x3 = .agg (taskV (insR W) v).c := hall 3 (by omega)
          subst e3
          have f4 : ∃ g, x4 = .pointer (some ⟨g, 0, none⟩) ∧ n + 3 ≤ g ∧ Blk w3 g zTa 64 := hall 4 (by omega)
          obtain ⟨g, e4, hg4, hb4⟩ := f4
          subst e4
          have HR := hidden hR
          clear hall hR hxs
          simp only [slotsOn, putAll, List.set_cons_succ, List.set_cons_zero, List.drop_succ_cons, List.drop_zero]
          have PR := P1.out.later HR.out
          have hsz : (taskV (insR W) v).c.size = 46 := TV.size HOK.out.len
          refine wpList_storeTa rfl rfl _ _ rfl g zTa (taskV (insR W) v).c (by kernel_rfl) (by kernel_rfl) hb4 rfl hsz (TV.one _) ?_
          rintro w7 k7 o7
          have P2 := hidden (PR.only o7 hg4)
          have T2 := hidden k7
          have G2 := hidden hg4
          have c00 : w7.cell? ⟨g, 0, none⟩ = some (.int .i64 ((insR W).op : Int)) := k7.cell rfl
          clear PR k7 o7 hb4 hg4 HR P1
          go_wp2_with (first
            | (refine wpList_loadTa rfl _ rfl g _ rfl T2.out hsz ?_)
            | (go_at_call 27; refine (HWR.out _ P2.out.bel).mono ?_; rintro e w8 ⟨rfl, b8⟩; have Q := hidden (P2.out.later b8); have T3 := hidden (T2.out.later b8); clear P2 b8 c00 T2; have P2 := Q; clear Q; have T2 := T3; clear T3; have c00 : w8.cell? ⟨g, 0, none⟩ = some (.int .i64 ((insR W).op : Int)) := T2.out.cell rfl)
            | (go_at_call 28; refine (HDO.out _ P2.out.bel).mono ?_; rintro e w9 ⟨rfl, s', hp, st9⟩; have HP := hidden hp; have X := hidden (P2.out.store HM.out hn st9); clear P2 hp st9 c00)
            | (refine wpList_storeV rfl rfl _ _ rfl (n + 1) SV.zero _ rfl rfl X.out.re rfl HNL.out ?_; rintro w10 k10 o10; have Q1 := hidden k10; have Q2 := hidden (X.out.put1 o10); clear k10 o10 X)
            | (refine wpList_storeFa rfl rfl _ _ rfl (n + 2) zFa _ rfl rfl Q2.out.fa rfl rfl (by kernel_rfl) ?_; rintro w11 k11 o11; have Q3 := hidden k11; have Q4 := hidden (Q2.out.put2 o11); have Q5 := hidden (Q1.out.only o11 (by omega)); clear k11 o11))
          refine bodyPost_ret (results_ctc rfl _ _ (n + 1) (n + 2) _ _ rfl rfl (loadSt Q5.out HNL.out) (loadFa Q3.out rfl)) rfl ?_
          exact ⟨rfl, s', HP.out, Q4.out⟩
    · have ew : (wk.1 == 0) = false := beq_eq_false_iff_ne.2 hw0
      have ew2 : (wk.1 != 0) = true := bne_t ew
      rw [if_pos hw0]
      rw [if_neg (show ¬ (stopO v wk.1 wk.2).out = 0 from (by decide : ¬ (2 : Int) = 0))]
      clear hw0
      go_enter Try.func10, Try.ntmps10
      go_upto_region 1 with (first
        | (refine wpList_boxG rfl 26 _ rfl C rfl ?_; rintro w1 k1 s1 b1; rw [hn] at k1 s1 b1 ⊢; have K1 : Hid (Blk w1 n v.c 26) := hidden (by rw [HC.out]; exact k1); have S1 := hidden s1; have B1 := hidden b1; clear k1 s1 b1)
        | (refine wpList_allocV rfl rfl ?_; rintro w2 k2 s2 b2; rw [S1.out] at k2 s2 b2 ⊢; have K2 := hidden (K1.out.later (by rw [S1.out]; exact b2)); have R2 := hidden k2; have S2 := hidden s2; have B2 := hidden (B1.out.trans (b2.mono (by omega))); clear k2 s2 b2 K1 B1)
        | (refine wpList_allocFa rfl rfl ?_; rintro w4 k4 s4 b4; rw [S2.out] at k4 s4 b4 ⊢; have P1 := hidden (SW.mk (B2.out.trans (b4.mono (by omega))) (K2.out.later (by rw [S2.out]; exact b4)) (R2.out.later (by rw [S2.out]; exact b4)) k4); have c34 := P1.out.st.cell (SV.get_pc HV.out.1); clear k4 s4 b4 K2 R2 B2))
      go_upto_region 2 with (fail)
      go_at_call 23
      refine (HF.out _ P1.out.bel).mono ?_
      rintro e w5 ⟨rfl, m5, hw5⟩
      have b5 : Below w4.heap.size w4 w5 := (by rw [hw5]; exact below_drewN (Below.refl _ _) m5)
      have Q := hidden (P1.out.later b5)
      clear hw5 b5 P1 c34
      have P1 := Q
      clear Q
      have c34 := P1.out.st.cell (SV.get_pc HV.out.1)
      go_upto_region 4 with (fail)
      refine wp_region_head later_below 5 [29, 30, 31, 32, 9] (phiSw n W v) (by kernel_rfl) (by kernel_rfl) rfl (phiSw_mono n W v) ?_ ?_
      · intro j hj xs w3 hxs hR hpre
        obtain ⟨x0, x1, x2, x3, x4, rfl⟩ := lstSw xs hxs
        have hS : Blk w3 n v.c 26 := P1.out.st.later hR
        have hv := HV.out
        have hW := HWL.out
        have hs := HLT.out.1
        have hT := HLT.out.2.1
        rcases (show j = 0 ∨ j = 1 ∨ j = 2 ∨ j = 3 ∨ j = 4 by omega) with rfl | rfl | rfl | rfl | rfl
        · exact wpOp_run (.int .u32 (W : Int)) rfl (by kernel_rfl) (exec_move rfl (by kernel_rfl) w3) ⟨_, by kernel_rfl, rfl, Below.refl _ _⟩
        · have e0 : x0 = .int .u32 (W : Int) := hpre 0 (by kernel_rfl)
          subst e0
          refine wpOp_callR (R := fun u w4 => u = .agg (insT ((insR W).op : Int) (insR W).tk) ∧ Below w3.heap.size w3 w4) 26 #[.int .u32 (W : Int)] rfl (by kernel_rfl) (by kernel_rfl) ((decode_any W hW w3).mono fun e w4 ⟨he, hb⟩ => ⟨_, he, rfl, hb⟩) ?_
          rintro _ w4 ⟨rfl, hb⟩
          exact ⟨_, by kernel_rfl, rfl, hb⟩
        · exact wpOp_run (.agg v.c) rfl (by kernel_rfl) (exec_load 26 rfl (by kernel_rfl) w3 (loadSt hS hv.1)) ⟨_, by kernel_rfl, rfl, Below.refl _ _⟩
        · have e1 : x1 = .agg (insT ((insR W).op : Int) (insR W).tk) := hpre 1 (by kernel_rfl)
          subst e1
          have e2 : x2 = .agg v.c := hpre 2 (by kernel_rfl)
          subst e2
          refine wpOp_callR (R := fun u w4 => u = .agg (taskV (insR W) v).c ∧ Below w3.heap.size w3 w4) 25 #[.agg (insT ((insR W).op : Int) (insR W).tk), .agg v.c] rfl (by kernel_rfl) (by kernel_rfl) ((take_any (insR W) v hv.1 hs hT w3).mono fun e w4 ⟨he, hb⟩ => ⟨_, he, rfl, hb⟩) ?_
          rintro _ w4 ⟨rfl, hb⟩
          exact ⟨_, by kernel_rfl, rfl, hb⟩
        · exact wpOp_run (.pointer (some ⟨w3.heap.size, 0, none⟩)) rfl (by kernel_rfl) (zeroT_run rfl w3) ⟨_, by kernel_rfl, ⟨_, rfl, (by have h1 := hR.size; have h2 := P1.out.fa.lt; omega), Blk.new w3 _ _⟩, below_new w3 _⟩
      · intro xs w3 hxs hR hall
        obtain ⟨x0, x1, x2, x3, x4, rfl⟩ := lstSw xs hxs
        have e3 : x3 = .agg (taskV (insR W) v).c := hall 3 (by omega)
        subst e3
        have f4 : ∃ g, x4 = .pointer (some ⟨g, 0, none⟩) ∧ n + 3 ≤ g ∧ Blk w3 g zTa 64 := hall 4 (by omega)
        obtain ⟨g, e4, hg4, hb4⟩ := f4
        subst e4
        have HR := hidden hR
        clear hall hR hxs
        simp only [slotsOn, putAll, List.set_cons_succ, List.set_cons_zero, List.drop_succ_cons, List.drop_zero]
        have PR := P1.out.later HR.out
        have hsz : (taskV (insR W) v).c.size = 46 := TV.size HOK.out.len
        refine wpList_storeTa rfl rfl _ _ rfl g zTa (taskV (insR W) v).c (by kernel_rfl) (by kernel_rfl) hb4 rfl hsz (TV.one _) ?_
        rintro w7 k7 o7
        have P2 := hidden (PR.only o7 hg4)
        have T2 := hidden k7
        have G2 := hidden hg4
        have c00 : w7.cell? ⟨g, 0, none⟩ = some (.int .i64 ((insR W).op : Int)) := k7.cell rfl
        clear PR k7 o7 hb4 hg4 HR P1
        go_wp2_with (first
          | (refine wpList_loadTa rfl _ rfl g _ rfl T2.out hsz ?_)
          | (go_at_call 27; refine (HWR.out _ P2.out.bel).mono ?_; rintro e w8 ⟨rfl, b8⟩; have Q := hidden (P2.out.later b8); have T3 := hidden (T2.out.later b8); clear P2 b8 c00 T2; have P2 := Q; clear Q; have T2 := T3; clear T3; have c34 := P2.out.st.cell (SV.get_pc HV.out.1); have c00 : w8.cell? ⟨g, 0, none⟩ = some (.int .i64 ((insR W).op : Int)) := T2.out.cell rfl)
          | (refine wpList_loadV rfl _ rfl n v rfl P2.out.st HV.out.1 ?_)
          | (go_at_call 24; refine (HSTOP.out _ _ _).mono ?_; rintro e w11 ⟨rfl, b11⟩; have Q := hidden (P2.out.later b11); clear P2 b11; have P2 := Q; clear Q)
          | (refine wpList_storeV rfl rfl _ _ rfl (n + 1) SV.zero _ rfl rfl P2.out.re rfl HV.out.1 ?_; rintro w9 k9 o9; have Q1 := hidden k9; have Q2 := hidden (P2.out.put1 o9); clear k9 o9)
          | (refine wpList_storeFa rfl rfl _ _ rfl (n + 2) zFa _ rfl rfl Q2.out.2 rfl rfl (by kernel_rfl) ?_; rintro w10 k10 o10; have Q3 := hidden k10; have Q4 := hidden (Below.only Q2.out.1 o10 (by omega)); have Q5 := hidden (Q1.out.only o10 (by omega)); clear k10 o10))
        refine bodyPost_ret (results_ctc rfl _ _ (n + 1) (n + 2) _ _ rfl rfl (loadSt Q5.out HV.out.1) (loadFa Q3.out rfl)) rfl ?_
        exact ⟨rfl, s, rfl, Step.later HM.out (by first | exact Q4.out | (rw [hn]; exact Q4.out))⟩
  · rw [if_pos h0, if_pos h0]
    have ef : (fk == 0) = false := beq_eq_false_iff_ne.2 h0
    have ef2 : (fk != 0) = true := bne_t ef
    clear h0
    go_enter Try.func10, Try.ntmps10
    go_wp2_with (first
      | (refine wpList_boxG rfl 26 _ rfl C rfl ?_; rintro w1 k1 s1 b1; rw [hn] at k1 s1 b1 ⊢; have K1 : Hid (Blk w1 n v.c 26) := hidden (by rw [HC.out]; exact k1); have S1 := hidden s1; have B1 := hidden b1; clear k1 s1 b1)
      | (refine wpList_allocV rfl rfl ?_; rintro w2 k2 s2 b2; rw [S1.out] at k2 s2 b2 ⊢; have K2 := hidden (K1.out.later (by rw [S1.out]; exact b2)); have R2 := hidden k2; have S2 := hidden s2; have B2 := hidden (B1.out.trans (b2.mono (by omega))); clear k2 s2 b2 K1 B1)
      | (refine wpList_allocFa rfl rfl ?_; rintro w4 k4 s4 b4; rw [S2.out] at k4 s4 b4 ⊢; have P1 := hidden (SW.mk (B2.out.trans (b4.mono (by omega))) (K2.out.later (by rw [S2.out]; exact b4)) (R2.out.later (by rw [S2.out]; exact b4)) k4); have c34 := P1.out.st.cell (SV.get_pc HV.out.1); clear k4 s4 b4 K2 R2 B2)
      | (go_at_call 23; refine (HF.out _ P1.out.bel).mono ?_; rintro e w5 ⟨rfl, m5, hw5⟩; have b5 : Below w4.heap.size w4 w5 := (by rw [hw5]; exact below_drewN (Below.refl _ _) m5); have Q := hidden (P1.out.later b5); clear hw5 b5 P1 c34; have P1 := Q; clear Q; have c34 := P1.out.st.cell (SV.get_pc HV.out.1))
      | (refine wpList_loadV rfl _ rfl n v rfl P1.out.st HV.out.1 ?_)
      | (go_at_call 24; refine (HSTOP.out _ _ _).mono ?_; rintro e w8 ⟨rfl, b8⟩; have Q := hidden (P1.out.later b8); clear P1 b8 c34; have P1 := Q; clear Q)
      | (refine wpList_storeV rfl rfl _ _ rfl (n + 1) SV.zero _ rfl rfl P1.out.re rfl HV.out.1 ?_; rintro w9 k9 o9; have Q1 := hidden k9; have Q2 := hidden (P1.out.put1 o9); clear k9 o9)
      | (refine wpList_storeFa rfl rfl _ _ rfl (n + 2) zFa _ rfl rfl Q2.out.2 rfl rfl (by kernel_rfl) ?_; rintro w10 k10 o10; have Q3 := hidden k10; have Q4 := hidden (Below.only Q2.out.1 o10 (by omega)); have Q5 := hidden (Q1.out.only o10 (by omega)); clear k10 o10))
    refine bodyPost_ret (results_ctc rfl _ _ (n + 1) (n + 2) _ _ rfl rfl (loadSt Q5.out HV.out.1) (loadFa Q3.out rfl)) rfl ?_
    exact ⟨rfl, s, rfl, Step.later HM.out (by first | exact Q4.out | (rw [hn]; exact Q4.out))⟩
end Go.Proofs.Ytobnocioefchlaa
