/- Chapter 5's own memory: Map, where the page is new. -/
import Derived.Test.YtodoenimlhldjaaQMSwap
namespace Go.Proofs.Ytodoenimlhldjaa
open Go.ChangeShapes Go.WideShapes Go.ChangeAt Go.RowKit
set_option linter.unusedVariables false
set_option maxRecDepth 20000 in
set_option maxHeartbeats 8000000 in
theorem map5_new (w : World) (s : S5) (h : M5 w s) (a : Nat) (z : Int) (ha : a < 4294967296) (hn : ¬ find5 s.l (a / 256 * 256) < s.l.length) (hroom : s.l.length < s.most) (hlen : s.l.length < 1000) :
    Calls Try.prog 31 #[.pointer (some ⟨s.m, 0, none⟩), .int .u32 (a : Int), .int .i64 z] w fun e w' => e = .returned (.int .i64 0) ∧ ∃ s', Step5 w s w' s' ∧ s'.m = s.m ∧ s'.most = s.most ∧ s'.ts = s.ts ∧ ∃ i, i ≤ s.l.length ∧ s'.l = s.l.take i ++ page5 (a / 256 * 256) (bits .and .i64 z 7) :: s.l.drop i ∧ (∀ k, i = k + 1 → ¬ a / 256 * 256 < (s.l.getD k nop5).at_) ∧ ∀ j, i ≤ j → j < s.l.length → a / 256 * 256 < (s.l.getD j nop5).at_ := by
  obtain ⟨ao, cap, hv, hps⟩ := h.ps
  have hP : w.cell? ⟨s.m, 1, none⟩ = some (.slice ao s.l.length cap) := by rw [h.cellP, hv]
  have C := hidden (find_any w s.m ao cap a s.l hps hP h.few ha)
  rw [find5I_no hn] at C
  have h0 : w.cell? ⟨s.m, 0, none⟩ = some (.int .i64 (s.most : Int)) := h.self.cell rfl
  have hroom2 : ¬ (s.most : Int) ≤ (s.l.length : Int) := by omega
  obtain ⟨p, hp⟩ : ∃ p, a / 256 * 256 = p := ⟨_, rfl⟩
  have C60 : Hid (∀ u, Calls Try.prog 62 #[.int .u32 (a : Int)] u fun e w' => e = .returned (.int .u32 (p : Int)) ∧ w' = u) := fun u => by rw [← hp]; exact page5_any a ha u
  have hplt : p < 4294967296 := by omega
  rw [hp]
  have H := hidden h
  have HL : Hid (s.l.length ≤ 1000) := by show s.l.length ≤ 1000; omega
  have HLL := hidden hlen
  obtain ⟨zz, hzz⟩ : ∃ zz, bits .and .i64 z 7 = zz := ⟨_, rfl⟩
  have HZZ : Hid (Value.int .i64 (bits .and .i64 z 7) = .int .i64 zz) := by show _ = _; rw [hzz]
  rw [hzz]
  have HF := hidden (page5_fit hplt zz)
  have HFIT := hidden h.fit
  have HV := hidden hv
  clear h hps hn hlen hp hv hzz
  go_enter Try.func31, Try.ntmps31
  go_wp2_with (first | (go_at_call 61; refine (Hid.out C).mono ?_; rintro e w4 ⟨rfl, hww⟩; rw [hww]; clear hww w4))
  go_region
  all_goals go_wp2
  generalize hw1 : w.drew = w1
  have hM1 : M5 w1 s := by rw [← hw1]; exact (Hid.out H).drewN 1
  have hst1 : Step5 w s w1 s := by rw [← hw1]; exact ⟨(Hid.out H).drewN 1, (Keep.refl _ _).drewN 1, fun _ hb => .inl hb⟩
  have HST1 := hidden hst1
  have HM1 := hidden hM1
  obtain ⟨m, hm⟩ : ∃ m, s.m = m := ⟨_, rfl⟩
  obtain ⟨v, hvv⟩ : ∃ v, s.vP = v := ⟨_, rfl⟩
  have HMM := hidden hm
  have HVV := hidden hvv
  have hself : Blk w1 m #[.int .i64 (s.most : Int), v, s.vT] 96 := by rw [← hm, ← hvv]; exact hM1.self
  have HSELF := hidden hself
  have HOV : Hid (Out5 w1 v s.l) := by rw [← hvv]; exact hM1.pages
  have HNE : Hid (some m ≠ v.ownBlock) := by
    intro e
    obtain ⟨c, hc⟩ := hM1.blkP (g := m) (by rw [hvv]; exact e.symm)
    exact blk_ne hself (show Blk w1 m c 116 from hc) (by decide) rfl
  rw [hm] at hP h0 C ⊢
  clear hM1 hw1 hst1 hself hm hvv hP h0 C
  refine wp_region_by (later_rm5 v) (fun j u x => if j = 11 then RM5 v u x else Below u.heap.size u x) (rm5_of v) 14 [42, 43, 44, 45, 46, 47, 48, 49, 50, 51, 52, 53, 54, 55] (fun i' xs' w' => phiM5 m a p w1.heap.size z zz v s.l i' (xs'.getD i' undef) w') (by kernel_rfl) (by kernel_rfl) rfl ?_ ?_ ?_
  · intro i' j v' xs u1 u2 hwt hnej hp hRj
    have hg' : (xs.set j v').getD i' undef = xs.getD i' undef := by rw [List.getD_eq_getElem?_getD, List.getElem?_set_ne (fun e => hnej e.symm), ← List.getD_eq_getElem?_getD]
    show phiM5 m a p w1.heap.size z zz v s.l i' ((xs.set j v').getD i' undef) u2
    rw [hg']
    exact phiM5_mono m a p w1.heap.size z zz v s.l i' j _ u1 u2 hp hRj (fun e => hnej e)
  · intro j hj xs w3 hxs hR hpre
    obtain ⟨x0, x1, x2, x3, x4, x5, x6, x7, x8, x9, x10, x11, x12, x13, rfl⟩ := list14m xs hxs
    have hc3 : w3.cell? ⟨m, 1, none⟩ = some v := (hR.blk (Hid.out HSELF) (Hid.out HNE)).cell rfl
    have hnew3 : some w3.heap.size ≠ v.ownBlock := fun e => absurd ((Hid.out HOV).lt _ e.symm).2 (Nat.not_lt.2 hR.grown.size)
    rcases (show j = 0 ∨ j = 1 ∨ j = 2 ∨ j = 3 ∨ j = 4 ∨ j = 5 ∨ j = 6 ∨ j = 7 ∨ j = 8 ∨ j = 9 ∨ j = 10 ∨ j = 11 ∨ j = 12 ∨ j = 13 by omega) with rfl | rfl | rfl | rfl | rfl | rfl | rfl | rfl | rfl | rfl | rfl | rfl | rfl | rfl
    · exact wpOp_run (.pointer (some ⟨m, 0, none⟩)) rfl (by kernel_rfl) (exec_move rfl (by kernel_rfl) w3) ⟨_, by kernel_rfl, rfl, below5_if (by decide) (Below.refl _ _)⟩
    · exact wpOp_run (.pointer (some ⟨m, 0, none⟩)) rfl (by kernel_rfl) (exec_move rfl (by kernel_rfl) w3) ⟨_, by kernel_rfl, rfl, below5_if (by decide) (Below.refl _ _)⟩
    · have e1 : x1 = .pointer (some ⟨m, 0, none⟩) := hpre 1 (by kernel_rfl)
      subst e1
      exact wpOp_run (.pointer (some ⟨m, 0, none⟩)) rfl (by kernel_rfl) (by kernel_rfl) ⟨_, by kernel_rfl, rfl, below5_if (by decide) (Below.refl _ _)⟩
    · have e2 : x2 = .pointer (some ⟨m, 0, none⟩) := hpre 2 (by kernel_rfl)
      subst e2
      exact wpOp_run (.pointer (some ⟨m, 1, none⟩)) rfl (by kernel_rfl) (by kernel_rfl) ⟨_, by kernel_rfl, rfl, below5_if (by decide) (Below.refl _ _)⟩
    · have e3 : x3 = .pointer (some ⟨m, 1, none⟩) := hpre 3 (by kernel_rfl)
      subst e3
      exact wpOp_run (v) rfl (by kernel_rfl) (exec_load 94 rfl (by kernel_rfl) w3 (load95 hc3)) ⟨_, by kernel_rfl, rfl, below5_if (by decide) (Below.refl _ _)⟩
    · exact wpOp_run (.int .u32 (a : Int)) rfl (by kernel_rfl) (exec_move rfl (by kernel_rfl) w3) ⟨_, by kernel_rfl, rfl, below5_if (by decide) (Below.refl _ _)⟩
    · have e5 : x5 = .int .u32 (a : Int) := hpre 5 (by kernel_rfl)
      subst e5
      refine wpOp_callR (R := fun u w4 => u = .int .u32 (p : Int) ∧ Below w3.heap.size w3 w4) 62 #[.int .u32 (a : Int)] rfl (by kernel_rfl) (by kernel_rfl) ((Hid.out C60 w3).mono fun e w4 ⟨he, hb⟩ => ⟨_, he, rfl, by rw [hb]; exact Below.refl _ _⟩) ?_
      rintro u w4 ⟨hu, hb4⟩
      exact ⟨_, by kernel_rfl, hu, below5_if (by decide) hb4⟩
    · exact wpOp_run (.int .i64 z) rfl (by kernel_rfl) (exec_move rfl (by kernel_rfl) w3) ⟨_, by kernel_rfl, rfl, below5_if (by decide) (Below.refl _ _)⟩
    · have e7 : x7 = .int .i64 z := hpre 7 (by kernel_rfl)
      subst e7
      exact wpOp_run (.int .i64 (bits .and .i64 z 7)) rfl (by kernel_rfl) (exec_and7 rfl ⟨by kernel_rfl, by kernel_rfl⟩ w3) ⟨_, by kernel_rfl, Hid.out HZZ, below5_if (by decide) (Below.refl _ _)⟩
    · have e6 : x6 = .int .u32 (p : Int) := hpre 6 (by kernel_rfl)
      subst e6
      have e8 : x8 = .int .i64 zz := hpre 8 (by kernel_rfl)
      subst e8
      exact wpOp_run (.agg (one5 (page5 p zz)).toArray) rfl (by kernel_rfl) (exec_build 116 rfl (by kernel_rfl) w3 (build100 p zz w3)) ⟨_, by kernel_rfl, rfl, below5_if (by decide) (Below.refl _ _)⟩
    · have e9 : x9 = .agg (one5 (page5 p zz)).toArray := hpre 9 (by kernel_rfl)
      subst e9
      exact wpOp_run (.slice (some ⟨w3.heap.size, 0, none⟩) 1 1) rfl (by kernel_rfl) (exec_slice100 rfl (by kernel_rfl) w3) ⟨_, by kernel_rfl, ⟨w3.heap.size, rfl, hnew3, Blk.new w3 _ 116⟩, below5_if (by decide) (below_new w3 _)⟩
    · have f10 : ∃ q, x10 = .slice (some ⟨q, 0, none⟩) 1 1 ∧ some q ≠ v.ownBlock ∧ Blk w3 q (one5 (page5 p zz)).toArray 116 := hpre 10 (by kernel_rfl)
      obtain ⟨q10, e10, hne10, hq10⟩ := f10
      subst e10
      have e4 : x4 = v := hpre 4 (by kernel_rfl)
      subst e4
      obtain ⟨v5, w5, hrun, ho5, hrm, hloc⟩ := run_more5 (ty := 94) (hR.keep _ (Hid.out HFIT) (Hid.out HOV)) (Hid.out HFIT) (Hid.out HF) hq10 (Hid.out HL)
      exact wpOp_run v5 rfl (by kernel_rfl) (exec_app95 rfl (by kernel_rfl) (by kernel_rfl) hrun) ⟨_, by kernel_rfl, ⟨ho5, hloc.imp id fun e => ⟨_, hR.grown.size, e⟩⟩, hrm⟩
    · have e0 : x0 = .pointer (some ⟨m, 0, none⟩) := hpre 0 (by kernel_rfl)
      subst e0
      exact wpOp_run (.pointer (some ⟨m, 0, none⟩)) rfl (by kernel_rfl) (by kernel_rfl) ⟨_, by kernel_rfl, rfl, below5_if (by decide) (Below.refl _ _)⟩
    · have e12 : x12 = .pointer (some ⟨m, 0, none⟩) := hpre 12 (by kernel_rfl)
      subst e12
      exact wpOp_run (.pointer (some ⟨m, 1, none⟩)) rfl (by kernel_rfl) (by kernel_rfl) ⟨_, by kernel_rfl, rfl, below5_if (by decide) (Below.refl _ _)⟩
  · intro xs w3 hxs hR hall
    obtain ⟨x0, x1, x2, x3, x4, x5, x6, x7, x8, x9, x10, x11, x12, x13, rfl⟩ := list14m xs hxs
    have e0 : x0 = .pointer (some ⟨m, 0, none⟩) := hall 0 (by omega)
    subst e0
    have e1 : x1 = .pointer (some ⟨m, 0, none⟩) := hall 1 (by omega)
    subst e1
    have e2 : x2 = .pointer (some ⟨m, 0, none⟩) := hall 2 (by omega)
    subst e2
    have e3 : x3 = .pointer (some ⟨m, 1, none⟩) := hall 3 (by omega)
    subst e3
    have e5 : x5 = .int .u32 (a : Int) := hall 5 (by omega)
    subst e5
    have e6 : x6 = .int .u32 (p : Int) := hall 6 (by omega)
    subst e6
    have e7 : x7 = .int .i64 z := hall 7 (by omega)
    subst e7
    have e8 : x8 = .int .i64 zz := hall 8 (by omega)
    subst e8
    have e9 : x9 = .agg (one5 (page5 p zz)).toArray := hall 9 (by omega)
    subst e9
    have e12 : x12 = .pointer (some ⟨m, 0, none⟩) := hall 12 (by omega)
    subst e12
    have e13 : x13 = .pointer (some ⟨m, 1, none⟩) := hall 13 (by omega)
    subst e13
    have f10 : ∃ q, x10 = .slice (some ⟨q, 0, none⟩) 1 1 ∧ some q ≠ v.ownBlock ∧ Blk w3 q (one5 (page5 p zz)).toArray 116 := hall 10 (by omega)
    obtain ⟨q10, e10, hne10, hq10⟩ := f10
    subst e10
    have e4 : x4 = v := hall 4 (by omega)
    subst e4
    have hout : Out5 w3 x11 (s.l ++ [page5 p zz]) ∧ (x11.ownBlock = x4.ownBlock ∨ ∃ q, w1.heap.size ≤ q ∧ x11.ownBlock = some q) := hall 11 (by omega)
    have hmore := (Hid.out HM1).more (Hid.out HF) (Hid.out HLL) hout.1 (by rw [Hid.out HVV]; exact hR.grown) (by rw [Hid.out HVV]; exact hout.2)
    rw [Hid.out HMM] at hmore
    have hself3 : Blk w3 m #[.int .i64 (s.most : Int), x4, s.vT] 96 := hR.blk (Hid.out HSELF) (Hid.out HNE)
    have hc3 : w3.cell? ⟨m, 1, none⟩ = some x4 := hself3.cell rfl
    have hz3 : w3.frozen? ⟨m, 1, none⟩ = false := frozen_of_row _ _ _ _ _ hself3
    obtain ⟨oa, oc, hx11⟩ : ∃ oa oc, x11 = .slice oa (s.l.length + 1) oc := by
      rcases hout.1.2 with ⟨e, hz⟩ | ⟨g, cap, cur, e, _⟩
      · simp at hz
      · rw [List.length_append] at e
        exact ⟨_, _, e⟩
    obtain ⟨n1, hn1⟩ : ∃ n1, s.l.length + 1 = n1 := ⟨_, rfl⟩
    rw [hn1] at hx11
    subst hx11
    have HMO := hidden hmore
    have hn2 : (n1 : Int) - 1 = ((s.l.length : Nat) : Int) := by omega
    have HN1 := hidden hn1
    clear hmore hout hself3 hq10 hR hn1 hall hxs
    simp only [slotsOn, putAll, List.set_cons_succ, List.set_cons_zero, List.drop_succ_cons, List.drop_zero]
    have hlen := Hid.out HLL
    have HDONE : Hid (∀ (wr : World) (st : S5) (i r : Nat), i ≤ s.l.length → Step5 (w3.setCell ⟨m, 1, none⟩ (.slice oa n1 oc)) { s with m := m, l := s.l ++ [page5 p zz], vP := .slice oa n1 oc } wr st → st.m = m → st.most = s.most → st.ts = s.ts → st.l = s.l.take i ++ page5 p zz :: s.l.drop i → (∀ k, i = k + 1 → ¬ p < (s.l.getD k nop5).at_) → (∀ j, i ≤ j → j < s.l.length → p < (s.l.getD j nop5).at_) → ∃ s', Step5 w s (wr.drewN r) s' ∧ s'.m = s.m ∧ s'.most = s.most ∧ s'.ts = s.ts ∧ ∃ i, i ≤ s.l.length ∧ s'.l = s.l.take i ++ page5 p zz :: s.l.drop i ∧ (∀ k, i = k + 1 → ¬ p < (s.l.getD k nop5).at_) ∧ ∀ j, i ≤ j → j < s.l.length → p < (s.l.getD j nop5).at_) := by
      intro wr st i r hi hst h1 h2 h3 h4 h5 h6
      have h7 := ((Hid.out HST1).trans (Hid.out HMO)).trans hst
      exact ⟨st, ⟨h7.mem.drewN r, h7.keep.drewN r, h7.grow⟩, by rw [h1, Hid.out HMM], h2, h3, i, hi, h4, h5, h6⟩
    go_wp2
    go_loopw [8] (fun x8 wr => ∃ (i : Nat) (st : S5), i ≤ s.l.length ∧ x8 = .int .i64 (i : Int) ∧ Step5 (w3.setCell ⟨m, 1, none⟩ (.slice oa n1 oc)) { s with m := m, l := s.l ++ [page5 p zz], vP := .slice oa n1 oc } wr st ∧ st.m = m ∧ st.vP = .slice oa n1 oc ∧ st.most = s.most ∧ st.ts = s.ts ∧ st.l = s.l.take i ++ page5 p zz :: s.l.drop i ∧ ∀ j, i ≤ j → j < s.l.length → p < (s.l.getD j nop5).at_) (fun x8 _ => (intOf x8).toNat)
    case atStart => exact ⟨s.l.length, _, Nat.le_refl _, by first | rfl | (congr 1; unfold wrap64; omega), Step5.refl (Hid.out HMO).mem, rfl, rfl, rfl, rfl, by simp, fun j h1 h2 => by omega⟩
    case round =>
      obtain ⟨i, st, hi, rfl, hst, hsm, hsv, hsmost, hsts, hsl, hsup⟩ := hrel
      have hM := hst.mem
      have hPr : wr.cell? ⟨m, 1, none⟩ = some (.slice oa n1 oc) := by
        have := hM.cellP
        rw [hsm, hsv] at this
        exact this
      have hsln : st.l.length = n1 := by
        rw [hsl, ← Hid.out HN1]
        simp
        omega
      have HST := hidden hst
      by_cases hi0 : 0 < i
      · obtain ⟨k, rfl⟩ : ∃ k, i = k + 1 := ⟨i - 1, by omega⟩
        have hn1 := Hid.out HN1
        obtain ⟨g, off, cap', ho, hv', hltg, hth, ⟨cur, hbg⟩, hc⟩ := hM.row (k := k) (by omega)
        have hvr := hv'
        rw [hsv, hsln] at hv'
        simp only [Value.slice.injEq, true_and] at hv'
        obtain ⟨rfl, rfl⟩ := hv'
        have gk : st.l.getD k nop5 = s.l.getD k nop5 := by
          rw [hsl, List.getD_eq_getElem?_getD, List.getElem?_append_left (by simp; omega), List.getElem?_take_of_lt (by omega), ← List.getD_eq_getElem?_getD]
        have gk1 : st.l.getD (k + 1) nop5 = page5 p zz := by
          have e : (s.l.take (k + 1)).length = k + 1 := by simp; omega
          rw [hsl, List.getD_eq_getElem?_getD, List.getElem?_append_right (by omega), e, Nat.sub_self]
          rfl
        have ck : wr.cell? ⟨g, off + k * 259, none⟩ = some (.int .u32 ((s.l.getD k nop5).at_ : Int)) := by
          have := hc k 0 (.int .u32 ((s.l.getD k nop5).at_ : Int)) (by omega) (by omega) (by rw [gk]; rfl)
          exact this
        have ck1 : wr.cell? ⟨g, off + (k + 1) * 259, none⟩ = some (.int .u32 (p : Int)) := by
          have := hc (k + 1) 0 (.int .u32 (p : Int)) (by omega) (by omega) (by rw [gk1]; rfl)
          exact this
        have hkn : k < n1 := by omega
        have hkn1 : k + 1 < n1 := by omega
        obtain ⟨aq, haq⟩ : ∃ aq, (s.l.getD k nop5).at_ = aq := ⟨_, rfl⟩
        rw [haq] at ck
        have HAQ := hidden haq
        have HSL := hidden hsl
        have HSUP := hidden hsup
        have HC := hidden hc
        have HTH := hidden hth
        have HVR := hidden hvr
        have HMG : Hid (¬ m = g) := by rw [← hsm]; exact blk_ne hM.self hbg (by decide)
        have HGL : Hid (∀ u, M5 u st → g < u.heap.size) := fun u hu => by
          obtain ⟨c, hc⟩ := hu.blkP (g := g) (by rw [hvr]; rfl)
          exact hc.lt
        have HO := hidden ho
        have HGK := hidden gk
        have HGK1 := hidden gk1
        by_cases hlt2 : p < aq
        · have hd : decide ((p : Int) < (aq : Int)) = true := decide_eq_true (by omega)
          have hd2 : (p : Int) < (aq : Int) := by omega
          clear hst hM hsl hsup hc hth hvr ho gk gk1 haq hn1 hbg
          go_wp2
          go_quiet (fail)
          go_wp2
          generalize hwq : wr.drewN _ = wq
          obtain ⟨px, hpx⟩ : ∃ px, s.l.getD k nop5 = px := ⟨_, rfl⟩
          have HFX : Hid (Fit5 px) := by rw [← hpx, ← Hid.out HGK]; exact (Hid.out HST).mem.fitAt (by omega)
          have hMq : M5 wq st := by rw [← hwq]; exact (Hid.out HST).mem.drewN _
          have hcq : ∀ j i v, j < st.l.length → i < 259 → (one5 (st.l.getD j nop5))[i]? = some v → wq.cell? ⟨g, off + j * 259 + i, none⟩ = some v := by rw [← hwq]; exact Hid.out HC
          have hthq : ∀ j, wq.frozen? ⟨g, j, none⟩ = false := by rw [← hwq]; exact Hid.out HTH
          have HSTQ := hidden ((Hid.out HST).later (w2 := wq) (by rw [← hwq]; exact below_drewN (Below.refl _ _) _))
          clear hwq
          refine wp_region_two later_bel (later_keep g) (fun u v h => Keep.of_below h) 27 (fun j u x => if j = 27 then Keep (· = g) u x else Below u.heap.size u x) (fun j u v hj h => by rw [if_neg hj] at h; exact h) (fun u v h => by rw [if_pos rfl] at h; exact h) 29 [86, 87, 88, 89, 90, 91, 92, 93, 94, 95, 96, 97, 98, 99, 100, 101, 102, 103, 104, 105, 106, 107, 108, 109, 110, 111, 112, 1000, 113] (fun i' xs' w' => phiSw m g off n1 oc k px (page5 p zz) wq st { st with l := st.l.set (k + 1) px } i' (xs'.getD i' undef) w') (by kernel_rfl) (by kernel_rfl) rfl ?_ ?_ ?_
          · intro i' j v' xs u1 u2 hwt hnej hp hRj
            have hg' : (xs.set j v').getD i' undef = xs.getD i' undef := by rw [List.getD_eq_getElem?_getD, List.getElem?_set_ne (fun e => hnej e.symm), ← List.getD_eq_getElem?_getD]
            exact phiSw_mono _ _ _ _ _ _ _ _ _ _ _ i' j _ _ u1 u2 hp hRj (fun e => hnej e) (fun _ => hg'.symm)
          · intro j hj xs w5 hxs hR hR0 hpre
            obtain ⟨x0, x1, x2, x3, x4, x5, x6, x7, x8, x9, x10, x11, x12, x13, x14, x15, x16, x17, x18, x19, x20, x21, x22, x23, x24, x25, x26, x27, x28, rfl⟩ := list29 xs hxs
            have hk5 : k < 100000 := by omega
            have hc5 : w5.cell? ⟨m, 1, none⟩ = some (.slice (some ⟨g, off, none⟩) n1 oc) := by
              have h1 := hMq.self
              rw [hsm, hsv] at h1
              exact (show Blk w5 m _ 96 from (hR.block m h1.lt (Hid.out HMG)).trans h1).cell rfl
            have hrk : Below wq.heap.size wq w5 → w5.rangeAt g (off + k * 259) (one5 px) := fun hb i v hv => (hb.cell (p := ⟨g, off + k * 259 + i, none⟩) (Hid.out HGL wq hMq)).trans (hcq k i v (by omega) (by have := (List.getElem?_eq_some_iff.1 hv).1; rw [one5_len (Hid.out HFX)] at this; exact this) (by rw [Hid.out HGK, hpx]; exact hv))
            have hrk1 : Below wq.heap.size wq w5 → w5.rangeAt g (off + (k + 1) * 259) (one5 (page5 p zz)) := fun hb i v hv => (hb.cell (p := ⟨g, off + (k + 1) * 259 + i, none⟩) (Hid.out HGL wq hMq)).trans (hcq (k + 1) i v (by omega) (by have := (List.getElem?_eq_some_iff.1 hv).1; rw [one5_len (Hid.out HF)] at this; exact this) (by rw [Hid.out HGK1]; exact hv))
            have hput5 : Below wq.heap.size wq w5 → Step5 wq st (w5.setCells g (off + (k + 1) * 259) (one5 px)) { st with l := st.l.set (k + 1) px } := fun hb => by
              have h1 := (Step5.refl hMq).later hb
              exact h1.trans (h1.mem.put (by omega) (Hid.out HFX) (Hid.out HVR) (Hid.out HO))
            have htr1 : Below wq.heap.size wq w5 → w5.there g (off + (k + 1) * 259) 259 := fun hb => ((Step5.refl hMq).later hb).mem.there (by omega) (Hid.out HVR)
            rcases (show j = 0 ∨ j = 1 ∨ j = 2 ∨ j = 3 ∨ j = 4 ∨ j = 5 ∨ j = 6 ∨ j = 7 ∨ j = 8 ∨ j = 9 ∨ j = 10 ∨ j = 11 ∨ j = 12 ∨ j = 13 ∨ j = 14 ∨ j = 15 ∨ j = 16 ∨ j = 17 ∨ j = 18 ∨ j = 19 ∨ j = 20 ∨ j = 21 ∨ j = 22 ∨ j = 23 ∨ j = 24 ∨ j = 25 ∨ j = 26 ∨ j = 27 ∨ j = 28 by omega) with rfl | rfl | rfl | rfl | rfl | rfl | rfl | rfl | rfl | rfl | rfl | rfl | rfl | rfl | rfl | rfl | rfl | rfl | rfl | rfl | rfl | rfl | rfl | rfl | rfl | rfl | rfl | rfl | rfl
            · exact wpOp_run (.pointer (some ⟨m, 0, none⟩)) rfl (by kernel_rfl) (exec_move rfl (by kernel_rfl) w5) ⟨_, by kernel_rfl, rfl, bel_two (by decide) (Below.refl _ _)⟩
            · have e0 : x0 = .pointer (some ⟨m, 0, none⟩) := hpre 0 (by kernel_rfl)
              subst e0
              exact wpOp_run (.pointer (some ⟨m, 0, none⟩)) rfl (by kernel_rfl) (by kernel_rfl) ⟨_, by kernel_rfl, rfl, bel_two (by decide) (Below.refl _ _)⟩
            · have e1 : x1 = .pointer (some ⟨m, 0, none⟩) := hpre 1 (by kernel_rfl)
              subst e1
              exact wpOp_run (.pointer (some ⟨m, 1, none⟩)) rfl (by kernel_rfl) (by kernel_rfl) ⟨_, by kernel_rfl, rfl, bel_two (by decide) (Below.refl _ _)⟩
            · have e2 : x2 = .pointer (some ⟨m, 1, none⟩) := hpre 2 (by kernel_rfl)
              subst e2
              exact wpOp_run (.slice (some ⟨g, off, none⟩) n1 oc) rfl (by kernel_rfl) (exec_load 94 rfl (by kernel_rfl) w5 (load95 hc5)) ⟨_, by kernel_rfl, rfl, bel_two (by decide) (Below.refl _ _)⟩
            · exact wpOp_run (.int .i64 ((k + 1 : Nat) : Int)) rfl (by kernel_rfl) (exec_move rfl (by kernel_rfl) w5) ⟨_, by kernel_rfl, rfl, bel_two (by decide) (Below.refl _ _)⟩
            · exact wpOp_run (.pointer (some ⟨m, 0, none⟩)) rfl (by kernel_rfl) (exec_move rfl (by kernel_rfl) w5) ⟨_, by kernel_rfl, rfl, bel_two (by decide) (Below.refl _ _)⟩
            · have e5 : x5 = .pointer (some ⟨m, 0, none⟩) := hpre 5 (by kernel_rfl)
              subst e5
              exact wpOp_run (.pointer (some ⟨m, 0, none⟩)) rfl (by kernel_rfl) (by kernel_rfl) ⟨_, by kernel_rfl, rfl, bel_two (by decide) (Below.refl _ _)⟩
            · have e6 : x6 = .pointer (some ⟨m, 0, none⟩) := hpre 6 (by kernel_rfl)
              subst e6
              exact wpOp_run (.pointer (some ⟨m, 1, none⟩)) rfl (by kernel_rfl) (by kernel_rfl) ⟨_, by kernel_rfl, rfl, bel_two (by decide) (Below.refl _ _)⟩
            · have e7 : x7 = .pointer (some ⟨m, 1, none⟩) := hpre 7 (by kernel_rfl)
              subst e7
              exact wpOp_run (.slice (some ⟨g, off, none⟩) n1 oc) rfl (by kernel_rfl) (exec_load 94 rfl (by kernel_rfl) w5 (load95 hc5)) ⟨_, by kernel_rfl, rfl, bel_two (by decide) (Below.refl _ _)⟩
            · exact wpOp_run (.int .i64 ((k + 1 : Nat) : Int)) rfl (by kernel_rfl) (exec_move rfl (by kernel_rfl) w5) ⟨_, by kernel_rfl, rfl, bel_two (by decide) (Below.refl _ _)⟩
            · have e9 : x9 = .int .i64 ((k + 1 : Nat) : Int) := hpre 9 (by kernel_rfl)
              subst e9
              exact wpOp_run (.int .i64 (k : Int)) rfl (by kernel_rfl) (exec_less1 rfl ⟨by kernel_rfl, by kernel_rfl⟩ hk5 w5) ⟨_, by kernel_rfl, rfl, bel_two (by decide) (Below.refl _ _)⟩
            · exact wpOp_run (.pointer (some ⟨m, 0, none⟩)) rfl (by kernel_rfl) (exec_move rfl (by kernel_rfl) w5) ⟨_, by kernel_rfl, rfl, bel_two (by decide) (Below.refl _ _)⟩
            · have e11 : x11 = .pointer (some ⟨m, 0, none⟩) := hpre 11 (by kernel_rfl)
              subst e11
              exact wpOp_run (.pointer (some ⟨m, 0, none⟩)) rfl (by kernel_rfl) (by kernel_rfl) ⟨_, by kernel_rfl, rfl, bel_two (by decide) (Below.refl _ _)⟩
            · have e12 : x12 = .pointer (some ⟨m, 0, none⟩) := hpre 12 (by kernel_rfl)
              subst e12
              exact wpOp_run (.pointer (some ⟨m, 1, none⟩)) rfl (by kernel_rfl) (by kernel_rfl) ⟨_, by kernel_rfl, rfl, bel_two (by decide) (Below.refl _ _)⟩
            · have e13 : x13 = .pointer (some ⟨m, 1, none⟩) := hpre 13 (by kernel_rfl)
              subst e13
              exact wpOp_run (.slice (some ⟨g, off, none⟩) n1 oc) rfl (by kernel_rfl) (exec_load 94 rfl (by kernel_rfl) w5 (load95 hc5)) ⟨_, by kernel_rfl, rfl, bel_two (by decide) (Below.refl _ _)⟩
            · exact wpOp_run (.int .i64 ((k + 1 : Nat) : Int)) rfl (by kernel_rfl) (exec_move rfl (by kernel_rfl) w5) ⟨_, by kernel_rfl, rfl, bel_two (by decide) (Below.refl _ _)⟩
            · have e15 : x15 = .int .i64 ((k + 1 : Nat) : Int) := hpre 15 (by kernel_rfl)
              subst e15
              exact wpOp_run (.int .i64 (k : Int)) rfl (by kernel_rfl) (exec_less1 rfl ⟨by kernel_rfl, by kernel_rfl⟩ hk5 w5) ⟨_, by kernel_rfl, rfl, bel_two (by decide) (Below.refl _ _)⟩
            · have e14 : x14 = .slice (some ⟨g, off, none⟩) n1 oc := hpre 14 (by kernel_rfl)
              subst e14
              have e16 : x16 = .int .i64 (k : Int) := hpre 16 (by kernel_rfl)
              subst e16
              exact wpOp_run (.pointer (some ⟨g, off + k * 259, none⟩)) rfl (by kernel_rfl) (exec_index100 (b := g) (off := off) (n := n1) (cap := oc) (k := k) rfl (by kernel_rfl) (by kernel_rfl) hkn w5) ⟨_, by kernel_rfl, rfl, bel_two (by decide) (Below.refl _ _)⟩
            · have e17 : x17 = .pointer (some ⟨g, off + k * 259, none⟩) := hpre 17 (by kernel_rfl)
              subst e17
              exact wpOp_run (.agg (one5 px).toArray) rfl (by kernel_rfl) (exec_load 116 rfl (by kernel_rfl) w5 (load100 (Hid.out HFX) (hrk (hR0 (.inr (by kernel_rfl)))))) ⟨_, by kernel_rfl, rfl, bel_two (by decide) (Below.refl _ _)⟩
            · exact wpOp_run (.pointer (some ⟨m, 0, none⟩)) rfl (by kernel_rfl) (exec_move rfl (by kernel_rfl) w5) ⟨_, by kernel_rfl, rfl, bel_two (by decide) (Below.refl _ _)⟩
            · have e19 : x19 = .pointer (some ⟨m, 0, none⟩) := hpre 19 (by kernel_rfl)
              subst e19
              exact wpOp_run (.pointer (some ⟨m, 0, none⟩)) rfl (by kernel_rfl) (by kernel_rfl) ⟨_, by kernel_rfl, rfl, bel_two (by decide) (Below.refl _ _)⟩
            · have e20 : x20 = .pointer (some ⟨m, 0, none⟩) := hpre 20 (by kernel_rfl)
              subst e20
              exact wpOp_run (.pointer (some ⟨m, 1, none⟩)) rfl (by kernel_rfl) (by kernel_rfl) ⟨_, by kernel_rfl, rfl, bel_two (by decide) (Below.refl _ _)⟩
            · have e21 : x21 = .pointer (some ⟨m, 1, none⟩) := hpre 21 (by kernel_rfl)
              subst e21
              exact wpOp_run (.slice (some ⟨g, off, none⟩) n1 oc) rfl (by kernel_rfl) (exec_load 94 rfl (by kernel_rfl) w5 (load95 hc5)) ⟨_, by kernel_rfl, rfl, bel_two (by decide) (Below.refl _ _)⟩
            · exact wpOp_run (.int .i64 ((k + 1 : Nat) : Int)) rfl (by kernel_rfl) (exec_move rfl (by kernel_rfl) w5) ⟨_, by kernel_rfl, rfl, bel_two (by decide) (Below.refl _ _)⟩
            · have e22 : x22 = .slice (some ⟨g, off, none⟩) n1 oc := hpre 22 (by kernel_rfl)
              subst e22
              have e23 : x23 = .int .i64 ((k + 1 : Nat) : Int) := hpre 23 (by kernel_rfl)
              subst e23
              exact wpOp_run (.pointer (some ⟨g, off + (k + 1) * 259, none⟩)) rfl (by kernel_rfl) (exec_index100 (b := g) (off := off) (n := n1) (cap := oc) (k := k + 1) rfl (by kernel_rfl) (by kernel_rfl) hkn1 w5) ⟨_, by kernel_rfl, rfl, bel_two (by decide) (Below.refl _ _)⟩
            · have e24 : x24 = .pointer (some ⟨g, off + (k + 1) * 259, none⟩) := hpre 24 (by kernel_rfl)
              subst e24
              exact wpOp_run (.agg (one5 (page5 p zz)).toArray) rfl (by kernel_rfl) (exec_load 116 rfl (by kernel_rfl) w5 (load100 (Hid.out HF) (hrk1 (hR0 (.inr (by kernel_rfl)))))) ⟨_, by kernel_rfl, rfl, bel_two (by decide) (Below.refl _ _)⟩
            · have e3 : x3 = .slice (some ⟨g, off, none⟩) n1 oc := hpre 3 (by kernel_rfl)
              subst e3
              have e4 : x4 = .int .i64 ((k + 1 : Nat) : Int) := hpre 4 (by kernel_rfl)
              subst e4
              exact wpOp_run (.pointer (some ⟨g, off + (k + 1) * 259, none⟩)) rfl (by kernel_rfl) (exec_index100 (b := g) (off := off) (n := n1) (cap := oc) (k := k + 1) rfl (by kernel_rfl) (by kernel_rfl) hkn1 w5) ⟨_, by kernel_rfl, rfl, bel_two (by decide) (Below.refl _ _)⟩
            · have e26 : x26 = .pointer (some ⟨g, off + (k + 1) * 259, none⟩) := hpre 26 (by kernel_rfl)
              subst e26
              have e18 : x18 = .agg (one5 px).toArray := hpre 18 (by kernel_rfl)
              subst e18
              refine wpOp_store100 (Hid.out HFX) rfl (by kernel_rfl) rfl rfl (by kernel_rfl) (by kernel_rfl) (htr1 (hR0 (.inl rfl))) ?_
              exact ⟨undef, by kernel_rfl, hput5 (hR0 (.inl rfl)), keep_setCells _ _ _ _⟩
            · have e8 : x8 = .slice (some ⟨g, off, none⟩) n1 oc := hpre 8 (by kernel_rfl)
              subst e8
              have e10 : x10 = .int .i64 (k : Int) := hpre 10 (by kernel_rfl)
              subst e10
              exact wpOp_run (.pointer (some ⟨g, off + k * 259, none⟩)) rfl (by kernel_rfl) (exec_index100 (b := g) (off := off) (n := n1) (cap := oc) (k := k) rfl (by kernel_rfl) (by kernel_rfl) hkn w5) ⟨_, by kernel_rfl, rfl, bel_two (by decide) (Below.refl _ _)⟩
          · intro xs w5 hxs hR hall
            obtain ⟨x0, x1, x2, x3, x4, x5, x6, x7, x8, x9, x10, x11, x12, x13, x14, x15, x16, x17, x18, x19, x20, x21, x22, x23, x24, x25, x26, x27, x28, rfl⟩ := list29 xs hxs
            have e0 : x0 = .pointer (some ⟨m, 0, none⟩) := hall 0 (by omega)
            subst e0
            have e1 : x1 = .pointer (some ⟨m, 0, none⟩) := hall 1 (by omega)
            subst e1
            have e2 : x2 = .pointer (some ⟨m, 1, none⟩) := hall 2 (by omega)
            subst e2
            have e3 : x3 = .slice (some ⟨g, off, none⟩) n1 oc := hall 3 (by omega)
            subst e3
            have e4 : x4 = .int .i64 ((k + 1 : Nat) : Int) := hall 4 (by omega)
            subst e4
            have e5 : x5 = .pointer (some ⟨m, 0, none⟩) := hall 5 (by omega)
            subst e5
            have e6 : x6 = .pointer (some ⟨m, 0, none⟩) := hall 6 (by omega)
            subst e6
            have e7 : x7 = .pointer (some ⟨m, 1, none⟩) := hall 7 (by omega)
            subst e7
            have e8 : x8 = .slice (some ⟨g, off, none⟩) n1 oc := hall 8 (by omega)
            subst e8
            have e9 : x9 = .int .i64 ((k + 1 : Nat) : Int) := hall 9 (by omega)
            subst e9
            have e10 : x10 = .int .i64 (k : Int) := hall 10 (by omega)
            subst e10
            have e11 : x11 = .pointer (some ⟨m, 0, none⟩) := hall 11 (by omega)
            subst e11
            have e12 : x12 = .pointer (some ⟨m, 0, none⟩) := hall 12 (by omega)
            subst e12
            have e13 : x13 = .pointer (some ⟨m, 1, none⟩) := hall 13 (by omega)
            subst e13
            have e14 : x14 = .slice (some ⟨g, off, none⟩) n1 oc := hall 14 (by omega)
            subst e14
            have e15 : x15 = .int .i64 ((k + 1 : Nat) : Int) := hall 15 (by omega)
            subst e15
            have e16 : x16 = .int .i64 (k : Int) := hall 16 (by omega)
            subst e16
            have e17 : x17 = .pointer (some ⟨g, off + k * 259, none⟩) := hall 17 (by omega)
            subst e17
            have e18 : x18 = .agg (one5 px).toArray := hall 18 (by omega)
            subst e18
            have e19 : x19 = .pointer (some ⟨m, 0, none⟩) := hall 19 (by omega)
            subst e19
            have e20 : x20 = .pointer (some ⟨m, 0, none⟩) := hall 20 (by omega)
            subst e20
            have e21 : x21 = .pointer (some ⟨m, 1, none⟩) := hall 21 (by omega)
            subst e21
            have e22 : x22 = .slice (some ⟨g, off, none⟩) n1 oc := hall 22 (by omega)
            subst e22
            have e23 : x23 = .int .i64 ((k + 1 : Nat) : Int) := hall 23 (by omega)
            subst e23
            have e24 : x24 = .pointer (some ⟨g, off + (k + 1) * 259, none⟩) := hall 24 (by omega)
            subst e24
            have e25 : x25 = .agg (one5 (page5 p zz)).toArray := hall 25 (by omega)
            subst e25
            have e26 : x26 = .pointer (some ⟨g, off + (k + 1) * 259, none⟩) := hall 26 (by omega)
            subst e26
            have e28 : x28 = .pointer (some ⟨g, off + k * 259, none⟩) := hall 28 (by omega)
            subst e28
            have f27 : Step5 wq st w5 { st with l := st.l.set (k + 1) px } := hall 27 (by omega)
            have hkl1 : k < (st.l.set (k + 1) px).length := by rw [List.length_set]; omega
            have hv1 : st.vP = .slice (some ⟨g, off, none⟩) (st.l.set (k + 1) px).length oc := by rw [List.length_set]; exact Hid.out HVR
            have hth2 := f27.mem.there (k := k) hkl1 hv1
            have hput2 := f27.mem.put (k := k) (q := page5 p zz) hkl1 (Hid.out HF) hv1 (Hid.out HO)
            have hall2 := ((Hid.out HSTQ).trans f27).trans hput2
            have hcm : (w5.setCells g (off + k * 259) (one5 (page5 p zz))).cell? ⟨m, 1, none⟩ = some (.slice (some ⟨g, off, none⟩) n1 oc) := by
              have h1 := hput2.mem.cellP
              rw [← hsm, ← hsv]
              exact h1
            have HALL := hidden hall2
            have HTH2 := hidden hth2
            have hs2 : (one5 (page5 p zz)).toArray.size = 259 := by rw [List.size_toArray, one5_len (Hid.out HF)]
            have hl2 : (st.l.set (k + 1) px).set k (page5 p zz) = s.l.take k ++ page5 p zz :: s.l.drop k := by
              rw [Hid.out HSL, ← hpx]
              exact swap_list (by omega) _
            have HL2 := hidden hl2
            have hsup2 : ∀ j, k ≤ j → j < s.l.length → p < (s.l.getD j nop5).at_ := fun j h1 h2 => by
              by_cases hjk : j = k
              · subst hjk
                rw [Hid.out HAQ]
                exact hlt2
              · exact Hid.out HSUP j (by omega) h2
            have HSUP2 := hidden hsup2
            clear hall hR hxs f27 hkl1 hv1 hth2 hput2 hall2 hl2 hsup2 hcq hthq hMq
            simp only [slotsOn, putAll, List.set_cons_succ, List.set_cons_zero, List.drop_succ_cons, List.drop_zero]
            refine wpList_store_mid rfl 116 _ _ rfl g (off + k * 259) (one5 (page5 p zz)).toArray rfl rfl (by rw [hs2]; exact Hid.out HTH2) (by rw [hs2]; exact size100) (all_oneCell_toArray (one5_one _)) ?_
            go_wp2
            go_roundw
            case rel => first | exact ⟨k, by omega, (by first | rfl | (simp only [Value.int.injEq, true_and]; simp [wrap64]; done) | (congr 1; done) | (congr 1; unfold wrap64; omega)), { st with l := (st.l.set (k + 1) px).set k (page5 p zz) }, Hid.out HALL, hsm, hsv, hsmost, hsts, Hid.out HL2, Hid.out HSUP2⟩ | exact ⟨k, by omega, (by first | rfl | (simp only [Value.int.injEq, true_and]; simp [wrap64]; done) | (congr 1; done) | (congr 1; unfold wrap64; omega)), ⟨{ st with l := (st.l.set (k + 1) px).set k (page5 p zz) }, Hid.out HALL, hsm, hsv, hsmost, hsts, Hid.out HL2⟩, Hid.out HSUP2⟩
            case measure => first | (simp [intOf]; done) | (simp [intOf]; omega) | (simp [intOf, wrap64]; omega)
        · have hd : decide ((p : Int) < (aq : Int)) = false := decide_eq_false (by omega)
          have hd2 : ¬ (p : Int) < (aq : Int) := by omega
          have HE : Hid (∀ r, _) := fun r => Hid.out HDONE wr st (k + 1) r (by omega) hst hsm hsmost hsts hsl (fun k' e => by
            obtain rfl : k = k' := by omega
            rw [haq]
            exact hlt2) hsup
          clear hst hM hsl hsup HDONE hc hth hvr ho gk gk1 haq hn1 hbg
          go_wp2
          go_quiet (fail)
          go_wp2
          go_ret
          exact ⟨rfl, Hid.out HE _⟩
      · obtain rfl : i = 0 := by omega
        have HE : Hid (∀ r, _) := fun r => Hid.out HDONE wr st 0 r (by omega) hst hsm hsmost hsts hsl (by omega) hsup
        clear hst hM hsl hsup HDONE
        go_wp2
        go_quiet (fail)
        go_wp2
        go_ret
        exact ⟨rfl, Hid.out HE _⟩
end Go.Proofs.Ytodoenimlhldjaa
