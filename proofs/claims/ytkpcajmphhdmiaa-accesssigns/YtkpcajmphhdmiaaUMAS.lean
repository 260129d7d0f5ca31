/- Chapter 5's own memory: Map, where the page is new. -/
import Derived.Test.YtkpcajmphhdmiaaUMAR
import Derived.Test.YtkpcajmphhdmiaaUMAL
namespace Go.Proofs.Ytkpcajmphhdmiaa
open Go.ChangeShapes Go.WideShapes Go.ChangeAt Go.RowKit
set_option linter.unusedVariables false
set_option maxRecDepth 20000 in
set_option maxHeartbeats 8000000 in
theorem map5_new (w : World) (s : S5) (h : M5 w s) (a : Nat) (z : Int) (ha : a < 4294967296) (hn : ¬ find5 s.l (a / 256 * 256) < s.l.length) (hroom : s.l.length < s.most) (hlen : s.l.length < 1000) :
    Calls Try.prog 31 #[.pointer (some ⟨s.m, 0, none⟩), .int .u32 (a : Int), .int .i64 z] w fun e w' => e = .returned (.int .i64 0) ∧ ∃ s', Step5 w s w' s' ∧ s'.m = s.m ∧ s'.most = s.most ∧ s'.ts = s.ts ∧ ∃ i, i ≤ s.l.length ∧ s'.l = s.l.take i ++ page5 (a / 256 * 256) (bits .and .i64 z 7) :: s.l.drop i ∧ (∀ k, i = k + 1 → ¬ a / 256 * 256 < (s.l.getD k nop5).at_) ∧ ∀ j, i ≤ j → j < s.l.length → a / 256 * 256 < (s.l.getD j nop5).at_ := by
  obtain ⟨ao, cap, hv, hps⟩ := h.ps
  have hP : w.cell? ⟨s.m, 1, none⟩ = some (.slice ao s.l.length cap) := by rw [h.cellP, hv]
  have C := hidden (find_any w s.m ao cap a s.l hps hP h.few ha)
  rw [find5I_no hn] at C
  have h0 : w.cell? ⟨s.m, 0, none⟩ = some (.int .i64 (s.most : Int)) := h.self.cell rfl
  have hroom2 : ¬ (s.most : Int) ≤ (s.l.length : Int) := by omega
  obtain ⟨p, hp⟩ : ∃ p, a / 256 * 256 = p := ⟨_, rfl⟩
  have C60 : Hid (∀ u, Calls Try.prog 59 #[.int .u32 (a : Int)] u fun e w' => e = .returned (.int .u32 (p : Int)) ∧ w' = u) := fun u => by rw [← hp]; exact page5_any a ha u
  have hplt : p < 4294967296 := by omega
  rw [hp]
  have H := hidden h
  have HL : Hid (s.l.length ≤ 1000) := by show s.l.length ≤ 1000; omega
  have HLL := hidden hlen
  obtain ⟨zz, hzz⟩ : ∃ zz, bits .and .i64 z 7 = zz := ⟨_, rfl⟩
  have HZZ : Hid (Value.int .i64 (bits .and .i64 z 7) = .int .i64 zz) := by show _ = _; rw [hzz]
  rw [hzz]
  have HF := hidden (page5_fit hplt zz)
  have HFIT := hidden h.fit
  have HV := hidden hv
  clear h hps hn hlen hp hv hzz
  go_enter Try.func31, Try.ntmps31
  go_wp2_with (first | (go_at_call 58; refine (Hid.out C).mono ?_; rintro e w4 ⟨rfl, hww⟩; rw [hww]; clear hww w4))
  go_region
  all_goals go_wp2
  generalize hw1 : w.drew = w1
  have hM1 : M5 w1 s := by rw [← hw1]; exact (Hid.out H).drewN 1
  have hst1 : Step5 w s w1 s := by rw [← hw1]; exact ⟨(Hid.out H).drewN 1, (Keep.refl _ _).drewN 1, fun _ hb => .inl hb⟩
  have HST1 := hidden hst1
  have HM1 := hidden hM1
  obtain ⟨m, hm⟩ : ∃ m, s.m = m := ⟨_, rfl⟩
  obtain ⟨v, hvv⟩ : ∃ v, s.vP = v := ⟨_, rfl⟩
  have HMM := hidden hm
  have HVV := hidden hvv
  have hself : Blk w1 m #[.int .i64 (s.most : Int), v, s.vT] 88 := by rw [← hm, ← hvv]; exact hM1.self
  have HSELF := hidden hself
  have HOV : Hid (Out5 w1 v s.l) := by rw [← hvv]; exact hM1.pages
  have HNE : Hid (some m ≠ v.ownBlock) := by
    intro e
    obtain ⟨c, hc⟩ := hM1.blkP (g := m) (by rw [hvv]; exact e.symm)
    exact blk_ne hself (show Blk w1 m c 102 from hc) (by decide) rfl
  rw [hm] at hP h0 C ⊢
  clear hM1 hw1 hst1 hself hm hvv hP h0 C
  refine wp_region_by (later_rm5 v) (fun j u x => if j = 11 then RM5 v u x else Below u.heap.size u x) (rm5_of v) 14 [42, 43, 44, 45, 46, 47, 48, 49, 50, 51, 52, 53, 54, 55] (fun i' xs' w' => phiM5 m a p w1.heap.size z zz v s.l i' (xs'.getD i' undef) w') (by kernel_rfl) (by kernel_rfl) rfl ?_ ?_ ?_
  · intro i' j v' xs u1 u2 hwt hnej hp hRj
    have hg' : (xs.set j v').getD i' undef = xs.getD i' undef := by rw [List.getD_eq_getElem?_getD, List.getElem?_set_ne (fun e => hnej e.symm), ← List.getD_eq_getElem?_getD]
    show phiM5 m a p w1.heap.size z zz v s.l i' ((xs.set j v').getD i' undef) u2
    rw [hg']
    exact phiM5_mono m a p w1.heap.size z zz v s.l i' j _ u1 u2 hp hRj (fun e => hnej e)
  · intro j hj xs w3 hxs hR hpre
    obtain ⟨x0, x1, x2, x3, x4, x5, x6, x7, x8, x9, x10, x11, x12, x13, rfl⟩ := list14m xs hxs
    have hc3 : w3.cell? ⟨m, 1, none⟩ = some v := (hR.blk (Hid.out HSELF) (Hid.out HNE)).cell rfl
    have hnew3 : some w3.heap.size ≠ v.ownBlock := fun e => absurd ((Hid.out HOV).lt _ e.symm).2 (Nat.not_lt.2 hR.grown.size)
    rcases (show j = 0 ∨ j = 1 ∨ j = 2 ∨ j = 3 ∨ j = 4 ∨ j = 5 ∨ j = 6 ∨ j = 7 ∨ j = 8 ∨ j = 9 ∨ j = 10 ∨ j = 11 ∨ j = 12 ∨ j = 13 by omega) with rfl | rfl | rfl | rfl | rfl | rfl | rfl | rfl | rfl | rfl | rfl | rfl | rfl | rfl
    · exact wpOp_run (.pointer (some ⟨m, 0, none⟩)) rfl (by kernel_rfl) (exec_move rfl (by kernel_rfl) w3) ⟨_, by kernel_rfl, rfl, below5_if (by decide) (Below.refl _ _)⟩
    · exact wpOp_run (.pointer (some ⟨m, 0, none⟩)) rfl (by kernel_rfl) (exec_move rfl (by kernel_rfl) w3) ⟨_, by kernel_rfl, rfl, below5_if (by decide) (Below.refl _ _)⟩
    · have e1 : x1 = .pointer (some ⟨m, 0, none⟩) := hpre 1 (by kernel_rfl)
      subst e1
      exact wpOp_run (.pointer (some ⟨m, 0, none⟩)) rfl (by kernel_rfl) (by kernel_rfl) ⟨_, by kernel_rfl, rfl, below5_if (by decide) (Below.refl _ _)⟩
    · have e2 : x2 = .pointer (some ⟨m, 0, none⟩) := hpre 2 (by kernel_rfl)
      subst e2
      exact wpOp_run (.pointer (some ⟨m, 1, none⟩)) rfl (by kernel_rfl) (by kernel_rfl) ⟨_, by kernel_rfl, rfl, below5_if (by decide) (Below.refl _ _)⟩
    · have e3 : x3 = .pointer (some ⟨m, 1, none⟩) := hpre 3 (by kernel_rfl)
      subst e3
      exact wpOp_run (v) rfl (by kernel_rfl) (exec_load 86 rfl (by kernel_rfl) w3 (load95 hc3)) ⟨_, by kernel_rfl, rfl, below5_if (by decide) (Below.refl _ _)⟩
    · exact wpOp_run (.int .u32 (a : Int)) rfl (by kernel_rfl) (exec_move rfl (by kernel_rfl) w3) ⟨_, by kernel_rfl, rfl, below5_if (by decide) (Below.refl _ _)⟩
    · have e5 : x5 = .int .u32 (a : Int) := hpre 5 (by kernel_rfl)
      subst e5
      refine wpOp_callR (R := fun u w4 => u = .int .u32 (p : Int) ∧ Below w3.heap.size w3 w4) 59 #[.int .u32 (a : Int)] rfl (by kernel_rfl) (by kernel_rfl) ((Hid.out C60 w3).mono fun e w4 ⟨he, hb⟩ => ⟨_, he, rfl, by rw [hb]; exact Below.refl _ _⟩) ?_
      rintro u w4 ⟨hu, hb4⟩
      exact ⟨_, by kernel_rfl, hu, below5_if (by decide) hb4⟩
    · exact wpOp_run (.int .i64 z) rfl (by kernel_rfl) (exec_move rfl (by kernel_rfl) w3) ⟨_, by kernel_rfl, rfl, below5_if (by decide) (Below.refl _ _)⟩
    · have e7 : x7 = .int .i64 z := hpre 7 (by kernel_rfl)
      subst e7
      exact wpOp_run (.int .i64 (bits .and .i64 z 7)) rfl (by kernel_rfl) (exec_and7 rfl ⟨by kernel_rfl, by kernel_rfl⟩ w3) ⟨_, by kernel_rfl, Hid.out HZZ, below5_if (by decide) (Below.refl _ _)⟩
    · have e6 : x6 = .int .u32 (p : Int) := hpre 6 (by kernel_rfl)
      subst e6
      have e8 : x8 = .int .i64 zz := hpre 8 (by kernel_rfl)
      subst e8
      exact wpOp_run (.agg (one5 (page5 p zz)).toArray) rfl (by kernel_rfl) (exec_build 102 rfl (by kernel_rfl) w3 (build100 p zz w3)) ⟨_, by kernel_rfl, rfl, below5_if (by decide) (Below.refl _ _)⟩
    · have e9 : x9 = .agg (one5 (page5 p zz)).toArray := hpre 9 (by kernel_rfl)
      subst e9
      exact wpOp_run (.slice (some ⟨w3.heap.size, 0, none⟩) 1 1) rfl (by kernel_rfl) (exec_slice100 rfl (by kernel_rfl) w3) ⟨_, by kernel_rfl, ⟨w3.heap.size, rfl, hnew3, Blk.new w3 _ 102⟩, below5_if (by decide) (below_new w3 _)⟩
    · have f10 : ∃ q, x10 = .slice (some ⟨q, 0, none⟩) 1 1 ∧ some q ≠ v.ownBlock ∧ Blk w3 q (one5 (page5 p zz)).toArray 102 := hpre 10 (by kernel_rfl)
      obtain ⟨q10, e10, hne10, hq10⟩ := f10
      subst e10
      have e4 : x4 = v := hpre 4 (by kernel_rfl)
      subst e4
      obtain ⟨v5, w5, hrun, ho5, hrm, hloc⟩ := run_more5 (ty := 86) (hR.keep _ (Hid.out HFIT) (Hid.out HOV)) (Hid.out HFIT) (Hid.out HF) hq10 (Hid.out HL)
      exact wpOp_run v5 rfl (by kernel_rfl) (exec_app95 rfl (by kernel_rfl) (by kernel_rfl) hrun) ⟨_, by kernel_rfl, ⟨ho5, hloc.imp id fun e => ⟨_, hR.grown.size, e⟩⟩, hrm⟩
    · have e0 : x0 = .pointer (some ⟨m, 0, none⟩) := hpre 0 (by kernel_rfl)
      subst e0
      exact wpOp_run (.pointer (some ⟨m, 0, none⟩)) rfl (by kernel_rfl) (by kernel_rfl) ⟨_, by kernel_rfl, rfl, below5_if (by decide) (Below.refl _ _)⟩
    · have e12 : x12 = .pointer (some ⟨m, 0, none⟩) := hpre 12 (by kernel_rfl)
      subst e12
      exact wpOp_run (.pointer (some ⟨m, 1, none⟩)) rfl (by kernel_rfl) (by kernel_rfl) ⟨_, by kernel_rfl, rfl, below5_if (by decide) (Below.refl _ _)⟩
  · intro xs w3 hxs hR hall
    obtain ⟨x0, x1, x2, x3, x4, x5, x6, x7, x8, x9, x10, x11, x12, x13, rfl⟩ := list14m xs hxs
    have e0 : x0 = .pointer (some ⟨m, 0, none⟩) := hall 0 (by omega)
    subst e0
    have e1 : x1 = .pointer (some ⟨m, 0, none⟩) := hall 1 (by omega)
    subst e1
    have e2 : x2 = .pointer (some ⟨m, 0, none⟩) := hall 2 (by omega)
    subst e2
    have e3 : x3 = .pointer (some ⟨m, 1, none⟩) := hall 3 (by omega)
    subst e3
    have e5 : x5 = .int .u32 (a : Int) := hall 5 (by omega)
    subst e5
    have e6 : x6 = .int .u32 (p : Int) := hall 6 (by omega)
    subst e6
    have e7 : x7 = .int .i64 z := hall 7 (by omega)
    subst e7
    have e8 : x8 = .int .i64 zz := hall 8 (by omega)
    subst e8
    have e9 : x9 = .agg (one5 (page5 p zz)).toArray := hall 9 (by omega)
    subst e9
    have e12 : x12 = .pointer (some ⟨m, 0, none⟩) := hall 12 (by omega)
    subst e12
    have e13 : x13 = .pointer (some ⟨m, 1, none⟩) := hall 13 (by omega)
    subst e13
    have f10 : ∃ q, x10 = .slice (some ⟨q, 0, none⟩) 1 1 ∧ some q ≠ v.ownBlock ∧ Blk w3 q (one5 (page5 p zz)).toArray 102 := hall 10 (by omega)
    obtain ⟨q10, e10, hne10, hq10⟩ := f10
    subst e10
    have e4 : x4 = v := hall 4 (by omega)
    subst e4
    have hout : Out5 w3 x11 (s.l ++ [page5 p zz]) ∧ (x11.ownBlock = x4.ownBlock ∨ ∃ q, w1.heap.size ≤ q ∧ x11.ownBlock = some q) := hall 11 (by omega)
    have hmore := (Hid.out HM1).more (Hid.out HF) (Hid.out HLL) hout.1 (by rw [Hid.out HVV]; exact hR.grown) (by rw [Hid.out HVV]; exact hout.2)
    rw [Hid.out HMM] at hmore
    have hself3 : Blk w3 m #[.int .i64 (s.most : Int), x4, s.vT] 88 := hR.blk (Hid.out HSELF) (Hid.out HNE)
    have hc3 : w3.cell? ⟨m, 1, none⟩ = some x4 := hself3.cell rfl
    have hz3 : w3.frozen? ⟨m, 1, none⟩ = false := frozen_of_row _ _ _ _ _ hself3
    obtain ⟨oa, oc, hx11⟩ : ∃ oa oc, x11 = .slice oa (s.l.length + 1) oc := by
      rcases hout.1.2 with ⟨e, hz⟩ | ⟨g, cap, cur, e, _⟩
      · simp at hz
      · rw [List.length_append] at e
        exact ⟨_, _, e⟩
    obtain ⟨n1, hn1⟩ : ∃ n1, s.l.length + 1 = n1 := ⟨_, rfl⟩
    rw [hn1] at hx11
    subst hx11
    have HMO := hidden hmore
    have hn2 : (n1 : Int) - 1 = ((s.l.length : Nat) : Int) := by omega
    have HN1 := hidden hn1
    clear hmore hout hself3 hq10 hR hn1 hall hxs
    simp only [slotsOn, putAll, List.set_cons_succ, List.set_cons_zero, List.drop_succ_cons, List.drop_zero]
    have hlen := Hid.out HLL
    have HDONE : Hid (∀ (wr : World) (st : S5) (i r : Nat), i ≤ s.l.length → Step5 (w3.setCell ⟨m, 1, none⟩ (.slice oa n1 oc)) { s with m := m, l := s.l ++ [page5 p zz], vP := .slice oa n1 oc } wr st → st.m = m → st.most = s.most → st.ts = s.ts → st.l = s.l.take i ++ page5 p zz :: s.l.drop i → (∀ k, i = k + 1 → ¬ p < (s.l.getD k nop5).at_) → (∀ j, i ≤ j → j < s.l.length → p < (s.l.getD j nop5).at_) → ∃ s', Step5 w s (wr.drewN r) s' ∧ s'.m = s.m ∧ s'.most = s.most ∧ s'.ts = s.ts ∧ ∃ i, i ≤ s.l.length ∧ s'.l = s.l.take i ++ page5 p zz :: s.l.drop i ∧ (∀ k, i = k + 1 → ¬ p < (s.l.getD k nop5).at_) ∧ ∀ j, i ≤ j → j < s.l.length → p < (s.l.getD j nop5).at_) := by
      intro wr st i r hi hst h1 h2 h3 h4 h5 h6
      have h7 := ((Hid.out HST1).trans (Hid.out HMO)).trans hst
      exact ⟨st, ⟨h7.mem.drewN r, h7.keep.drewN r, h7.grow⟩, by rw [h1, Hid.out HMM], h2, h3, i, hi, h4, h5, h6⟩
    go_wp2
    go_loopw [8] (fun x8 wr => ∃ (i : Nat) (st : S5), i ≤ s.l.length ∧ x8 = .int .i64 (i : Int) ∧ Step5 (w3.setCell ⟨m, 1, none⟩ (.slice oa n1 oc)) { s with m := m, l := s.l ++ [page5 p zz], vP := .slice oa n1 oc } wr st ∧ st.m = m ∧ st.vP = .slice oa n1 oc ∧ st.most = s.most ∧ st.ts = s.ts ∧ st.l = s.l.take i ++ page5 p zz :: s.l.drop i ∧ ∀ j, i ≤ j → j < s.l.length → p < (s.l.getD j nop5).at_) (fun x8 _ => (intOf x8).toNat)
    case atStart => exact ⟨s.l.length, _, Nat.le_refl _, by first | rfl | (congr 1; unfold wrap64; omega), Step5.refl (Hid.out HMO).mem, rfl, rfl, rfl, rfl, by simp, fun j h1 h2 => by omega⟩
    case round =>
      obtain ⟨i, st, hi, rfl, hst, hsm, hsv, hsmost, hsts, hsl, hsup⟩ := hrel
      have hM := hst.mem
      have hPr : wr.cell? ⟨m, 1, none⟩ = some (.slice oa n1 oc) := by
        have := hM.cellP
        rw [hsm, hsv] at this
        exact this
      have hsln : st.l.length = n1 := by
        rw [hsl, ← Hid.out HN1]
        simp
        omega
      have HST := hidden hst
      by_cases hi0 : 0 < i
      · obtain ⟨k, rfl⟩ : ∃ k, i = k + 1 := ⟨i - 1, by omega⟩
        have hn1 := Hid.out HN1
        obtain ⟨g, off, cap', ho, hv', hltg, hth, ⟨cur, hbg⟩, hc⟩ := hM.row (k := k) (by omega)
        have hvr := hv'
        rw [hsv, hsln] at hv'
        simp only [Value.slice.injEq, true_and] at hv'
        obtain ⟨rfl, rfl⟩ := hv'
        have gk : st.l.getD k nop5 = s.l.getD k nop5 := by
          rw [hsl, List.getD_eq_getElem?_getD, List.getElem?_append_left (by simp; omega), List.getElem?_take_of_lt (by omega), ← List.getD_eq_getElem?_getD]
        have gk1 : st.l.getD (k + 1) nop5 = page5 p zz := by
          have e : (s.l.take (k + 1)).length = k + 1 := by simp; omega
          rw [hsl, List.getD_eq_getElem?_getD, List.getElem?_append_right (by omega), e, Nat.sub_self]
          rfl
        have ck : wr.cell? ⟨g, off + k * 259, none⟩ = some (.int .u32 ((s.l.getD k nop5).at_ : Int)) := by
          have := hc k 0 (.int .u32 ((s.l.getD k nop5).at_ : Int)) (by omega) (by omega) (by rw [gk]; rfl)
          exact this
        have ck1 : wr.cell? ⟨g, off + (k + 1) * 259, none⟩ = some (.int .u32 (p : Int)) := by
          have := hc (k + 1) 0 (.int .u32 (p : Int)) (by omega) (by omega) (by rw [gk1]; rfl)
          exact this
        have hkn : k < n1 := by omega
        have hkn1 : k + 1 < n1 := by omega
        obtain ⟨aq, haq⟩ : ∃ aq, (s.l.getD k nop5).at_ = aq := ⟨_, rfl⟩
        rw [haq] at ck
        have HAQ := hidden haq
        have HSL := hidden hsl
        have HSUP := hidden hsup
        have HC := hidden hc
        have HTH := hidden hth
        have HVR := hidden hvr
        have HMG : Hid (¬ m = g) := by rw [← hsm]; exact blk_ne hM.self hbg (by decide)
        have HGL : Hid (∀ u, M5 u st → g < u.heap.size) := fun u hu => by
          obtain ⟨c, hc⟩ := hu.blkP (g := g) (by rw [hvr]; rfl)
          exact hc.lt
        have HO := hidden ho
        have HGK := hidden gk
        have HGK1 := hidden gk1
        by_cases hlt2 : p < aq
        · have hd : decide ((p : Int) < (aq : Int)) = true := decide_eq_true (by omega)
          have hd2 : (p : Int) < (aq : Int) := by omega
          clear hst hM hsl hsup hc hth hvr ho gk gk1 haq hn1 hbg
          go_wp2
          go_quiet (fail)
          go_wp2
          generalize hwq : wr.drewN _ = wq
          obtain ⟨px, hpx⟩ : ∃ px, s.l.getD k nop5 = px := ⟨_, rfl⟩
          have HFX : Hid (Fit5 px) := by rw [← hpx, ← Hid.out HGK]; exact (Hid.out HST).mem.fitAt (by omega)
          have hMq : M5 wq st := by rw [← hwq]; exact (Hid.out HST).mem.drewN _
          have hcq : ∀ j i v, j < st.l.length → i < 259 → (one5 (st.l.getD j nop5))[i]? = some v → wq.cell? ⟨g, off + j * 259 + i, none⟩ = some v := by rw [← hwq]; exact Hid.out HC
          have hthq : ∀ j, wq.frozen? ⟨g, j, none⟩ = false := by rw [← hwq]; exact Hid.out HTH
          have HSTQ := hidden ((Hid.out HST).later (w2 := wq) (by rw [← hwq]; exact below_drewN (Below.refl _ _) _))
          clear hwq
          refine wp_region_two later_bel (later_keep g) (fun u v h => Keep.of_below h) 27 (fun j u x => if j = 27 then Keep (· = g) u x else Below u.heap.size u x) (fun j u v hj h => by rw [if_neg hj] at h; exact h) (fun u v h => by rw [if_pos rfl] at h; exact h) 29 [86, 87, 88, 89, 90, 91, 92, 93, 94, 95, 96, 97, 98, 99, 100, 101, 102, 103, 104, 105, 106, 107, 108, 109, 110, 111, 112, 1000, 113] (fun i' xs' w' => phiSw m g off n1 oc k px (page5 p zz) wq st { st with l := st.l.set (k + 1) px } i' (xs'.getD i' undef) w') (by kernel_rfl) (by kernel_rfl) rfl ?_ ?_ ?_
          · intro i' j v' xs u1 u2 hwt hnej hp hRj
            have hg' : (xs.set j v').getD i' undef = xs.getD i' undef := by rw [List.getD_eq_getElem?_getD, List.getElem?_set_ne (fun e => hnej e.symm), ← List.getD_eq_getElem?_getD]
            exact phiSw_mono _ _ _ _ _ _ _ _ _ _ _ i' j _ _ u1 u2 hp hRj (fun e => hnej e) (fun _ => hg'.symm)
          · intro j hj xs w5 hxs hR hR0 hpre
            obtain ⟨x0, x1, x2, x3, x4, x5, x6, x7, x8, x9, x10, x11, x12, x13, x14, x15, x16, x17, x18, x19, x20, x21, x22, x23, x24, x25, x26, x27, x28, rfl⟩ := list29 xs hxs
            have hk5 : k < 100000 := by omega
            have hc5 : w5.cell? ⟨m, 1, none⟩ = some (.slice (some ⟨g, off, none⟩) n1 oc) := by
              have h1 := hMq.self
              rw [hsm, hsv] at h1
              exact (show Blk w5 m _ 88 from (hR.block m h1.lt (Hid.out HMG)).trans h1).cell rfl
            have hrk : Below wq.heap.size wq w5 → w5.rangeAt g (off + k * 259) (one5 px) := fun hb i v hv => (hb.cell (p := ⟨g, off + k * 259 + i, none⟩) (Hid.out HGL wq hMq)).trans (hcq k i v (by omega) (by have := (List.getElem?_eq_some_iff.1 hv).1; rw [one5_len (Hid.out HFX)] at this; exact this) (by rw [Hid.out HGK, hpx]; exact hv))
            have hrk1 : Below wq.heap.size wq w5 → w5.rangeAt g (off + (k + 1) * 259) (one5 (page5 p zz)) := fun hb i v hv => (hb.cell (p := ⟨g, off + (k + 1) * 259 + i, none⟩) (Hid.out HGL wq hMq)).trans (hcq (k + 1) i v (by omega) (by have := (List.getElem?_eq_some_iff.1 hv).1; rw [one5_len (Hid.out HF)] at this; exact this) (by rw [Hid.out HGK1]; exact hv))
            have hput5 : Below wq.heap.size wq w5 → Step5 wq st (w5.setCells g (off + (k + 1) * 259) (one5 px)) { st with l := st.l.set (k + 1) px } := fun hb => by
              have h1 := (Step5.refl hMq).later hb
              exact h1.trans (h1.mem.put (by omega) (Hid.out HFX) (Hid.out HVR) (Hid.out HO))
            have htr1 : Below wq.heap.size wq w5 → w5.there g (off + (k + 1) * 259) 259 := fun hb => ((Step5.refl hMq).later hb).mem.there (by omega) (Hid.out HVR)
            rcases (show j = 0 ∨ j = 1 ∨ j = 2 ∨ j = 3 ∨ j = 4 ∨ j = 5 ∨ j = 6 ∨ j = 7 ∨ j = 8 ∨ j = 9 ∨ j = 10 ∨ j = 11 ∨ j = 12 ∨ j = 13 ∨ j = 14 ∨ j = 15 ∨ j = 16 ∨ j = 17 ∨ j = 18 ∨ j = 19 ∨ j = 20 ∨ j = 21 ∨ j = 22 ∨ j = 23 ∨ j = 24 ∨ j = 25 ∨ j = 26 ∨ j = 27 ∨ j = 28 by omega) with rfl | rfl | rfl | rfl | rfl | rfl | rfl | rfl | rfl | rfl | rfl | rfl | rfl | rfl | rfl | rfl | rfl | rfl | rfl | rfl | rfl | rfl | rfl | rfl | rfl | rfl | rfl | rfl | rfl
            · exact wpOp_run (.pointer (some ⟨m, 0, none⟩)) rfl (by kernel_rfl) (exec_move rfl (by kernel_rfl) w5) ⟨_, by kernel_rfl, rfl, bel_two (by decide) (Below.refl _ _)⟩
            · have e0 : x0 = .pointer (some ⟨m, 0, none⟩) := hpre 0 (by kernel_rfl)
              subst e0
              exact wpOp_run (.pointer (some ⟨m, 0, none⟩)) rfl (by kernel_rfl) (by kernel_rfl) ⟨_, by kernel_rfl, rfl, bel_two (by decide) (Below.refl _ _)⟩
            · have e1 : x1 = .pointer (some ⟨m, 0, none⟩) := hpre 1 (by kernel_rfl)
              subst e1
              exact wpOp_run (.pointer (some ⟨m, 1, none⟩)) rfl (by kernel_rfl) (by kernel_rfl) ⟨_, by kernel_rfl, rfl, bel_two (by decide) (Below.refl _ _)⟩
            · have e2 : x2 = .pointer (some ⟨m, 1, none⟩) := hpre 2 (by kernel_rfl)
              subst e2
              exact wpOp_run (.slice (some ⟨g, off, none⟩) n1 oc) rfl (by kernel_rfl) (exec_load 86 rfl (by kernel_rfl) w5 (load95 hc5)) ⟨_, by kernel_rfl, rfl, bel_two (by decide) (Below.refl _ _)⟩
            · exact wpOp_run (.int .i64 ((k + 1 : Nat) : Int)) rfl (by kernel_rfl) (exec_move rfl (by kernel_rfl) w5) ⟨_, by kernel_rfl, rfl, bel_two (by decide) (Below.refl _ _)⟩
            · exact wpOp_run (.pointer (some ⟨m, 0, none⟩)) rfl (by kernel_rfl) (exec_move rfl (by kernel_rfl) w5) ⟨_, by kernel_rfl, rfl, bel_two (by decide) (Below.refl _ _)⟩
            · have e5 : x5 = .pointer (some ⟨m, 0, none⟩) := hpre 5 (by kernel_rfl)
              subst e5
              exact wpOp_run (.pointer (some ⟨m, 0, none⟩)) rfl (by kernel_rfl) (by kernel_rfl) ⟨_, by kernel_rfl, rfl, bel_two (by decide) (Below.refl _ _)⟩
            · have e6 : x6 = .pointer (some ⟨m, 0, none⟩) := hpre 6 (by kernel_rfl)
              subst e6
              exact wpOp_run (.pointer (some ⟨m, 1, none⟩)) rfl (by kernel_rfl) (by kernel_rfl) ⟨_, by kernel_rfl, rfl, bel_two (by decide) (Below.refl _ _)⟩
            · have e7 : x7 = .pointer (some ⟨m, 1, none⟩) := hpre 7 (by kernel_rfl)
              subst e7
              exact wpOp_run (.slice (some ⟨g, off, none⟩) n1 oc) rfl (by kernel_rfl) (exec_load 86 rfl (by kernel_rfl) w5 (load95 hc5)) ⟨_, by kernel_rfl, rfl, bel_two (by decide) (Below.refl _ _)⟩
            · exact wpOp_run (.int .i64 ((k + 1 : Nat) : Int)) rfl (by kernel_rfl) (exec_move rfl (by kernel_rfl) w5) ⟨_, by kernel_rfl, rfl, bel_two (by decide) (Below.refl _ _)⟩
            · have e9 : x9 = .int .i64 ((k + 1 : Nat) : Int) := hpre 9 (by kernel_rfl)
              subst e9
              exact wpOp_run (.int .i64 (k : Int)) rfl (by kernel_rfl) (exec_less1 rfl ⟨by kernel_rfl, by kernel_rfl⟩ hk5 w5) ⟨_, by kernel_rfl, rfl, bel_two (by decide) (Below.refl _ _)⟩
            · exact wpOp_run (.pointer (some ⟨m, 0, none⟩)) rfl (by kernel_rfl) (exec_move rfl (by kernel_rfl) w5) ⟨_, by kernel_rfl, rfl, bel_two (by decide) (Below.refl _ _)⟩
            · have e11 : x11 = .pointer (some ⟨m, 0, none⟩) := hpre 11 (by kernel_rfl)
              subst e11
              exact wpOp_run (.pointer (some ⟨m, 0, none⟩)) rfl (by kernel_rfl) (by kernel_rfl) ⟨_, by kernel_rfl, rfl, bel_two (by decide) (Below.refl _ _)⟩
            · have e12 : x12 = .pointer (some ⟨m, 0, none⟩) := hpre 12 (by kernel_rfl)
              subst e12
              exact wpOp_run (.pointer (some ⟨m, 1, none⟩)) rfl (by kernel_rfl) (by kernel_rfl) ⟨_, by kernel_rfl, rfl, bel_two (by decide) (Below.refl _ _)⟩
            · have e13 : x13 = .pointer (some ⟨m, 1, none⟩) := hpre 13 (by kernel_rfl)
              subst e13
              exact wpOp_run (.slice (some ⟨g, off, none⟩) n1 oc) rfl (by kernel_rfl) (exec_load 86 rfl (by kernel_rfl) w5 (load95 hc5)) ⟨_, by kernel_rfl, rfl, bel_two (by decide) (Below.refl _ _)⟩
            · exact wpOp_run (.int .i64 ((k + 1 : Nat) : Int)) rfl (by kernel_rfl) (exec_move rfl (by kernel_rfl) w5) ⟨_, by kernel_rfl, rfl, bel_two (by decide) (Below.refl _ _)⟩
            · have e15 : x15 = .int .i64 ((k + 1 : Nat) : Int) := hpre 15 (by kernel_rfl)
              subst e15
              exact wpOp_run (.int .i64 (k : Int)) rfl (by kernel_rfl) (exec_less1 rfl ⟨by kernel_rfl, by kernel_rfl⟩ hk5 w5) ⟨_, by kernel_rfl, rfl, bel_two (by decide) (Below.refl _ _)⟩
            · have e14 : x14 = .slice (some ⟨g, off, none⟩) n1 oc := hpre 14 (by kernel_rfl)
              subst e14
              have e16 : x16 = .int .i64 (k : Int) := hpre 16 (by kernel_rfl)
              subst e16
              exact wpOp_run (.pointer (some ⟨g, off + k * 259, none⟩)) rfl (by kernel_rfl) (exec_index100 (b := g) (off := off) (n := n1) (cap := oc) (k := k) rfl (by kernel_rfl) (by kernel_rfl) hkn w5) ⟨_, by kernel_rfl, rfl, bel_two (by decide) (Below.refl _ _)⟩
            · have e17 : x17 = .pointer (some ⟨g, off + k * 259, none⟩) := hpre 17 (by kernel_rfl)
              subst e17
              exact wpOp_run (.agg (one5 px).toArray) rfl (by kernel_rfl) (exec_load 102 rfl (by kernel_rfl) w5 (load100 (Hid.out HFX) (hrk (hR0 (.inr (by kernel_rfl)))))) ⟨_, by kernel_rfl, rfl, bel_two (by decide) (Below.refl _ _)⟩
            · exact wpOp_run (.pointer (some ⟨m, 0, none⟩)) rfl (by kernel_rfl) (exec_move rfl (by kernel_rfl) w5) ⟨_, by kernel_rfl, rfl, bel_two (by decide) (Below.refl _ _)⟩
            · have e19 : x19 = .pointer (some ⟨m, 0, none⟩) := hpre 19 (by kernel_rfl)
              subst e19
              exact wpOp_run (.pointer (some ⟨m, 0, none⟩)) rfl (by kernel_rfl) (by kernel_rfl) ⟨_, by kernel_rfl, rfl, bel_two (by decide) (Below.refl _ _)⟩
            · have e20 : x20 = .pointer (some ⟨m, 0, none⟩) := hpre 20 (by kernel_rfl)
              subst e20
              exact wpOp_run (.pointer (some ⟨m, 1, none⟩)) rfl (by kernel_rfl) (by kernel_rfl) ⟨_, by kernel_rfl, rfl, bel_two (by decide) (Below.refl _ _)⟩
            · have e21 : x21 = .pointer (some ⟨m, 1, none⟩) := hpre 21 (by kernel_rfl)
              subst e21
              exact wpOp_run (.slice (some ⟨g, off, none⟩) n1 oc) rfl (by kernel_rfl) (exec_load 86 rfl (by kernel_rfl) w5 (load95 hc5)) ⟨_, by kernel_rfl, rfl, bel_two (by decide) (Below.refl _ _)⟩
            · exact wpOp_run (.int .i64 ((k + 1 : Nat) : Int)) rfl (by kernel_rfl) (exec_move rfl (by kernel_rfl) w5) ⟨_, by kernel_rfl, rfl, bel_two (by decide) (Below.refl _ _)⟩
            · have e22 : x22 = .slice (some ⟨g, off, none⟩) n1 oc := hpre 22 (by kernel_rfl)
              subst e22
              have e23 : x23 = .int .i64 ((k + 1 : Nat) : Int) := hpre 23 (by kernel_rfl)
              subst e23
              exact wpOp_run (.pointer (some ⟨g, off + (k + 1) * 259, none⟩)) rfl (by kernel_rfl) (exec_index100 (b := g) (off := off) (n := n1) (cap := oc) (k := k + 1) rfl (by kernel_rfl) (by kernel_rfl) hkn1 w5) ⟨_, by kernel_rfl, rfl, bel_two (by decide) (Below.refl _ _)⟩
            · have e24 : x24 = .pointer (some ⟨g, off + (k + 1) * 259, none⟩) := hpre 24 (by kernel_rfl)
              subst e24
              exact wpOp_run (.agg (one5 (page5 p zz)).toArray) rfl (by kernel_rfl) (exec_load 102 rfl (by kernel_rfl) w5 (load100 (Hid.out HF) (hrk1 (hR0 (.inr (by kernel_rfl)))))) ⟨_, by kernel_rfl, rfl, bel_two (by decide) (Below.refl _ _)⟩
            · have e3 : x3 = .slice (some ⟨g, off, none⟩) n1 oc := hpre 3 (by kernel_rfl)
              subst e3
              have e4 : x4 = .int .i64 ((k + 1 : Nat) : Int) := hpre 4 (by kernel_rfl)
              subst e4
              exact wpOp_run (.pointer (some ⟨g, off + (k + 1) * 259, none⟩)) rfl (by kernel_rfl) (exec_index100 (b := g) (off := off) (n := n1) (cap := oc) (k := k + 1) rfl (by kernel_rfl) (by kernel_rfl) hkn1 w5) ⟨_, by kernel_rfl, rfl, bel_two (by decide) (Below.refl _ _)⟩
            · have e26 : x26 = .pointer (some ⟨g, off + (k + 1) * 259, none⟩) := hpre 26 (by kernel_rfl)
              subst e26
              have e18 : x18 = .agg (one5 px).toArray := hpre 18 (by kernel_rfl)
              subst e18
              refine wpOp_store100 (Hid.out HFX) rfl (by kernel_rfl) rfl rfl (by kernel_rfl) (by kernel_rfl) (htr1 (hR0 (.inl rfl))) ?_
              exact ⟨undef, by kernel_rfl, hput5 (hR0 (.inl rfl)), keep_setCells _ _ _ _⟩
            · have e8 : x8 = .slice (some ⟨g, off, none⟩) n1 oc := hpre 8 (by kernel_rfl)
              subst e8
              have e10 : x10 = .int .i64 (k : Int) := hpre 10 (by kernel_rfl)
              subst e10
              exact wpOp_run (.pointer (some ⟨g, off + k * 259, none⟩)) rfl (by kernel_rfl) (exec_index100 (b := g) (off := off) (n := n1) (cap := oc) (k := k) rfl (by kernel_rfl) (by kernel_rfl) hkn w5) ⟨_, by kernel_rfl, rfl, bel_two (by decide) (Below.refl _ _)⟩
          · intro xs w5 hxs hR hall
            obtain ⟨x0, x1, x2, x3, x4, x5, x6, x7, x8, x9, x10, x11, x12, x13, x14, x15, x16, x17, x18, x19, x20, x21, x22, x23, x24, x25, x26, x27, x28, rfl⟩ := list29 xs hxs
            have e0 : x0 = .pointer (some ⟨m, 0, none⟩) := hall 0 (by omega)
            subst e0
            have e1 : x1 = .pointer (some ⟨m, 0, none⟩) := hall 1 (by omega)
            subst e1
            have e2 : x2 = .pointer (some ⟨m, 1, none⟩) := hall 2 (by omega)
            subst e2
            have e3 : x3 = .slice (some ⟨g, off, none⟩) n1 oc := hall 3 (by omega)
            subst e3
            have e4 : x4 = .int .i64 ((k + 1 : Nat) : Int) := hall 4 (by omega)
            subst e4
            have e5 : x5 = .pointer (some ⟨m, 0, none⟩) := hall 5 (by omega)
            subst e5
            have e6 : x6 = .pointer (some ⟨m, 0, none⟩) := hall 6 (by omega)
            subst e6
            have e7 : x7 = .pointer (some ⟨m, 1, none⟩) := hall 7 (by omega)
            subst e7
            have e8 : x8 = .slice (some ⟨g, off, none⟩) n1 oc := hall 8 (by omega)
            subst e8
            have e9 : x9 = .int .i64 ((k + 1 : Nat) : Int) := hall 9 (by omega)
            subst e9
            have e10 : x10 = .int .i64 (k : Int) := hall 10 (by omega)
            subst e10
            have e11 : x11 = .pointer (some ⟨m, 0, none⟩) := hall 11 (by omega)
            subst e11
            have e12 : x12 = .pointer (some ⟨m, 0, none⟩) := hall 12 (by omega)
            subst e12
            have e13 : x13 = .pointer (some ⟨m, 1, none⟩) := hall 13 (by omega)
            subst e13
            have e14 : x14 = .slice (some ⟨g, off, none⟩) n1 oc := hall 14 (by omega)
            subst e14
            have e15 : x15 = .int .i64 ((k + 1 : Nat) : Int) := hall 15 (by omega)
            subst e15
            have e16 : x16 = .int .i64 (k : Int) := hall 16 (by omega)
            subst e16
            have e17 : x17 = .pointer (some ⟨g, off + k * 259, none⟩) := hall 17 (by omega)
            subst e17
            have e18 : x18 = .agg (one5 px).toArray := hall 18 (by omega)
            subst e18
            have e19 : x19 = .pointer (some ⟨m, 0, none⟩) := hall 19 (by omega)
            subst e19
            have e20 : x20 = .pointer (some ⟨m, 0, none⟩) := hall 20 (by omega)
            subst e20
            have e21 : x21 = .pointer (some ⟨m, 1, none⟩) := hall 21 (by omega)
            subst e21
            have e22 : x22 = .slice (some ⟨g, off, none⟩) n1 oc := hall 22 (by omega)
            subst e22
            have e23 : x23 = .int .i64 ((k + 1 : Nat) : Int) := hall 23 (by omega)
            subst e23
            have e24 : x24 = .pointer (some ⟨g, off + (k + 1) * 259, none⟩) := hall 24 (by omega)
            subst e24
            have e25 : x25 = .agg (one5 (page5 p zz)).toArray := hall 25 (by omega)
            subst e25
            have e26 : x26 = .pointer (some ⟨g, off + (k + 1) * 259, none⟩) := hall 26 (by omega)
            subst e26
            have e28 : x28 = .pointer (some ⟨g, off + k * 259, none⟩) := hall 28 (by omega)
            subst e28
            have f27 : Step5 wq st w5 { st with l := st.l.set (k + 1) px } := hall 27 (by omega)
            have hkl1 : k < (st.l.set (k + 1) px).length := by rw [List.length_set]; omega
            have hv1 : st.vP = .slice (some ⟨g, off, none⟩) (st.l.set (k + 1) px).length oc := by rw [List.length_set]; exact Hid.out HVR
            have hth2 := f27.mem.there (k := k) hkl1 hv1
            have hput2 := f27.mem.put (k := k) (q := page5 p zz) hkl1 (Hid.out HF) hv1 (Hid.out HO)
            have hall2 := ((Hid.out HSTQ).trans f27).trans hput2
            have hcm : (w5.setCells g (off + k * 259) (one5 (page5 p zz))).cell? ⟨m, 1, none⟩ = some (.slice (some ⟨g, off, none⟩) n1 oc) := by
              have h1 := hput2.mem.cellP
              rw [← hsm, ← hsv]
              exact h1
            have HALL := hidden hall2
            have HTH2 := hidden hth2
            have hs2 : (one5 (page5 p zz)).toArray.size = 259 := by rw [List.size_toArray, one5_len (Hid.out HF)]
            have hl2 : (st.l.set (k + 1) px).set k (page5 p zz) = s.l.take k ++ page5 p zz :: s.l.drop k := by
              rw [Hid.out HSL, ← hpx]
              exact swap_list (by omega) _
            have HL2 := hidden hl2
            have hsup2 : ∀ j, k ≤ j → j < s.l.length → p < (s.l.getD j nop5).at_ := fun j h1 h2 => by
              by_cases hjk : j = k
              · subst hjk
                rw [Hid.out HAQ]
                exact hlt2
              · exact Hid.out HSUP j (by omega) h2
            have HSUP2 := hidden hsup2
            clear hall hR hxs f27 hkl1 hv1 hth2 hput2 hall2 hl2 hsup2 hcq hthq hMq
            simp only [slotsOn, putAll, List.set_cons_succ, List.set_cons_zero, List.drop_succ_cons, List.drop_zero]
            refine wpList_store_mid rfl 102 _ _ rfl g (off + k * 259) (one5 (page5 p zz)).toArray rfl rfl (by rw [hs2]; exact Hid.out HTH2) (by rw [hs2]; exact size100) (all_oneCell_toArray (one5_one _)) ?_
            go_wp2
            go_roundw
            case rel => first | exact ⟨k, by omega, (by first | rfl | (simp only [Value.int.injEq, true_and]; simp [wrap64]; done) | (congr 1; done) | (congr 1; unfold wrap64; omega)), { st with l := (st.l.set (k + 1) px).set k (page5 p zz) }, Hid.out HALL, hsm, hsv, hsmost, hsts, Hid.out HL2, Hid.out HSUP2⟩ | exact ⟨k, by omega, (by first | rfl | (simp only [Value.int.injEq, true_and]; simp [wrap64]; done) | (congr 1; done) | (congr 1; unfold wrap64; omega)), ⟨{ st with l := (st.l.set (k + 1) px).set k (page5 p zz) }, Hid.out HALL, hsm, hsv, hsmost, hsts, Hid.out HL2⟩, Hid.out HSUP2⟩
            case measure => first | (simp [intOf]; done) | (simp [intOf]; omega) | (simp [intOf, wrap64]; omega)
        · have hd : decide ((p : Int) < (aq : Int)) = false := decide_eq_false (by omega)
          have hd2 : ¬ (p : Int) < (aq : Int) := by omega
          have HE : Hid (∀ r, _) := fun r => Hid.out HDONE wr st (k + 1) r (by omega) hst hsm hsmost hsts hsl (fun k' e => by
            obtain rfl : k = k' := by omega
            rw [haq]
            exact hlt2) hsup
          clear hst hM hsl hsup HDONE hc hth hvr ho gk gk1 haq hn1 hbg
          go_wp2
          go_quiet (fail)
          go_wp2
          go_ret
          exact ⟨rfl, Hid.out HE _⟩
      · obtain rfl : i = 0 := by omega
        have HE : Hid (∀ r, _) := fun r => Hid.out HDONE wr st 0 r (by omega) hst hsm hsmost hsts hsl (by omega) hsup
        clear hst hM hsl hsup HDONE
        go_wp2
        go_quiet (fail)
        go_wp2
        go_ret
        exact ⟨rfl, Hid.out HE _⟩
end Go.Proofs.Ytkpcajmphhdmiaa
namespace Go.Proofs.Ytkpcajmphhdmiaa
open Go.ChangeShapes Go.WideShapes Go.ChangeAt Go.RowKit
set_option linter.unusedVariables false
theorem Own.later {w u v : World} {s : MS} (h : Own w u s) (hb : Below u.heap.size u v) : Own w v s := h.step (Step.later h.mem hb)
/-- A memory that was made behind another one. -/
theorem apart_new {w u v : World} {s t : MS} (hs : Own w u s) (ht : Own u v t) : Apart s t := fun b hb hbt => by
  have := hs.mem.lt hb
  have := ht.foot b hbt
  omega
theorem Own.wide {w u v : World} {t : MS} (h : Own u v t) (hb : Below w.heap.size w u) : Own w v t := ⟨h.mem, hb.trans (h.below.mono hb.size), fun b hf => Nat.le_trans hb.size (h.foot b hf)⟩
structure Two (w wr : World) (s t : MS) (ms mt : Nat) (f g : AM) (C : Nat) : Prop where
  a : Own w wr s
  b : Own w wr t
  ab : Apart s t
  ms : s.mb = ms
  mt : t.mb = mt
  f : s.abs = f
  g : t.abs = g
  c : s.c ≤ C
theorem Two.later {w u v : World} {s t : MS} {ms mt C : Nat} {f g : AM} (h : Two w u s t ms mt f g C) (hb : Below u.heap.size u v) : Two w v s t ms mt f g C := ⟨h.a.later hb, h.b.later hb, h.ab, h.ms, h.mt, h.f, h.g, h.c⟩
theorem Two.drew {w u v : World} {s t : MS} {ms mt C : Nat} {f g : AM} (h : Two w u s t ms mt f g C) (hd : ∃ n, v = u.drewN n) : Two w v s t ms mt f g C := by
  obtain ⟨n, rfl⟩ := hd
  exact h.later (below_drewN (Below.refl _ _) n)
theorem Two.poke {w u : World} {s t : MS} {ms mt C a : Nat} {f g : AM} (h : Two w u s t ms mt f g C) (v : UInt8) (ha : a < 4294967296) (hC : C < 1099511627776) : Calls Try.prog 29 #[.pointer (some ⟨ms, 0, none⟩), .int .u32 (a : Int), .int .u8 (v.toNat : Int)] u fun e w' =>
    e = .returned (.bool (f (pageOf a)).isSome) ∧ ∃ s', Two w w' s' t ms mt (apoke f a v) g (C + 1) := by
  have hc := h.c
  have h21 := poke_any u s a v h.a.mem ha (by omega)
  have e : decide (pageOf a ∈ s.ks) = (f (pageOf a)).isSome := by
    rw [← h.f]
    by_cases hk : pageOf a ∈ s.ks
    · rw [decide_eq_true hk, mem_abs.1 hk]
    · rw [decide_eq_false hk, abs_out hk]
      rfl
  rw [h.ms, e] at h21
  refine h21.mono ?_
  rintro e w' ⟨he, tv, st⟩
  have hap := st.apart h.b.mem h.ab
  have hkp : Own w w' t := ⟨hap.1, (h.a.step st).below, h.b.foot⟩
  have hc2 := pokeAt_c s a v tv
  exact ⟨he, _, h.a.step st, hkp, hap.2, by rw [pokeAt_mb]; exact h.ms, h.mt, by rw [abs_pokeAt, h.f], h.g, by omega⟩
theorem Two.peek {w u : World} {s t : MS} {ms mt C a : Nat} {f g : AM} (h : Two w u s t ms mt f g C) (ha : a < 4294967296) : Calls Try.prog 39 #[.pointer (some ⟨ms, 0, none⟩), .int .u32 (a : Int)] u fun e w' => e = .returned (.int .u8 ((getA f a).toNat : Int)) ∧ Two w w' s t ms mt f g C := by
  have := peek_any u s a h.a.mem ha
  rw [h.ms, get_getA, h.f] at this
  exact this.mono fun e w' ⟨he, hd⟩ => ⟨he, h.drew hd⟩
end Go.Proofs.Ytkpcajmphhdmiaa
namespace Go.Proofs.Ytkpcajmphhdmiaa
open Go.ChangeShapes Go.WideShapes Go.ChangeAt Go.RowKit
set_option linter.unusedVariables false
theorem pageOf_div (a : Nat) : pageOf a = a / 256 * 256 := by unfold pageOf; omega
theorem getD_set5 {l : List P5} {k : Nat} (hk : k < l.length) (q : P5) (j : Nat) : (l.set k q).getD j nop5 = if j = k then q else l.getD j nop5 := by
  by_cases h : j = k
  · subst h
    rw [if_pos rfl, List.getD_eq_getElem?_getD, List.getElem?_set_self hk]
    rfl
  · rw [if_neg h, List.getD_eq_getElem?_getD, List.getElem?_set_ne (fun e => h e.symm), ← List.getD_eq_getElem?_getD]
theorem getD_ins5 {l : List P5} {i : Nat} (hi : i ≤ l.length) (q : P5) (j : Nat) : (l.take i ++ q :: l.drop i).getD j nop5 = if j < i then l.getD j nop5 else if j = i then q else l.getD (j - 1) nop5 := by
  have hl : (l.take i).length = i := by rw [List.length_take]; omega
  rw [List.getD_eq_getElem?_getD]
  by_cases h : j < i
  · rw [if_pos h, List.getElem?_append_left (by omega), List.getElem?_take_of_lt h, ← List.getD_eq_getElem?_getD]
  · rw [if_neg h, List.getElem?_append_right (by omega), hl]
    by_cases h2 : j = i
    · subst h2
      rw [if_pos rfl, Nat.sub_self]
      rfl
    · rw [if_neg h2, show j - i = (j - 1 - i) + 1 by omega, List.getElem?_cons_succ, List.getElem?_drop, show i + (j - 1 - i) = j - 1 by omega, ← List.getD_eq_getElem?_getD]
theorem len_ins5 {l : List P5} {i : Nat} (hi : i ≤ l.length) (q : P5) : (l.take i ++ q :: l.drop i).length = l.length + 1 := by
  rw [List.length_append, List.length_cons, List.length_take, List.length_drop]
  omega
theorem find5_iff {l : List P5} {p : Nat} : find5 l p < l.length ↔ ∃ j, j < l.length ∧ (l.getD j nop5).at_ = p := by
  constructor
  · exact fun h => ⟨_, h, find5_at h⟩
  · rintro ⟨j, hj, he⟩
    exact Classical.byContradiction fun hn => by
      unfold find5 at hn
      rw [List.findIdx_lt_length] at hn
      refine hn ⟨l.getD j nop5, ?_, by simpa using he⟩
      rw [List.getD_eq_getElem?_getD, List.getElem?_eq_getElem hj]
      exact List.getElem_mem hj
/-- The same pages, those of chapter 5's own rising. -/
structure Sim (s : MS) (l : List P5) : Prop where
  rise : ∀ i j, i < j → j < l.length → (l.getD i nop5).at_ < (l.getD j nop5).at_
  here : ∀ j, j < l.length → (l.getD j nop5).at_ ∈ s.ks ∧ (l.getD j nop5).b = s.data (l.getD j nop5).at_ ∧ (l.getD j nop5).perm = s.pm (l.getD j nop5).at_ ∧ (l.getD j nop5).watched = s.on (l.getD j nop5).at_
  back : ∀ k, k ∈ s.ks → find5 l k < l.length
  len : s.ks.length = l.length
theorem Sim.find {s : MS} {l : List P5} (h : Sim s l) (p : Nat) : p ∈ s.ks ↔ find5 l p < l.length := by
  refine ⟨h.back p, fun hf => ?_⟩
  have := (h.here _ hf).1
  rwa [find5_at hf] at this
theorem Sim.at {s : MS} {l : List P5} (h : Sim s l) {p : Nat} (hf : find5 l p < l.length) : (l.getD (find5 l p) nop5).b = s.data p ∧ (l.getD (find5 l p) nop5).perm = s.pm p ∧ (l.getD (find5 l p) nop5).watched = s.on p := by
  have := (h.here _ hf).2
  rwa [find5_at hf] at this
theorem Sim.inj {s : MS} {l : List P5} (h : Sim s l) {i j : Nat} (hi : i < l.length) (hj : j < l.length) (e : (l.getD i nop5).at_ = (l.getD j nop5).at_) : i = j := by
  rcases Nat.lt_trichotomy i j with h1 | h1 | h1
  · have := h.rise i j h1 hj; omega
  · exact h1
  · have := h.rise j i h1 hi; omega
theorem Sim.set {s s' : MS} {l : List P5} {p : Nat} {q : P5} (h : Sim s l) (hf : find5 l p < l.length) (hq : q.at_ = p) (hks : s'.ks = s.ks) (hb : q.b = s'.data p) (hp : q.perm = s'.pm p) (hw : q.watched = s'.on p) (ho : ∀ k, k ≠ p → s'.data k = s.data k ∧ s'.pm k = s.pm k ∧ s'.on k = s.on k) : Sim s' (l.set (find5 l p) q) := by
  have ha : ∀ j, ((l.set (find5 l p) q).getD j nop5).at_ = (l.getD j nop5).at_ := fun j => by
    rw [getD_set5 hf]
    by_cases e : j = find5 l p
    · rw [if_pos e, e, hq, find5_at hf]
    · rw [if_neg e]
  refine ⟨fun i j hij hj => ?_, fun j hj => ?_, fun k hk => ?_, ?_⟩
  · rw [ha, ha]
    exact h.rise i j hij (by simpa using hj)
  · rw [List.length_set] at hj
    have h1 := h.here j hj
    rw [ha, hks]
    refine ⟨h1.1, ?_⟩
    rw [getD_set5 hf]
    by_cases e : j = find5 l p
    · rw [if_pos e, e, find5_at hf]
      exact ⟨hb, hp, hw⟩
    · rw [if_neg e]
      have hne : (l.getD j nop5).at_ ≠ p := fun e2 => e (h.inj hj hf (by rw [e2, find5_at hf]))
      obtain ⟨o1, o2, o3⟩ := ho _ hne
      rw [o1, o2, o3]
      exact h1.2
  · rw [hks] at hk
    obtain ⟨j, hj, e⟩ := find5_iff.1 (h.back k hk)
    exact find5_iff.2 ⟨j, by simpa using hj, by rw [ha]; exact e⟩
  · rw [hks, List.length_set]
    exact h.len
theorem Sim.ins {s s' : MS} {l : List P5} {p i : Nat} {q : P5} (h : Sim s l) (hn : ¬ find5 l p < l.length) (hi : i ≤ l.length) (hq : q.at_ = p) (h1 : ∀ k, i = k + 1 → ¬ p < (l.getD k nop5).at_) (h2 : ∀ j, i ≤ j → j < l.length → p < (l.getD j nop5).at_) (hks : s'.ks = s.ks ++ [p]) (hb : q.b = s'.data p) (hp : q.perm = s'.pm p) (hw : q.watched = s'.on p) (ho : ∀ k, k ≠ p → s'.data k = s.data k ∧ s'.pm k = s.pm k ∧ s'.on k = s.on k) : Sim s' (l.take i ++ q :: l.drop i) := by
  have hne : ∀ j, j < l.length → (l.getD j nop5).at_ ≠ p := fun j hj e => hn (find5_iff.2 ⟨j, hj, e⟩)
  have hlow : ∀ j, j < i → (l.getD j nop5).at_ < p := fun j hj => by
    obtain ⟨k, rfl⟩ : ∃ k, i = k + 1 := ⟨i - 1, by omega⟩
    have a := h1 k rfl
    have b := hne k (by omega)
    by_cases e : j = k
    · subst e; omega
    · have := h.rise j k (by omega) (by omega)
      omega
  refine ⟨fun a b hab hbl => ?_, fun j hj => ?_, fun k hk => ?_, ?_⟩
  · rw [len_ins5 hi] at hbl
    rw [getD_ins5 hi, getD_ins5 hi]
    by_cases c1 : b < i
    · rw [if_pos (by omega), if_pos c1]
      exact h.rise a b hab (by omega)
    · rw [if_neg c1]
      by_cases c2 : b = i
      · rw [if_pos c2, if_pos (by omega), hq]
        exact hlow a (by omega)
      · rw [if_neg c2]
        have hb2 := h2 (b - 1) (by omega) (by omega)
        by_cases c3 : a < i
        · rw [if_pos c3]
          have := hlow a c3
          omega
        · rw [if_neg c3]
          by_cases c4 : a = i
          · rw [if_pos c4, hq]
            exact hb2
          · rw [if_neg c4]
            exact h.rise (a - 1) (b - 1) (by omega) (by omega)
  · rw [len_ins5 hi] at hj
    rw [getD_ins5 hi, hks]
    have old : ∀ x, x < l.length → (l.getD x nop5).at_ ∈ s.ks ++ [p] ∧ (l.getD x nop5).b = s'.data (l.getD x nop5).at_ ∧ (l.getD x nop5).perm = s'.pm (l.getD x nop5).at_ ∧ (l.getD x nop5).watched = s'.on (l.getD x nop5).at_ := fun x hx => by
      have g := h.here x hx
      obtain ⟨o1, o2, o3⟩ := ho _ (hne x hx)
      rw [o1, o2, o3]
      exact ⟨List.mem_append_left _ g.1, g.2⟩
    by_cases c1 : j < i
    · rw [if_pos c1]
      exact old j (by omega)
    · rw [if_neg c1]
      by_cases c2 : j = i
      · rw [if_pos c2, hq]
        exact ⟨List.mem_append_right _ (List.mem_singleton.2 rfl), hb, hp, hw⟩
      · rw [if_neg c2]
        exact old (j - 1) (by omega)
  · rw [hks] at hk
    rcases List.mem_append.1 hk with hk | hk
    · obtain ⟨j, hj, e⟩ := find5_iff.1 (h.back k hk)
      by_cases c : j < i
      · exact find5_iff.2 ⟨j, by rw [len_ins5 hi]; omega, by rw [getD_ins5 hi, if_pos c]; exact e⟩
      · exact find5_iff.2 ⟨j + 1, by rw [len_ins5 hi]; omega, by rw [getD_ins5 hi, if_neg (by omega), if_neg (by omega), Nat.add_sub_cancel]; exact e⟩
    · rw [List.mem_singleton] at hk
      exact find5_iff.2 ⟨i, by rw [len_ins5 hi]; omega, by rw [getD_ins5 hi, if_neg (Nat.lt_irrefl _), if_pos rfl, hq, hk]⟩
  · rw [hks, List.length_append, len_ins5 hi, h.len]
    rfl
theorem Sim.perm {s : MS} {l : List P5} (h : Sim s l) (a : Nat) : perm5 l (a / 256 * 256) = s.perm a := by
  unfold perm5 MS.perm
  rw [pageOf_div]
  by_cases hf : find5 l (a / 256 * 256) < l.length
  · rw [if_pos hf, if_pos ((h.find _).2 hf)]
    exact (h.at hf).2.1
  · rw [if_neg hf, if_neg (fun e => hf ((h.find _).1 e))]
theorem Sim.peek {s : MS} {l : List P5} (h : Sim s l) (a : Nat) : peek5 l a = s.get a := by
  unfold peek5 MS.get
  rw [pageOf_div]
  by_cases hf : find5 l (a / 256 * 256) < l.length
  · rw [if_pos hf, if_pos ((h.find _).2 hf), (h.at hf).1]
  · rw [if_neg hf, if_neg (fun e => hf ((h.find _).1 e))]
def watch5 (l : List P5) (p : Nat) : Bool := decide (find5 l p < l.length) && (l.getD (find5 l p) nop5).watched
theorem Sim.watched {s : MS} {l : List P5} (h : Sim s l) (a : Nat) : watch5 l (a / 256 * 256) = s.watched a := by
  unfold watch5 MS.watched
  rw [pageOf_div]
  by_cases hf : find5 l (a / 256 * 256) < l.length
  · rw [decide_eq_true hf, decide_eq_true ((h.find _).2 hf), (h.at hf).2.2]
  · rw [decide_eq_false hf, decide_eq_false (fun e => hf ((h.find _).1 e)), Bool.false_and, Bool.false_and]
theorem Sim.mapped {s : MS} {l : List P5} (h : Sim s l) (a : Nat) : decide (find5 l (a / 256 * 256) < l.length) = decide (pageOf a ∈ s.ks) := by
  rw [pageOf_div]
  exact decide_eq_decide.2 (h.find _).symm
/-- The rising list of some keys is one. -/
theorem rising_eq : ∀ (l m : List Nat), (∀ i j, i < j → j < l.length → l.getD i 0 < l.getD j 0) → (∀ i j, i < j → j < m.length → m.getD i 0 < m.getD j 0) → (∀ x, x ∈ l ↔ x ∈ m) → l = m
  | [], [], _, _, _ => rfl
  | [], y :: m, _, _, h => by have := (h y).2 (List.mem_cons_self ..); simp at this
  | x :: l, [], _, _, h => by have := (h x).1 (List.mem_cons_self ..); simp at this
  | x :: l, y :: m, hl, hm, h => by
    have up : ∀ (z : Nat) (t : List Nat), (∀ i j, i < j → j < (z :: t).length → (z :: t).getD i 0 < (z :: t).getD j 0) → ∀ u ∈ t, z < u := fun z t ht u hu => by
      obtain ⟨j, hj, rfl⟩ := List.getElem_of_mem hu
      have := ht 0 (j + 1) (by omega) (by simpa using hj)
      simpa [List.getD_eq_getElem?_getD, hj] using this
    have ux := up x l hl
    have uy := up y m hm
    have e : x = y := by
      have h1 := (h x).1 (List.mem_cons_self ..)
      have h2 := (h y).2 (List.mem_cons_self ..)
      rcases List.mem_cons.1 h1 with h1 | h1
      · exact h1
      · rcases List.mem_cons.1 h2 with h2 | h2
        · exact h2.symm
        · have := ux y h2; have := uy x h1; omega
    subst e
    have tail : ∀ (t : List Nat), (∀ i j, i < j → j < (x :: t).length → (x :: t).getD i 0 < (x :: t).getD j 0) → ∀ i j, i < j → j < t.length → t.getD i 0 < t.getD j 0 := fun t ht i j hij hj => by
      have := ht (i + 1) (j + 1) (by omega) (by simpa using hj)
      simpa using this
    rw [rising_eq l m (tail l hl) (tail m hm) fun u => by
      constructor
      · intro hu
        have := (h u).1 (List.mem_cons_of_mem _ hu)
        rcases List.mem_cons.1 this with e | e
        · have := ux u hu; omega
        · exact e
      · intro hu
        have := (h u).2 (List.mem_cons_of_mem _ hu)
        rcases List.mem_cons.1 this with e | e
        · have := uy u hu; omega
        · exact e]
theorem Sim.pages {s : MS} {l : List P5} (h : Sim s l) {ks : List Nat} (hp : ks.Perm s.ks) (hr : Rising ks) : ks = l.map P5.at_ := by
  have hg : ∀ j, j < l.length → (l.map P5.at_).getD j 0 = (l.getD j nop5).at_ := fun j hj => by
    simp [List.getD_eq_getElem?_getD, hj]
  refine rising_eq _ _ hr (fun i j hij hj => ?_) fun x => ?_
  · rw [List.length_map] at hj
    rw [hg i (by omega), hg j hj]
    exact h.rise i j hij hj
  · rw [hp.mem_iff, h.find, find5_iff]
    constructor
    · rintro ⟨j, hj, e⟩
      rw [← e, ← hg j hj, List.getD_eq_getElem?_getD, List.getElem?_eq_getElem (by simpa using hj)]
      exact List.getElem_mem (by simpa using hj)
    · intro hx
      obtain ⟨j, hj, rfl⟩ := List.getElem_of_mem hx
      rw [List.length_map] at hj
      refine ⟨j, hj, ?_⟩
      rw [← hg j hj, List.getD_eq_getElem?_getD, List.getElem?_eq_getElem (by simpa using hj)]
      rfl
theorem ofInt_toNat (x : Int) : (BitVec.ofInt 64 x).toNat = (x % 18446744073709551616).toNat := by
  have h : ((2 ^ 64 : Nat) : Int) = 18446744073709551616 := by decide
  rw [BitVec.toNat_ofInt, h]
theorem bits_or (x y : Int) : bits .or .i64 x y = IntKind.i64.wrap ((BitVec.ofInt 64 x ||| BitVec.ofInt 64 y).toNat : Nat) := rfl
theorem or_mod8 (a n : Nat) (ha : a < 8) : (a ||| n) % 8 = a ||| n % 8 := by
  have h : (a ||| n) % 2 ^ 3 = a % 2 ^ 3 ||| n % 2 ^ 3 := Nat.or_mod_two_pow
  rw [show (2 : Nat) ^ 3 = 8 from rfl, Nat.mod_eq_of_lt ha] at h
  exact h
theorem wrap8 (n : Nat) : IntKind.i64.wrap ((n % 8 : Nat) : Int) = IntKind.i64.wrap (n : Int) % 8 := by
  rw [IntKind.wrap_i64, IntKind.wrap_i64]
  omega
theorem toNat8 (z : Int) : (BitVec.ofInt 64 (z % 8)).toNat = (BitVec.ofInt 64 z).toNat % 8 := by
  rw [ofInt_toNat, ofInt_toNat]
  omega
theorem toNatS (a : Nat) (h : a < 8) : (BitVec.ofInt 64 (a : Int)).toNat = a := by
  rw [ofInt_toNat]
  omega
theorem orP_small (p z : Int) (h0 : 0 ≤ p) (h8 : p < 8) : bits .or .i64 p (z % 8) = orP p z := by
  obtain ⟨a, rfl⟩ := Int.eq_ofNat_of_zero_le h0
  have ha : a < 8 := by omega
  rw [orP, bits_or, bits_or, BitVec.toNat_or, BitVec.toNat_or, toNatS a ha, toNat8, ← or_mod8 a _ ha]
  exact wrap8 _
/-- Both in one world, with no block in common, of the call's own. -/
structure Duo (w0 w : World) (s : MS) (t : S5) : Prop where
  own : Own w0 w s
  mem5 : M5 w t
  f5 : ∀ b, foot5 t b → w0.heap.size ≤ b
  apart : ∀ b, foot s b → ¬ foot5 t b
theorem M5.same {w w' : World} {t : S5} (h : M5 w t) (hb : ∀ b, foot5 t b → w'.heap[b]? = w.heap[b]?) : M5 w' t :=
  ⟨(hb _ (.inl rfl)).trans h.self, ownsRow_same h.pages fun g hg => hb g (.inr (.inl hg)), ownsRow_same h.touched fun g hg => hb g (.inr (.inr hg)), h.fit, h.few⟩
theorem M5.footLt {w : World} {t : S5} (h : M5 w t) {b : Nat} (hb : foot5 t b) : b < w.heap.size := by
  rcases hb with hb | hb | hb
  · rw [hb]; exact h.lt
  · obtain ⟨c, hc⟩ := h.blkP hb; exact hc.lt
  · obtain ⟨c, hc⟩ := h.blkT hb; exact hc.lt
theorem M5.keep {F : Nat → Prop} {w w' : World} {t : S5} (h : M5 w t) (k : Keep F w w') (hf : ∀ b, foot5 t b → ¬ F b) : M5 w' t := h.same fun b hb => k.block b (h.footLt hb) (hf b hb)
theorem M5.later {w w' : World} {t : S5} (h : M5 w t) (hb : Below w.heap.size w w') : M5 w' t := h.same fun b hf => hb.block b (h.footLt hf)
theorem Duo.code {w0 w w' : World} {s s' : MS} {t : S5} (h : Duo w0 w s t) (k : Step w s w' s') : Duo w0 w' s' t := by
  refine ⟨h.own.step k, h.mem5.keep k.keep fun b hb hf => h.apart b hf hb, h.f5, fun b hb h5 => ?_⟩
  rcases k.grow b hb with h1 | h1
  · exact h.apart b h1 h5
  · have := h.mem5.footLt h5
    omega
theorem Duo.model {w0 w w' : World} {s : MS} {t t' : S5} (h : Duo w0 w s t) (k : Step5 w t w' t') : Duo w0 w' s t' := by
  have hb : Below w0.heap.size w w' := k.keep.below h.own.below.size h.f5
  refine ⟨⟨h.own.mem.keep k.keep fun b hb h5 => h.apart b hb h5, h.own.below.trans hb, h.own.foot⟩, k.mem, fun b hb5 => ?_, fun b hb h5 => ?_⟩
  · rcases k.grow b hb5 with h1 | h1
    · exact h.f5 b h1
    · exact Nat.le_trans h.own.below.size h1
  · rcases k.grow b h5 with h1 | h1
    · exact h.apart b hb h1
    · have := h.own.mem.lt hb
      omega
theorem Duo.later {w0 w w' : World} {s : MS} {t : S5} (h : Duo w0 w s t) (hb : Below w.heap.size w w') : Duo w0 w' s t := h.code (Step.later h.own.mem hb)
end Go.Proofs.Ytkpcajmphhdmiaa
