/- MemBytes, walked. -/
import Derived.Test.YtfbmkgdpejgjpaaBytesLaws
namespace Go.Proofs.Ytfbmkgdpejgjpaa
open Go.ChangeShapes Go.WideShapes Go.ChangeAt Go.RowKit
set_option linter.unusedVariables false
/-- The memory of MemBytes. -/
structure OneM (w wr : World) (s : MS) (mb fr : Nat) (l : List UInt8) : Prop where
  own : Own w wr s
  mb : s.mb = mb
  ts : s.ts = []
  get : ∀ j, j < l.length → s.get (wrapAt (fr + 1) j) = l.getD j 0
  ks : s.ks.length = (fr + l.length) / 256 + 1
theorem OneM.later {w u v : World} {s : MS} {mb fr : Nat} {l : List UInt8} (h : OneM w u s mb fr l) (hb : Below u.heap.size u v) : OneM w v s mb fr l := ⟨h.own.step (Step.later h.own.mem hb), h.mb, h.ts, h.get, h.ks⟩
theorem span_one {w u : World} {s : MS} {mb fr : Nat} {l : List UInt8} (h : OneM w u s mb fr l) : s.span (fr + 1) l.length = l := by
  apply List.ext_getElem (span_len _ _ _)
  intro i h1 h2
  have := h.get i h2
  simp only [MS.span, List.getElem_map, List.getElem_range]
  rw [this, List.getD_eq_getElem?_getD, List.getElem?_eq_getElem h2, Option.getD_some]
theorem OneM.bytes {w u : World} {s : MS} {mb fr : Nat} {l : List UInt8} (h : OneM w u s mb fr l) (hfr : fr < 256) (hl : l.length ≤ 400) : Calls Try.prog 34 #[.pointer (some ⟨mb, 0, none⟩), .int .u32 ((fr : Int) + 1), .int .i64 (l.length : Int)] u fun e w' => ∃ v, e = .returned v ∧ (∃ ao, v = .slice ao l.length l.length ∧ Lies w' ao l) ∧ Below u.heap.size u w' := by
  have := mbytes_any u s (fr + 1) (l.length : Int) h.own.mem (by omega)
  rw [show cutLen (l.length : Int) = l.length by unfold cutLen; omega, span_one h, h.mb, show ((fr + 1 : Nat) : Int) = (fr : Int) + 1 by omega] at this
  refine this.mono ?_
  rintro e w' ⟨ao, he, hr, hb⟩
  exact ⟨_, he, ⟨ao, rfl, hr.lies⟩, hb⟩
theorem OneM.empty {w u : World} {s : MS} {mb fr : Nat} {l : List UInt8} (h : OneM w u s mb fr l) : Calls Try.prog 34 #[.pointer (some ⟨mb, 0, none⟩), .int .u32 0, .int .i64 (-1)] u fun e w' => ∃ ao, e = .returned (.slice ao 0 0) ∧ Below u.heap.size u w' := by
  have := mbytes_any u s 0 (-1) h.own.mem (by omega)
  rw [show cutLen (-1) = 0 by decide, h.mb, span_len, show ((0 : Nat) : Int) = 0 from rfl] at this
  refine this.mono ?_
  rintro e w' ⟨ao, he, hr, hb⟩
  exact ⟨ao, he, hb⟩
theorem OneM.pages {w u : World} {s : MS} {mb fr : Nat} {l : List UInt8} (h : OneM w u s mb fr l) (hfr : fr < 256) (hl : l.length ≤ 400) : Calls Try.prog 38 #[.pointer (some ⟨mb, 0, none⟩)] u fun e w' => ∃ ao cap, e = .returned (.slice ao ((fr + l.length) / 256 + 1) cap) ∧ Below u.heap.size u w' := by
  have hk := h.ks
  have := pages_small u s h.own.mem (by omega)
  rw [h.mb] at this
  refine this.mono ?_
  rintro e w' ⟨ao, cap, pl, he, hp, _, _, hb⟩
  exact ⟨ao, cap, by rw [← hk, ← hp.length_eq]; exact he, hb⟩
theorem OneM.told {w u : World} {s : MS} {mb fr : Nat} {l : List UInt8} (h : OneM w u s mb fr l) : Calls Try.prog 17 #[.pointer (some ⟨mb, 0, none⟩)] u fun e w' => ∃ ao cap, e = .returned (.slice ao 0 cap) ∧ OneM w w' s.told mb fr l := by
  have := told_any u s h.own.mem
  rw [h.mb, h.ts] at this
  refine this.mono ?_
  rintro e w' ⟨he, st, hr, _⟩
  obtain ⟨ao, cap, e2, _⟩ := wds_of_row hr
  exact ⟨ao, cap, by rw [he, e2]; rfl, h.own.step st, h.mb, rfl, h.get, h.ks⟩
def w4 (l : List UInt8) (i : Nat) : Nat := (((l.getD i 0).toNat * 256 + (l.getD (i + 1) 0).toNat) * 256 + (l.getD (i + 2) 0).toNat) * 256 + (l.getD (i + 3) 0).toNat
theorem OneM.word {w u : World} {s : MS} {mb fr i : Nat} {l : List UInt8} (h : OneM w u s mb fr l) (hfr : fr < 256) (hl : l.length ≤ 400) (hi : i + 3 < l.length) : Calls Try.prog 30 #[.pointer (some ⟨mb, 0, none⟩), .int .u32 ((fr : Int) + 1 + (i : Int))] u fun e w' => e = .returned (.int .u32 (w4 l i : Int)) ∧ OneM w w' s mb fr l := by
  have := word_any u s (fr + 1 + i) h.own.mem (by omega)
  have hg : ∀ j, j < 4 → s.get (wrapAt (fr + 1 + i) j) = l.getD (i + j) 0 := by
    intro j hj
    have := h.get (i + j) (by omega)
    rw [show wrapAt (fr + 1) (i + j) = wrapAt (fr + 1 + i) j by unfold wrapAt; omega] at this
    exact this
  have e : preW s (fr + 1 + i) 4 = w4 l i := by
    have g0 : s.get (wrapAt (fr + 1 + i) 0) = l.getD i 0 := hg 0 (by omega)
    simp only [preW, w4, g0, hg 1 (by omega), hg 2 (by omega), hg 3 (by omega)]
    omega
  rw [h.mb, e, show ((fr + 1 + i : Nat) : Int) = (fr : Int) + 1 + (i : Int) by omega] at this
  exact this.mono fun e w' ⟨he, hd⟩ => ⟨he, h.own.step (Step.drew h.own.mem hd), h.mb, h.ts, h.get, h.ks⟩
theorem made_one {w u w' : World} {s : MS} {fr : Nat} {l : List UInt8} {ao : Option Addr} {cap : Nat} (ho : Own u w' s) (hb : Below w.heap.size w u) (hab : s.abs = memOf [⟨fr, 0 :: l, 6, false, ao, cap⟩]) (hts : s.ts = []) (hfr : fr < 256) (hl : l.length ≤ 400) : OneM w w' s s.mb fr l := by
  refine ⟨⟨ho.mem, hb.trans (ho.below.mono hb.size), fun b hf => Nat.le_trans hb.size (ho.foot b hf)⟩, rfl, hts, fun j hj => ?_, ?_⟩
  · rw [get_getA, hab]
    have := one_get ⟨fr, 0 :: l, 6, false, ao, cap⟩ (by simp) (by simp; omega) (j + 1) (by simp; omega)
    rw [show wrapAt fr (j + 1) = wrapAt (fr + 1) j by unfold wrapAt; omega] at this
    rw [this]
    simp [List.getD_eq_getElem?_getD]
  · have := one_pages ho.mem hab (by simp) hfr (by simp; omega)
    simpa using this
/-- What the slots of the region hold, whatever the order. -/
def phiBy (mb fr cap : Nat) (bo : Option Addr) (l : List UInt8) : Nat → Value → World → Prop
  | 0, x, _ => x = .pointer (some ⟨mb, 0, none⟩)
  | 1, x, _ => x = .bool false
  | 2, x, _ => x = .bool false
  | 3, x, _ => x = .pointer (some ⟨mb, 0, none⟩)
  | 4, x, _ => x = .int .u32 (fr : Int)
  | 5, x, _ => x = .int .u32 ((fr : Int) + 1)
  | 6, x, _ => x = .slice bo l.length cap
  | 7, x, _ => x = .int .i64 (l.length : Int)
  | 8, x, w => ∃ ao, x = .slice ao l.length l.length ∧ Lies w ao l
  | 9, x, _ => x = .string ⟨l.toArray⟩
  | 10, x, _ => x = .slice bo l.length cap
  | 11, x, _ => x = .string ⟨l.toArray⟩
  | 12, x, _ => x = .bool false
  | 13, x, _ => x = .bool false
  | 14, x, _ => x = .bool false
  | _ + 15, _, _ => True
theorem phiBy_mono (mb fr cap : Nat) (bo : Option Addr) (l : List UInt8) : ∀ i x w w', phiBy mb fr cap bo l i x w → Below w.heap.size w w' → phiBy mb fr cap bo l i x w'
  | 0, _, _, _, h, _ => h
  | 1, _, _, _, h, _ => h
  | 2, _, _, _, h, _ => h
  | 3, _, _, _, h, _ => h
  | 4, _, _, _, h, _ => h
  | 5, _, _, _, h, _ => h
  | 6, _, _, _, h, _ => h
  | 7, _, _, _, h, _ => h
  | 8, x, w, w', h, hbl => by obtain ⟨ao, e, h1⟩ := h; exact ⟨ao, e, h1.later hbl⟩
  | 9, _, _, _, h, _ => h
  | 10, _, _, _, h, _ => h
  | 11, _, _, _, h, _ => h
  | 12, _, _, _, h, _ => h
  | 13, _, _, _, h, _ => h
  | 14, _, _, _, h, _ => h
  | _ + 15, _, _, _, _, _ => trivial
theorem list15 : ∀ xs : List Value, xs.length = 15 → ∃ x0 x1 x2 x3 x4 x5 x6 x7 x8 x9 x10 x11 x12 x13 x14, xs = [x0, x1, x2, x3, x4, x5, x6, x7, x8, x9, x10, x11, x12, x13, x14]
  | [x0, x1, x2, x3, x4, x5, x6, x7, x8, x9, x10, x11, x12, x13, x14], _ => ⟨_, _, _, _, _, _, _, _, _, _, _, _, _, _, _, rfl⟩
set_option maxRecDepth 20000 in
set_option maxHeartbeats 4000000 in
theorem bytes_walk (bo : Option Addr) (l : List UInt8) (cap a : Nat) (w : World) (hl : Row w bo l cap) (hbig : l.length ≤ 9223372036854775807) (ha : a < 4294967296) :
    Calls Try.prog 7 #[.slice bo l.length cap, .int .u32 (a : Int)] w fun e w' => e = .returned (.bool true) ∧ Below w.heap.size w w' := by
  by_cases h4 : l.length ≤ 400
  case neg =>
    have h42 : (400 : Int) < (l.length : Int) := by omega
    clear hl
    go_enter Try.func7, Try.ntmps7
    go_wp2_with (go_at_call 37; with_reducible refine (awake_any _).mono ?_; rintro e w1 ⟨rfl, hb⟩; have HB1 := hidden hb; clear hb)
    go_ret
    exact ⟨rfl, Hid.out HB1⟩
  have h42 : ¬ (400 : Int) < (l.length : Int) := by omega
  obtain ⟨fr, hfr, hfrE⟩ : ∃ fr : Nat, fr < 256 ∧ (a : Int) % 256 = (fr : Int) := ⟨a % 256, Nat.mod_lt _ (by omega), by omega⟩
  obtain ⟨da, dcap, w2, hap, hdr, hdb⟩ := append0 w bo l cap 45 hl h4
  have HAP := hidden hap
  have H40 : Hid (Calls Try.prog 40 #[.slice (some ⟨w2.heap.size, 0, none⟩) 1 1] (w2.alloc (.cells #[.int .u32 (fr : Int), .slice da (0 :: l).length dcap, .int .i64 6, .bool false] 57)) fun e w' => ∃ s, e = .returned (.pointer (some ⟨s.mb, 0, none⟩)) ∧ OneM w w' s s.mb fr l) := by
    have := memory_any _ _ 1 _ (piece_one w2 fr hfr da (0 :: l) dcap hdr) (by simp) (by simp; omega)
    refine this.mono ?_
    rintro e w' ⟨s, he, ho, hab, _, _, hts, _⟩
    exact ⟨s, he, made_one ho (hdb.alloc hdb.size _) hab hts hfr h4⟩
  have HL := hidden hl
  have hb57 := build57
  clear hap hdr hdb hl
  generalize (0 :: l).length = dn at HAP H40
  go_enter Try.func7, Try.ntmps7
  go_wp2_with (first | (at_builtin; refine wpList_append_run rfl _ _ 45 45 rfl rfl rfl (Hid.out HAP) ?_) | (go_at_call 40; with_reducible refine (Hid.out H40).mono ?_; rintro e w4' ⟨s, rfl, ho⟩; have HO := hidden ho; clear ho))
  have H34 : Hid (∀ u, Below w4'.heap.size w4' u → Calls Try.prog 34 #[.pointer (some ⟨s.mb, 0, none⟩), .int .u32 ((fr : Int) + 1), .int .i64 (l.length : Int)] u fun e w' => ∃ v, e = .returned v ∧ (∃ ao, v = .slice ao l.length l.length ∧ Lies w' ao l) ∧ Below u.heap.size u w') := fun u hu => OneM.bytes ((Hid.out HO).later hu) hfr h4
  have HL4 := hidden (Row.later (Hid.out HL) (OneM.own (Hid.out HO)).below)
  obtain ⟨mb, hmb⟩ : ∃ mb, mb = s.mb := ⟨_, rfl⟩
  rw [← hmb] at H34 HO ⊢
  clear hmb
  refine wp_region_head later_below 15 [22, 23, 24, 25, 26, 27, 28, 29, 30, 31, 32, 33, 34, 35, 36] (phiBy mb fr cap bo l) (by kernel_rfl) (by kernel_rfl) rfl (phiBy_mono mb fr cap bo l) ?_ ?_
  · intro j hj xs w3 hxs hR hpre
    obtain ⟨x0, x1, x2, x3, x4, x5, x6, x7, x8, x9, x10, x11, x12, x13, x14, rfl⟩ := list15 xs hxs
    have hL3 := (Row.later (Hid.out HL4) hR).lies
    rcases (show j = 0 ∨ j = 1 ∨ j = 2 ∨ j = 3 ∨ j = 4 ∨ j = 5 ∨ j = 6 ∨ j = 7 ∨ j = 8 ∨ j = 9 ∨ j = 10 ∨ j = 11 ∨ j = 12 ∨ j = 13 ∨ j = 14 by omega) with rfl | rfl | rfl | rfl | rfl | rfl | rfl | rfl | rfl | rfl | rfl | rfl | rfl | rfl | rfl
    · exact wpOp_run (.pointer (some ⟨mb, 0, none⟩)) rfl (by kernel_rfl) (exec_move rfl (by kernel_rfl) w3) ⟨_, by kernel_rfl, rfl, Below.refl _ _⟩
    · have e0 : x0 = .pointer (some ⟨mb, 0, none⟩) := hpre 0 (by kernel_rfl)
      subst e0
      exact wpOp_run (.bool false) rfl (by kernel_rfl) (by kernel_rfl) ⟨_, by kernel_rfl, rfl, Below.refl _ _⟩
    · have e1 : x1 = .bool false := hpre 1 (by kernel_rfl)
      subst e1
      exact wpOp_run (.bool false) rfl (by kernel_rfl) (exec_move rfl (by kernel_rfl) w3) ⟨_, by kernel_rfl, rfl, Below.refl _ _⟩
    · have e2 : x2 = .bool false := hpre 2 (by kernel_rfl)
      subst e2
      exact wpOp_run (.pointer (some ⟨mb, 0, none⟩)) rfl (by kernel_rfl) (exec_move rfl (by kernel_rfl) w3) ⟨_, by kernel_rfl, rfl, Below.refl _ _⟩
    · have e2 : x2 = .bool false := hpre 2 (by kernel_rfl)
      subst e2
      exact wpOp_run (.int .u32 (fr : Int)) rfl (by kernel_rfl) (exec_move rfl (by kernel_rfl) w3) ⟨_, by kernel_rfl, rfl, Below.refl _ _⟩
    · have e2 : x2 = .bool false := hpre 2 (by kernel_rfl)
      subst e2
      have e4 : x4 = .int .u32 (fr : Int) := hpre 4 (by kernel_rfl)
      subst e4
      exact wpOp_run (.int .u32 ((fr : Int) + 1)) rfl (by kernel_rfl) (exec_add1 rfl ⟨by kernel_rfl, by kernel_rfl⟩ hfr w3) ⟨_, by kernel_rfl, rfl, Below.refl _ _⟩
    · have e2 : x2 = .bool false := hpre 2 (by kernel_rfl)
      subst e2
      exact wpOp_run (.slice bo l.length cap) rfl (by kernel_rfl) (exec_move rfl (by kernel_rfl) w3) ⟨_, by kernel_rfl, rfl, Below.refl _ _⟩
    · have e2 : x2 = .bool false := hpre 2 (by kernel_rfl)
      subst e2
      have e6 : x6 = .slice bo l.length cap := hpre 6 (by kernel_rfl)
      subst e6
      exact wpOp_run (.int .i64 (l.length : Int)) rfl (by kernel_rfl) (by kernel_rfl) ⟨_, by kernel_rfl, rfl, Below.refl _ _⟩
    · have e2 : x2 = .bool false := hpre 2 (by kernel_rfl)
      subst e2
      have e3 : x3 = .pointer (some ⟨mb, 0, none⟩) := hpre 3 (by kernel_rfl)
      subst e3
      have e5 : x5 = .int .u32 ((fr : Int) + 1) := hpre 5 (by kernel_rfl)
      subst e5
      have e7 : x7 = .int .i64 (l.length : Int) := hpre 7 (by kernel_rfl)
      subst e7
      refine wpOp_callR (R := fun u w4 => (∃ ao, u = .slice ao l.length l.length ∧ Lies w4 ao l) ∧ Below w3.heap.size w3 w4) 34 #[.pointer (some ⟨mb, 0, none⟩), .int .u32 ((fr : Int) + 1), .int .i64 (l.length : Int)] rfl (by kernel_rfl) (by kernel_rfl) (Hid.out H34 w3 hR) ?_
      rintro u w4 ⟨hu, hb4⟩
      exact ⟨_, by kernel_rfl, hu, hb4⟩
    · have e2 : x2 = .bool false := hpre 2 (by kernel_rfl)
      subst e2
      have f8 : ∃ ao, x8 = .slice ao l.length l.length ∧ Lies w3 ao l := hpre 8 (by kernel_rfl)
      obtain ⟨ao8, e8, hl8⟩ := f8
      subst e8
      exact wpOp_run (.string ⟨l.toArray⟩) rfl (by kernel_rfl) (exec_str (c := l.length) l rfl (by kernel_rfl) w3 hl8) ⟨_, by kernel_rfl, rfl, Below.refl _ _⟩
    · have e2 : x2 = .bool false := hpre 2 (by kernel_rfl)
      subst e2
      exact wpOp_run (.slice bo l.length cap) rfl (by kernel_rfl) (exec_move rfl (by kernel_rfl) w3) ⟨_, by kernel_rfl, rfl, Below.refl _ _⟩
    · have e2 : x2 = .bool false := hpre 2 (by kernel_rfl)
      subst e2
      have e10 : x10 = .slice bo l.length cap := hpre 10 (by kernel_rfl)
      subst e10
      exact wpOp_run (.string ⟨l.toArray⟩) rfl (by kernel_rfl) (exec_str (c := cap) l rfl (by kernel_rfl) w3 hL3) ⟨_, by kernel_rfl, rfl, Below.refl _ _⟩
    · have e2 : x2 = .bool false := hpre 2 (by kernel_rfl)
      subst e2
      have e9 : x9 = .string ⟨l.toArray⟩ := hpre 9 (by kernel_rfl)
      subst e9
      have e11 : x11 = .string ⟨l.toArray⟩ := hpre 11 (by kernel_rfl)
      subst e11
      exact wpOp_run (.bool false) rfl (by kernel_rfl) (exec_neqS ⟨l.toArray⟩ rfl (by kernel_rfl) (by kernel_rfl) w3) ⟨_, by kernel_rfl, rfl, Below.refl _ _⟩
    · have e2 : x2 = .bool false := hpre 2 (by kernel_rfl)
      subst e2
      have e12 : x12 = .bool false := hpre 12 (by kernel_rfl)
      subst e12
      exact wpOp_run (.bool false) rfl (by kernel_rfl) (by kernel_rfl) ⟨_, by kernel_rfl, rfl, Below.refl _ _⟩
    · have e13 : x13 = .bool false := hpre 13 (by kernel_rfl)
      subst e13
      exact wpOp_run (.bool false) rfl (by kernel_rfl) (exec_move rfl (by kernel_rfl) w3) ⟨_, by kernel_rfl, rfl, Below.refl _ _⟩
  · intro xs w3 hxs hR hall
    obtain ⟨x0, x1, x2, x3, x4, x5, x6, x7, x8, x9, x10, x11, x12, x13, x14, rfl⟩ := list15 xs hxs
    have e0 : x0 = .pointer (some ⟨mb, 0, none⟩) := hall 0 (by omega)
    subst e0
    have e1 : x1 = .bool false := hall 1 (by omega)
    subst e1
    have e2 : x2 = .bool false := hall 2 (by omega)
    subst e2
    have e3 : x3 = .pointer (some ⟨mb, 0, none⟩) := hall 3 (by omega)
    subst e3
    have e4 : x4 = .int .u32 (fr : Int) := hall 4 (by omega)
    subst e4
    have e5 : x5 = .int .u32 ((fr : Int) + 1) := hall 5 (by omega)
    subst e5
    have e6 : x6 = .slice bo l.length cap := hall 6 (by omega)
    subst e6
    have e7 : x7 = .int .i64 (l.length : Int) := hall 7 (by omega)
    subst e7
    have e9 : x9 = .string ⟨l.toArray⟩ := hall 9 (by omega)
    subst e9
    have e10 : x10 = .slice bo l.length cap := hall 10 (by omega)
    subst e10
    have e11 : x11 = .string ⟨l.toArray⟩ := hall 11 (by omega)
    subst e11
    have e12 : x12 = .bool false := hall 12 (by omega)
    subst e12
    have e13 : x13 = .bool false := hall 13 (by omega)
    subst e13
    have e14 : x14 = .bool false := hall 14 (by omega)
    subst e14
    have HR5 := hidden hR
    clear hall hR hxs
    simp only [slotsOn, putAll, List.set_cons_succ, List.set_cons_zero, List.drop_succ_cons, List.drop_zero]
    have H17 := hidden (OneM.told ((Hid.out HO).later (Hid.out HR5)))
    go_wp2_with (go_at_call 17; with_reducible refine (Hid.out H17).mono ?_; rintro e w5 ⟨ta, tc, rfl, ho⟩; have HO5 := hidden ho; clear ho)
    go_loopw [7, 8] (fun x7 x8 wr => ∃ (i : Nat), i ≤ l.length ∧ x7 = .int .i64 (i : Int) ∧ OneM w wr s.told mb fr l) (fun x7 x8 _ => l.length - (intOf x7).toNat)
    case atStart => exact ⟨0, by omega, rfl, Hid.out HO5⟩
    case round =>
      obtain ⟨i, hi, rfl, ho⟩ := hrel
      have HOi := hidden ho
      by_cases hi3 : i + 3 < l.length
      · have hi32 : (i : Int) + 3 < (l.length : Int) := by omega
        obtain ⟨db, doff, rfl, hc⟩ : ∃ b off, bo = some ⟨b, off, none⟩ ∧ ∀ j, j < l.length → wr.cell? ⟨b, off + j, none⟩ = some (.int .u8 ((l.getD j 0).toNat : Int)) := by
          rcases (Row.later (Hid.out HL) ho.own.below).lies with h | ⟨b, off, e, h⟩
          · rw [h] at hi3; simp at hi3
          · exact ⟨b, off, e, h⟩
        have c0 := hc i (by omega)
        have c1 := hc (i + 1) (by omega)
        have c2 := hc (i + 2) (by omega)
        have c3 := hc (i + 3) (by omega)
        have H30 : Hid (∀ m, Calls Try.prog 30 #[.pointer (some ⟨mb, 0, none⟩), .int .u32 ((fr : Int) + 1 + (i : Int))] (wr.drewN m) fun e w' => e = .returned (.int .u32 (w4 l i : Int)) ∧ OneM w w' s.told mb fr l) := fun m => OneM.word (ho.later (below_drewN (Below.refl _ _) m)) hfr h4 hi3
        unfold w4 at H30
        have b0 := UInt8.toNat_lt (l.getD i 0)
        have b1 := UInt8.toNat_lt (l.getD (i + 1) 0)
        have b2 := UInt8.toNat_lt (l.getD (i + 2) 0)
        have b3 := UInt8.toNat_lt (l.getD (i + 3) 0)
        generalize (l.getD i 0).toNat = x0 at c0 b0 H30
        generalize (l.getD (i + 1) 0).toNat = x1 at c1 b1 H30
        generalize (l.getD (i + 2) 0).toNat = x2 at c2 b2 H30
        generalize (l.getD (i + 3) 0).toNat = x3 at c3 b3 H30
        have i0 : (i : Int) < (l.length : Int) := by omega
        have i1 : (i : Int) + 1 < (l.length : Int) := by omega
        have i2 : (i : Int) + 2 < (l.length : Int) := by omega
        have j0 : i < l.length := by omega
        clear hc ho
        go_wp2
        go_quiet (fail)
        have hval : ((((x0 * 256 + x1) * 256 + x2) * 256 + x3 : Nat) : Int) = (x0 : Int) * 16777216 + (x1 : Int) * 65536 + (x2 : Int) * 256 + (x3 : Int) := by omega
        rw [hval] at H30
        clear hval
        go_wp2_with (go_at_call 30; with_reducible refine (Hid.out H30 nq).mono ?_; rintro e w6 ⟨rfl, ho⟩; have HO6 := hidden ho; clear ho)
        go_roundw
        case rel => first | exact ⟨i + 1, by omega, by simp, Hid.out HO6⟩ | ((repeat apply Exists.intro); exact ⟨⟨i + 1, by omega, rfl, Hid.out HO6⟩, rfl⟩)
        case measure => simp [intOf]; omega
      · have hi32 : ¬ (i : Int) + 3 < (l.length : Int) := by omega
        have H38 := hidden (OneM.pages ho hfr h4)
        obtain ⟨pn, hpn⟩ : ∃ pn, pn = (fr + l.length) / 256 + 1 := ⟨_, rfl⟩
        have hpz : ((fr : Int) + (l.length : Int)) / 256 + 1 = (pn : Int) := by omega
        rw [← hpn] at H38
        clear hpn
        have H34b : Hid (∀ u, Below wr.heap.size wr u → Calls Try.prog 34 #[.pointer (some ⟨mb, 0, none⟩), .int .u32 0, .int .i64 (-1)] u fun e w' => ∃ ao, e = .returned (.slice ao 0 0) ∧ Below u.heap.size u w') := fun u hu => OneM.empty ((Hid.out HOi).later hu)
        clear ho
        go_wp2_with (first | (go_at_call 38; with_reducible refine (Hid.out H38).mono ?_; rintro e w6 ⟨pa, pc, rfl, hb⟩; have HB6 := hidden hb; clear hb) | (go_at_call 34; with_reducible refine (Hid.out H34b _ (Hid.out HB6)).mono ?_; rintro e w7 ⟨qa, rfl, hb⟩; have HB7 := hidden (Below.trans (Hid.out HB6) (Below.mono hb (Below.size (Hid.out HB6)))); clear hb) | (go_at_call 37; with_reducible refine (awake_any _).mono ?_; rintro e w8 ⟨rfl, hb⟩; have HB8 := hidden (Below.trans (Hid.out HB7) (Below.mono hb (Below.size (Hid.out HB7)))); clear hb))
        go_ret
        have hb0 := (OneM.own (Hid.out HOi)).below
        exact ⟨rfl, hb0.trans ((Hid.out HB8).mono hb0.size)⟩
end Go.Proofs.Ytfbmkgdpejgjpaa
