/- A memory and chapter 5's own, held against each other. -/
import Derived.Test.YtfbmkgdpejgjpaaPMCopy
import Derived.Test.YtfbmkgdpejgjpaaPPagesAll
namespace Go.Proofs.Ytfbmkgdpejgjpaa
open Go.ChangeShapes Go.WideShapes Go.ChangeAt Go.RowKit
set_option linter.unusedVariables false
theorem size27 : (Try.prog.info? 27).map (·.size) = some 1 := by kernel_rfl
theorem exec_index35 {ρ : Operand → Value} {o : Oper} {x y : Operand} {b off n cap k : Nat} (hop : o.op = .indexAddr 35 x y) (hx : ρ x = .slice (some ⟨b, off, none⟩) n cap) (hy : ρ y = .int .i64 (k : Int)) (hk : k < n) (w : World) : (execOp ρ o).run Try.prog w = .ok (.value (.pointer (some ⟨b, off + k, none⟩))) w := by
  have hs := size27
  cases hq : Try.prog.info? 27 with
  | none => simp [hq] at hs
  | some i =>
    have hs2 : i.size = 1 := by simpa [hq] using hs
    unfold execOp
    rw [hop]
    simp [hx, hy, Instr.indexAt, run_underlying Try.underlying35, sizeOf, typeInfo, hq, hs2, hk, Addr.add_lit, go_sem]
theorem cut256 : cutLen 256 = 256 := by unfold cutLen; omega
theorem load27 {w : World} {a : Addr} {v : Value} (hc : w.cell? a = some v) : (loadVar 27 a).run Try.prog w = .ok v w := by
  simp [loadVar, isAgg, Sem.run_bind, run_underlying Try.underlying27, hc, go_sem]
/-- What the slots of the region hold, whatever the order. -/
def phiSm (mb mm lb lo nn lc k pg : Nat) (pm : Int) (d : List UInt8) : Nat → Value → World → Prop
  | 0, x, _ => x = .pointer (some ⟨mb, 0, none⟩)
  | 1, x, _ => x = .slice (some ⟨lb, lo, none⟩) nn lc
  | 2, x, _ => x = .int .i64 (k : Int)
  | 3, x, _ => x = .pointer (some ⟨lb, lo + k, none⟩)
  | 4, x, _ => x = .int .u32 (pg : Int)
  | 5, x, _ => x = .int .i64 pm
  | 6, x, _ => x = .pointer (some ⟨mm, 0, none⟩)
  | 7, x, _ => x = .slice (some ⟨lb, lo, none⟩) nn lc
  | 8, x, _ => x = .int .i64 (k : Int)
  | 9, x, _ => x = .pointer (some ⟨lb, lo + k, none⟩)
  | 10, x, _ => x = .int .u32 (pg : Int)
  | 11, x, _ => x = .int .i64 pm
  | 12, x, _ => x = .bool false
  | 13, x, _ => x = .bool false
  | 14, x, _ => x = .pointer (some ⟨mb, 0, none⟩)
  | 15, x, _ => x = .slice (some ⟨lb, lo, none⟩) nn lc
  | 16, x, _ => x = .int .i64 (k : Int)
  | 17, x, _ => x = .pointer (some ⟨lb, lo + k, none⟩)
  | 18, x, _ => x = .int .u32 (pg : Int)
  | 19, x, w => ∃ a c, x = .slice a d.length c ∧ Row w a d c
  | 20, x, _ => x = .string ⟨d.toArray⟩
  | 21, x, _ => x = .pointer (some ⟨mm, 0, none⟩)
  | 22, x, _ => x = .slice (some ⟨lb, lo, none⟩) nn lc
  | 23, x, _ => x = .int .i64 (k : Int)
  | 24, x, _ => x = .pointer (some ⟨lb, lo + k, none⟩)
  | 25, x, _ => x = .int .u32 (pg : Int)
  | 26, x, w => ∃ a c, x = .slice a d.length c ∧ Row w a d c
  | 27, x, _ => x = .string ⟨d.toArray⟩
  | 28, x, _ => x = .bool false
  | 29, x, _ => x = .bool false
  | _ + 30, _, _ => True
theorem phiSm_mono (mb mm lb lo nn lc k pg : Nat) (pm : Int) (d : List UInt8) : ∀ i x w w', phiSm mb mm lb lo nn lc k pg pm d i x w → Below w.heap.size w w' → phiSm mb mm lb lo nn lc k pg pm d i x w'
  | 0, _, _, _, h, _ => h
  | 1, _, _, _, h, _ => h
  | 2, _, _, _, h, _ => h
  | 3, _, _, _, h, _ => h
  | 4, _, _, _, h, _ => h
  | 5, _, _, _, h, _ => h
  | 6, _, _, _, h, _ => h
  | 7, _, _, _, h, _ => h
  | 8, _, _, _, h, _ => h
  | 9, _, _, _, h, _ => h
  | 10, _, _, _, h, _ => h
  | 11, _, _, _, h, _ => h
  | 12, _, _, _, h, _ => h
  | 13, _, _, _, h, _ => h
  | 14, _, _, _, h, _ => h
  | 15, _, _, _, h, _ => h
  | 16, _, _, _, h, _ => h
  | 17, _, _, _, h, _ => h
  | 18, _, _, _, h, _ => h
  | 19, x, w, w', h, hb => by obtain ⟨a, c, e, hr⟩ := h; exact ⟨a, c, e, hr.later hb⟩
  | 20, _, _, _, h, _ => h
  | 21, _, _, _, h, _ => h
  | 22, _, _, _, h, _ => h
  | 23, _, _, _, h, _ => h
  | 24, _, _, _, h, _ => h
  | 25, _, _, _, h, _ => h
  | 26, x, w, w', h, hb => by obtain ⟨a, c, e, hr⟩ := h; exact ⟨a, c, e, hr.later hb⟩
  | 27, _, _, _, h, _ => h
  | 28, _, _, _, h, _ => h
  | 29, _, _, _, h, _ => h
  | _ + 30, _, _, _, _, _ => trivial
theorem listM30 : ∀ xs : List Value, xs.length = 30 → ∃ x0 x1 x2 x3 x4 x5 x6 x7 x8 x9 x10 x11 x12 x13 x14 x15 x16 x17 x18 x19 x20 x21 x22 x23 x24 x25 x26 x27 x28 x29, xs = [x0, x1, x2, x3, x4, x5, x6, x7, x8, x9, x10, x11, x12, x13, x14, x15, x16, x17, x18, x19, x20, x21, x22, x23, x24, x25, x26, x27, x28, x29]
  | [x0, x1, x2, x3, x4, x5, x6, x7, x8, x9, x10, x11, x12, x13, x14, x15, x16, x17, x18, x19, x20, x21, x22, x23, x24, x25, x26, x27, x28, x29], _ => ⟨_, _, _, _, _, _, _, _, _, _, _, _, _, _, _, _, _, _, _, _, _, _, _, _, _, _, _, _, _, _, rfl⟩
set_option maxRecDepth 20000 in
set_option maxHeartbeats 1000000 in
theorem sameMem_any (w : World) (s : MS) (t : S5) (hs : MemW w s) (ht : M5 w t) (hS : Sim s t.l) : Calls Try.prog 36 #[.pointer (some ⟨s.mb, 0, none⟩), .pointer (some ⟨t.m, 0, none⟩)] w fun e w' => e = .returned (.bool true) ∧ Below w.heap.size w w' := by
  obtain ⟨ks, hks⟩ : ∃ ks, ks = t.l.map P5.at_ := ⟨_, rfl⟩
  have hkl : ks.length ≤ 64 := by rw [hks, List.length_map, ← hS.len]; exact Nat.le_trans hs.room hs.great
  have H54 : Hid (Calls Try.prog 54 #[.pointer (some ⟨t.m, 0, none⟩)] w fun e w' => ∃ la lc, e = .returned (.slice la ks.length lc) ∧ Wds w' (.slice la ks.length lc) ks ∧ Below w.heap.size w w') := ht.pagesC.mono fun e w' ⟨v, he, ho, hb⟩ => by
    have hw := wds_of_row ho
    rw [← hks] at hw
    obtain ⟨la, lc, rfl, h2⟩ := hw
    exact ⟨la, lc, he, ⟨la, lc, rfl, h2⟩, hb⟩
  have H38 : Hid (∀ w1, Below w.heap.size w w1 → Calls Try.prog 38 #[.pointer (some ⟨s.mb, 0, none⟩)] w1 fun e w' => ∃ ao cap, e = .returned (.slice ao ks.length cap) ∧ Wds w' (.slice ao ks.length cap) ks ∧ Below w1.heap.size w1 w') := fun w1 hb => (pages_all w1 s (hs.later hb)).mono fun e w' ⟨ao, cap, l, he, hp, hr, hw, hb'⟩ => by
    have e2 := hS.pages hp hr
    rw [← hks] at e2
    subst e2
    exact ⟨ao, cap, he, hw, hb'⟩
  have H16 : Hid (∀ w1 v u, Wds w1 v ks → Wds w1 u ks → Calls Try.prog 16 #[v, u] w1 fun e w' => e = .returned (.bool true) ∧ ∃ n, w' = w1.drewN n) := fun w1 v u h1 h2 => sameWords_any w1 v u ks h1 h2 (by omega)
  have HK : Hid (∀ k, k < ks.length → ks.getD k 0 < 4294967296) := fun k hk => by
    have hk2 : k < t.l.length := by rw [hks, List.length_map] at hk; exact hk
    have e : ks.getD k 0 = (t.l.getD k nop5).at_ := by rw [hks]; simp [List.getD_eq_getElem?_getD, hk2]
    rw [e]
    exact (hs.key _ (hS.here k hk2).1).1
  have HPA : Hid (∀ pg : Nat, pg < 4294967296 → ∀ w1, Below w.heap.size w w1 → Calls Try.prog 26 #[.pointer (some ⟨s.mb, 0, none⟩), .int .u32 (pg : Int)] w1 fun e w' => e = .returned (.int .i64 (s.perm pg)) ∧ Below w1.heap.size w1 w') := fun pg hp w1 hb => (permOf_any w1 s pg (hs.later hb) hp).mono fun e w' ⟨he, n, hn⟩ => ⟨he, by rw [hn]; exact below_drewN (Below.refl _ _) _⟩
  have HPB : Hid (∀ pg : Nat, pg < 4294967296 → ∀ w1, Below w.heap.size w w1 → Calls Try.prog 27 #[.pointer (some ⟨t.m, 0, none⟩), .int .u32 (pg : Int)] w1 fun e w' => e = .returned (.int .i64 (s.perm pg)) ∧ Below w1.heap.size w1 w') := fun pg hp w1 hb => ((ht.later hb).permC pg hp).mono fun e w' ⟨he, hn⟩ => ⟨by rw [← hS.perm]; exact he, by rw [hn]; exact Below.refl _ _⟩
  have HBA : Hid (∀ pg : Nat, pg < 4294967296 → ∀ w1, Below w.heap.size w w1 → Calls Try.prog 34 #[.pointer (some ⟨s.mb, 0, none⟩), .int .u32 (pg : Int), .int .i64 256] w1 fun e w' => ∃ a c, e = .returned (.slice a (s.span pg 256).length c) ∧ Row w' a (s.span pg 256) c ∧ Below w1.heap.size w1 w') := fun pg hp w1 hb => by
    have := mbytes_any w1 s pg 256 (hs.later hb) hp
    rw [cut256] at this
    exact this.mono fun e w' ⟨ao, he, hr, hb'⟩ => ⟨ao, 256, he, hr, hb'⟩
  have HBB : Hid (∀ pg : Nat, pg < 4294967296 → ∀ w1, Below w.heap.size w w1 → Calls Try.prog 35 #[.pointer (some ⟨t.m, 0, none⟩), .int .u32 (pg : Int), .int .i64 256] w1 fun e w' => ∃ a c, e = .returned (.slice a (s.span pg 256).length c) ∧ Row w' a (s.span pg 256) c ∧ Below w1.heap.size w1 w') := fun pg hp w1 hb => ((ht.later hb).bytesC pg 256 hp (by omega)).mono fun e w' ⟨v, he, ho, hb'⟩ => by
    rw [hS.bytes] at ho
    obtain ⟨a, c, rfl, hr⟩ := row_of_own rfl ho
    exact ⟨a, c, he, hr, hb'⟩
  clear hs ht hS hks
  go_enter Try.func36, Try.ntmps36
  go_wp2_with (first | (go_at_call 54; with_reducible refine (Hid.out H54).mono ?_; rintro e w1 ⟨la, lc, rfl, hw1, hb1⟩; have HW1 := hidden hw1; have HB1 := hidden hb1; clear hw1 hb1) | (go_at_call 38; with_reducible refine (Hid.out H38 w1 (Hid.out HB1)).mono ?_; rintro e w2 ⟨ra, rc, rfl, hw2, hb2⟩; have HW2 := hidden hw2; have HW3 := hidden (Wds.later (Hid.out HW1) hb2); have HB2 := hidden (bthen (Hid.out HB1) hb2); have HS := hidden (Hid.out H16 w2 _ _ hw2 (Hid.out HW3)); clear hw2 hb2) | (go_at_call 16; with_reducible refine (Hid.out HS).mono ?_; rintro e w4 ⟨rfl, n4, hn4⟩; have HN4 := hidden hn4; clear hn4))
  have HB4 : Hid (Below w.heap.size w w4) := by rw [Hid.out HN4]; exact below_drewN (Hid.out HB2) n4
  have HW4 : Hid (Wds w4 (.slice la ks.length lc) ks) := by rw [Hid.out HN4]; exact (Hid.out HW3).later (below_drewN (Below.refl _ _) n4)
  clear HN4
  go_loopw [6] (fun x6 wr => ∃ k : Nat, k ≤ ks.length ∧ x6 = .int .i64 (k : Int) ∧ Below w.heap.size w wr ∧ Wds wr (.slice la ks.length lc) ks) (fun x6 _ => ks.length - (intOf x6).toNat)
  case atStart => exact ⟨0, by omega, rfl, Hid.out HB4, Hid.out HW4⟩
  case round =>
    obtain ⟨k, hk, rfl, hbr, hwd⟩ := hrel
    have HBR := hidden hbr
    have HWD := hidden hwd
    by_cases hkn : k < ks.length
    · have hk2 : (k : Int) < (ks.length : Int) := by omega
      obtain ⟨la', lc', e, h2⟩ := hwd
      simp only [Value.slice.injEq, true_and] at e
      obtain ⟨rfl, rfl⟩ := e
      rcases h2 with h2 | ⟨lb, lo, rfl, hlb, hce⟩
      · rw [h2] at hkn; simp at hkn
      obtain ⟨pg, hpg⟩ : ∃ pg, ks.getD k 0 = pg := ⟨_, rfl⟩
      have hpl := Hid.out HK k hkn
      have hck := hce k hkn
      rw [hpg] at hpl hck
      have HCE := hidden hck
      have HLB := hidden hlb
      have HP1 := hidden (Hid.out HPA pg hpl)
      have HP2 := hidden (Hid.out HPB pg hpl)
      have HB1 := hidden (Hid.out HBA pg hpl)
      have HB2 := hidden (Hid.out HBB pg hpl)
      generalize s.perm pg = pm at HP1 HP2
      generalize s.span pg 256 = d at HB1 HB2
      clear hbr hce hck hpg hlb
      go_wp2
      refine wp_region_on later_below [32, 33, 34, 35, 36, 37, 38, 39, 40, 41, 42, 43, 44, 45, 46, 47, 48, 49, 50, 51, 52, 53, 54, 55, 56, 57, 58, 59, 60, 61] 30 (phiSm s.mb t.m lb lo ks.length lc k pg pm d) (by kernel_rfl) (by kernel_rfl) rfl rfl (phiSm_mono s.mb t.m lb lo ks.length lc k pg pm d) ?_ ?_
      · intro j hj xs w3 hxs hR hpre
        obtain ⟨x0, x1, x2, x3, x4, x5, x6, x7, x8, x9, x10, x11, x12, x13, x14, x15, x16, x17, x18, x19, x20, x21, x22, x23, x24, x25, x26, x27, x28, x29, rfl⟩ := listM30 xs hxs
        have hbw3 : Below w.heap.size w w3 := bthen (Hid.out HBR) hR
        have hcell : w3.cell? ⟨lb, lo + k, none⟩ = some (.int .u32 (pg : Int)) := (hR.cell (p := ⟨lb, lo + k, none⟩) (Hid.out HLB)).trans (Hid.out HCE)
        rcases (show j = 0 ∨ j = 1 ∨ j = 2 ∨ j = 3 ∨ j = 4 ∨ j = 5 ∨ j = 6 ∨ j = 7 ∨ j = 8 ∨ j = 9 ∨ j = 10 ∨ j = 11 ∨ j = 12 ∨ j = 13 ∨ j = 14 ∨ j = 15 ∨ j = 16 ∨ j = 17 ∨ j = 18 ∨ j = 19 ∨ j = 20 ∨ j = 21 ∨ j = 22 ∨ j = 23 ∨ j = 24 ∨ j = 25 ∨ j = 26 ∨ j = 27 ∨ j = 28 ∨ j = 29 by omega) with rfl | rfl | rfl | rfl | rfl | rfl | rfl | rfl | rfl | rfl | rfl | rfl | rfl | rfl | rfl | rfl | rfl | rfl | rfl | rfl | rfl | rfl | rfl | rfl | rfl | rfl | rfl | rfl | rfl | rfl
        · exact wpOp_run (.pointer (some ⟨s.mb, 0, none⟩)) rfl (by kernel_rfl) (exec_move rfl (by kernel_rfl) w3) ⟨_, by kernel_rfl, rfl, Below.refl _ _⟩
        · exact wpOp_run (.slice (some ⟨lb, lo, none⟩) ks.length lc) rfl (by kernel_rfl) (exec_move rfl (by kernel_rfl) w3) ⟨_, by kernel_rfl, rfl, Below.refl _ _⟩
        · exact wpOp_run (.int .i64 (k : Int)) rfl (by kernel_rfl) (exec_move rfl (by kernel_rfl) w3) ⟨_, by kernel_rfl, rfl, Below.refl _ _⟩
        · have e1 : x1 = .slice (some ⟨lb, lo, none⟩) ks.length lc := hpre 1 (by kernel_rfl)
          subst e1
          have e2 : x2 = .int .i64 (k : Int) := hpre 2 (by kernel_rfl)
          subst e2
          exact wpOp_run (.pointer (some ⟨lb, lo + k, none⟩)) rfl (by kernel_rfl) (exec_index35 (b := lb) (off := lo) (n := ks.length) (cap := lc) (k := k) rfl (by kernel_rfl) (by kernel_rfl) hkn w3) ⟨_, by kernel_rfl, rfl, Below.refl _ _⟩
        · have e3 : x3 = .pointer (some ⟨lb, lo + k, none⟩) := hpre 3 (by kernel_rfl)
          subst e3
          exact wpOp_run (.int .u32 (pg : Int)) rfl (by kernel_rfl) (exec_load 27 rfl (by kernel_rfl) w3 (load27 hcell)) ⟨_, by kernel_rfl, rfl, Below.refl _ _⟩
        · have e0 : x0 = .pointer (some ⟨s.mb, 0, none⟩) := hpre 0 (by kernel_rfl)
          subst e0
          have e4 : x4 = .int .u32 (pg : Int) := hpre 4 (by kernel_rfl)
          subst e4
          refine wpOp_callR (R := fun u w4 => u = .int .i64 pm ∧ Below w3.heap.size w3 w4) 26 #[.pointer (some ⟨s.mb, 0, none⟩), .int .u32 (pg : Int)] rfl (by kernel_rfl) (by kernel_rfl) ((Hid.out HP1 w3 hbw3).mono fun e w4 ⟨he, hb⟩ => ⟨_, he, rfl, hb⟩) ?_
          rintro _ w4 ⟨rfl, hb⟩
          exact ⟨_, by kernel_rfl, rfl, hb⟩
        · exact wpOp_run (.pointer (some ⟨t.m, 0, none⟩)) rfl (by kernel_rfl) (exec_move rfl (by kernel_rfl) w3) ⟨_, by kernel_rfl, rfl, Below.refl _ _⟩
        · exact wpOp_run (.slice (some ⟨lb, lo, none⟩) ks.length lc) rfl (by kernel_rfl) (exec_move rfl (by kernel_rfl) w3) ⟨_, by kernel_rfl, rfl, Below.refl _ _⟩
        · exact wpOp_run (.int .i64 (k : Int)) rfl (by kernel_rfl) (exec_move rfl (by kernel_rfl) w3) ⟨_, by kernel_rfl, rfl, Below.refl _ _⟩
        · have e7 : x7 = .slice (some ⟨lb, lo, none⟩) ks.length lc := hpre 7 (by kernel_rfl)
          subst e7
          have e8 : x8 = .int .i64 (k : Int) := hpre 8 (by kernel_rfl)
          subst e8
          exact wpOp_run (.pointer (some ⟨lb, lo + k, none⟩)) rfl (by kernel_rfl) (exec_index35 (b := lb) (off := lo) (n := ks.length) (cap := lc) (k := k) rfl (by kernel_rfl) (by kernel_rfl) hkn w3) ⟨_, by kernel_rfl, rfl, Below.refl _ _⟩
        · have e9 : x9 = .pointer (some ⟨lb, lo + k, none⟩) := hpre 9 (by kernel_rfl)
          subst e9
          exact wpOp_run (.int .u32 (pg : Int)) rfl (by kernel_rfl) (exec_load 27 rfl (by kernel_rfl) w3 (load27 hcell)) ⟨_, by kernel_rfl, rfl, Below.refl _ _⟩
        · have e6 : x6 = .pointer (some ⟨t.m, 0, none⟩) := hpre 6 (by kernel_rfl)
          subst e6
          have e10 : x10 = .int .u32 (pg : Int) := hpre 10 (by kernel_rfl)
          subst e10
          refine wpOp_callR (R := fun u w4 => u = .int .i64 pm ∧ Below w3.heap.size w3 w4) 27 #[.pointer (some ⟨t.m, 0, none⟩), .int .u32 (pg : Int)] rfl (by kernel_rfl) (by kernel_rfl) ((Hid.out HP2 w3 hbw3).mono fun e w4 ⟨he, hb⟩ => ⟨_, he, rfl, hb⟩) ?_
          rintro _ w4 ⟨rfl, hb⟩
          exact ⟨_, by kernel_rfl, rfl, hb⟩
        · have e5 : x5 = .int .i64 pm := hpre 5 (by kernel_rfl)
          subst e5
          have e11 : x11 = .int .i64 pm := hpre 11 (by kernel_rfl)
          subst e11
          exact wpOp_run (.bool false) rfl (by kernel_rfl) (exec_neq (n := pm) 3 rfl Try.underlying3 (by kernel_rfl) (by kernel_rfl) w3) ⟨_, by kernel_rfl, rfl, Below.refl _ _⟩
        · have e12 : x12 = .bool false := hpre 12 (by kernel_rfl)
          subst e12
          exact wpOp_run (.bool false) rfl (by kernel_rfl) (exec_move rfl (by kernel_rfl) w3) ⟨_, by kernel_rfl, rfl, Below.refl _ _⟩
        · have e13 : x13 = .bool false := hpre 13 (by kernel_rfl)
          subst e13
          exact wpOp_run (.pointer (some ⟨s.mb, 0, none⟩)) rfl (by kernel_rfl) (exec_move rfl (by kernel_rfl) w3) ⟨_, by kernel_rfl, rfl, Below.refl _ _⟩
        · have e13 : x13 = .bool false := hpre 13 (by kernel_rfl)
          subst e13
          exact wpOp_run (.slice (some ⟨lb, lo, none⟩) ks.length lc) rfl (by kernel_rfl) (exec_move rfl (by kernel_rfl) w3) ⟨_, by kernel_rfl, rfl, Below.refl _ _⟩
        · have e13 : x13 = .bool false := hpre 13 (by kernel_rfl)
          subst e13
          exact wpOp_run (.int .i64 (k : Int)) rfl (by kernel_rfl) (exec_move rfl (by kernel_rfl) w3) ⟨_, by kernel_rfl, rfl, Below.refl _ _⟩
        · have e13 : x13 = .bool false := hpre 13 (by kernel_rfl)
          subst e13
          have e15 : x15 = .slice (some ⟨lb, lo, none⟩) ks.length lc := hpre 15 (by kernel_rfl)
          subst e15
          have e16 : x16 = .int .i64 (k : Int) := hpre 16 (by kernel_rfl)
          subst e16
          exact wpOp_run (.pointer (some ⟨lb, lo + k, none⟩)) rfl (by kernel_rfl) (exec_index35 (b := lb) (off := lo) (n := ks.length) (cap := lc) (k := k) rfl (by kernel_rfl) (by kernel_rfl) hkn w3) ⟨_, by kernel_rfl, rfl, Below.refl _ _⟩
        · have e13 : x13 = .bool false := hpre 13 (by kernel_rfl)
          subst e13
          have e17 : x17 = .pointer (some ⟨lb, lo + k, none⟩) := hpre 17 (by kernel_rfl)
          subst e17
          exact wpOp_run (.int .u32 (pg : Int)) rfl (by kernel_rfl) (exec_load 27 rfl (by kernel_rfl) w3 (load27 hcell)) ⟨_, by kernel_rfl, rfl, Below.refl _ _⟩
        · have e13 : x13 = .bool false := hpre 13 (by kernel_rfl)
          subst e13
          have e14 : x14 = .pointer (some ⟨s.mb, 0, none⟩) := hpre 14 (by kernel_rfl)
          subst e14
          have e18 : x18 = .int .u32 (pg : Int) := hpre 18 (by kernel_rfl)
          subst e18
          refine wpOp_callR (R := fun u w4 => (∃ a c, u = .slice a d.length c ∧ Row w4 a d c) ∧ Below w3.heap.size w3 w4) 34 #[.pointer (some ⟨s.mb, 0, none⟩), .int .u32 (pg : Int), .int .i64 256] rfl (by kernel_rfl) (by kernel_rfl) ((Hid.out HB1 w3 hbw3).mono fun e w4 ⟨a, c, he, hr, hb⟩ => ⟨_, he, ⟨a, c, rfl, hr⟩, hb⟩) ?_
          rintro _ w4 ⟨⟨a, c, rfl, hr⟩, hb⟩
          exact ⟨_, by kernel_rfl, ⟨a, c, rfl, hr⟩, hb⟩
        · have e13 : x13 = .bool false := hpre 13 (by kernel_rfl)
          subst e13
          have f19 : ∃ a c, x19 = .slice a d.length c ∧ Row w3 a d c := hpre 19 (by kernel_rfl)
          obtain ⟨a19, c19, e19, hr19⟩ := f19
          subst e19
          exact wpOp_run (.string ⟨d.toArray⟩) rfl (by kernel_rfl) (exec_str (a := a19) (c := c19) d rfl (by kernel_rfl) w3 hr19.lies) ⟨_, by kernel_rfl, rfl, Below.refl _ _⟩
        · have e13 : x13 = .bool false := hpre 13 (by kernel_rfl)
          subst e13
          exact wpOp_run (.pointer (some ⟨t.m, 0, none⟩)) rfl (by kernel_rfl) (exec_move rfl (by kernel_rfl) w3) ⟨_, by kernel_rfl, rfl, Below.refl _ _⟩
        · have e13 : x13 = .bool false := hpre 13 (by kernel_rfl)
          subst e13
          exact wpOp_run (.slice (some ⟨lb, lo, none⟩) ks.length lc) rfl (by kernel_rfl) (exec_move rfl (by kernel_rfl) w3) ⟨_, by kernel_rfl, rfl, Below.refl _ _⟩
        · have e13 : x13 = .bool false := hpre 13 (by kernel_rfl)
          subst e13
          exact wpOp_run (.int .i64 (k : Int)) rfl (by kernel_rfl) (exec_move rfl (by kernel_rfl) w3) ⟨_, by kernel_rfl, rfl, Below.refl _ _⟩
        · have e13 : x13 = .bool false := hpre 13 (by kernel_rfl)
          subst e13
          have e22 : x22 = .slice (some ⟨lb, lo, none⟩) ks.length lc := hpre 22 (by kernel_rfl)
          subst e22
          have e23 : x23 = .int .i64 (k : Int) := hpre 23 (by kernel_rfl)
          subst e23
          exact wpOp_run (.pointer (some ⟨lb, lo + k, none⟩)) rfl (by kernel_rfl) (exec_index35 (b := lb) (off := lo) (n := ks.length) (cap := lc) (k := k) rfl (by kernel_rfl) (by kernel_rfl) hkn w3) ⟨_, by kernel_rfl, rfl, Below.refl _ _⟩
        · have e13 : x13 = .bool false := hpre 13 (by kernel_rfl)
          subst e13
          have e24 : x24 = .pointer (some ⟨lb, lo + k, none⟩) := hpre 24 (by kernel_rfl)
          subst e24
          exact wpOp_run (.int .u32 (pg : Int)) rfl (by kernel_rfl) (exec_load 27 rfl (by kernel_rfl) w3 (load27 hcell)) ⟨_, by kernel_rfl, rfl, Below.refl _ _⟩
        · have e13 : x13 = .bool false := hpre 13 (by kernel_rfl)
          subst e13
          have e21 : x21 = .pointer (some ⟨t.m, 0, none⟩) := hpre 21 (by kernel_rfl)
          subst e21
          have e25 : x25 = .int .u32 (pg : Int) := hpre 25 (by kernel_rfl)
          subst e25
          refine wpOp_callR (R := fun u w4 => (∃ a c, u = .slice a d.length c ∧ Row w4 a d c) ∧ Below w3.heap.size w3 w4) 35 #[.pointer (some ⟨t.m, 0, none⟩), .int .u32 (pg : Int), .int .i64 256] rfl (by kernel_rfl) (by kernel_rfl) ((Hid.out HB2 w3 hbw3).mono fun e w4 ⟨a, c, he, hr, hb⟩ => ⟨_, he, ⟨a, c, rfl, hr⟩, hb⟩) ?_
          rintro _ w4 ⟨⟨a, c, rfl, hr⟩, hb⟩
          exact ⟨_, by kernel_rfl, ⟨a, c, rfl, hr⟩, hb⟩
        · have e13 : x13 = .bool false := hpre 13 (by kernel_rfl)
          subst e13
          have f26 : ∃ a c, x26 = .slice a d.length c ∧ Row w3 a d c := hpre 26 (by kernel_rfl)
          obtain ⟨a26, c26, e26, hr26⟩ := f26
          subst e26
          exact wpOp_run (.string ⟨d.toArray⟩) rfl (by kernel_rfl) (exec_str (a := a26) (c := c26) d rfl (by kernel_rfl) w3 hr26.lies) ⟨_, by kernel_rfl, rfl, Below.refl _ _⟩
        · have e13 : x13 = .bool false := hpre 13 (by kernel_rfl)
          subst e13
          have e20 : x20 = .string ⟨d.toArray⟩ := hpre 20 (by kernel_rfl)
          subst e20
          have e27 : x27 = .string ⟨d.toArray⟩ := hpre 27 (by kernel_rfl)
          subst e27
          exact wpOp_run (.bool false) rfl (by kernel_rfl) (exec_neqS ⟨d.toArray⟩ rfl (by kernel_rfl) (by kernel_rfl) w3) ⟨_, by kernel_rfl, rfl, Below.refl _ _⟩
        · have e13 : x13 = .bool false := hpre 13 (by kernel_rfl)
          subst e13
          have e28 : x28 = .bool false := hpre 28 (by kernel_rfl)
          subst e28
          exact wpOp_run (.bool false) rfl (by kernel_rfl) (by kernel_rfl) ⟨_, by kernel_rfl, rfl, Below.refl _ _⟩
      · intro xs w3 hxs hR hall
        obtain ⟨x0, x1, x2, x3, x4, x5, x6, x7, x8, x9, x10, x11, x12, x13, x14, x15, x16, x17, x18, x19, x20, x21, x22, x23, x24, x25, x26, x27, x28, x29, rfl⟩ := listM30 xs hxs
        have e29 : x29 = .bool false := hall 29 (by omega)
        subst e29
        have HB6 := hidden (bthen (Hid.out HBR) hR)
        have HW6 := hidden ((Hid.out HWD).later hR)
        clear hall hR hxs
        simp only [slotsOn, putAll, List.set_cons_succ, List.set_cons_zero]
        go_wp2
        go_roundw
        case rel => first | exact ⟨k + 1, by omega, by simp, Hid.out HB6, Hid.out HW6⟩ | ((repeat apply Exists.intro); first | exact ⟨⟨k + 1, by omega, by simp, Hid.out HB6, Hid.out HW6⟩, rfl⟩ | exact ⟨⟨k + 1, by omega, by simp, Hid.out HB6, Hid.out HW6⟩, rfl, rfl⟩)
        case measure => simp [intOf]; omega
    · have hk2 : ¬ (k : Int) < (ks.length : Int) := by omega
      clear hbr hwd
      go_wp2
      go_ret
      exact ⟨rfl, Hid.out HBR⟩
end Go.Proofs.Ytfbmkgdpejgjpaa
