/- A memory and chapter 5's own, held against each other. -/
import Derived.Test.YtkpcajmphhdmiaaRMAO
import Derived.Test.YtkpcajmphhdmiaaRMAV
import Derived.Test.YtkpcajmphhdmiaaRMAI
import Derived.Laws.BitsAllLaws
import Derived.Laws.ShiftsVarLaws
import Derived.Laws.MathBits
import Derived.RowKit
namespace Go.Proofs.Ytkpcajmphhdmiaa
open Go.ChangeShapes Go.WideShapes Go.ChangeAt Go.RowKit
set_option linter.unusedVariables false
theorem size27 : (Try.prog.info? 23).map (·.size) = some 1 := by kernel_rfl
theorem exec_index35 {ρ : Operand → Value} {o : Oper} {x y : Operand} {b off n cap k : Nat} (hop : o.op = .indexAddr 43 x y) (hx : ρ x = .slice (some ⟨b, off, none⟩) n cap) (hy : ρ y = .int .i64 (k : Int)) (hk : k < n) (w : World) : (execOp ρ o).run Try.prog w = .ok (.value (.pointer (some ⟨b, off + k, none⟩))) w := by
  have hs := size27
  cases hq : Try.prog.info? 23 with
  | none => simp [hq] at hs
  | some i =>
    have hs2 : i.size = 1 := by simpa [hq] using hs
    unfold execOp
    rw [hop]
    simp [hx, hy, Instr.indexAt, run_underlying Try.underlying43, sizeOf, typeInfo, hq, hs2, hk, Addr.add_lit, go_sem]
theorem cut256 : cutLen 256 = 256 := by unfold cutLen; omega
theorem load27 {w : World} {a : Addr} {v : Value} (hc : w.cell? a = some v) : (loadVar 23 a).run Try.prog w = .ok v w := by
  simp [loadVar, isAgg, Sem.run_bind, run_underlying Try.underlying23, hc, go_sem]
/-- What the slots of the region hold, whatever the order. -/
def phiSm (mb mm lb lo nn lc k pg : Nat) (pm : Int) (d : List UInt8) : Nat → Value → World → Prop
  | 0, x, _ => x = .pointer (some ⟨mb, 0, none⟩)
  | 1, x, _ => x = .slice (some ⟨lb, lo, none⟩) nn lc
  | 2, x, _ => x = .int .i64 (k : Int)
  | 3, x, _ => x = .pointer (some ⟨lb, lo + k, none⟩)
  | 4, x, _ => x = .int .u32 (pg : Int)
  | 5, x, _ => x = .int .i64 pm
  | 6, x, _ => x = .pointer (some ⟨mm, 0, none⟩)
  | 7, x, _ => x = .slice (some ⟨lb, lo, none⟩) nn lc
  | 8, x, _ => x = .int .i64 (k : Int)
  | 9, x, _ => x = .pointer (some ⟨lb, lo + k, none⟩)
  | 10, x, _ => x = .int .u32 (pg : Int)
  | 11, x, _ => x = .int .i64 pm
  | 12, x, _ => x = .bool false
  | 13, x, _ => x = .bool false
  | 14, x, _ => x = .pointer (some ⟨mb, 0, none⟩)
  | 15, x, _ => x = .slice (some ⟨lb, lo, none⟩) nn lc
  | 16, x, _ => x = .int .i64 (k : Int)
  | 17, x, _ => x = .pointer (some ⟨lb, lo + k, none⟩)
  | 18, x, _ => x = .int .u32 (pg : Int)
  | 19, x, w => ∃ a c, x = .slice a d.length c ∧ Row w a d c
  | 20, x, _ => x = .string ⟨d.toArray⟩
  | 21, x, _ => x = .pointer (some ⟨mm, 0, none⟩)
  | 22, x, _ => x = .slice (some ⟨lb, lo, none⟩) nn lc
  | 23, x, _ => x = .int .i64 (k : Int)
  | 24, x, _ => x = .pointer (some ⟨lb, lo + k, none⟩)
  | 25, x, _ => x = .int .u32 (pg : Int)
  | 26, x, w => ∃ a c, x = .slice a d.length c ∧ Row w a d c
  | 27, x, _ => x = .string ⟨d.toArray⟩
  | 28, x, _ => x = .bool false
  | 29, x, _ => x = .bool false
  | _ + 30, _, _ => True
theorem phiSm_mono (mb mm lb lo nn lc k pg : Nat) (pm : Int) (d : List UInt8) : ∀ i x w w', phiSm mb mm lb lo nn lc k pg pm d i x w → Below w.heap.size w w' → phiSm mb mm lb lo nn lc k pg pm d i x w'
  | 0, _, _, _, h, _ => h
  | 1, _, _, _, h, _ => h
  | 2, _, _, _, h, _ => h
  | 3, _, _, _, h, _ => h
  | 4, _, _, _, h, _ => h
  | 5, _, _, _, h, _ => h
  | 6, _, _, _, h, _ => h
  | 7, _, _, _, h, _ => h
  | 8, _, _, _, h, _ => h
  | 9, _, _, _, h, _ => h
  | 10, _, _, _, h, _ => h
  | 11, _, _, _, h, _ => h
  | 12, _, _, _, h, _ => h
  | 13, _, _, _, h, _ => h
  | 14, _, _, _, h, _ => h
  | 15, _, _, _, h, _ => h
  | 16, _, _, _, h, _ => h
  | 17, _, _, _, h, _ => h
  | 18, _, _, _, h, _ => h
  | 19, x, w, w', h, hb => by obtain ⟨a, c, e, hr⟩ := h; exact ⟨a, c, e, hr.later hb⟩
  | 20, _, _, _, h, _ => h
  | 21, _, _, _, h, _ => h
  | 22, _, _, _, h, _ => h
  | 23, _, _, _, h, _ => h
  | 24, _, _, _, h, _ => h
  | 25, _, _, _, h, _ => h
  | 26, x, w, w', h, hb => by obtain ⟨a, c, e, hr⟩ := h; exact ⟨a, c, e, hr.later hb⟩
  | 27, _, _, _, h, _ => h
  | 28, _, _, _, h, _ => h
  | 29, _, _, _, h, _ => h
  | _ + 30, _, _, _, _, _ => trivial
theorem listM30 : ∀ xs : List Value, xs.length = 30 → ∃ x0 x1 x2 x3 x4 x5 x6 x7 x8 x9 x10 x11 x12 x13 x14 x15 x16 x17 x18 x19 x20 x21 x22 x23 x24 x25 x26 x27 x28 x29, xs = [x0, x1, x2, x3, x4, x5, x6, x7, x8, x9, x10, x11, x12, x13, x14, x15, x16, x17, x18, x19, x20, x21, x22, x23, x24, x25, x26, x27, x28, x29]
  | [x0, x1, x2, x3, x4, x5, x6, x7, x8, x9, x10, x11, x12, x13, x14, x15, x16, x17, x18, x19, x20, x21, x22, x23, x24, x25, x26, x27, x28, x29], _ => ⟨_, _, _, _, _, _, _, _, _, _, _, _, _, _, _, _, _, _, _, _, _, _, _, _, _, _, _, _, _, _, rfl⟩
set_option maxRecDepth 20000 in
set_option maxHeartbeats 1000000 in
theorem sameMem_any (w : World) (s : MS) (t : S5) (hs : MemW w s) (ht : M5 w t) (hS : Sim s t.l) : Calls Try.prog 19 #[.pointer (some ⟨s.mb, 0, none⟩), .pointer (some ⟨t.m, 0, none⟩)] w fun e w' => e = .returned (.bool true) ∧ Below w.heap.size w w' := by
  obtain ⟨ks, hks⟩ : ∃ ks, ks = t.l.map P5.at_ := ⟨_, rfl⟩
  have hkl : ks.length ≤ 64 := by rw [hks, List.length_map, ← hS.len]; exact Nat.le_trans hs.room hs.great
  have H54 : Hid (Calls Try.prog 46 #[.pointer (some ⟨t.m, 0, none⟩)] w fun e w' => ∃ la lc, e = .returned (.slice la ks.length lc) ∧ Wds w' (.slice la ks.length lc) ks ∧ Below w.heap.size w w') := ht.pagesC.mono fun e w' ⟨v, he, ho, hb⟩ => by
    have hw := wds_of_row ho
    rw [← hks] at hw
    obtain ⟨la, lc, rfl, h2⟩ := hw
    exact ⟨la, lc, he, ⟨la, lc, rfl, h2⟩, hb⟩
  have H38 : Hid (∀ w1, Below w.heap.size w w1 → Calls Try.prog 47 #[.pointer (some ⟨s.mb, 0, none⟩)] w1 fun e w' => ∃ ao cap, e = .returned (.slice ao ks.length cap) ∧ Wds w' (.slice ao ks.length cap) ks ∧ Below w1.heap.size w1 w') := fun w1 hb => (pages_all w1 s (hs.later hb)).mono fun e w' ⟨ao, cap, l, he, hp, hr, hw, hb'⟩ => by
    have e2 := hS.pages hp hr
    rw [← hks] at e2
    subst e2
    exact ⟨ao, cap, he, hw, hb'⟩
  have H16 : Hid (∀ w1 v u, Wds w1 v ks → Wds w1 u ks → Calls Try.prog 20 #[v, u] w1 fun e w' => e = .returned (.bool true) ∧ ∃ n, w' = w1.drewN n) := fun w1 v u h1 h2 => sameWords_any w1 v u ks h1 h2 (by omega)
  have HK : Hid (∀ k, k < ks.length → ks.getD k 0 < 4294967296) := fun k hk => by
    have hk2 : k < t.l.length := by rw [hks, List.length_map] at hk; exact hk
    have e : ks.getD k 0 = (t.l.getD k nop5).at_ := by rw [hks]; simp [List.getD_eq_getElem?_getD, hk2]
    rw [e]
    exact (hs.key _ (hS.here k hk2).1).1
  have HPA : Hid (∀ pg : Nat, pg < 4294967296 → ∀ w1, Below w.heap.size w w1 → Calls Try.prog 37 #[.pointer (some ⟨s.mb, 0, none⟩), .int .u32 (pg : Int)] w1 fun e w' => e = .returned (.int .i64 (s.perm pg)) ∧ Below w1.heap.size w1 w') := fun pg hp w1 hb => (permOf_any w1 s pg (hs.later hb) hp).mono fun e w' ⟨he, n, hn⟩ => ⟨he, by rw [hn]; exact below_drewN (Below.refl _ _) _⟩
  have HPB : Hid (∀ pg : Nat, pg < 4294967296 → ∀ w1, Below w.heap.size w w1 → Calls Try.prog 36 #[.pointer (some ⟨t.m, 0, none⟩), .int .u32 (pg : Int)] w1 fun e w' => e = .returned (.int .i64 (s.perm pg)) ∧ Below w1.heap.size w1 w') := fun pg hp w1 hb => ((ht.later hb).permC pg hp).mono fun e w' ⟨he, hn⟩ => ⟨by rw [← hS.perm]; exact he, by rw [hn]; exact Below.refl _ _⟩
  have HBA : Hid (∀ pg : Nat, pg < 4294967296 → ∀ w1, Below w.heap.size w w1 → Calls Try.prog 48 #[.pointer (some ⟨s.mb, 0, none⟩), .int .u32 (pg : Int), .int .i64 256] w1 fun e w' => ∃ a c, e = .returned (.slice a (s.span pg 256).length c) ∧ Row w' a (s.span pg 256) c ∧ Below w1.heap.size w1 w') := fun pg hp w1 hb => by
    have := mbytes_any w1 s pg 256 (hs.later hb) hp
    rw [cut256] at this
    exact this.mono fun e w' ⟨ao, he, hr, hb'⟩ => ⟨ao, 256, he, hr, hb'⟩
  have HBB : Hid (∀ pg : Nat, pg < 4294967296 → ∀ w1, Below w.heap.size w w1 → Calls Try.prog 49 #[.pointer (some ⟨t.m, 0, none⟩), .int .u32 (pg : Int), .int .i64 256] w1 fun e w' => ∃ a c, e = .returned (.slice a (s.span pg 256).length c) ∧ Row w' a (s.span pg 256) c ∧ Below w1.heap.size w1 w') := fun pg hp w1 hb => ((ht.later hb).bytesC pg 256 hp (by omega)).mono fun e w' ⟨v, he, ho, hb'⟩ => by
    rw [hS.bytes] at ho
    obtain ⟨a, c, rfl, hr⟩ := row_of_own rfl ho
    exact ⟨a, c, he, hr, hb'⟩
  clear hs ht hS hks
  go_enter Try.func19, Try.ntmps19
  go_wp2_with (first | (go_at_call 46; with_reducible refine (Hid.out H54).mono ?_; rintro e w1 ⟨la, lc, rfl, hw1, hb1⟩; have HW1 := hidden hw1; have HB1 := hidden hb1; clear hw1 hb1) | (go_at_call 47; with_reducible refine (Hid.out H38 w1 (Hid.out HB1)).mono ?_; rintro e w2 ⟨ra, rc, rfl, hw2, hb2⟩; have HW2 := hidden hw2; have HW3 := hidden (Wds.later (Hid.out HW1) hb2); have HB2 := hidden (bthen (Hid.out HB1) hb2); have HS := hidden (Hid.out H16 w2 _ _ hw2 (Hid.out HW3)); clear hw2 hb2) | (go_at_call 20; with_reducible refine (Hid.out HS).mono ?_; rintro e w4 ⟨rfl, n4, hn4⟩; have HN4 := hidden hn4; clear hn4))
  have HB4 : Hid (Below w.heap.size w w4) := by rw [Hid.out HN4]; exact below_drewN (Hid.out HB2) n4
  have HW4 : Hid (Wds w4 (.slice la ks.length lc) ks) := by rw [Hid.out HN4]; exact (Hid.out HW3).later (below_drewN (Below.refl _ _) n4)
  clear HN4
  go_loopw [6] (fun x6 wr => ∃ k : Nat, k ≤ ks.length ∧ x6 = .int .i64 (k : Int) ∧ Below w.heap.size w wr ∧ Wds wr (.slice la ks.length lc) ks) (fun x6 _ => ks.length - (intOf x6).toNat)
  case atStart => exact ⟨0, by omega, rfl, Hid.out HB4, Hid.out HW4⟩
  case round =>
    obtain ⟨k, hk, rfl, hbr, hwd⟩ := hrel
    have HBR := hidden hbr
    have HWD := hidden hwd
    by_cases hkn : k < ks.length
    · have hk2 : (k : Int) < (ks.length : Int) := by omega
      obtain ⟨la', lc', e, h2⟩ := hwd
      simp only [Value.slice.injEq, true_and] at e
      obtain ⟨rfl, rfl⟩ := e
      rcases h2 with h2 | ⟨lb, lo, rfl, hlb, hce⟩
      · rw [h2] at hkn; simp at hkn
      obtain ⟨pg, hpg⟩ : ∃ pg, ks.getD k 0 = pg := ⟨_, rfl⟩
      have hpl := Hid.out HK k hkn
      have hck := hce k hkn
      rw [hpg] at hpl hck
      have HCE := hidden hck
      have HLB := hidden hlb
      have HP1 := hidden (Hid.out HPA pg hpl)
      have HP2 := hidden (Hid.out HPB pg hpl)
      have HB1 := hidden (Hid.out HBA pg hpl)
      have HB2 := hidden (Hid.out HBB pg hpl)
      generalize s.perm pg = pm at HP1 HP2
      generalize s.span pg 256 = d at HB1 HB2
      clear hbr hce hck hpg hlb
      go_wp2
      refine wp_region_on later_below [32, 33, 34, 35, 36, 37, 38, 39, 40, 41, 42, 43, 44, 45, 46, 47, 48, 49, 50, 51, 52, 53, 54, 55, 56, 57, 58, 59, 60, 61] 30 (phiSm s.mb t.m lb lo ks.length lc k pg pm d) (by kernel_rfl) (by kernel_rfl) rfl rfl (phiSm_mono s.mb t.m lb lo ks.length lc k pg pm d) ?_ ?_
      · intro j hj xs w3 hxs hR hpre
        obtain ⟨x0, x1, x2, x3, x4, x5, x6, x7, x8, x9, x10, x11, x12, x13, x14, x15, x16, x17, x18, x19, x20, x21, x22, x23, x24, x25, x26, x27, x28, x29, rfl⟩ := listM30 xs hxs
        have hbw3 : Below w.heap.size w w3 := bthen (Hid.out HBR) hR
        have hcell : w3.cell? ⟨lb, lo + k, none⟩ = some (.int .u32 (pg : Int)) := (hR.cell (p := ⟨lb, lo + k, none⟩) (Hid.out HLB)).trans (Hid.out HCE)
        rcases (show j = 0 ∨ j = 1 ∨ j = 2 ∨ j = 3 ∨ j = 4 ∨ j = 5 ∨ j = 6 ∨ j = 7 ∨ j = 8 ∨ j = 9 ∨ j = 10 ∨ j = 11 ∨ j = 12 ∨ j = 13 ∨ j = 14 ∨ j = 15 ∨ j = 16 ∨ j = 17 ∨ j = 18 ∨ j = 19 ∨ j = 20 ∨ j = 21 ∨ j = 22 ∨ j = 23 ∨ j = 24 ∨ j = 25 ∨ j = 26 ∨ j = 27 ∨ j = 28 ∨ j = 29 by omega) with rfl | rfl | rfl | rfl | rfl | rfl | rfl | rfl | rfl | rfl | rfl | rfl | rfl | rfl | rfl | rfl | rfl | rfl | rfl | rfl | rfl | rfl | rfl | rfl | rfl | rfl | rfl | rfl | rfl | rfl
        · exact wpOp_run (.pointer (some ⟨s.mb, 0, none⟩)) rfl (by kernel_rfl) (exec_move rfl (by kernel_rfl) w3) ⟨_, by kernel_rfl, rfl, Below.refl _ _⟩
        · exact wpOp_run (.slice (some ⟨lb, lo, none⟩) ks.length lc) rfl (by kernel_rfl) (exec_move rfl (by kernel_rfl) w3) ⟨_, by kernel_rfl, rfl, Below.refl _ _⟩
        · exact wpOp_run (.int .i64 (k : Int)) rfl (by kernel_rfl) (exec_move rfl (by kernel_rfl) w3) ⟨_, by kernel_rfl, rfl, Below.refl _ _⟩
        · have e1 : x1 = .slice (some ⟨lb, lo, none⟩) ks.length lc := hpre 1 (by kernel_rfl)
          subst e1
          have e2 : x2 = .int .i64 (k : Int) := hpre 2 (by kernel_rfl)
          subst e2
          exact wpOp_run (.pointer (some ⟨lb, lo + k, none⟩)) rfl (by kernel_rfl) (exec_index35 (b := lb) (off := lo) (n := ks.length) (cap := lc) (k := k) rfl (by kernel_rfl) (by kernel_rfl) hkn w3) ⟨_, by kernel_rfl, rfl, Below.refl _ _⟩
        · have e3 : x3 = .pointer (some ⟨lb, lo + k, none⟩) := hpre 3 (by kernel_rfl)
          subst e3
          exact wpOp_run (.int .u32 (pg : Int)) rfl (by kernel_rfl) (exec_load 23 rfl (by kernel_rfl) w3 (load27 hcell)) ⟨_, by kernel_rfl, rfl, Below.refl _ _⟩
        · have e0 : x0 = .pointer (some ⟨s.mb, 0, none⟩) := hpre 0 (by kernel_rfl)
          subst e0
          have e4 : x4 = .int .u32 (pg : Int) := hpre 4 (by kernel_rfl)
          subst e4
          refine wpOp_callR (R := fun u w4 => u = .int .i64 pm ∧ Below w3.heap.size w3 w4) 37 #[.pointer (some ⟨s.mb, 0, none⟩), .int .u32 (pg : Int)] rfl (by kernel_rfl) (by kernel_rfl) ((Hid.out HP1 w3 hbw3).mono fun e w4 ⟨he, hb⟩ => ⟨_, he, rfl, hb⟩) ?_
          rintro _ w4 ⟨rfl, hb⟩
          exact ⟨_, by kernel_rfl, rfl, hb⟩
        · exact wpOp_run (.pointer (some ⟨t.m, 0, none⟩)) rfl (by kernel_rfl) (exec_move rfl (by kernel_rfl) w3) ⟨_, by kernel_rfl, rfl, Below.refl _ _⟩
        · exact wpOp_run (.slice (some ⟨lb, lo, none⟩) ks.length lc) rfl (by kernel_rfl) (exec_move rfl (by kernel_rfl) w3) ⟨_, by kernel_rfl, rfl, Below.refl _ _⟩
        · exact wpOp_run (.int .i64 (k : Int)) rfl (by kernel_rfl) (exec_move rfl (by kernel_rfl) w3) ⟨_, by kernel_rfl, rfl, Below.refl _ _⟩
        · have e7 : x7 = .slice (some ⟨lb, lo, none⟩) ks.length lc := hpre 7 (by kernel_rfl)
          subst e7
          have e8 : x8 = .int .i64 (k : Int) := hpre 8 (by kernel_rfl)
          subst e8
          exact wpOp_run (.pointer (some ⟨lb, lo + k, none⟩)) rfl (by kernel_rfl) (exec_index35 (b := lb) (off := lo) (n := ks.length) (cap := lc) (k := k) rfl (by kernel_rfl) (by kernel_rfl) hkn w3) ⟨_, by kernel_rfl, rfl, Below.refl _ _⟩
        · have e9 : x9 = .pointer (some ⟨lb, lo + k, none⟩) := hpre 9 (by kernel_rfl)
          subst e9
          exact wpOp_run (.int .u32 (pg : Int)) rfl (by kernel_rfl) (exec_load 23 rfl (by kernel_rfl) w3 (load27 hcell)) ⟨_, by kernel_rfl, rfl, Below.refl _ _⟩
        · have e6 : x6 = .pointer (some ⟨t.m, 0, none⟩) := hpre 6 (by kernel_rfl)
          subst e6
          have e10 : x10 = .int .u32 (pg : Int) := hpre 10 (by kernel_rfl)
          subst e10
          refine wpOp_callR (R := fun u w4 => u = .int .i64 pm ∧ Below w3.heap.size w3 w4) 36 #[.pointer (some ⟨t.m, 0, none⟩), .int .u32 (pg : Int)] rfl (by kernel_rfl) (by kernel_rfl) ((Hid.out HP2 w3 hbw3).mono fun e w4 ⟨he, hb⟩ => ⟨_, he, rfl, hb⟩) ?_
          rintro _ w4 ⟨rfl, hb⟩
          exact ⟨_, by kernel_rfl, rfl, hb⟩
        · have e5 : x5 = .int .i64 pm := hpre 5 (by kernel_rfl)
          subst e5
          have e11 : x11 = .int .i64 pm := hpre 11 (by kernel_rfl)
          subst e11
          exact wpOp_run (.bool false) rfl (by kernel_rfl) (exec_neq (n := pm) 3 rfl Try.underlying3 (by kernel_rfl) (by kernel_rfl) w3) ⟨_, by kernel_rfl, rfl, Below.refl _ _⟩
        · have e12 : x12 = .bool false := hpre 12 (by kernel_rfl)
          subst e12
          exact wpOp_run (.bool false) rfl (by kernel_rfl) (exec_move rfl (by kernel_rfl) w3) ⟨_, by kernel_rfl, rfl, Below.refl _ _⟩
        · have e13 : x13 = .bool false := hpre 13 (by kernel_rfl)
          subst e13
          exact wpOp_run (.pointer (some ⟨s.mb, 0, none⟩)) rfl (by kernel_rfl) (exec_move rfl (by kernel_rfl) w3) ⟨_, by kernel_rfl, rfl, Below.refl _ _⟩
        · have e13 : x13 = .bool false := hpre 13 (by kernel_rfl)
          subst e13
          exact wpOp_run (.slice (some ⟨lb, lo, none⟩) ks.length lc) rfl (by kernel_rfl) (exec_move rfl (by kernel_rfl) w3) ⟨_, by kernel_rfl, rfl, Below.refl _ _⟩
        · have e13 : x13 = .bool false := hpre 13 (by kernel_rfl)
          subst e13
          exact wpOp_run (.int .i64 (k : Int)) rfl (by kernel_rfl) (exec_move rfl (by kernel_rfl) w3) ⟨_, by kernel_rfl, rfl, Below.refl _ _⟩
        · have e13 : x13 = .bool false := hpre 13 (by kernel_rfl)
          subst e13
          have e15 : x15 = .slice (some ⟨lb, lo, none⟩) ks.length lc := hpre 15 (by kernel_rfl)
          subst e15
          have e16 : x16 = .int .i64 (k : Int) := hpre 16 (by kernel_rfl)
          subst e16
          exact wpOp_run (.pointer (some ⟨lb, lo + k, none⟩)) rfl (by kernel_rfl) (exec_index35 (b := lb) (off := lo) (n := ks.length) (cap := lc) (k := k) rfl (by kernel_rfl) (by kernel_rfl) hkn w3) ⟨_, by kernel_rfl, rfl, Below.refl _ _⟩
        · have e13 : x13 = .bool false := hpre 13 (by kernel_rfl)
          subst e13
          have e17 : x17 = .pointer (some ⟨lb, lo + k, none⟩) := hpre 17 (by kernel_rfl)
          subst e17
          exact wpOp_run (.int .u32 (pg : Int)) rfl (by kernel_rfl) (exec_load 23 rfl (by kernel_rfl) w3 (load27 hcell)) ⟨_, by kernel_rfl, rfl, Below.refl _ _⟩
        · have e13 : x13 = .bool false := hpre 13 (by kernel_rfl)
          subst e13
          have e14 : x14 = .pointer (some ⟨s.mb, 0, none⟩) := hpre 14 (by kernel_rfl)
          subst e14
          have e18 : x18 = .int .u32 (pg : Int) := hpre 18 (by kernel_rfl)
          subst e18
          refine wpOp_callR (R := fun u w4 => (∃ a c, u = .slice a d.length c ∧ Row w4 a d c) ∧ Below w3.heap.size w3 w4) 48 #[.pointer (some ⟨s.mb, 0, none⟩), .int .u32 (pg : Int), .int .i64 256] rfl (by kernel_rfl) (by kernel_rfl) ((Hid.out HB1 w3 hbw3).mono fun e w4 ⟨a, c, he, hr, hb⟩ => ⟨_, he, ⟨a, c, rfl, hr⟩, hb⟩) ?_
          rintro _ w4 ⟨⟨a, c, rfl, hr⟩, hb⟩
          exact ⟨_, by kernel_rfl, ⟨a, c, rfl, hr⟩, hb⟩
        · have e13 : x13 = .bool false := hpre 13 (by kernel_rfl)
          subst e13
          have f19 : ∃ a c, x19 = .slice a d.length c ∧ Row w3 a d c := hpre 19 (by kernel_rfl)
          obtain ⟨a19, c19, e19, hr19⟩ := f19
          subst e19
          exact wpOp_run (.string ⟨d.toArray⟩) rfl (by kernel_rfl) (exec_str (a := a19) (c := c19) d rfl (by kernel_rfl) w3 hr19.lies) ⟨_, by kernel_rfl, rfl, Below.refl _ _⟩
        · have e13 : x13 = .bool false := hpre 13 (by kernel_rfl)
          subst e13
          exact wpOp_run (.pointer (some ⟨t.m, 0, none⟩)) rfl (by kernel_rfl) (exec_move rfl (by kernel_rfl) w3) ⟨_, by kernel_rfl, rfl, Below.refl _ _⟩
        · have e13 : x13 = .bool false := hpre 13 (by kernel_rfl)
          subst e13
          exact wpOp_run (.slice (some ⟨lb, lo, none⟩) ks.length lc) rfl (by kernel_rfl) (exec_move rfl (by kernel_rfl) w3) ⟨_, by kernel_rfl, rfl, Below.refl _ _⟩
        · have e13 : x13 = .bool false := hpre 13 (by kernel_rfl)
          subst e13
          exact wpOp_run (.int .i64 (k : Int)) rfl (by kernel_rfl) (exec_move rfl (by kernel_rfl) w3) ⟨_, by kernel_rfl, rfl, Below.refl _ _⟩
        · have e13 : x13 = .bool false := hpre 13 (by kernel_rfl)
          subst e13
          have e22 : x22 = .slice (some ⟨lb, lo, none⟩) ks.length lc := hpre 22 (by kernel_rfl)
          subst e22
          have e23 : x23 = .int .i64 (k : Int) := hpre 23 (by kernel_rfl)
          subst e23
          exact wpOp_run (.pointer (some ⟨lb, lo + k, none⟩)) rfl (by kernel_rfl) (exec_index35 (b := lb) (off := lo) (n := ks.length) (cap := lc) (k := k) rfl (by kernel_rfl) (by kernel_rfl) hkn w3) ⟨_, by kernel_rfl, rfl, Below.refl _ _⟩
        · have e13 : x13 = .bool false := hpre 13 (by kernel_rfl)
          subst e13
          have e24 : x24 = .pointer (some ⟨lb, lo + k, none⟩) := hpre 24 (by kernel_rfl)
          subst e24
          exact wpOp_run (.int .u32 (pg : Int)) rfl (by kernel_rfl) (exec_load 23 rfl (by kernel_rfl) w3 (load27 hcell)) ⟨_, by kernel_rfl, rfl, Below.refl _ _⟩
        · have e13 : x13 = .bool false := hpre 13 (by kernel_rfl)
          subst e13
          have e21 : x21 = .pointer (some ⟨t.m, 0, none⟩) := hpre 21 (by kernel_rfl)
          subst e21
          have e25 : x25 = .int .u32 (pg : Int) := hpre 25 (by kernel_rfl)
          subst e25
          refine wpOp_callR (R := fun u w4 => (∃ a c, u = .slice a d.length c ∧ Row w4 a d c) ∧ Below w3.heap.size w3 w4) 49 #[.pointer (some ⟨t.m, 0, none⟩), .int .u32 (pg : Int), .int .i64 256] rfl (by kernel_rfl) (by kernel_rfl) ((Hid.out HB2 w3 hbw3).mono fun e w4 ⟨a, c, he, hr, hb⟩ => ⟨_, he, ⟨a, c, rfl, hr⟩, hb⟩) ?_
          rintro _ w4 ⟨⟨a, c, rfl, hr⟩, hb⟩
          exact ⟨_, by kernel_rfl, ⟨a, c, rfl, hr⟩, hb⟩
        · have e13 : x13 = .bool false := hpre 13 (by kernel_rfl)
          subst e13
          have f26 : ∃ a c, x26 = .slice a d.length c ∧ Row w3 a d c := hpre 26 (by kernel_rfl)
          obtain ⟨a26, c26, e26, hr26⟩ := f26
          subst e26
          exact wpOp_run (.string ⟨d.toArray⟩) rfl (by kernel_rfl) (exec_str (a := a26) (c := c26) d rfl (by kernel_rfl) w3 hr26.lies) ⟨_, by kernel_rfl, rfl, Below.refl _ _⟩
        · have e13 : x13 = .bool false := hpre 13 (by kernel_rfl)
          subst e13
          have e20 : x20 = .string ⟨d.toArray⟩ := hpre 20 (by kernel_rfl)
          subst e20
          have e27 : x27 = .string ⟨d.toArray⟩ := hpre 27 (by kernel_rfl)
          subst e27
          exact wpOp_run (.bool false) rfl (by kernel_rfl) (exec_neqS ⟨d.toArray⟩ rfl (by kernel_rfl) (by kernel_rfl) w3) ⟨_, by kernel_rfl, rfl, Below.refl _ _⟩
        · have e13 : x13 = .bool false := hpre 13 (by kernel_rfl)
          subst e13
          have e28 : x28 = .bool false := hpre 28 (by kernel_rfl)
          subst e28
          exact wpOp_run (.bool false) rfl (by kernel_rfl) (by kernel_rfl) ⟨_, by kernel_rfl, rfl, Below.refl _ _⟩
      · intro xs w3 hxs hR hall
        obtain ⟨x0, x1, x2, x3, x4, x5, x6, x7, x8, x9, x10, x11, x12, x13, x14, x15, x16, x17, x18, x19, x20, x21, x22, x23, x24, x25, x26, x27, x28, x29, rfl⟩ := listM30 xs hxs
        have e29 : x29 = .bool false := hall 29 (by omega)
        subst e29
        have HB6 := hidden (bthen (Hid.out HBR) hR)
        have HW6 := hidden ((Hid.out HWD).later hR)
        clear hall hR hxs
        simp only [slotsOn, putAll, List.set_cons_succ, List.set_cons_zero]
        go_wp2
        go_roundw
        case rel => first | exact ⟨k + 1, by omega, by simp, Hid.out HB6, Hid.out HW6⟩ | ((repeat apply Exists.intro); first | exact ⟨⟨k + 1, by omega, by simp, Hid.out HB6, Hid.out HW6⟩, rfl⟩ | exact ⟨⟨k + 1, by omega, by simp, Hid.out HB6, Hid.out HW6⟩, rfl, rfl⟩)
        case measure => simp [intOf]; omega
    · have hk2 : ¬ (k : Int) < (ks.length : Int) := by omega
      clear hbr hwd
      go_wp2
      go_ret
      exact ⟨rfl, Hid.out HBR⟩
end Go.Proofs.Ytkpcajmphhdmiaa
namespace Go.Proofs.Ytkpcajmphhdmiaa
open Go.ChangeShapes Go.WideShapes Go.ChangeAt Go.RowKit
set_option linter.unusedVariables false
/-- The own memory at mb, made behind w, beside a shadow of it as the code would hold it. -/
structure O5 (w wr : World) (s : MS) (mb : Nat) : Prop where
  mem : ∃ t : S5, M5 wr t ∧ t.m = mb ∧ t.most = 64 ∧ t.ts = [] ∧ Sim s t.l ∧ ∀ b, foot5 t b → w.heap.size ≤ b
  below : Below w.heap.size w wr
  pm : ∀ k ∈ s.ks, 0 ≤ s.pm k ∧ s.pm k < 8
structure MI5 (w wr : World) (s : MS) (mb : Nat) (f : AM) (C : Nat) : Prop where
  own : O5 w wr s mb
  most : s.most = 64
  abs : s.abs = f
  off : ∀ k ∈ s.ks, s.on k = false
structure MW5 (w wr : World) (s : MS) (mb : Nat) (f : AM) : Prop where
  own : O5 w wr s mb
  abs : s.abs = f
def shadow0 : MS := ⟨0, 0, [], fun _ => 0, fun _ => 0, fun _ => [], fun _ => 0, fun _ => false, 64, .bool false, [], 0⟩
theorem MI5.made {w w1 : World} {mb C : Nat} (hmb : w.heap.size = mb) (h : M5 w1 ⟨mb, 64, [], .slice none 0 0, [], .slice none 0 0⟩) (hb : Below mb w w1) : MI5 w w1 shadow0 mb (fun _ => none) C := by
  subst hmb
  refine ⟨⟨⟨_, h, rfl, rfl, rfl, Sim.none _ rfl, ?_⟩, hb, fun k hk => by simp [shadow0] at hk⟩, rfl, ?_, fun k hk => by simp [shadow0] at hk⟩
  · rintro b (h | h | h)
    · rw [h]; exact Nat.le_refl _
    · cases h
    · cases h
  · funext k
    exact abs_out (by simp [shadow0])
theorem O5.step {w wr w' : World} {s s' : MS} {mb m : Nat} {t t' : S5} (h : O5 w wr s mb) (hf : ∀ b, foot5 t b → w.heap.size ≤ b) (st : Step5 (wr.drewN m) t w' t') (e1 : t'.m = mb) (e2 : t'.most = 64) (e3 : t'.ts = []) (hs : Sim s' t'.l) (hp : ∀ k ∈ s'.ks, 0 ≤ s'.pm k ∧ s'.pm k < 8) : O5 w w' s' mb := by
  have hsz := h.below.size
  refine ⟨⟨t', st.mem, e1, e2, e3, hs, fun b hb => ?_⟩, ?_, hp⟩
  · rcases st.grow b hb with h1 | h1
    · exact hf b h1
    · exact Nat.le_trans hsz h1
  · exact (below_drewN h.below m).trans (st.keep.below hsz hf)
theorem mapped_pm {s : MS} (a : Nat) (z : Int) (b : Nat) (h : ∀ k ∈ s.ks, 0 ≤ s.pm k ∧ s.pm k < 8) : ∀ k ∈ (s.mapped a z b).ks, 0 ≤ (s.mapped a z b).pm k ∧ (s.mapped a z b).pm k < 8 := by
  intro k hk
  unfold MS.mapped at hk ⊢
  by_cases hp : pageOf a ∈ s.ks
  · rw [if_pos hp] at hk ⊢
    show 0 ≤ upd s.pm (pageOf a) _ k ∧ upd s.pm (pageOf a) _ k < 8
    unfold upd
    split
    · unfold orP; omega
    · exact h k hk
  · rw [if_neg hp] at hk ⊢
    by_cases hr : s.ks.length < s.most
    · rw [if_pos hr] at hk ⊢
      show 0 ≤ upd s.pm (pageOf a) _ k ∧ upd s.pm (pageOf a) _ k < 8
      unfold upd
      split
      · omega
      · rename_i hne
        have : k ∈ s.ks ++ [pageOf a] := hk
        rcases List.mem_append.1 this with h1 | h1
        · exact h k h1
        · exact absurd (by simpa using h1) hne
    · rw [if_neg hr] at hk ⊢
      exact h k hk
theorem MapB.next {s : MS} {a k L b : Nat} {z : Int} (hm : s.most = 64) (hB : MapB s a k L) (hk : k < 600) (hL : L ≤ 28) : (pageOf (wrapAt a k) ∈ s.ks ∨ s.ks.length < s.most) ∧ MapB (s.mapped (wrapAt a k) z b) a (k + 1) L := by
  obtain ⟨m1, m2, m3, m4⟩ := mapped_ks s (wrapAt a k) z b
  have hroom : pageOf (wrapAt a k) ∈ s.ks ∨ s.ks.length < s.most := by
    right
    rw [hm]
    by_cases h0 : k = 0
    · have := hB.1 h0
      omega
    · have := (hB.2 (by omega)).2
      omega
  refine ⟨hroom, fun h0 => by omega, fun _ => ⟨by simpa using m4 hroom, ?_⟩⟩
  rw [Nat.add_sub_cancel]
  by_cases h0 : k = 0
  · have := hB.1 h0
    omega
  · have hb := hB.2 (by omega)
    by_cases hm : (a % 256 + k) % 256 = 0
    · omega
    · have := page_next a k (by omega) hm
      rw [m3 (by rw [this]; exact hb.1)]
      have h2 := hb.2
      have : (a % 256 + (k - 1)) / 256 ≤ (a % 256 + k) / 256 := Nat.div_le_div_right (by omega)
      omega
theorem MI5.mapCall {w wr : World} {s : MS} {mb C a k L : Nat} {f : AM} {z : Int} (h : MI5 w wr s mb f C) (hB : MapB s a k L) (hk : k < 600) (hL : L ≤ 28) (m : Nat) : Calls Try.prog 31 #[.pointer (some ⟨mb, 0, none⟩), .int .u32 (((a : Int) + (k : Int)) % 4294967296), .int .i64 z] (wr.drewN m) fun e w' =>
    ∃ n, e = .returned (.int .i64 n) ∧ ∃ s', MI5 w w' s' mb (amap f (wrapAt a k) z) C ∧ MapB s' a (k + 1) L := by
  obtain ⟨t, ht, h1, h2, h3, h4, h5⟩ := h.own.mem
  have hn := hB.next (z := z) (b := 0) h.most hk hL
  have hlen : t.l.length < 1000 := by
    rw [← h4.len]
    by_cases h0 : k = 0
    · have := hB.1 h0; omega
    · have := (hB.2 (by omega)).2; omega
  have hc := (ht.drewN m).mapC (wrapAt a k) z (wrapAt_lt _ _) hlen
  rw [h1, show ((wrapAt a k : Nat) : Int) = ((a : Int) + (k : Int)) % 4294967296 by unfold wrapAt; omega] at hc
  refine hc.mono ?_
  rintro e w' ⟨he, t', st, e1, e2, e3, hM⟩
  rw [h2] at hM
  obtain ⟨m1, m2⟩ := h4.map (wrapAt a k) z 0 64 h.most h.own.pm hM
  exact ⟨_, he, s.mapped (wrapAt a k) z 0, ⟨h.own.step h5 st (by first | exact e1.trans h1 | exact e1) (e2.trans h2) (e3.trans h3) m1 (mapped_pm _ _ _ h.own.pm), by rw [mapped_most]; exact h.most, by rw [abs_mapped hn.1, h.abs], mapped_on h.off⟩, hn.2⟩
theorem MI5.pokeCall {w wr : World} {s : MS} {mb C a k : Nat} {f : AM} {v : UInt8} (h : MI5 w wr s mb f C) (hC : C < 1099511627776) (m : Nat) : Calls Try.prog 32 #[.pointer (some ⟨mb, 0, none⟩), .int .u32 (((a : Int) + (k : Int)) % 4294967296), .int .u8 (v.toNat : Int)] (wr.drewN m) fun e w' =>
    ∃ b, e = .returned (.bool b) ∧ ∃ s', MI5 w w' s' mb (apoke f (wrapAt a k) v) (C + 1) ∧ s'.ks = s.ks := by
  obtain ⟨t, ht, h1, h2, h3, h4, h5⟩ := h.own.mem
  have hc := poke5_any (wr.drewN m) t (ht.drewN m) (wrapAt a k) v (wrapAt_lt _ _) (by rw [h3]; simp)
  rw [h1, show ((wrapAt a k : Nat) : Int) = ((a : Int) + (k : Int)) % 4294967296 by unfold wrapAt; omega] at hc
  refine hc.mono ?_
  rintro e w' ⟨he, t', st, e1, e2, e3, e4⟩
  have hts : touch5 t.l t.ts (wrapAt a k) = [] := by
    have hw : watch5 t.l ((wrapAt a k) / 256 * 256) = false := by
      unfold watch5
      by_cases hf : find5 t.l ((wrapAt a k) / 256 * 256) < t.l.length
      · rw [(h4.at hf).2.2, h.off _ ((h4.find _).2 hf), Bool.and_false]
      · simp [hf]
    rw [h3]
    unfold touch5
    unfold watch5 at hw
    simp_all
  have hpm : ∀ k' ∈ (s.pokeAt (wrapAt a k) v s.tv).ks, 0 ≤ (s.pokeAt (wrapAt a k) v s.tv).pm k' ∧ (s.pokeAt (wrapAt a k) v s.tv).pm k' < 8 := by
    rw [pokeAt_ks, pokeAt_pm]
    exact h.own.pm
  exact ⟨_, he, s.pokeAt (wrapAt a k) v s.tv, ⟨h.own.step h5 st (by first | exact e1.trans h1 | exact e1) (e2.trans h2) (e4.trans hts) (by rw [e3]; exact h4.poke _ v _) hpm, by rw [pokeAt_most]; exact h.most, by rw [abs_pokeAt, h.abs], by rw [pokeAt_ks, pokeAt_on]; exact h.off⟩, pokeAt_ks _ _ _ _⟩
theorem MW5.watchCall {w wr : World} {s : MS} {mb a : Nat} {f : AM} {b : Bool} (h : MW5 w wr s mb f) (ha : a < 4294967296) (m : Nat) : Calls Try.prog 33 #[.pointer (some ⟨mb, 0, none⟩), .int .u32 (a : Int), .bool b] (wr.drewN m) fun e w' =>
    e = .returned (.tuple #[]) ∧ ∃ s', MW5 w w' s' mb (awatch f a b) := by
  obtain ⟨t, ht, h1, h2, h3, h4, h5⟩ := h.own.mem
  have hc := (ht.drewN m).watchC a b ha
  rw [h1] at hc
  refine hc.mono ?_
  rintro e w' ⟨he, t', st, e1, e2, e3, e4⟩
  have hpm : ∀ k ∈ (s.watchAt a b).ks, 0 ≤ (s.watchAt a b).pm k ∧ (s.watchAt a b).pm k < 8 := by
    unfold MS.watchAt
    split <;> exact h.own.pm
  exact ⟨he, s.watchAt a b, h.own.step h5 st (by first | exact e1.trans h1 | exact e1) (e2.trans h2) (e3.trans h3) (by rw [e4]; exact h4.watch a b) hpm, by rw [abs_watchAt, h.abs]⟩
set_option maxRecDepth 20000 in
set_option maxHeartbeats 4000000 in
theorem model_any (w : World) (ao : Option Addr) (cap : Nat) (ps : List Part4) (h : Pieces w ao ps) (hlen : ps.length ≤ 8) (hdat : ∀ p ∈ ps, p.data.length ≤ 600) :
    Calls Try.prog 10 #[.slice ao ps.length cap] w fun e w' => ∃ mb, e = .returned (.pointer (some ⟨mb, 0, none⟩)) ∧ ∃ s, O5 w w' s mb ∧ s.abs = memOf ps := by
  have H := hidden h
  have HD := hidden hdat
  obtain ⟨mb, hmb⟩ : ∃ mb, w.heap.size = mb := ⟨_, rfl⟩
  have H9 := hidden (new5_any 64 64 (by decide) w)
  rw [hmb] at H9
  have HMB := hidden hmb
  clear hmb
  clear h hdat
  go_enter Try.func10, Try.ntmps10
  go_wp2_with (go_at_call 26; refine (Hid.out H9).mono ?_; rintro e w1 ⟨rfl, hb, hm⟩; have HO := hidden (MI5.made (C := 0) HMB.out hm hb); clear hm hb H9)
  go_loopw [4, 5, 6] (fun i x5 x6 wr => ∃ (q : Nat) (s : MS), q ≤ ps.length ∧ i = .int .i64 (q : Int) ∧ MI5 w wr s mb (partsDone (ps.take q) fun _ => none) (600 * q) ∧ s.ks.length ≤ 4 * q) (fun i _ _ _ => ps.length - (intOf i).toNat)
  case atStart =>
    exact ⟨0, shadow0, by omega, rfl, HO.out, by simp [shadow0]⟩
  case round =>
    obtain ⟨q, s, hq, rfl, hI, hK⟩ := hrel
    have HI := hidden hI
    clear hI
    by_cases hql : q < ps.length
    · obtain ⟨b, off, hao, hlt, hp⟩ := (Hid.out H).at hql
      have hd6 : ps[q].data.length ≤ 600 := Hid.out HD _ (List.getElem_mem _)
      obtain ⟨f, hf⟩ : ∃ f, f = partsDone (ps.take q) fun _ => none := ⟨_, rfl⟩
      have HNX : Hid (partsDone (ps.take (q + 1)) (fun _ => none) = partDone f ps[q]) := by
        show _ = _
        rw [take_snoc ps q hql, partsDone_snoc, hf]
      rw [← hf] at HI
      clear hf
      subst hao
      have HP := hidden hp
      clear hp
      generalize ps[q] = p at HP HNX hd6
      have hpl := (Hid.out HP).lt
      obtain ⟨N, hN⟩ : ∃ N, N = max p.data.length 1 := ⟨_, rfl⟩
      have hrm := (Hid.out HP).row.max
      simp only [maxLen] at hrm
      have hrl := (Hid.out HP).row.len
      go_wp2
      go_loopw [5] (fun x5 wr2 => ∃ (k : Nat) (s2 : MS), k ≤ N ∧ x5 = .int .i64 (k : Int) ∧ MI5 w wr2 s2 mb (partMaps f p k) (600 * q) ∧ MapB s2 p.at_ k (4 * q)) (fun x5 _ => N - (intOf x5).toNat)
      case atStart => exact ⟨0, s, by omega, rfl, Hid.out HI, fun _ => hK, fun h => by omega⟩
      case round =>
        obtain ⟨k, s2, hk, rfl, hI2, hB2⟩ := hrel
        have hp2 := (Hid.out HP).later hlt hI2.own.below
        have hc0 := hp2.c0
        have hc1 := hp2.c1
        have hc2 := hp2.c2
        have HI2 := hidden hI2
        have HB2 := hidden hB2
        clear hI2 hB2 hp2
        by_cases hkN : k < N
        · have H12 := fun m => hidden (MI5.mapCall (z := p.perm) (Hid.out HI2) (Hid.out HB2) (by omega) (by omega) m)
          rw [show amap (partMaps f p k) (wrapAt p.at_ k) p.perm = partMaps f p (k + 1) from rfl] at H12
          by_cases hkd : k < p.data.length
          · have hkd2 : (k : Int) < (p.data.length : Int) := by omega
            go_wp2
            refine wp_region_tail 14 (by kernel_rfl) (by kernel_rfl) ?_
            simp only [List.take_succ_cons, List.take_zero, List.drop_succ_cons, List.drop_zero]
            repeat (go_big_quiet_step (fail))
            refine wpQuiet_nil ?_
            rintro _ ⟨nq, rfl⟩
            go_wp2_with (go_at_call 31; with_reducible refine (Hid.out (H12 nq)).mono ?_; rintro e w3 ⟨rn, rfl, s3, hi3, hb3⟩; have HI3 := hidden hi3; have HB3 := hidden hb3; clear hi3 hb3)
            go_roundw
            case rel => exact ⟨k + 1, s3, by omega, by simp, Hid.out HI3, Hid.out HB3⟩
            case measure => simp [intOf]; omega
          · have hkd2 : decide ((k : Int) < (p.data.length : Int)) = false := by simp; omega
            obtain rfl : k = 0 := by omega
            have hp0 : ((p.at_ : Int) + ((0 : Nat) : Int)) % 4294967296 = (p.at_ : Int) := by omega
            rw [hp0] at H12
            clear hp0
            go_wp2
            refine wp_region_tail 14 (by kernel_rfl) (by kernel_rfl) ?_
            simp only [List.take_succ_cons, List.take_zero, List.drop_succ_cons, List.drop_zero]
            repeat (go_big_quiet_step (fail))
            refine wpQuiet_nil ?_
            rintro _ ⟨nq, rfl⟩
            go_wp2_with (go_at_call 31; with_reducible refine (Hid.out (H12 nq)).mono ?_; rintro e w3 ⟨rn, rfl, s3, hi3, hb3⟩; have HI3 := hidden hi3; have HB3 := hidden hb3; clear hi3 hb3)
            go_roundw
            case rel => exact ⟨1, s3, by omega, by simp, Hid.out HI3, Hid.out HB3⟩
            case measure => simp [intOf]; omega
        · have hkd2 : decide ((k : Int) < (p.data.length : Int)) = false := by simp; omega
          have hk1 : ¬ (k : Int) < 1 := by omega
          obtain rfl : k = N := by omega
          have HK4 : Hid (s2.ks.length ≤ 4 * (q + 1)) := by
            have := (Hid.out HB2).2 (by omega)
            have h2 := this.2
            have : (p.at_ % 256 + (k - 1)) / 256 ≤ 3 := by omega
            show _ ≤ _
            omega
          clear hc0 hc1 hc2 HB2
          obtain ⟨wq, hwq⟩ : ∃ u, u = wr := ⟨_, rfl⟩
          have hc1 := ((Hid.out HP).later hlt (MI5.own (Hid.out HI2)).below).c1
          go_wp2
          go_loopw [6] (fun x6 wr3 => ∃ (j : Nat) (s3 : MS), j ≤ p.data.length ∧ x6 = .int .i64 (j : Int) ∧ MI5 w wr3 s3 mb (partPokes (partMaps f p k) p j) (600 * q + j) ∧ s3.ks.length ≤ 4 * (q + 1)) (fun x6 _ => p.data.length - (intOf x6).toNat)
          case atStart => exact ⟨0, s2, by omega, rfl, Hid.out HI2, Hid.out HK4⟩
          case round =>
            obtain ⟨j, s3, hj, rfl, hI3, hK3⟩ := hrel
            have hp3 := (Hid.out HP).later hlt hI3.own.below
            have hd0 := hp3.c0
            have hd1 := hp3.c1
            have HI3 := hidden hI3
            have HRW := hidden hp3.row
            clear hI3 hp3
            by_cases hjn : j < p.data.length
            · have hjn2 : (j : Int) < (p.data.length : Int) := by omega
              obtain ⟨db, doff, hda, hdc⟩ := getD_in_row (Hid.out HRW) hjn
              rw [hda] at hd1
              clear hda
              have H21 := fun m => hidden (MI5.pokeCall (a := p.at_) (k := j) (v := p.data.getD j 0) (Hid.out HI3) (by omega) m)
              rw [show apoke (partPokes (partMaps f p k) p j) (wrapAt p.at_ j) (p.data.getD j 0) = partPokes (partMaps f p k) p (j + 1) from rfl] at H21
              generalize p.data.getD j 0 = v at hdc H21
              go_wp2
              refine wp_region_tail 17 (by kernel_rfl) (by kernel_rfl) ?_
              simp only [List.take_succ_cons, List.take_zero, List.drop_succ_cons, List.drop_zero]
              repeat (go_big_quiet_step (fail))
              refine wpQuiet_nil ?_
              rintro _ ⟨nq, rfl⟩
              go_wp2_with (go_at_call 32; with_reducible refine (Hid.out (H21 nq)).mono ?_; rintro e w4 ⟨rb, rfl, s4, hi4, hk4⟩; have HI4 := hidden hi4; have HK4b := hidden hk4; clear hi4 hk4)
              go_roundw
              case rel =>
                have h5 := Hid.out HI4
                rw [show 600 * q + j + 1 = 600 * q + (j + 1) by omega] at h5
                have h6 : s4.ks.length ≤ 4 * (q + 1) := by rw [Hid.out HK4b]; exact hK3
                first | exact ⟨j + 1, s4, by omega, by simp, h5, h6⟩ | ((repeat apply Exists.intro); exact ⟨⟨j + 1, s4, by omega, rfl, h5, h6⟩, rfl⟩)
              case measure => simp [intOf]; omega
            · have hjn2 : ¬ (j : Int) < (p.data.length : Int) := by omega
              obtain rfl : j = p.data.length := by omega
              go_wp2
              go_roundw
              case rel =>
                refine ⟨q + 1, s3, by omega, by simp, ?_, hK3⟩
                rw [Hid.out HNX]
                have h3 := Hid.out HI3
                have e : partDone f p = partPokes (partMaps f p k) p p.data.length := by unfold partDone; rw [← hN]
                rw [e]
                exact ⟨h3.own, h3.most, h3.abs, h3.off⟩
              case measure => simp [intOf]; omega
    · have hql2 : ¬ (q : Int) < (ps.length : Int) := by omega
      obtain rfl : q = ps.length := by omega
      rw [List.take_of_length_le (Nat.le_refl _)] at HI
      have HMW : Hid (MW5 w wr s mb (partsDone ps fun _ => none)) := by
        have h3 := Hid.out HI
        exact ⟨h3.own, h3.abs⟩
      clear HI
      go_wp2
      go_loopw [7] (fun x7 wr4 => ∃ (j : Nat) (s4 : MS), j ≤ ps.length ∧ x7 = .int .i64 (j : Int) ∧ MW5 w wr4 s4 mb (watches (ps.take j) (partsDone ps fun _ => none))) (fun x7 _ => ps.length - (intOf x7).toNat)
      case atStart => exact ⟨0, s, by omega, rfl, Hid.out HMW⟩
      case round =>
        obtain ⟨j, s4, hj, rfl, hI4⟩ := hrel
        have HI4 := hidden hI4
        clear hI4
        by_cases hjn : j < ps.length
        · have hjn2 : (j : Int) < (ps.length : Int) := by omega
          obtain ⟨b, off, hao, hlt, hp⟩ := (Hid.out H).at hjn
          have hp4 := hp.later hlt (MW5.own (Hid.out HI4)).below
          have hc0 := hp4.c0
          have hc3 := hp4.c3
          have H14 := fun m => hidden (MW5.watchCall (b := ps[j].on) (Hid.out HI4) hp.lt m)
          have HNX : Hid (awatch (watches (ps.take j) (partsDone ps fun _ => none)) ps[j].at_ ps[j].on = watches (ps.take (j + 1)) (partsDone ps fun _ => none)) := by
            show _ = _
            rw [take_snoc ps j hjn, watches_snoc]
          rw [Hid.out HNX] at H14
          clear hp hp4 HNX
          subst hao
          generalize ps[j].at_ = pa at hc0 H14
          generalize ps[j].on = po at hc3 H14
          go_wp2
          refine wp_region_tail 11 (by kernel_rfl) (by kernel_rfl) ?_
          simp only [List.take_succ_cons, List.take_zero, List.drop_succ_cons, List.drop_zero]
          repeat (go_big_quiet_step (fail))
          refine wpQuiet_nil ?_
          rintro _ ⟨nq, rfl⟩
          go_wp2_with (go_at_call 33; with_reducible refine (Hid.out (H14 nq)).mono ?_; rintro e w5 ⟨rfl, s5, hi5⟩; have HI5 := hidden hi5; clear hi5)
          go_roundw
          case rel => exact ⟨j + 1, s5, by omega, by simp, Hid.out HI5⟩
          case measure => simp [intOf]; omega
        · have hjn2 : ¬ (j : Int) < (ps.length : Int) := by omega
          obtain rfl : j = ps.length := by omega
          go_wp2
          go_ret
          have h4 := Hid.out HI4
          rw [List.take_of_length_le (Nat.le_refl _)] at h4
          exact ⟨mb, rfl, s4, h4.own, h4.abs⟩
/-- Two memories of the same plain pages are the same. -/
theorem nodup_len : ∀ (l m : List Nat), l.Nodup → m.Nodup → (∀ x, x ∈ l ↔ x ∈ m) → l.length = m.length := fun l m h1 h2 h => (List.perm_ext_iff_of_nodup h1 h2).2 h |>.length_eq
theorem rise_nodup {l : List P5} (h : ∀ i j, i < j → j < l.length → (l.getD i nop5).at_ < (l.getD j nop5).at_) : (l.map P5.at_).Nodup := by
  refine List.pairwise_iff_getElem.2 fun i j hi hj hij => ?_
  rw [List.length_map] at hi hj
  have := h i j hij hj
  rw [List.getD_eq_getElem?_getD, List.getD_eq_getElem?_getD, List.getElem?_eq_getElem hj, List.getElem?_eq_getElem hi] at this
  simp at this
  rw [List.getElem_map, List.getElem_map]
  omega
theorem Sim.abs {s s' : MS} {l : List P5} (h : Sim s l) (he : s'.abs = s.abs) (hn : s'.ks.Nodup) : Sim s' l := by
  have hk : ∀ k, k ∈ s'.ks ↔ k ∈ s.ks := fun k => by rw [mem_abs, mem_abs, he]
  have hf : ∀ k, k ∈ s.ks → s'.data k = s.data k ∧ s'.pm k = s.pm k ∧ s'.on k = s.on k := fun k hm => by
    have h1 := abs_in hm
    have h2 := abs_in ((hk k).2 hm)
    rw [he, h1] at h2
    have h3 := Option.some.inj h2
    injection h3 with h4 h5
    injection h5 with h6 h7
    exact ⟨h4.symm, h6.symm, h7.symm⟩
  refine ⟨h.rise, fun j hj => ?_, fun k hm => h.back k ((hk k).1 hm), ?_⟩
  · obtain ⟨h1, h2, h3, h4⟩ := h.here j hj
    obtain ⟨f1, f2, f3⟩ := hf _ h1
    exact ⟨(hk _).2 h1, h2.trans f1.symm, h3.trans f2.symm, h4.trans f3.symm⟩
  · have h1 := nodup_len s'.ks (l.map P5.at_) hn (rise_nodup h.rise) (fun x => by
      rw [hk, List.mem_map]
      constructor
      · intro hx
        have hb := h.back x hx
        refine ⟨l.getD (find5 l x) nop5, ?_, find5_at hb⟩
        rw [List.getD_eq_getElem?_getD, List.getElem?_eq_getElem hb]
        exact List.getElem_mem _
      · rintro ⟨p, hp, rfl⟩
        obtain ⟨j, hj, rfl⟩ := List.getElem_of_mem hp
        have := (h.here j hj).1
        rw [List.getD_eq_getElem?_getD, List.getElem?_eq_getElem hj] at this
        exact this)
    rw [h1, List.length_map]
end Go.Proofs.Ytkpcajmphhdmiaa
namespace Go.Proofs.Ytkpcajmphhdmiaa
open Go.RowKit

def sg (v : Int) : Int := if v < 2147483648 then v else v - 4294967296
def top (a : Int) : Bool := decide (2147483648 ≤ a)
def add32 (a b : Int) : Int := (a + b) % 4294967296
def sub32 (a b : Int) : Int := (a - b) % 4294967296
def addOv (a b : Int) : Bool := (top a != top (add32 a b)) && (top b != top (add32 a b))
def subOv (a b : Int) : Bool := (top a != top b) && (top a != top (sub32 a b))
def shl32 (v n : Int) : Int := v * 2 ^ (n % 32).toNat % 4294967296
def shr32 (v n : Int) : Int := v / 2 ^ (n % 32).toNat
def sar32 (v n : Int) : Int := sg v / 2 ^ (n % 32).toNat % 4294967296
def clip (v lo hi : Int) : Int := if v < lo then lo else if hi < v then hi else v
def sext32 (v n : Int) : Int := sg (v * 2 ^ (32 - clip n 1 32).toNat % 4294967296) / 2 ^ (32 - clip n 1 32).toNat % 4294967296
def field32 (v a n : Int) : Int := v / 2 ^ (clip a 0 31).toNat % 2 ^ (clip n 0 (32 - clip a 0 31)).toNat

def sgs (s : Bool) (v : Int) : Int := match s with
  | true => sg v
  | false => v
theorem sgsT (v : Int) : sgs true v = sg v := rfl
theorem sgsF (v : Int) : sgs false v = v := rfl
theorem sg_range {v : Int} (h0 : 0 ≤ v) (h1 : v < 4294967296) : -2147483648 ≤ sg v ∧ sg v < 2147483648 := by
  unfold sg; split <;> omega
theorem wrap32_sg {v : Int} (h0 : 0 ≤ v) (h1 : v < 4294967296) : wrap32 v = sg v := by
  unfold wrap32 sg; split <;> omega
theorem add32_range (a b : Int) : 0 ≤ add32 a b ∧ add32 a b < 4294967296 := by unfold add32; omega
theorem sub32_range (a b : Int) : 0 ≤ sub32 a b ∧ sub32 a b < 4294967296 := by unfold sub32; omega
theorem shl32_range (a b : Int) : 0 ≤ shl32 a b ∧ shl32 a b < 4294967296 := by unfold shl32; omega
theorem sar32_range (a b : Int) : 0 ≤ sar32 a b ∧ sar32 a b < 4294967296 := by unfold sar32; omega
theorem sext32_range (a b : Int) : 0 ≤ sext32 a b ∧ sext32 a b < 4294967296 := by unfold sext32; omega
theorem div_pow_range {v : Int} (k : Nat) (h0 : 0 ≤ v) (h1 : v < 4294967296) : 0 ≤ v / 2 ^ k ∧ v / 2 ^ k < 4294967296 := by
  have hp : (0 : Int) < 2 ^ k := Int.pow_pos (by omega)
  exact ⟨Int.ediv_nonneg h0 (Int.le_of_lt hp), Int.lt_of_le_of_lt (Int.ediv_le_self _ h0) h1⟩
theorem shr32_range {a : Int} (b : Int) (h0 : 0 ≤ a) (h1 : a < 4294967296) : 0 ≤ shr32 a b ∧ shr32 a b < 4294967296 := div_pow_range _ h0 h1
theorem and31 (n : Int) (h0 : 0 ≤ n) (h1 : n < 4294967296) : bits .and .u32 n 31 = n % 32 := by
  rw [u32_and n 31 h0 h1 (by omega) (by omega)]
  obtain ⟨m, rfl⟩ := Int.eq_ofNat_of_zero_le h0
  have := Nat.and_two_pow_sub_one_eq_mod m 5
  simp at this
  simp [this]
/-- The highest bit, by the mask. -/
theorem mask31 (n : Nat) (h : n < 4294967296) : (n &&& 2147483648 = 0) ↔ n < 2147483648 := by
  have e := and_two_pow_eq_zero (n : Int) 31 (by omega)
  have e2 : ((2 : Int) ^ 31).toNat = 2147483648 := by decide
  have e3 : ((2 : Int) ^ 31) = 2147483648 := by decide
  rw [e2, e3, Int.toNat_natCast] at e
  rw [e]
  omega
theorem top_xor (a b : Nat) (ha : a < 4294967296) (hb : b < 4294967296) : decide (2147483648 ≤ a ^^^ b) = (decide (2147483648 ≤ a) != decide (2147483648 ≤ b)) := by
  have tb : ∀ n : Nat, n < 4294967296 → n.testBit 31 = decide (2147483648 ≤ n) := by
    intro n hn
    rw [Nat.testBit_eq_decide_div_mod_eq]
    congr 1
    apply propext
    constructor <;> intro h <;> omega
  have hx : a ^^^ b < 2 ^ 32 := Nat.xor_lt_two_pow (by omega) (by omega)
  rw [← tb _ (by omega), ← tb a ha, ← tb b hb, Nat.testBit_xor]
theorem top_and (a b : Nat) (ha : a < 4294967296) (hb : b < 4294967296) : decide (2147483648 ≤ a &&& b) = (decide (2147483648 ≤ a) && decide (2147483648 ≤ b)) := by
  have tb : ∀ n : Nat, n < 4294967296 → n.testBit 31 = decide (2147483648 ≤ n) := by
    intro n hn
    rw [Nat.testBit_eq_decide_div_mod_eq]
    congr 1
    apply propext
    constructor <;> intro h <;> omega
  have hx : a &&& b < 2 ^ 32 := Nat.and_lt_two_pow _ (by omega)
  rw [← tb _ (by omega), ← tb a ha, ← tb b hb, Nat.testBit_and]
theorem top_nat (n : Nat) : top (n : Int) = decide (2147483648 ≤ n) := by unfold top; congr 1; apply propext; constructor <;> intro h <;> omega
theorem u32_xor_range (a b : Int) (h1 : 0 ≤ a) (h2 : a < 4294967296) (h3 : 0 ≤ b) (h4 : b < 4294967296) : 0 ≤ bits .xor .u32 a b ∧ bits .xor .u32 a b < 4294967296 := by
  rw [u32_xor a b h1 h2 h3 h4]
  have hx : a.toNat ^^^ b.toNat < 2 ^ 32 := Nat.xor_lt_two_pow (by omega) (by omega)
  omega
theorem u32_and_range (a b : Int) (h1 : 0 ≤ a) (h2 : a < 4294967296) (h3 : 0 ≤ b) (h4 : b < 4294967296) : 0 ≤ bits .and .u32 a b ∧ bits .and .u32 a b < 4294967296 := by
  rw [u32_and a b h1 h2 h3 h4]
  have hx : a.toNat &&& b.toNat < 2 ^ 32 := Nat.and_lt_two_pow _ (by omega)
  omega
theorem top_toNat (a : Int) (h1 : 0 ≤ a) : decide (2147483648 ≤ a.toNat) = top a := by
  obtain ⟨m, rfl⟩ := Int.eq_ofNat_of_zero_le h1
  rw [top_nat]; simp
theorem top_bxor (a b : Int) (h1 : 0 ≤ a) (h2 : a < 4294967296) (h3 : 0 ≤ b) (h4 : b < 4294967296) : top (bits .xor .u32 a b) = (top a != top b) := by
  rw [u32_xor a b h1 h2 h3 h4, top_nat, top_xor _ _ (by omega) (by omega), top_toNat a h1, top_toNat b h3]
theorem top_band (a b : Int) (h1 : 0 ≤ a) (h2 : a < 4294967296) (h3 : 0 ≤ b) (h4 : b < 4294967296) : top (bits .and .u32 a b) = (top a && top b) := by
  rw [u32_and a b h1 h2 h3 h4, top_nat, top_and _ _ (by omega) (by omega), top_toNat a h1, top_toNat b h3]
theorem mask_top (a : Int) (h1 : 0 ≤ a) (h2 : a < 4294967296) : (bits .and .u32 a 2147483648 != 0) = top a := by
  rw [u32_and a _ h1 h2 (by omega) (by omega)]
  obtain ⟨m, rfl⟩ := Int.eq_ofNat_of_zero_le h1
  have h := mask31 m (by omega)
  rw [top_nat]
  by_cases hm : m < 2147483648
  · have : ¬ 2147483648 ≤ m := by omega
    have e := h.2 hm
    simp [this, e]
  · have : 2147483648 ≤ m := by omega
    have e : ¬ (m &&& 2147483648 = 0) := fun x => hm (h.1 x)
    simp [this, e]
theorem addOver_eq (a b : Int) (h1 : 0 ≤ a) (h2 : a < 4294967296) (h3 : 0 ≤ b) (h4 : b < 4294967296) :
    (bits .and .u32 (bits .and .u32 (bits .xor .u32 a ((a + b) % 4294967296)) (bits .xor .u32 b ((a + b) % 4294967296))) 2147483648 != 0) = addOv a b := by
  have hs := add32_range a b
  have hx := u32_xor_range a (add32 a b) h1 h2 hs.1 hs.2
  have hy := u32_xor_range b (add32 a b) h3 h4 hs.1 hs.2
  have hz := u32_and_range _ _ hx.1 hx.2 hy.1 hy.2
  show (bits .and .u32 (bits .and .u32 (bits .xor .u32 a (add32 a b)) (bits .xor .u32 b (add32 a b))) 2147483648 != 0) = _
  rw [mask_top _ hz.1 hz.2, top_band _ _ hx.1 hx.2 hy.1 hy.2, top_bxor _ _ h1 h2 hs.1 hs.2, top_bxor _ _ h3 h4 hs.1 hs.2]
  rfl
theorem subOver_eq (a b : Int) (h1 : 0 ≤ a) (h2 : a < 4294967296) (h3 : 0 ≤ b) (h4 : b < 4294967296) :
    (bits .and .u32 (bits .and .u32 (bits .xor .u32 a b) (bits .xor .u32 a ((a - b) % 4294967296))) 2147483648 != 0) = subOv a b := by
  have hs := sub32_range a b
  have hx := u32_xor_range a b h1 h2 h3 h4
  have hy := u32_xor_range a (sub32 a b) h1 h2 hs.1 hs.2
  have hz := u32_and_range _ _ hx.1 hx.2 hy.1 hy.2
  show (bits .and .u32 (bits .and .u32 (bits .xor .u32 a b) (bits .xor .u32 a (sub32 a b))) 2147483648 != 0) = _
  rw [mask_top _ hz.1 hz.2, top_band _ _ hx.1 hx.2 hy.1 hy.2, top_bxor _ _ h1 h2 h3 h4, top_bxor _ _ h1 h2 hs.1 hs.2]
  rfl

def mulHi (a b : Int) : Int := IntKind.u64.wrap (a * b) / 4294967296 % 4294967296
def mulLo (a b : Int) : Int := IntKind.u64.wrap (a * b) % 4294967296
theorem wrap64_sg {v : Int} (h0 : 0 ≤ v) (h1 : v < 4294967296) : wrap64 (sg v) = sg v := by
  have := sg_range h0 h1
  unfold wrap64; omega
theorem prod_range (x y : Int) (hx : -2147483648 ≤ x ∧ x < 2147483648) (hy : -2147483648 ≤ y ∧ y < 2147483648) : -4611686018427387904 ≤ x * y ∧ x * y ≤ 4611686018427387904 := by
  have a1 : x.natAbs ≤ 2147483648 := by omega
  have a2 : y.natAbs ≤ 2147483648 := by omega
  have h := Nat.mul_le_mul a1 a2
  rw [← Int.natAbs_mul] at h
  generalize x * y = p at h
  omega
theorem wrap64_sgmul {a b : Int} (h1 : 0 ≤ a) (h2 : a < 4294967296) (h3 : 0 ≤ b) (h4 : b < 4294967296) : wrap64 (sg a * sg b) = sg a * sg b := by
  have h := prod_range _ _ (sg_range h1 h2) (sg_range h3 h4)
  generalize sg a * sg b = p at h
  unfold wrap64; omega

def quoT (a b : Int) : Int := wrap32 ((sg a).tdiv (sg b)) % 4294967296
def remT (a b : Int) : Int := (sg a).tmod (sg b) % 4294967296
theorem tmod_range (v n : Int) (h : 0 < n) : -n < v.tmod n ∧ v.tmod n < n := by
  refine ⟨Int.lt_tmod_of_pos v h, Int.tmod_lt_of_pos v h⟩
theorem place_nonneg (v n : Int) (h : 0 < n) (hm : 0 ≤ v.tmod n) : v.tmod n = v % n := by
  have e := Int.mul_tdiv_add_tmod v n
  have r := tmod_range v n h
  have : v % n = (v.tmod n) % n := by
    conv => lhs; rw [← e]
    rw [Int.mul_add_emod_self_left]
  rw [this, Int.emod_eq_of_lt hm r.2]
theorem place_neg (v n : Int) (h : 0 < n) (hm : v.tmod n < 0) : v.tmod n + n = v % n := by
  have e := Int.mul_tdiv_add_tmod v n
  have r := tmod_range v n h
  have : v % n = (v.tmod n + n) % n := by
    conv => lhs; rw [← e]
    rw [Int.mul_add_emod_self_left, Int.add_emod_right]
  rw [this, Int.emod_eq_of_lt (by omega) (by omega)]
theorem clip_range (v lo hi : Int) (h : lo ≤ hi) : lo ≤ clip v lo hi ∧ clip v lo hi ≤ hi := by unfold clip; split <;> (try split) <;> omega
theorem pow_cast (k : Nat) : ((2 ^ k : Nat) : Int) = 2 ^ k := by simp
theorem pow_le32 {k : Nat} (h : k ≤ 32) : (1 : Int) ≤ 2 ^ k ∧ (2 : Int) ^ k ≤ 4294967296 := by
  have a := Nat.pow_le_pow_right (n := 2) (by omega) h
  have b := Nat.two_pow_pos k
  rw [← pow_cast]
  simp only [Nat.reducePow] at a
  omega
theorem field_eq (a at_ n : Int) (h1 : 0 ≤ a) (h2 : a < 4294967296) :
    bits .and .u32 (a / 2 ^ (clip at_ 0 31).toNat) ((2 ^ (clip n 0 (32 - clip at_ 0 31)).toNat - 1) % 4294967296) = field32 a at_ n := by
  have hc := clip_range at_ 0 31 (by omega)
  have hd := clip_range n 0 (32 - clip at_ 0 31) (by omega)
  unfold field32
  generalize clip n 0 (32 - clip at_ 0 31) = m at *
  have hx := div_pow_range (clip at_ 0 31).toNat h1 h2
  generalize a / 2 ^ (clip at_ 0 31).toNat = x at *
  obtain ⟨k, rfl⟩ := Int.eq_ofNat_of_zero_le hd.1
  obtain ⟨y, rfl⟩ := Int.eq_ofNat_of_zero_le hx.1
  rw [Int.toNat_natCast]
  have hk : k ≤ 32 := by omega
  have hp := pow_le32 hk
  have e : ((2 : Int) ^ k - 1) % 4294967296 = ((2 ^ k - 1 : Nat) : Int) := by
    rw [Int.emod_eq_of_lt (by omega) (by omega), ← pow_cast]
    have := Nat.two_pow_pos k
    omega
  have hp' : 2 ^ k - 1 < 4294967296 := by
    have := pow_cast k
    omega
  rw [e, u32_and_nat y (2 ^ k - 1) (by omega) hp', Nat.and_two_pow_sub_one_eq_mod, ← pow_cast]
  simp

theorem wrap64_small (n : Int) (h : 0 ≤ n ∧ n ≤ 4294967296) : wrap64 n = n := by unfold wrap64; omega
theorem len_shift (a : Int) (k : Nat) (h0 : 0 ≤ a) (h : a / 2 ^ k ≠ 0) : bitLen a.toNat = k + bitLen (a / 2 ^ k).toNat := by
  obtain ⟨n, rfl⟩ := Int.eq_ofNat_of_zero_le h0
  rw [← pow_cast, ← Int.natCast_ediv] at h ⊢
  rw [Int.toNat_natCast, Int.toNat_natCast]
  exact bitLen_shift n k (by omega)
def zeros32 (a : Int) : Int := 32 - bitLen a.toNat
theorem bitLen_le32 (a : Int) (h1 : 0 ≤ a) (h2 : a < 4294967296) : bitLen a.toNat ≤ 32 := by
  unfold bitLen
  split
  · omega
  · rename_i h0
    have := (Nat.log2_lt h0).2 (show a.toNat < 2 ^ 32 by omega)
    omega
theorem zeros32_range (a : Int) (h1 : 0 ≤ a) (h2 : a < 4294967296) : 0 ≤ zeros32 a ∧ zeros32 a ≤ 32 := by
  have := bitLen_le32 a h1 h2
  unfold zeros32; omega

theorem max_u32 : IntKind.u32.max = 4294967295 := by decide
theorem not32 (a : Int) (h1 : 0 ≤ a) (h2 : a < 4294967296) : bits .xor .u32 IntKind.u32.max a = 4294967295 - a := by
  rw [max_u32, u32_xor _ a (by omega) (by omega) h1 h2]
  obtain ⟨n, rfl⟩ := Int.eq_ofNat_of_zero_le h1
  have e : BitVec.allOnes 32 ^^^ BitVec.ofNat 32 n = ~~~ BitVec.ofNat 32 n := BitVec.allOnes_xor
  have e2 := congrArg BitVec.toNat e
  rw [BitVec.toNat_xor, BitVec.toNat_not, BitVec.toNat_allOnes, BitVec.toNat_ofNat, Nat.mod_eq_of_lt (by omega)] at e2
  simp only [Int.toNat_natCast]
  have e3 : (4294967295 : Int).toNat = 2 ^ 32 - 1 := by decide
  rw [e3, e2]
  omega
end Go.Proofs.Ytkpcajmphhdmiaa
