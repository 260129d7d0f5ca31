/- A page's copy, walked. -/
import Derived.Test.YtfbmkgdpejgjpaaPMA
import Derived.Outline
namespace Go.Proofs.Ytfbmkgdpejgjpaa
open Go.ChangeShapes Go.WideShapes Go.ChangeAt Go.RowKit
set_option linter.unusedVariables false
/-- What the store into the copy's counter leaves. -/
structure R2 (c : Nat) (l : List UInt8) (p n : Int) (w w' : World) : Prop where
  only : Only c w w'
  any : (∃ m, Pg 93 w c l p m) → ∃ m, Pg 93 w' c l p m
  fin : Pg 93 w c l p n → Pg 93 w' c l p n
theorem R2.refl {c : Nat} {l : List UInt8} {p n : Int} (w : World) : R2 c l p n w w := ⟨Only.refl _ _, id, id⟩
theorem R2.later (c : Nat) (l : List UInt8) (p n : Int) : Later (R2 c l p n) :=
  ⟨fun w => R2.refl w, fun u v w h k => ⟨h.only.trans k.only, fun x => k.any (h.any x), fun x => k.fin (h.fin x)⟩, fun w => ⟨(Only.refl _ w).drew, fun ⟨m, h⟩ => ⟨m, h.same rfl⟩, fun h => h.same rfl⟩⟩
theorem r2_store {c : Nat} {l : List UInt8} {p n m : Int} {w : World} (h : Pg 93 w c l p m) : R2 c l p n w (w.setCell ⟨c, 257, none⟩ (.int .i64 n)) :=
  ⟨(Only.refl _ _).setCell _ _, fun _ => ⟨n, h.setCount n⟩, fun _ => h.setCount n⟩
/-- What the slots of the region hold, whatever the order. -/
def phiBox (b m : Nat) (l : List UInt8) (p : Int) : Nat → Value → World → Prop
  | 0, x, _ => x = .pointer (some ⟨b, 0, none⟩)
  | 1, x, _ => x = .pointer (some ⟨b, 0, none⟩)
  | 2, x, _ => x = .pointer (some ⟨b, 0, none⟩)
  | 3, x, _ => x = .agg (cellsU l).toArray
  | 4, x, _ => x = .pointer (some ⟨b, 0, none⟩)
  | 5, x, _ => x = .pointer (some ⟨b, 0, none⟩)
  | 6, x, _ => x = .pointer (some ⟨b, 256, none⟩)
  | 7, x, _ => x = .int .i64 p
  | 8, x, _ => x = .agg (pcells l p 0)
  | 9, x, w => ∃ g, x = .pointer (some ⟨g, 0, none⟩) ∧ m ≤ g ∧ Pg 93 w g l p 0
  | 10, x, w => ∃ g, x = .pointer (some ⟨g, 0, none⟩) ∧ m ≤ g ∧ Pg 93 w g l p 0
  | _ + 11, _, _ => True
theorem phiBox_mono (b m : Nat) (l : List UInt8) (p : Int) : ∀ i x w w', phiBox b m l p i x w → Below w.heap.size w w' → phiBox b m l p i x w'
  | 0, _, _, _, h, _ => h
  | 1, _, _, _, h, _ => h
  | 2, _, _, _, h, _ => h
  | 3, _, _, _, h, _ => h
  | 4, _, _, _, h, _ => h
  | 5, _, _, _, h, _ => h
  | 6, _, _, _, h, _ => h
  | 7, _, _, _, h, _ => h
  | 8, _, _, _, h, _ => h
  | 9, x, w, w', h, hb => by obtain ⟨g, e, h1, h2⟩ := h; exact ⟨g, e, h1, h2.later hb⟩
  | 10, x, w, w', h, hb => by obtain ⟨g, e, h1, h2⟩ := h; exact ⟨g, e, h1, h2.later hb⟩
  | _ + 11, _, _, _, _, _ => trivial
/-- What the slots of the region hold, whatever the order. -/
def phiStore (b c : Nat) (l : List UInt8) (p n : Int) : Nat → Value → World → Prop
  | 0, x, _ => x = .pointer (some ⟨c, 0, none⟩)
  | 1, x, _ => x = .pointer (some ⟨c, 0, none⟩)
  | 2, x, _ => x = .pointer (some ⟨c, 257, none⟩)
  | 3, x, _ => x = .pointer (some ⟨b, 0, none⟩)
  | 4, x, _ => x = .pointer (some ⟨b, 0, none⟩)
  | 5, x, _ => x = .pointer (some ⟨b, 257, none⟩)
  | 6, x, _ => x = .int .i64 n
  | 7, x, w => x = .tuple #[] ∧ Pg 93 w c l p n
  | _ + 8, _, _ => True
theorem phiStore_mono (b c : Nat) (l : List UInt8) (p n : Int) : ∀ i x w w', phiStore b c l p n i x w → R2 c l p n w w' → phiStore b c l p n i x w'
  | 0, _, _, _, h, _ => h
  | 1, _, _, _, h, _ => h
  | 2, _, _, _, h, _ => h
  | 3, _, _, _, h, _ => h
  | 4, _, _, _, h, _ => h
  | 5, _, _, _, h, _ => h
  | 6, _, _, _, h, _ => h
  | 7, x, w, w', h, hb => ⟨h.1, hb.fin h.2⟩
  | _ + 8, _, _, _, _, _ => trivial
theorem list11 : ∀ xs : List Value, xs.length = 11 → ∃ x0 x1 x2 x3 x4 x5 x6 x7 x8 x9 x10, xs = [x0, x1, x2, x3, x4, x5, x6, x7, x8, x9, x10]
  | [x0, x1, x2, x3, x4, x5, x6, x7, x8, x9, x10], _ => ⟨_, _, _, _, _, _, _, _, _, _, _, rfl⟩
theorem list8 : ∀ xs : List Value, xs.length = 8 → ∃ x0 x1 x2 x3 x4 x5 x6 x7, xs = [x0, x1, x2, x3, x4, x5, x6, x7]
  | [x0, x1, x2, x3, x4, x5, x6, x7], _ => ⟨_, _, _, _, _, _, _, _, rfl⟩
set_option maxRecDepth 20000 in
set_option maxHeartbeats 1000000 in
theorem copy_any (w : World) (b : Nat) (l : List UInt8) (p n : Int) (h : Pg 93 w b l p n) :
    Calls Try.prog 49 #[.pointer (some ⟨b, 0, none⟩)] w fun e w' => ∃ c, e = .returned (.pointer (some ⟨c, 0, none⟩)) ∧ w.heap.size ≤ c ∧ Pg 93 w' c l p n ∧ Below w.heap.size w w' := by
  have H := hidden h
  clear h
  go_enter Try.func49, Try.ntmps49
  go_wp2
  refine wp_region_on later_below [4, 5, 6, 7, 8, 9, 10, 11, 12, 13, 3] 11 (phiBox b w.heap.size l p) (by kernel_rfl) (by kernel_rfl) rfl rfl (phiBox_mono b w.heap.size l p) ?_ ?_
  · intro j hj xs w3 hxs hR hpre
    obtain ⟨x0, x1, x2, x3, x4, x5, x6, x7, x8, x9, x10, rfl⟩ := list11 xs hxs
    have hP : Pg 93 w3 b l p n := (Hid.out H).later hR
    rcases (show j = 0 ∨ j = 1 ∨ j = 2 ∨ j = 3 ∨ j = 4 ∨ j = 5 ∨ j = 6 ∨ j = 7 ∨ j = 8 ∨ j = 9 ∨ j = 10 by omega) with rfl | rfl | rfl | rfl | rfl | rfl | rfl | rfl | rfl | rfl | rfl
    · exact wpOp_run (.pointer (some ⟨b, 0, none⟩)) rfl (by kernel_rfl) (exec_move rfl (by kernel_rfl) w3) ⟨_, by kernel_rfl, rfl, Below.refl _ _⟩
    · have e0 : x0 = .pointer (some ⟨b, 0, none⟩) := hpre 0 (by kernel_rfl)
      subst e0
      exact wpOp_run (.pointer (some ⟨b, 0, none⟩)) rfl (by kernel_rfl) (by kernel_rfl) ⟨_, by kernel_rfl, rfl, Below.refl _ _⟩
    · have e1 : x1 = .pointer (some ⟨b, 0, none⟩) := hpre 1 (by kernel_rfl)
      subst e1
      exact wpOp_run (.pointer (some ⟨b, 0, none⟩)) rfl (by kernel_rfl) (by kernel_rfl) ⟨_, by kernel_rfl, rfl, Below.refl _ _⟩
    · have e2 : x2 = .pointer (some ⟨b, 0, none⟩) := hpre 2 (by kernel_rfl)
      subst e2
      exact wpOp_run (.agg (cellsU l).toArray) rfl (by kernel_rfl) (exec_load 81 rfl (by kernel_rfl) w3 (run_load31 hP)) ⟨_, by kernel_rfl, rfl, Below.refl _ _⟩
    · exact wpOp_run (.pointer (some ⟨b, 0, none⟩)) rfl (by kernel_rfl) (exec_move rfl (by kernel_rfl) w3) ⟨_, by kernel_rfl, rfl, Below.refl _ _⟩
    · have e4 : x4 = .pointer (some ⟨b, 0, none⟩) := hpre 4 (by kernel_rfl)
      subst e4
      exact wpOp_run (.pointer (some ⟨b, 0, none⟩)) rfl (by kernel_rfl) (by kernel_rfl) ⟨_, by kernel_rfl, rfl, Below.refl _ _⟩
    · have e5 : x5 = .pointer (some ⟨b, 0, none⟩) := hpre 5 (by kernel_rfl)
      subst e5
      exact wpOp_run (.pointer (some ⟨b, 256, none⟩)) rfl (by kernel_rfl) (by kernel_rfl) ⟨_, by kernel_rfl, rfl, Below.refl _ _⟩
    · have e6 : x6 = .pointer (some ⟨b, 256, none⟩) := hpre 6 (by kernel_rfl)
      subst e6
      exact wpOp_run (.int .i64 p) rfl (by kernel_rfl) (exec_load 3 rfl (by kernel_rfl) w3 (load3 hP.perm)) ⟨_, by kernel_rfl, rfl, Below.refl _ _⟩
    · have e3 : x3 = .agg (cellsU l).toArray := hpre 3 (by kernel_rfl)
      subst e3
      have e7 : x7 = .int .i64 p := hpre 7 (by kernel_rfl)
      subst e7
      exact wpOp_run (.agg (pcells l p 0)) rfl (by kernel_rfl) (exec_build 93 rfl (by kernel_rfl) w3 (build51_copy l hP.len p w3)) ⟨_, by kernel_rfl, rfl, Below.refl _ _⟩
    · have e8 : x8 = .agg (pcells l p 0) := hpre 8 (by kernel_rfl)
      subst e8
      exact wpOp_run (.pointer (some ⟨w3.heap.size, 0, none⟩)) rfl (by kernel_rfl) (exec_box 93 rfl (by kernel_rfl) w3) ⟨_, by kernel_rfl, ⟨w3.heap.size, rfl, hR.size, pg_new 93 w3 l p 0 hP.len⟩, (Below.refl _ _).alloc (Nat.le_refl _) _⟩
    · have f9 : ∃ g, x9 = .pointer (some ⟨g, 0, none⟩) ∧ w.heap.size ≤ g ∧ Pg 93 w3 g l p 0 := hpre 9 (by kernel_rfl)
      obtain ⟨g9, e9, hg9, hp9⟩ := f9
      subst e9
      exact wpOp_run (.pointer (some ⟨g9, 0, none⟩)) rfl (by kernel_rfl) (by kernel_rfl) ⟨_, by kernel_rfl, ⟨g9, rfl, hg9, hp9⟩, Below.refl _ _⟩
  · intro xs w3 hxs hR hall
    obtain ⟨x0, x1, x2, x3, x4, x5, x6, x7, x8, x9, x10, rfl⟩ := list11 xs hxs
    have f10 : ∃ g, x10 = .pointer (some ⟨g, 0, none⟩) ∧ w.heap.size ≤ g ∧ Pg 93 w3 g l p 0 := hall 10 (by omega)
    obtain ⟨g10, e10, hg10, hp10⟩ := f10
    subst e10
    clear hall
    have hP : Pg 93 w3 b l p n := (Hid.out H).later hR
    have hlt := hP.lt
    have HP := hidden hP
    have HG := hidden hp10
    have HR := hidden hR
    have hbc : b ≠ g10 := by have := (Hid.out H).lt; omega
    clear hP hp10 hR hxs
    simp only [slotsOn, putAll, List.set_cons_succ, List.set_cons_zero]
    go_wp2
    refine wp_region_on (R2.later g10 l p n) [14, 15, 16, 17, 18, 19, 20, 21] 8 (phiStore b g10 l p n) (by kernel_rfl) (by kernel_rfl) rfl rfl (phiStore_mono b g10 l p n) ?_ ?_
    · intro j hj xs w3 hxs hR hpre
      obtain ⟨x0, x1, x2, x3, x4, x5, x6, x7, rfl⟩ := list8 xs hxs
      have hP : Pg 93 w3 b l p n := (Hid.out HP).only hR.only hbc
      obtain ⟨m0, hC⟩ := hR.any ⟨0, Hid.out HG⟩
      rcases (show j = 0 ∨ j = 1 ∨ j = 2 ∨ j = 3 ∨ j = 4 ∨ j = 5 ∨ j = 6 ∨ j = 7 by omega) with rfl | rfl | rfl | rfl | rfl | rfl | rfl | rfl
      · exact wpOp_run (.pointer (some ⟨g10, 0, none⟩)) rfl (by kernel_rfl) (exec_move rfl (by kernel_rfl) w3) ⟨_, by kernel_rfl, rfl, R2.refl _⟩
      · have e0 : x0 = .pointer (some ⟨g10, 0, none⟩) := hpre 0 (by kernel_rfl)
        subst e0
        exact wpOp_run (.pointer (some ⟨g10, 0, none⟩)) rfl (by kernel_rfl) (by kernel_rfl) ⟨_, by kernel_rfl, rfl, R2.refl _⟩
      · have e1 : x1 = .pointer (some ⟨g10, 0, none⟩) := hpre 1 (by kernel_rfl)
        subst e1
        exact wpOp_run (.pointer (some ⟨g10, 257, none⟩)) rfl (by kernel_rfl) (by kernel_rfl) ⟨_, by kernel_rfl, rfl, R2.refl _⟩
      · exact wpOp_run (.pointer (some ⟨b, 0, none⟩)) rfl (by kernel_rfl) (exec_move rfl (by kernel_rfl) w3) ⟨_, by kernel_rfl, rfl, R2.refl _⟩
      · have e3 : x3 = .pointer (some ⟨b, 0, none⟩) := hpre 3 (by kernel_rfl)
        subst e3
        exact wpOp_run (.pointer (some ⟨b, 0, none⟩)) rfl (by kernel_rfl) (by kernel_rfl) ⟨_, by kernel_rfl, rfl, R2.refl _⟩
      · have e4 : x4 = .pointer (some ⟨b, 0, none⟩) := hpre 4 (by kernel_rfl)
        subst e4
        exact wpOp_run (.pointer (some ⟨b, 257, none⟩)) rfl (by kernel_rfl) (by kernel_rfl) ⟨_, by kernel_rfl, rfl, R2.refl _⟩
      · have e5 : x5 = .pointer (some ⟨b, 257, none⟩) := hpre 5 (by kernel_rfl)
        subst e5
        refine wpOp_callR (R := fun u w4 => u = .int .i64 n ∧ w4 = w3) 44 #[.pointer (some ⟨b, 257, none⟩)] rfl (by kernel_rfl) (by kernel_rfl) ((load_any w3 b n hP.count).mono fun e w4 ⟨he, hw⟩ => ⟨_, he, rfl, hw⟩) ?_
        rintro _ w4 ⟨rfl, hw⟩
        subst hw
        exact ⟨_, by kernel_rfl, rfl, R2.refl _⟩
      · have e2 : x2 = .pointer (some ⟨g10, 257, none⟩) := hpre 2 (by kernel_rfl)
        subst e2
        have e6 : x6 = .int .i64 n := hpre 6 (by kernel_rfl)
        subst e6
        refine wpOp_callR (R := fun u w4 => u = .tuple #[] ∧ w4 = w3.setCell ⟨g10, 257, none⟩ (.int .i64 n)) 60 #[.pointer (some ⟨g10, 257, none⟩), .int .i64 n] rfl (by kernel_rfl) (by kernel_rfl) ((store_any w3 g10 n _ hC.count (hC.thaw 257)).mono fun e w4 ⟨he, hw⟩ => ⟨_, he, rfl, hw⟩) ?_
        rintro _ w4 ⟨rfl, hw⟩
        subst hw
        exact ⟨_, by kernel_rfl, ⟨rfl, hC.setCount n⟩, r2_store hC⟩
    · intro xs w3 hxs hR hall
      obtain ⟨x0, x1, x2, x3, x4, x5, x6, x7, rfl⟩ := list8 xs hxs
      have f7 : x7 = .tuple #[] ∧ Pg 93 w3 g10 l p n := hall 7 (by omega)
      obtain ⟨e7, hp7⟩ := f7
      subst e7
      have hR3 := hidden (Below.trans (Hid.out HR) (Below.mono (hR.only.below (Nat.le_refl _)) hg10))
      have HF := hidden hp7
      clear hall hR hxs hp7
      simp only [slotsOn, putAll, List.set_cons_succ, List.set_cons_zero]
      go_wp2
      go_ret
      exact ⟨g10, rfl, hg10, Hid.out HF, Hid.out hR3⟩
end Go.Proofs.Ytfbmkgdpejgjpaa
