/- Whether two segments have a page in common. -/
import Derived.Test.YtjpmagekianpdaaSegs
namespace Go.Proofs.Ytjpmagekianpdaa
open Go.ChangeShapes Go.WideShapes Go.ChangeAt Go.RowKit
set_option linter.unusedVariables false
theorem list15 : ∀ xs : List Value, xs.length = 15 → ∃ x0 x1 x2 x3 x4 x5 x6 x7 x8 x9 x10 x11 x12 x13 x14, xs = [x0, x1, x2, x3, x4, x5, x6, x7, x8, x9, x10, x11, x12, x13, x14]
  | [x0, x1, x2, x3, x4, x5, x6, x7, x8, x9, x10, x11, x12, x13, x14], _ => ⟨_, _, _, _, _, _, _, _, _, _, _, _, _, _, _, rfl⟩
/-- What the slots of the region hold, whatever the order. -/
def phiShtt (n m : Nat) (s o : Sg) : Nat → Value → World → Prop
  | 0, x, _ => x = .pointer (some ⟨n, 0, none⟩)
  | 1, x, _ => x = .int .u32 (s.at_ : Int)
  | 2, x, _ => x = .int .u32 ((s.at_ / 256 : Nat) : Int)
  | 3, x, _ => x = .agg #[.int .u32 (o.at_ : Int), .string ⟨o.data.toArray⟩, .int .u32 (o.size : Int), .int .i64 o.perm]
  | 4, x, _ => x = .int .u32 (lastPg o : Int)
  | 5, x, _ => x = .bool true
  | 6, x, _ => x = .bool true
  | 7, x, _ => x = .pointer (some ⟨m, 0, none⟩)
  | 8, x, _ => x = .int .u32 (o.at_ : Int)
  | 9, x, _ => x = .int .u32 ((o.at_ / 256 : Nat) : Int)
  | 10, x, _ => x = .agg #[.int .u32 (s.at_ : Int), .string ⟨s.data.toArray⟩, .int .u32 (s.size : Int), .int .i64 s.perm]
  | 11, x, _ => x = .int .u32 (lastPg s : Int)
  | 12, x, _ => x = .bool true
  | 13, x, _ => x = .bool true
  | 14, x, _ => x = .bool true
  | _ + 15, _, _ => True
theorem phiShtt_mono (n m : Nat) (s o : Sg) : ∀ i x w w', phiShtt n m s o i x w → Below w.heap.size w w' → phiShtt n m s o i x w'
  | 0, _, _, _, h, _ => h
  | 1, _, _, _, h, _ => h
  | 2, _, _, _, h, _ => h
  | 3, _, _, _, h, _ => h
  | 4, _, _, _, h, _ => h
  | 5, _, _, _, h, _ => h
  | 6, _, _, _, h, _ => h
  | 7, _, _, _, h, _ => h
  | 8, _, _, _, h, _ => h
  | 9, _, _, _, h, _ => h
  | 10, _, _, _, h, _ => h
  | 11, _, _, _, h, _ => h
  | 12, _, _, _, h, _ => h
  | 13, _, _, _, h, _ => h
  | 14, _, _, _, h, _ => h
  | _ + 15, _, _, _, _, _ => trivial
set_option maxRecDepth 20000 in
set_option maxHeartbeats 2000000 in
theorem share_Shtt (s o : Sg) (ks : okB s = true) (ko : okB o = true) (c1 : s.at_ / 256 ≤ lastPg o) (c2 : o.at_ / 256 ≤ lastPg s) (w : World) : Calls Try.prog 45 #[.agg #[.int .u32 (s.at_ : Int), .string ⟨s.data.toArray⟩, .int .u32 (s.size : Int), .int .i64 s.perm], .agg #[.int .u32 (o.at_ : Int), .string ⟨o.data.toArray⟩, .int .u32 (o.size : Int), .int .i64 o.perm]] w fun e w' => e = .returned (.bool true) ∧ Below w.heap.size w w' := by
  have la : s.at_ < 4294967296 := by have := ok_size ks; omega
  have lo : o.at_ < 4294967296 := by have := ok_size ko; omega
  obtain ⟨n, hn⟩ : ∃ n, n = w.heap.size := ⟨_, rfl⟩
  obtain ⟨m, hm⟩ : ∃ m, m = w.heap.size + 1 := ⟨_, rfl⟩
  have hS1 : (w.alloc (.cells #[.int .u32 (s.at_ : Int), .string ⟨s.data.toArray⟩, .int .u32 (s.size : Int), .int .i64 s.perm] 43)).heap[n]? = some (.cells #[.int .u32 (s.at_ : Int), .string ⟨s.data.toArray⟩, .int .u32 (s.size : Int), .int .i64 s.perm] 43 (0, 0)) := by rw [hn]; exact heap_alloc_new w _
  have hS2 : ((w.alloc (.cells #[.int .u32 (s.at_ : Int), .string ⟨s.data.toArray⟩, .int .u32 (s.size : Int), .int .i64 s.perm] 43)).alloc (.cells #[.int .u32 (o.at_ : Int), .string ⟨o.data.toArray⟩, .int .u32 (o.size : Int), .int .i64 o.perm] 43)).heap[n]? = some (.cells #[.int .u32 (s.at_ : Int), .string ⟨s.data.toArray⟩, .int .u32 (s.size : Int), .int .i64 s.perm] 43 (0, 0)) := (((Below.refl _ (w.alloc (.cells #[.int .u32 (s.at_ : Int), .string ⟨s.data.toArray⟩, .int .u32 (s.size : Int), .int .i64 s.perm] 43))).alloc (Nat.le_refl _) _).block n (by simp [hn])).trans hS1
  have hO2 : ((w.alloc (.cells #[.int .u32 (s.at_ : Int), .string ⟨s.data.toArray⟩, .int .u32 (s.size : Int), .int .i64 s.perm] 43)).alloc (.cells #[.int .u32 (o.at_ : Int), .string ⟨o.data.toArray⟩, .int .u32 (o.size : Int), .int .i64 o.perm] 43)).heap[m]? = some (.cells #[.int .u32 (o.at_ : Int), .string ⟨o.data.toArray⟩, .int .u32 (o.size : Int), .int .i64 o.perm] 43 (0, 0)) := by
    have := heap_alloc_new (w.alloc (.cells #[.int .u32 (s.at_ : Int), .string ⟨s.data.toArray⟩, .int .u32 (s.size : Int), .int .i64 s.perm] 43)) (.cells #[.int .u32 (o.at_ : Int), .string ⟨o.data.toArray⟩, .int .u32 (o.size : Int), .int .i64 o.perm] 43)
    rw [World.size_alloc, ← hm] at this
    exact this
  have bel : Below w.heap.size w ((w.alloc (.cells #[.int .u32 (s.at_ : Int), .string ⟨s.data.toArray⟩, .int .u32 (s.size : Int), .int .i64 s.perm] 43)).alloc (.cells #[.int .u32 (o.at_ : Int), .string ⟨o.data.toArray⟩, .int .u32 (o.size : Int), .int .i64 o.perm] 43)) := ((Below.refl _ w).alloc (Nat.le_refl _) _).alloc (by simp) _
  go_enter Try.func45, Try.ntmps45
  go_wp2
  rw [← hm, ← hn]
  refine wp_region_on later_below [5, 6, 7, 8, 9, 10, 11, 12, 13, 14, 15, 16, 17, 18, 4] 15 (phiShtt n m s o) (by kernel_rfl) (by kernel_rfl) rfl rfl (phiShtt_mono n m s o) ?_ ?_
  · intro j hj xs w3 hxs hR hpre
    obtain ⟨x0, x1, x2, x3, x4, x5, x6, x7, x8, x9, x10, x11, x12, x13, x14, rfl⟩ := list15 xs hxs
    have hs3 := (hR.block n (by simp [hn]; omega)).trans hS2
    have ho3 := (hR.block m (by simp [hm])).trans hO2
    have hs0 : w3.cell? ⟨n, 0, none⟩ = some (.int .u32 (s.at_ : Int)) := cell_of_row _ _ _ _ _ _ hs3
    have ho0 : w3.cell? ⟨m, 0, none⟩ = some (.int .u32 (o.at_ : Int)) := cell_of_row _ _ _ _ _ _ ho3
    rcases (show j = 0 ∨ j = 1 ∨ j = 2 ∨ j = 3 ∨ j = 4 ∨ j = 5 ∨ j = 6 ∨ j = 7 ∨ j = 8 ∨ j = 9 ∨ j = 10 ∨ j = 11 ∨ j = 12 ∨ j = 13 ∨ j = 14 by omega) with rfl | rfl | rfl | rfl | rfl | rfl | rfl | rfl | rfl | rfl | rfl | rfl | rfl | rfl | rfl
    · exact wpOp_run (.pointer (some ⟨n, 0, none⟩)) rfl (by kernel_rfl) (by kernel_rfl) ⟨_, by kernel_rfl, rfl, Below.refl _ _⟩
    · have e0 : x0 = .pointer (some ⟨n, 0, none⟩) := hpre 0 (by kernel_rfl)
      subst e0
      exact wpOp_run (.int .u32 (s.at_ : Int)) rfl (by kernel_rfl) (exec_load 23 rfl (by kernel_rfl) w3 (load23 hs0)) ⟨_, by kernel_rfl, rfl, Below.refl _ _⟩
    · have e1 : x1 = .int .u32 (s.at_ : Int) := hpre 1 (by kernel_rfl)
      subst e1
      exact wpOp_run (.int .u32 ((s.at_ / 256 : Nat) : Int)) rfl (by kernel_rfl) (exec_quo rfl ⟨by kernel_rfl, by kernel_rfl⟩ la w3) ⟨_, by kernel_rfl, rfl, Below.refl _ _⟩
    · exact wpOp_run (.agg #[.int .u32 (o.at_ : Int), .string ⟨o.data.toArray⟩, .int .u32 (o.size : Int), .int .i64 o.perm]) rfl (by kernel_rfl) (exec_load 43 rfl (by kernel_rfl) w3 (load43 ho3)) ⟨_, by kernel_rfl, rfl, Below.refl _ _⟩
    · have e3 : x3 = .agg #[.int .u32 (o.at_ : Int), .string ⟨o.data.toArray⟩, .int .u32 (o.size : Int), .int .i64 o.perm] := hpre 3 (by kernel_rfl)
      subst e3
      refine wpOp_callR (R := fun u w4 => u = .int .u32 (lastPg o : Int) ∧ Below w3.heap.size w3 w4) 48 #[.agg #[.int .u32 (o.at_ : Int), .string ⟨o.data.toArray⟩, .int .u32 (o.size : Int), .int .i64 o.perm]] rfl (by kernel_rfl) (by kernel_rfl) ((lastPage_any o ko w3).mono fun e w4 ⟨he, hb⟩ => ⟨_, he, rfl, hb⟩) ?_
      rintro u w4 ⟨hu, hb4⟩
      exact ⟨_, by kernel_rfl, hu, hb4⟩
    · have e2 : x2 = .int .u32 ((s.at_ / 256 : Nat) : Int) := hpre 2 (by kernel_rfl)
      subst e2
      have e4 : x4 = .int .u32 (lastPg o : Int) := hpre 4 (by kernel_rfl)
      subst e4
      exact wpOp_run (.bool true) rfl (by kernel_rfl) ((exec_leq rfl (by kernel_rfl) (by kernel_rfl) w3).trans (by rw [decide_eq_true c1])) ⟨_, by kernel_rfl, rfl, Below.refl _ _⟩
    · have e5 : x5 = .bool true := hpre 5 (by kernel_rfl)
      subst e5
      exact wpOp_run (.bool true) rfl (by kernel_rfl) (exec_move rfl (by kernel_rfl) w3) ⟨_, by kernel_rfl, rfl, Below.refl _ _⟩
    · have e6 : x6 = .bool true := hpre 6 (by kernel_rfl)
      subst e6
      exact wpOp_run (.pointer (some ⟨m, 0, none⟩)) rfl (by kernel_rfl) (by kernel_rfl) ⟨_, by kernel_rfl, rfl, Below.refl _ _⟩
    · have e6 : x6 = .bool true := hpre 6 (by kernel_rfl)
      subst e6
      have e7 : x7 = .pointer (some ⟨m, 0, none⟩) := hpre 7 (by kernel_rfl)
      subst e7
      exact wpOp_run (.int .u32 (o.at_ : Int)) rfl (by kernel_rfl) (exec_load 23 rfl (by kernel_rfl) w3 (load23 ho0)) ⟨_, by kernel_rfl, rfl, Below.refl _ _⟩
    · have e6 : x6 = .bool true := hpre 6 (by kernel_rfl)
      subst e6
      have e8 : x8 = .int .u32 (o.at_ : Int) := hpre 8 (by kernel_rfl)
      subst e8
      exact wpOp_run (.int .u32 ((o.at_ / 256 : Nat) : Int)) rfl (by kernel_rfl) (exec_quo rfl ⟨by kernel_rfl, by kernel_rfl⟩ lo w3) ⟨_, by kernel_rfl, rfl, Below.refl _ _⟩
    · have e6 : x6 = .bool true := hpre 6 (by kernel_rfl)
      subst e6
      exact wpOp_run (.agg #[.int .u32 (s.at_ : Int), .string ⟨s.data.toArray⟩, .int .u32 (s.size : Int), .int .i64 s.perm]) rfl (by kernel_rfl) (exec_load 43 rfl (by kernel_rfl) w3 (load43 hs3)) ⟨_, by kernel_rfl, rfl, Below.refl _ _⟩
    · have e6 : x6 = .bool true := hpre 6 (by kernel_rfl)
      subst e6
      have e10 : x10 = .agg #[.int .u32 (s.at_ : Int), .string ⟨s.data.toArray⟩, .int .u32 (s.size : Int), .int .i64 s.perm] := hpre 10 (by kernel_rfl)
      subst e10
      refine wpOp_callR (R := fun u w4 => u = .int .u32 (lastPg s : Int) ∧ Below w3.heap.size w3 w4) 48 #[.agg #[.int .u32 (s.at_ : Int), .string ⟨s.data.toArray⟩, .int .u32 (s.size : Int), .int .i64 s.perm]] rfl (by kernel_rfl) (by kernel_rfl) ((lastPage_any s ks w3).mono fun e w4 ⟨he, hb⟩ => ⟨_, he, rfl, hb⟩) ?_
      rintro u w4 ⟨hu, hb4⟩
      exact ⟨_, by kernel_rfl, hu, hb4⟩
    · have e6 : x6 = .bool true := hpre 6 (by kernel_rfl)
      subst e6
      have e9 : x9 = .int .u32 ((o.at_ / 256 : Nat) : Int) := hpre 9 (by kernel_rfl)
      subst e9
      have e11 : x11 = .int .u32 (lastPg s : Int) := hpre 11 (by kernel_rfl)
      subst e11
      exact wpOp_run (.bool true) rfl (by kernel_rfl) ((exec_leq rfl (by kernel_rfl) (by kernel_rfl) w3).trans (by rw [decide_eq_true c2])) ⟨_, by kernel_rfl, rfl, Below.refl _ _⟩
    · have e6 : x6 = .bool true := hpre 6 (by kernel_rfl)
      subst e6
      have e12 : x12 = .bool true := hpre 12 (by kernel_rfl)
      subst e12
      exact wpOp_run (.bool true) rfl (by kernel_rfl) (by kernel_rfl) ⟨_, by kernel_rfl, rfl, Below.refl _ _⟩
    · have e13 : x13 = .bool true := hpre 13 (by kernel_rfl)
      subst e13
      exact wpOp_run (.bool true) rfl (by kernel_rfl) (by kernel_rfl) ⟨_, by kernel_rfl, rfl, Below.refl _ _⟩
  · intro xs w3 hxs hR hall
    obtain ⟨x0, x1, x2, x3, x4, x5, x6, x7, x8, x9, x10, x11, x12, x13, x14, rfl⟩ := list15 xs hxs
    have e0 : x0 = .pointer (some ⟨n, 0, none⟩) := hall 0 (by omega)
    subst e0
    have e1 : x1 = .int .u32 (s.at_ : Int) := hall 1 (by omega)
    subst e1
    have e2 : x2 = .int .u32 ((s.at_ / 256 : Nat) : Int) := hall 2 (by omega)
    subst e2
    have e3 : x3 = .agg #[.int .u32 (o.at_ : Int), .string ⟨o.data.toArray⟩, .int .u32 (o.size : Int), .int .i64 o.perm] := hall 3 (by omega)
    subst e3
    have e4 : x4 = .int .u32 (lastPg o : Int) := hall 4 (by omega)
    subst e4
    have e5 : x5 = .bool true := hall 5 (by omega)
    subst e5
    have e6 : x6 = .bool true := hall 6 (by omega)
    subst e6
    have e7 : x7 = .pointer (some ⟨m, 0, none⟩) := hall 7 (by omega)
    subst e7
    have e8 : x8 = .int .u32 (o.at_ : Int) := hall 8 (by omega)
    subst e8
    have e9 : x9 = .int .u32 ((o.at_ / 256 : Nat) : Int) := hall 9 (by omega)
    subst e9
    have e10 : x10 = .agg #[.int .u32 (s.at_ : Int), .string ⟨s.data.toArray⟩, .int .u32 (s.size : Int), .int .i64 s.perm] := hall 10 (by omega)
    subst e10
    have e11 : x11 = .int .u32 (lastPg s : Int) := hall 11 (by omega)
    subst e11
    have e12 : x12 = .bool true := hall 12 (by omega)
    subst e12
    have e13 : x13 = .bool true := hall 13 (by omega)
    subst e13
    have e14 : x14 = .bool true := hall 14 (by omega)
    subst e14
    have HR := hidden (bel.trans (hR.mono bel.size))
    clear hall hR hxs
    simp only [slotsOn, putAll, List.set_cons_succ, List.set_cons_zero]
    go_wp2
    go_ret
    exact ⟨rfl, Hid.out HR⟩
/-- What the slots of the region hold, whatever the order. -/
def phiShtf (n m : Nat) (s o : Sg) : Nat → Value → World → Prop
  | 0, x, _ => x = .pointer (some ⟨n, 0, none⟩)
  | 1, x, _ => x = .int .u32 (s.at_ : Int)
  | 2, x, _ => x = .int .u32 ((s.at_ / 256 : Nat) : Int)
  | 3, x, _ => x = .agg #[.int .u32 (o.at_ : Int), .string ⟨o.data.toArray⟩, .int .u32 (o.size : Int), .int .i64 o.perm]
  | 4, x, _ => x = .int .u32 (lastPg o : Int)
  | 5, x, _ => x = .bool true
  | 6, x, _ => x = .bool true
  | 7, x, _ => x = .pointer (some ⟨m, 0, none⟩)
  | 8, x, _ => x = .int .u32 (o.at_ : Int)
  | 9, x, _ => x = .int .u32 ((o.at_ / 256 : Nat) : Int)
  | 10, x, _ => x = .agg #[.int .u32 (s.at_ : Int), .string ⟨s.data.toArray⟩, .int .u32 (s.size : Int), .int .i64 s.perm]
  | 11, x, _ => x = .int .u32 (lastPg s : Int)
  | 12, x, _ => x = .bool false
  | 13, x, _ => x = .bool false
  | 14, x, _ => x = .bool false
  | _ + 15, _, _ => True
theorem phiShtf_mono (n m : Nat) (s o : Sg) : ∀ i x w w', phiShtf n m s o i x w → Below w.heap.size w w' → phiShtf n m s o i x w'
  | 0, _, _, _, h, _ => h
  | 1, _, _, _, h, _ => h
  | 2, _, _, _, h, _ => h
  | 3, _, _, _, h, _ => h
  | 4, _, _, _, h, _ => h
  | 5, _, _, _, h, _ => h
  | 6, _, _, _, h, _ => h
  | 7, _, _, _, h, _ => h
  | 8, _, _, _, h, _ => h
  | 9, _, _, _, h, _ => h
  | 10, _, _, _, h, _ => h
  | 11, _, _, _, h, _ => h
  | 12, _, _, _, h, _ => h
  | 13, _, _, _, h, _ => h
  | 14, _, _, _, h, _ => h
  | _ + 15, _, _, _, _, _ => trivial
set_option maxRecDepth 20000 in
set_option maxHeartbeats 2000000 in
theorem share_Shtf (s o : Sg) (ks : okB s = true) (ko : okB o = true) (c1 : s.at_ / 256 ≤ lastPg o) (c2 : ¬ o.at_ / 256 ≤ lastPg s) (w : World) : Calls Try.prog 45 #[.agg #[.int .u32 (s.at_ : Int), .string ⟨s.data.toArray⟩, .int .u32 (s.size : Int), .int .i64 s.perm], .agg #[.int .u32 (o.at_ : Int), .string ⟨o.data.toArray⟩, .int .u32 (o.size : Int), .int .i64 o.perm]] w fun e w' => e = .returned (.bool false) ∧ Below w.heap.size w w' := by
  have la : s.at_ < 4294967296 := by have := ok_size ks; omega
  have lo : o.at_ < 4294967296 := by have := ok_size ko; omega
  obtain ⟨n, hn⟩ : ∃ n, n = w.heap.size := ⟨_, rfl⟩
  obtain ⟨m, hm⟩ : ∃ m, m = w.heap.size + 1 := ⟨_, rfl⟩
  have hS1 : (w.alloc (.cells #[.int .u32 (s.at_ : Int), .string ⟨s.data.toArray⟩, .int .u32 (s.size : Int), .int .i64 s.perm] 43)).heap[n]? = some (.cells #[.int .u32 (s.at_ : Int), .string ⟨s.data.toArray⟩, .int .u32 (s.size : Int), .int .i64 s.perm] 43 (0, 0)) := by rw [hn]; exact heap_alloc_new w _
  have hS2 : ((w.alloc (.cells #[.int .u32 (s.at_ : Int), .string ⟨s.data.toArray⟩, .int .u32 (s.size : Int), .int .i64 s.perm] 43)).alloc (.cells #[.int .u32 (o.at_ : Int), .string ⟨o.data.toArray⟩, .int .u32 (o.size : Int), .int .i64 o.perm] 43)).heap[n]? = some (.cells #[.int .u32 (s.at_ : Int), .string ⟨s.data.toArray⟩, .int .u32 (s.size : Int), .int .i64 s.perm] 43 (0, 0)) := (((Below.refl _ (w.alloc (.cells #[.int .u32 (s.at_ : Int), .string ⟨s.data.toArray⟩, .int .u32 (s.size : Int), .int .i64 s.perm] 43))).alloc (Nat.le_refl _) _).block n (by simp [hn])).trans hS1
  have hO2 : ((w.alloc (.cells #[.int .u32 (s.at_ : Int), .string ⟨s.data.toArray⟩, .int .u32 (s.size : Int), .int .i64 s.perm] 43)).alloc (.cells #[.int .u32 (o.at_ : Int), .string ⟨o.data.toArray⟩, .int .u32 (o.size : Int), .int .i64 o.perm] 43)).heap[m]? = some (.cells #[.int .u32 (o.at_ : Int), .string ⟨o.data.toArray⟩, .int .u32 (o.size : Int), .int .i64 o.perm] 43 (0, 0)) := by
    have := heap_alloc_new (w.alloc (.cells #[.int .u32 (s.at_ : Int), .string ⟨s.data.toArray⟩, .int .u32 (s.size : Int), .int .i64 s.perm] 43)) (.cells #[.int .u32 (o.at_ : Int), .string ⟨o.data.toArray⟩, .int .u32 (o.size : Int), .int .i64 o.perm] 43)
    rw [World.size_alloc, ← hm] at this
    exact this
  have bel : Below w.heap.size w ((w.alloc (.cells #[.int .u32 (s.at_ : Int), .string ⟨s.data.toArray⟩, .int .u32 (s.size : Int), .int .i64 s.perm] 43)).alloc (.cells #[.int .u32 (o.at_ : Int), .string ⟨o.data.toArray⟩, .int .u32 (o.size : Int), .int .i64 o.perm] 43)) := ((Below.refl _ w).alloc (Nat.le_refl _) _).alloc (by simp) _
  go_enter Try.func45, Try.ntmps45
  go_wp2
  rw [← hm, ← hn]
  refine wp_region_on later_below [5, 6, 7, 8, 9, 10, 11, 12, 13, 14, 15, 16, 17, 18, 4] 15 (phiShtf n m s o) (by kernel_rfl) (by kernel_rfl) rfl rfl (phiShtf_mono n m s o) ?_ ?_
  · intro j hj xs w3 hxs hR hpre
    obtain ⟨x0, x1, x2, x3, x4, x5, x6, x7, x8, x9, x10, x11, x12, x13, x14, rfl⟩ := list15 xs hxs
    have hs3 := (hR.block n (by simp [hn]; omega)).trans hS2
    have ho3 := (hR.block m (by simp [hm])).trans hO2
    have hs0 : w3.cell? ⟨n, 0, none⟩ = some (.int .u32 (s.at_ : Int)) := cell_of_row _ _ _ _ _ _ hs3
    have ho0 : w3.cell? ⟨m, 0, none⟩ = some (.int .u32 (o.at_ : Int)) := cell_of_row _ _ _ _ _ _ ho3
    rcases (show j = 0 ∨ j = 1 ∨ j = 2 ∨ j = 3 ∨ j = 4 ∨ j = 5 ∨ j = 6 ∨ j = 7 ∨ j = 8 ∨ j = 9 ∨ j = 10 ∨ j = 11 ∨ j = 12 ∨ j = 13 ∨ j = 14 by omega) with rfl | rfl | rfl | rfl | rfl | rfl | rfl | rfl | rfl | rfl | rfl | rfl | rfl | rfl | rfl
    · exact wpOp_run (.pointer (some ⟨n, 0, none⟩)) rfl (by kernel_rfl) (by kernel_rfl) ⟨_, by kernel_rfl, rfl, Below.refl _ _⟩
    · have e0 : x0 = .pointer (some ⟨n, 0, none⟩) := hpre 0 (by kernel_rfl)
      subst e0
      exact wpOp_run (.int .u32 (s.at_ : Int)) rfl (by kernel_rfl) (exec_load 23 rfl (by kernel_rfl) w3 (load23 hs0)) ⟨_, by kernel_rfl, rfl, Below.refl _ _⟩
    · have e1 : x1 = .int .u32 (s.at_ : Int) := hpre 1 (by kernel_rfl)
      subst e1
      exact wpOp_run (.int .u32 ((s.at_ / 256 : Nat) : Int)) rfl (by kernel_rfl) (exec_quo rfl ⟨by kernel_rfl, by kernel_rfl⟩ la w3) ⟨_, by kernel_rfl, rfl, Below.refl _ _⟩
    · exact wpOp_run (.agg #[.int .u32 (o.at_ : Int), .string ⟨o.data.toArray⟩, .int .u32 (o.size : Int), .int .i64 o.perm]) rfl (by kernel_rfl) (exec_load 43 rfl (by kernel_rfl) w3 (load43 ho3)) ⟨_, by kernel_rfl, rfl, Below.refl _ _⟩
    · have e3 : x3 = .agg #[.int .u32 (o.at_ : Int), .string ⟨o.data.toArray⟩, .int .u32 (o.size : Int), .int .i64 o.perm] := hpre 3 (by kernel_rfl)
      subst e3
      refine wpOp_callR (R := fun u w4 => u = .int .u32 (lastPg o : Int) ∧ Below w3.heap.size w3 w4) 48 #[.agg #[.int .u32 (o.at_ : Int), .string ⟨o.data.toArray⟩, .int .u32 (o.size : Int), .int .i64 o.perm]] rfl (by kernel_rfl) (by kernel_rfl) ((lastPage_any o ko w3).mono fun e w4 ⟨he, hb⟩ => ⟨_, he, rfl, hb⟩) ?_
      rintro u w4 ⟨hu, hb4⟩
      exact ⟨_, by kernel_rfl, hu, hb4⟩
    · have e2 : x2 = .int .u32 ((s.at_ / 256 : Nat) : Int) := hpre 2 (by kernel_rfl)
      subst e2
      have e4 : x4 = .int .u32 (lastPg o : Int) := hpre 4 (by kernel_rfl)
      subst e4
      exact wpOp_run (.bool true) rfl (by kernel_rfl) ((exec_leq rfl (by kernel_rfl) (by kernel_rfl) w3).trans (by rw [decide_eq_true c1])) ⟨_, by kernel_rfl, rfl, Below.refl _ _⟩
    · have e5 : x5 = .bool true := hpre 5 (by kernel_rfl)
      subst e5
      exact wpOp_run (.bool true) rfl (by kernel_rfl) (exec_move rfl (by kernel_rfl) w3) ⟨_, by kernel_rfl, rfl, Below.refl _ _⟩
    · have e6 : x6 = .bool true := hpre 6 (by kernel_rfl)
      subst e6
      exact wpOp_run (.pointer (some ⟨m, 0, none⟩)) rfl (by kernel_rfl) (by kernel_rfl) ⟨_, by kernel_rfl, rfl, Below.refl _ _⟩
    · have e6 : x6 = .bool true := hpre 6 (by kernel_rfl)
      subst e6
      have e7 : x7 = .pointer (some ⟨m, 0, none⟩) := hpre 7 (by kernel_rfl)
      subst e7
      exact wpOp_run (.int .u32 (o.at_ : Int)) rfl (by kernel_rfl) (exec_load 23 rfl (by kernel_rfl) w3 (load23 ho0)) ⟨_, by kernel_rfl, rfl, Below.refl _ _⟩
    · have e6 : x6 = .bool true := hpre 6 (by kernel_rfl)
      subst e6
      have e8 : x8 = .int .u32 (o.at_ : Int) := hpre 8 (by kernel_rfl)
      subst e8
      exact wpOp_run (.int .u32 ((o.at_ / 256 : Nat) : Int)) rfl (by kernel_rfl) (exec_quo rfl ⟨by kernel_rfl, by kernel_rfl⟩ lo w3) ⟨_, by kernel_rfl, rfl, Below.refl _ _⟩
    · have e6 : x6 = .bool true := hpre 6 (by kernel_rfl)
      subst e6
      exact wpOp_run (.agg #[.int .u32 (s.at_ : Int), .string ⟨s.data.toArray⟩, .int .u32 (s.size : Int), .int .i64 s.perm]) rfl (by kernel_rfl) (exec_load 43 rfl (by kernel_rfl) w3 (load43 hs3)) ⟨_, by kernel_rfl, rfl, Below.refl _ _⟩
    · have e6 : x6 = .bool true := hpre 6 (by kernel_rfl)
      subst e6
      have e10 : x10 = .agg #[.int .u32 (s.at_ : Int), .string ⟨s.data.toArray⟩, .int .u32 (s.size : Int), .int .i64 s.perm] := hpre 10 (by kernel_rfl)
      subst e10
      refine wpOp_callR (R := fun u w4 => u = .int .u32 (lastPg s : Int) ∧ Below w3.heap.size w3 w4) 48 #[.agg #[.int .u32 (s.at_ : Int), .string ⟨s.data.toArray⟩, .int .u32 (s.size : Int), .int .i64 s.perm]] rfl (by kernel_rfl) (by kernel_rfl) ((lastPage_any s ks w3).mono fun e w4 ⟨he, hb⟩ => ⟨_, he, rfl, hb⟩) ?_
      rintro u w4 ⟨hu, hb4⟩
      exact ⟨_, by kernel_rfl, hu, hb4⟩
    · have e6 : x6 = .bool true := hpre 6 (by kernel_rfl)
      subst e6
      have e9 : x9 = .int .u32 ((o.at_ / 256 : Nat) : Int) := hpre 9 (by kernel_rfl)
      subst e9
      have e11 : x11 = .int .u32 (lastPg s : Int) := hpre 11 (by kernel_rfl)
      subst e11
      exact wpOp_run (.bool false) rfl (by kernel_rfl) ((exec_leq rfl (by kernel_rfl) (by kernel_rfl) w3).trans (by rw [decide_eq_false c2])) ⟨_, by kernel_rfl, rfl, Below.refl _ _⟩
    · have e6 : x6 = .bool true := hpre 6 (by kernel_rfl)
      subst e6
      have e12 : x12 = .bool false := hpre 12 (by kernel_rfl)
      subst e12
      exact wpOp_run (.bool false) rfl (by kernel_rfl) (by kernel_rfl) ⟨_, by kernel_rfl, rfl, Below.refl _ _⟩
    · have e13 : x13 = .bool false := hpre 13 (by kernel_rfl)
      subst e13
      exact wpOp_run (.bool false) rfl (by kernel_rfl) (by kernel_rfl) ⟨_, by kernel_rfl, rfl, Below.refl _ _⟩
  · intro xs w3 hxs hR hall
    obtain ⟨x0, x1, x2, x3, x4, x5, x6, x7, x8, x9, x10, x11, x12, x13, x14, rfl⟩ := list15 xs hxs
    have e0 : x0 = .pointer (some ⟨n, 0, none⟩) := hall 0 (by omega)
    subst e0
    have e1 : x1 = .int .u32 (s.at_ : Int) := hall 1 (by omega)
    subst e1
    have e2 : x2 = .int .u32 ((s.at_ / 256 : Nat) : Int) := hall 2 (by omega)
    subst e2
    have e3 : x3 = .agg #[.int .u32 (o.at_ : Int), .string ⟨o.data.toArray⟩, .int .u32 (o.size : Int), .int .i64 o.perm] := hall 3 (by omega)
    subst e3
    have e4 : x4 = .int .u32 (lastPg o : Int) := hall 4 (by omega)
    subst e4
    have e5 : x5 = .bool true := hall 5 (by omega)
    subst e5
    have e6 : x6 = .bool true := hall 6 (by omega)
    subst e6
    have e7 : x7 = .pointer (some ⟨m, 0, none⟩) := hall 7 (by omega)
    subst e7
    have e8 : x8 = .int .u32 (o.at_ : Int) := hall 8 (by omega)
    subst e8
    have e9 : x9 = .int .u32 ((o.at_ / 256 : Nat) : Int) := hall 9 (by omega)
    subst e9
    have e10 : x10 = .agg #[.int .u32 (s.at_ : Int), .string ⟨s.data.toArray⟩, .int .u32 (s.size : Int), .int .i64 s.perm] := hall 10 (by omega)
    subst e10
    have e11 : x11 = .int .u32 (lastPg s : Int) := hall 11 (by omega)
    subst e11
    have e12 : x12 = .bool false := hall 12 (by omega)
    subst e12
    have e13 : x13 = .bool false := hall 13 (by omega)
    subst e13
    have e14 : x14 = .bool false := hall 14 (by omega)
    subst e14
    have HR := hidden (bel.trans (hR.mono bel.size))
    clear hall hR hxs
    simp only [slotsOn, putAll, List.set_cons_succ, List.set_cons_zero]
    go_wp2
    go_ret
    exact ⟨rfl, Hid.out HR⟩
/-- What the slots of the region hold, whatever the order. -/
def phiShf (n m : Nat) (s o : Sg) : Nat → Value → World → Prop
  | 0, x, _ => x = .pointer (some ⟨n, 0, none⟩)
  | 1, x, _ => x = .int .u32 (s.at_ : Int)
  | 2, x, _ => x = .int .u32 ((s.at_ / 256 : Nat) : Int)
  | 3, x, _ => x = .agg #[.int .u32 (o.at_ : Int), .string ⟨o.data.toArray⟩, .int .u32 (o.size : Int), .int .i64 o.perm]
  | 4, x, _ => x = .int .u32 (lastPg o : Int)
  | 5, x, _ => x = .bool false
  | 6, x, _ => x = .bool false
  | 7, x, _ => x = undef
  | 8, x, _ => x = undef
  | 9, x, _ => x = undef
  | 10, x, _ => x = undef
  | 11, x, _ => x = undef
  | 12, x, _ => x = undef
  | 13, x, _ => x = .bool false
  | 14, x, _ => x = .bool false
  | _ + 15, _, _ => True
theorem phiShf_mono (n m : Nat) (s o : Sg) : ∀ i x w w', phiShf n m s o i x w → Below w.heap.size w w' → phiShf n m s o i x w'
  | 0, _, _, _, h, _ => h
  | 1, _, _, _, h, _ => h
  | 2, _, _, _, h, _ => h
  | 3, _, _, _, h, _ => h
  | 4, _, _, _, h, _ => h
  | 5, _, _, _, h, _ => h
  | 6, _, _, _, h, _ => h
  | 7, _, _, _, h, _ => h
  | 8, _, _, _, h, _ => h
  | 9, _, _, _, h, _ => h
  | 10, _, _, _, h, _ => h
  | 11, _, _, _, h, _ => h
  | 12, _, _, _, h, _ => h
  | 13, _, _, _, h, _ => h
  | 14, _, _, _, h, _ => h
  | _ + 15, _, _, _, _, _ => trivial
set_option maxRecDepth 20000 in
set_option maxHeartbeats 2000000 in
theorem share_Shf (s o : Sg) (ks : okB s = true) (ko : okB o = true) (c1 : ¬ s.at_ / 256 ≤ lastPg o) (w : World) : Calls Try.prog 45 #[.agg #[.int .u32 (s.at_ : Int), .string ⟨s.data.toArray⟩, .int .u32 (s.size : Int), .int .i64 s.perm], .agg #[.int .u32 (o.at_ : Int), .string ⟨o.data.toArray⟩, .int .u32 (o.size : Int), .int .i64 o.perm]] w fun e w' => e = .returned (.bool false) ∧ Below w.heap.size w w' := by
  have la : s.at_ < 4294967296 := by have := ok_size ks; omega
  have lo : o.at_ < 4294967296 := by have := ok_size ko; omega
  obtain ⟨n, hn⟩ : ∃ n, n = w.heap.size := ⟨_, rfl⟩
  obtain ⟨m, hm⟩ : ∃ m, m = w.heap.size + 1 := ⟨_, rfl⟩
  have hS1 : (w.alloc (.cells #[.int .u32 (s.at_ : Int), .string ⟨s.data.toArray⟩, .int .u32 (s.size : Int), .int .i64 s.perm] 43)).heap[n]? = some (.cells #[.int .u32 (s.at_ : Int), .string ⟨s.data.toArray⟩, .int .u32 (s.size : Int), .int .i64 s.perm] 43 (0, 0)) := by rw [hn]; exact heap_alloc_new w _
  have hS2 : ((w.alloc (.cells #[.int .u32 (s.at_ : Int), .string ⟨s.data.toArray⟩, .int .u32 (s.size : Int), .int .i64 s.perm] 43)).alloc (.cells #[.int .u32 (o.at_ : Int), .string ⟨o.data.toArray⟩, .int .u32 (o.size : Int), .int .i64 o.perm] 43)).heap[n]? = some (.cells #[.int .u32 (s.at_ : Int), .string ⟨s.data.toArray⟩, .int .u32 (s.size : Int), .int .i64 s.perm] 43 (0, 0)) := (((Below.refl _ (w.alloc (.cells #[.int .u32 (s.at_ : Int), .string ⟨s.data.toArray⟩, .int .u32 (s.size : Int), .int .i64 s.perm] 43))).alloc (Nat.le_refl _) _).block n (by simp [hn])).trans hS1
  have hO2 : ((w.alloc (.cells #[.int .u32 (s.at_ : Int), .string ⟨s.data.toArray⟩, .int .u32 (s.size : Int), .int .i64 s.perm] 43)).alloc (.cells #[.int .u32 (o.at_ : Int), .string ⟨o.data.toArray⟩, .int .u32 (o.size : Int), .int .i64 o.perm] 43)).heap[m]? = some (.cells #[.int .u32 (o.at_ : Int), .string ⟨o.data.toArray⟩, .int .u32 (o.size : Int), .int .i64 o.perm] 43 (0, 0)) := by
    have := heap_alloc_new (w.alloc (.cells #[.int .u32 (s.at_ : Int), .string ⟨s.data.toArray⟩, .int .u32 (s.size : Int), .int .i64 s.perm] 43)) (.cells #[.int .u32 (o.at_ : Int), .string ⟨o.data.toArray⟩, .int .u32 (o.size : Int), .int .i64 o.perm] 43)
    rw [World.size_alloc, ← hm] at this
    exact this
  have bel : Below w.heap.size w ((w.alloc (.cells #[.int .u32 (s.at_ : Int), .string ⟨s.data.toArray⟩, .int .u32 (s.size : Int), .int .i64 s.perm] 43)).alloc (.cells #[.int .u32 (o.at_ : Int), .string ⟨o.data.toArray⟩, .int .u32 (o.size : Int), .int .i64 o.perm] 43)) := ((Below.refl _ w).alloc (Nat.le_refl _) _).alloc (by simp) _
  go_enter Try.func45, Try.ntmps45
  go_wp2
  rw [← hm, ← hn]
  refine wp_region_on later_below [5, 6, 7, 8, 9, 10, 11, 12, 13, 14, 15, 16, 17, 18, 4] 15 (phiShf n m s o) (by kernel_rfl) (by kernel_rfl) rfl rfl (phiShf_mono n m s o) ?_ ?_
  · intro j hj xs w3 hxs hR hpre
    obtain ⟨x0, x1, x2, x3, x4, x5, x6, x7, x8, x9, x10, x11, x12, x13, x14, rfl⟩ := list15 xs hxs
    have hs3 := (hR.block n (by simp [hn]; omega)).trans hS2
    have ho3 := (hR.block m (by simp [hm])).trans hO2
    have hs0 : w3.cell? ⟨n, 0, none⟩ = some (.int .u32 (s.at_ : Int)) := cell_of_row _ _ _ _ _ _ hs3
    have ho0 : w3.cell? ⟨m, 0, none⟩ = some (.int .u32 (o.at_ : Int)) := cell_of_row _ _ _ _ _ _ ho3
    rcases (show j = 0 ∨ j = 1 ∨ j = 2 ∨ j = 3 ∨ j = 4 ∨ j = 5 ∨ j = 6 ∨ j = 7 ∨ j = 8 ∨ j = 9 ∨ j = 10 ∨ j = 11 ∨ j = 12 ∨ j = 13 ∨ j = 14 by omega) with rfl | rfl | rfl | rfl | rfl | rfl | rfl | rfl | rfl | rfl | rfl | rfl | rfl | rfl | rfl
    · exact wpOp_run (.pointer (some ⟨n, 0, none⟩)) rfl (by kernel_rfl) (by kernel_rfl) ⟨_, by kernel_rfl, rfl, Below.refl _ _⟩
    · have e0 : x0 = .pointer (some ⟨n, 0, none⟩) := hpre 0 (by kernel_rfl)
      subst e0
      exact wpOp_run (.int .u32 (s.at_ : Int)) rfl (by kernel_rfl) (exec_load 23 rfl (by kernel_rfl) w3 (load23 hs0)) ⟨_, by kernel_rfl, rfl, Below.refl _ _⟩
    · have e1 : x1 = .int .u32 (s.at_ : Int) := hpre 1 (by kernel_rfl)
      subst e1
      exact wpOp_run (.int .u32 ((s.at_ / 256 : Nat) : Int)) rfl (by kernel_rfl) (exec_quo rfl ⟨by kernel_rfl, by kernel_rfl⟩ la w3) ⟨_, by kernel_rfl, rfl, Below.refl _ _⟩
    · exact wpOp_run (.agg #[.int .u32 (o.at_ : Int), .string ⟨o.data.toArray⟩, .int .u32 (o.size : Int), .int .i64 o.perm]) rfl (by kernel_rfl) (exec_load 43 rfl (by kernel_rfl) w3 (load43 ho3)) ⟨_, by kernel_rfl, rfl, Below.refl _ _⟩
    · have e3 : x3 = .agg #[.int .u32 (o.at_ : Int), .string ⟨o.data.toArray⟩, .int .u32 (o.size : Int), .int .i64 o.perm] := hpre 3 (by kernel_rfl)
      subst e3
      refine wpOp_callR (R := fun u w4 => u = .int .u32 (lastPg o : Int) ∧ Below w3.heap.size w3 w4) 48 #[.agg #[.int .u32 (o.at_ : Int), .string ⟨o.data.toArray⟩, .int .u32 (o.size : Int), .int .i64 o.perm]] rfl (by kernel_rfl) (by kernel_rfl) ((lastPage_any o ko w3).mono fun e w4 ⟨he, hb⟩ => ⟨_, he, rfl, hb⟩) ?_
      rintro u w4 ⟨hu, hb4⟩
      exact ⟨_, by kernel_rfl, hu, hb4⟩
    · have e2 : x2 = .int .u32 ((s.at_ / 256 : Nat) : Int) := hpre 2 (by kernel_rfl)
      subst e2
      have e4 : x4 = .int .u32 (lastPg o : Int) := hpre 4 (by kernel_rfl)
      subst e4
      exact wpOp_run (.bool false) rfl (by kernel_rfl) ((exec_leq rfl (by kernel_rfl) (by kernel_rfl) w3).trans (by rw [decide_eq_false c1])) ⟨_, by kernel_rfl, rfl, Below.refl _ _⟩
    · have e5 : x5 = .bool false := hpre 5 (by kernel_rfl)
      subst e5
      exact wpOp_run (.bool false) rfl (by kernel_rfl) (exec_move rfl (by kernel_rfl) w3) ⟨_, by kernel_rfl, rfl, Below.refl _ _⟩
    · have e6 : x6 = .bool false := hpre 6 (by kernel_rfl)
      subst e6
      exact wpOp_skip rfl (by kernel_rfl) ⟨undef, by kernel_rfl, rfl, Below.refl _ _⟩
    · have e6 : x6 = .bool false := hpre 6 (by kernel_rfl)
      subst e6
      exact wpOp_skip rfl (by kernel_rfl) ⟨undef, by kernel_rfl, rfl, Below.refl _ _⟩
    · have e6 : x6 = .bool false := hpre 6 (by kernel_rfl)
      subst e6
      exact wpOp_skip rfl (by kernel_rfl) ⟨undef, by kernel_rfl, rfl, Below.refl _ _⟩
    · have e6 : x6 = .bool false := hpre 6 (by kernel_rfl)
      subst e6
      exact wpOp_skip rfl (by kernel_rfl) ⟨undef, by kernel_rfl, rfl, Below.refl _ _⟩
    · have e6 : x6 = .bool false := hpre 6 (by kernel_rfl)
      subst e6
      exact wpOp_skip rfl (by kernel_rfl) ⟨undef, by kernel_rfl, rfl, Below.refl _ _⟩
    · have e6 : x6 = .bool false := hpre 6 (by kernel_rfl)
      subst e6
      exact wpOp_skip rfl (by kernel_rfl) ⟨undef, by kernel_rfl, rfl, Below.refl _ _⟩
    · have e6 : x6 = .bool false := hpre 6 (by kernel_rfl)
      subst e6
      have e12 : x12 = undef := hpre 12 (by kernel_rfl)
      subst e12
      exact wpOp_run (.bool false) rfl (by kernel_rfl) (by kernel_rfl) ⟨_, by kernel_rfl, rfl, Below.refl _ _⟩
    · have e13 : x13 = .bool false := hpre 13 (by kernel_rfl)
      subst e13
      exact wpOp_run (.bool false) rfl (by kernel_rfl) (by kernel_rfl) ⟨_, by kernel_rfl, rfl, Below.refl _ _⟩
  · intro xs w3 hxs hR hall
    obtain ⟨x0, x1, x2, x3, x4, x5, x6, x7, x8, x9, x10, x11, x12, x13, x14, rfl⟩ := list15 xs hxs
    have e0 : x0 = .pointer (some ⟨n, 0, none⟩) := hall 0 (by omega)
    subst e0
    have e1 : x1 = .int .u32 (s.at_ : Int) := hall 1 (by omega)
    subst e1
    have e2 : x2 = .int .u32 ((s.at_ / 256 : Nat) : Int) := hall 2 (by omega)
    subst e2
    have e3 : x3 = .agg #[.int .u32 (o.at_ : Int), .string ⟨o.data.toArray⟩, .int .u32 (o.size : Int), .int .i64 o.perm] := hall 3 (by omega)
    subst e3
    have e4 : x4 = .int .u32 (lastPg o : Int) := hall 4 (by omega)
    subst e4
    have e5 : x5 = .bool false := hall 5 (by omega)
    subst e5
    have e6 : x6 = .bool false := hall 6 (by omega)
    subst e6
    have e7 : x7 = undef := hall 7 (by omega)
    subst e7
    have e8 : x8 = undef := hall 8 (by omega)
    subst e8
    have e9 : x9 = undef := hall 9 (by omega)
    subst e9
    have e10 : x10 = undef := hall 10 (by omega)
    subst e10
    have e11 : x11 = undef := hall 11 (by omega)
    subst e11
    have e12 : x12 = undef := hall 12 (by omega)
    subst e12
    have e13 : x13 = .bool false := hall 13 (by omega)
    subst e13
    have e14 : x14 = .bool false := hall 14 (by omega)
    subst e14
    have HR := hidden (bel.trans (hR.mono bel.size))
    clear hall hR hxs
    simp only [slotsOn, putAll, List.set_cons_succ, List.set_cons_zero]
    go_wp2
    go_ret
    exact ⟨rfl, Hid.out HR⟩
theorem share_any (s o : Sg) (ks : okB s = true) (ko : okB o = true) (w : World) : Calls Try.prog 45 #[.agg #[.int .u32 (s.at_ : Int), .string ⟨s.data.toArray⟩, .int .u32 (s.size : Int), .int .i64 s.perm], .agg #[.int .u32 (o.at_ : Int), .string ⟨o.data.toArray⟩, .int .u32 (o.size : Int), .int .i64 o.perm]] w fun e w' => e = .returned (.bool (shareB s o)) ∧ Below w.heap.size w w' := by
  unfold shareB
  by_cases c1 : s.at_ / 256 ≤ lastPg o
  · by_cases c2 : o.at_ / 256 ≤ lastPg s
    · rw [decide_eq_true c1, decide_eq_true c2]
      exact share_Shtt s o ks ko c1 c2 w
    · rw [decide_eq_true c1, decide_eq_false c2]
      exact share_Shtf s o ks ko c1 c2 w
  · rw [decide_eq_false c1]
    exact share_Shf s o ks ko c1 w
end Go.Proofs.Ytjpmagekianpdaa
