/- AluAll, walked. -/
import Derived.Test.YtlheilpaafjeiaaPAluExec
import Derived.Test.YtlheilpaafjeiaaPAluLgR
import Derived.Test.YtlheilpaafjeiaaPAluTr
import Derived.Test.YtlheilpaafjeiaaPAluTrR
import Derived.Test.YtlheilpaafjeiaaPAluTkR
import Derived.Test.YtlheilpaafjeiaaPAluWrR
import Derived.Test.YtlheilpaafjeiaaPAluRef
import Derived.Test.YtlheilpaafjeiaaPAluAwake
import Derived.Deep.CutBlock
namespace Go.Proofs.Ytlheilpaafjeiaa
open Go.ChangeShapes Go.WideShapes Go.ChangeAt Go.RowKit
set_option linter.unusedVariables false
/-- What the slots of the region hold, whatever the order. -/
def phiA9 (nb : Nat) (op S T D A m s t hi lo : Int) : Nat → Value → World → Prop
  | 0, x, _ => x = .int .u32 (reck op s t A m).1
  | 1, x, _ => x = .int .u32 (reck op s t A m).1
  | 2, x, _ => x = .bool true
  | 3, x, _ => x = .bool true
  | 4, x, _ => x = .bool (reck op s t A m).2
  | 5, x, _ => x = .bool (reck op s t A m).2
  | 6, x, _ => x = .bool true
  | 7, x, _ => x = .bool true
  | 8, x, _ => x = .bool true
  | 9, x, _ => x = .int .u32 (longV op s t hi lo).1
  | 10, x, _ => x = .int .u32 (longV op s t hi lo).1
  | 11, x, _ => x = .bool true
  | 12, x, _ => x = .bool true
  | 13, x, _ => x = .bool true
  | 14, x, _ => x = .int .u32 (longV op s t hi lo).2
  | 15, x, _ => x = .int .u32 (longV op s t hi lo).2
  | 16, x, _ => x = .bool true
  | 17, x, _ => x = .bool true
  | 18, x, _ => x = .bool true
  | 19, x, _ => x = .agg (insC op S T D A m)
  | 20, x, _ => x = .int .u32 s
  | 21, x, _ => x = .int .u32 t
  | 22, x, _ => x = .bool (trapB op s t m)
  | 23, x, _ => x = .agg (insC op S T D A m)
  | 24, x, _ => x = .int .u32 s
  | 25, x, _ => x = .int .u32 t
  | 26, x, _ => x = .bool (trapB op s t m)
  | 27, x, _ => x = .bool true
  | 28, x, _ => x = .bool true
  | 29, x, _ => x = .bool true
  | 30, x, _ => x = .agg (insC op S T D A m)
  | 31, x, _ => x = .int .u32 s
  | 32, x, _ => x = .int .u32 t
  | 33, x, _ => x = .bool (takeB op s t m)
  | 34, x, _ => x = .agg (insC op S T D A m)
  | 35, x, _ => x = .int .u32 s
  | 36, x, _ => x = .int .u32 t
  | 37, x, _ => x = .bool (takeB op s t m)
  | 38, x, _ => x = .bool true
  | 39, x, _ => x = .bool true
  | 40, x, _ => x = .bool true
  | 41, x, _ => x = .agg (insC op S T D A m)
  | 42, x, _ => x = .int .i64 (writeV op T D)
  | 43, x, _ => x = .agg (insC op S T D A m)
  | 44, x, _ => x = .int .i64 (writeV op T D)
  | 45, x, _ => x = .bool true
  | 46, x, _ => x = .bool true
  | 47, x, _ => x = .bool true
  | 48, x, _ => x = .bool true
  | 49, x, _ => x = .bool true
  | 50, x, _ => x = .bool true
  | _ + 51, _, _ => True
theorem phiA9_mono (nb : Nat) (op S T D A m s t hi lo : Int) : ∀ i x w w', phiA9 nb op S T D A m s t hi lo i x w → Below w.heap.size w w' → phiA9 nb op S T D A m s t hi lo i x w'
  | 0, _, _, _, h, _ => h
  | 1, _, _, _, h, _ => h
  | 2, _, _, _, h, _ => h
  | 3, _, _, _, h, _ => h
  | 4, _, _, _, h, _ => h
  | 5, _, _, _, h, _ => h
  | 6, _, _, _, h, _ => h
  | 7, _, _, _, h, _ => h
  | 8, _, _, _, h, _ => h
  | 9, _, _, _, h, _ => h
  | 10, _, _, _, h, _ => h
  | 11, _, _, _, h, _ => h
  | 12, _, _, _, h, _ => h
  | 13, _, _, _, h, _ => h
  | 14, _, _, _, h, _ => h
  | 15, _, _, _, h, _ => h
  | 16, _, _, _, h, _ => h
  | 17, _, _, _, h, _ => h
  | 18, _, _, _, h, _ => h
  | 19, _, _, _, h, _ => h
  | 20, _, _, _, h, _ => h
  | 21, _, _, _, h, _ => h
  | 22, _, _, _, h, _ => h
  | 23, _, _, _, h, _ => h
  | 24, _, _, _, h, _ => h
  | 25, _, _, _, h, _ => h
  | 26, _, _, _, h, _ => h
  | 27, _, _, _, h, _ => h
  | 28, _, _, _, h, _ => h
  | 29, _, _, _, h, _ => h
  | 30, _, _, _, h, _ => h
  | 31, _, _, _, h, _ => h
  | 32, _, _, _, h, _ => h
  | 33, _, _, _, h, _ => h
  | 34, _, _, _, h, _ => h
  | 35, _, _, _, h, _ => h
  | 36, _, _, _, h, _ => h
  | 37, _, _, _, h, _ => h
  | 38, _, _, _, h, _ => h
  | 39, _, _, _, h, _ => h
  | 40, _, _, _, h, _ => h
  | 41, _, _, _, h, _ => h
  | 42, _, _, _, h, _ => h
  | 43, _, _, _, h, _ => h
  | 44, _, _, _, h, _ => h
  | 45, _, _, _, h, _ => h
  | 46, _, _, _, h, _ => h
  | 47, _, _, _, h, _ => h
  | 48, _, _, _, h, _ => h
  | 49, _, _, _, h, _ => h
  | 50, _, _, _, h, _ => h
  | _ + 51, _, _, _, _, _ => trivial
theorem list51 (xs : List Value) (h : xs.length = 51) : ∃ x0 x1 x2 x3 x4 x5 x6 x7 x8 x9 x10 x11 x12 x13 x14 x15 x16 x17 x18 x19 x20 x21 x22 x23 x24 x25 x26 x27 x28 x29 x30 x31 x32 x33 x34 x35 x36 x37 x38 x39 x40 x41 x42 x43 x44 x45 x46 x47 x48 x49 x50, xs = [x0, x1, x2, x3, x4, x5, x6, x7, x8, x9, x10, x11, x12, x13, x14, x15, x16, x17, x18, x19, x20, x21, x22, x23, x24, x25, x26, x27, x28, x29, x30, x31, x32, x33, x34, x35, x36, x37, x38, x39, x40, x41, x42, x43, x44, x45, x46, x47, x48, x49, x50] := by
  obtain ⟨x0, xs1, rfl, h1⟩ := cons_of_len (n := 50) xs h
  obtain ⟨x1, xs2, rfl, h2⟩ := cons_of_len (n := 49) xs1 h1
  obtain ⟨x2, xs3, rfl, h3⟩ := cons_of_len (n := 48) xs2 h2
  obtain ⟨x3, xs4, rfl, h4⟩ := cons_of_len (n := 47) xs3 h3
  obtain ⟨x4, xs5, rfl, h5⟩ := cons_of_len (n := 46) xs4 h4
  obtain ⟨x5, xs6, rfl, h6⟩ := cons_of_len (n := 45) xs5 h5
  obtain ⟨x6, xs7, rfl, h7⟩ := cons_of_len (n := 44) xs6 h6
  obtain ⟨x7, xs8, rfl, h8⟩ := cons_of_len (n := 43) xs7 h7
  obtain ⟨x8, xs9, rfl, h9⟩ := cons_of_len (n := 42) xs8 h8
  obtain ⟨x9, xs10, rfl, h10⟩ := cons_of_len (n := 41) xs9 h9
  obtain ⟨x10, xs11, rfl, h11⟩ := cons_of_len (n := 40) xs10 h10
  obtain ⟨x11, xs12, rfl, h12⟩ := cons_of_len (n := 39) xs11 h11
  obtain ⟨x12, xs13, rfl, h13⟩ := cons_of_len (n := 38) xs12 h12
  obtain ⟨x13, xs14, rfl, h14⟩ := cons_of_len (n := 37) xs13 h13
  obtain ⟨x14, xs15, rfl, h15⟩ := cons_of_len (n := 36) xs14 h14
  obtain ⟨x15, xs16, rfl, h16⟩ := cons_of_len (n := 35) xs15 h15
  obtain ⟨x16, xs17, rfl, h17⟩ := cons_of_len (n := 34) xs16 h16
  obtain ⟨x17, xs18, rfl, h18⟩ := cons_of_len (n := 33) xs17 h17
  obtain ⟨x18, xs19, rfl, h19⟩ := cons_of_len (n := 32) xs18 h18
  obtain ⟨x19, xs20, rfl, h20⟩ := cons_of_len (n := 31) xs19 h19
  obtain ⟨x20, xs21, rfl, h21⟩ := cons_of_len (n := 30) xs20 h20
  obtain ⟨x21, xs22, rfl, h22⟩ := cons_of_len (n := 29) xs21 h21
  obtain ⟨x22, xs23, rfl, h23⟩ := cons_of_len (n := 28) xs22 h22
  obtain ⟨x23, xs24, rfl, h24⟩ := cons_of_len (n := 27) xs23 h23
  obtain ⟨x24, xs25, rfl, h25⟩ := cons_of_len (n := 26) xs24 h24
  obtain ⟨x25, xs26, rfl, h26⟩ := cons_of_len (n := 25) xs25 h25
  obtain ⟨x26, xs27, rfl, h27⟩ := cons_of_len (n := 24) xs26 h26
  obtain ⟨x27, xs28, rfl, h28⟩ := cons_of_len (n := 23) xs27 h27
  obtain ⟨x28, xs29, rfl, h29⟩ := cons_of_len (n := 22) xs28 h28
  obtain ⟨x29, xs30, rfl, h30⟩ := cons_of_len (n := 21) xs29 h29
  obtain ⟨x30, xs31, rfl, h31⟩ := cons_of_len (n := 20) xs30 h30
  obtain ⟨x31, xs32, rfl, h32⟩ := cons_of_len (n := 19) xs31 h31
  obtain ⟨x32, xs33, rfl, h33⟩ := cons_of_len (n := 18) xs32 h32
  obtain ⟨x33, xs34, rfl, h34⟩ := cons_of_len (n := 17) xs33 h33
  obtain ⟨x34, xs35, rfl, h35⟩ := cons_of_len (n := 16) xs34 h34
  obtain ⟨x35, xs36, rfl, h36⟩ := cons_of_len (n := 15) xs35 h35
  obtain ⟨x36, xs37, rfl, h37⟩ := cons_of_len (n := 14) xs36 h36
  obtain ⟨x37, xs38, rfl, h38⟩ := cons_of_len (n := 13) xs37 h37
  obtain ⟨x38, xs39, rfl, h39⟩ := cons_of_len (n := 12) xs38 h38
  obtain ⟨x39, xs40, rfl, h40⟩ := cons_of_len (n := 11) xs39 h39
  obtain ⟨x40, xs41, rfl, h41⟩ := cons_of_len (n := 10) xs40 h40
  obtain ⟨x41, xs42, rfl, h42⟩ := cons_of_len (n := 9) xs41 h41
  obtain ⟨x42, xs43, rfl, h43⟩ := cons_of_len (n := 8) xs42 h42
  obtain ⟨x43, xs44, rfl, h44⟩ := cons_of_len (n := 7) xs43 h43
  obtain ⟨x44, xs45, rfl, h45⟩ := cons_of_len (n := 6) xs44 h44
  obtain ⟨x45, xs46, rfl, h46⟩ := cons_of_len (n := 5) xs45 h45
  obtain ⟨x46, xs47, rfl, h47⟩ := cons_of_len (n := 4) xs46 h46
  obtain ⟨x47, xs48, rfl, h48⟩ := cons_of_len (n := 3) xs47 h47
  obtain ⟨x48, xs49, rfl, h49⟩ := cons_of_len (n := 2) xs48 h48
  obtain ⟨x49, xs50, rfl, h50⟩ := cons_of_len (n := 1) xs49 h49
  obtain ⟨x50, xs51, rfl, h51⟩ := cons_of_len (n := 0) xs50 h50
  obtain rfl := List.eq_nil_of_length_eq_zero h51
  exact ⟨_, _, _, _, _, _, _, _, _, _, _, _, _, _, _, _, _, _, _, _, _, _, _, _, _, _, _, _, _, _, _, _, _, _, _, _, _, _, _, _, _, _, _, _, _, _, _, _, _, _, _, rfl⟩
set_option maxRecDepth 20000 in
set_option maxHeartbeats 4000000 in
theorem all_walk (op S0 T0 D0 A0 m s t hi lo : Int) (h1 : 0 ≤ s) (h2 : s < 4294967296) (h3 : 0 ≤ t) (h4 : t < 4294967296) (h5 : 0 ≤ m) (h6 : m < 4294967296) (h7 : 0 ≤ hi) (h8 : hi < 4294967296) (h9 : 0 ≤ lo) (h10 : lo < 4294967296) (w : World) :
    Calls Try.prog 3 #[.agg (insC op S0 T0 D0 A0 m), .int .u32 s, .int .u32 t, .int .u32 hi, .int .u32 lo] w fun e w' => e = .returned (.bool true) ∧ Below w.heap.size w w' := by
  go_enter Try.func3, Try.ntmps3
  go_upto_region 2 with fail
  generalize bits .and .i64 S0 31 = S
  generalize bits .and .i64 T0 31 = T
  generalize bits .and .i64 D0 31 = D
  generalize bits .and .i64 A0 31 = A
  have b0 := below_new w (.cells (insC op S T D A m) 24)
  have B0 := Blk.new w (insC op S T D A m) 24
  obtain ⟨x0, x1, x2, x3, x4, x5⟩ := insF B0
  generalize hw0 : w.alloc (.cells (insC op S T D A m) 24) = w0 at b0 B0 x0 x1 x2 x3 x4 x5 ⊢
  go_upto_region 6 with (first
    | (go_at_call 8; refine (reckon_any op S T D A m s t h1 h2 h3 h4 h5 h6 _).mono ?_; rintro e w1 ⟨rfl, b1⟩; have B1 := B0.later b1; obtain ⟨x0, x1, x2, x3, x4, x5⟩ := insF B1)
    | (go_at_call 9; refine (refReckon_any op S T D A m s t h1 h2 h3 h4 h5 h6 _).mono ?_; rintro e w2 ⟨rfl, b2⟩; have B2 := B1.later b2; obtain ⟨x0, x1, x2, x3, x4, x5⟩ := insF B2)
    | (go_at_call 10; refine (long_any op S T D A m s t hi lo h1 h2 h3 h4 h7 h8 h9 h10 _).mono ?_; rintro e w3 ⟨rfl, b3⟩; have B3 := B2.later b3; obtain ⟨x0, x1, x2, x3, x4, x5⟩ := insF B3)
    | (go_at_call 11; refine (refLong_any op S T D A m s t hi lo h1 h2 h3 h4 h7 h8 h9 h10 _).mono ?_; rintro e w4 ⟨rfl, b4⟩; have B4 := B3.later b4; obtain ⟨x0, x1, x2, x3, x4, x5⟩ := insF B4))
  have HI := hidden B4
  have HB := hidden (bthen (bthen (bthen (bthen b0 b1) b2) b3) b4)
  clear B0 B1 B2 B3 B4
  clear x0 x1 x2 x3 x4 x5
  refine wp_region_on later_below [67, 68, 69, 70, 71, 72, 73, 74, 75, 76, 77, 78, 79, 80, 81, 82, 83, 84, 85, 86, 87, 88, 89, 90, 91, 92, 93, 94, 95, 96, 97, 98, 99, 100, 101, 102, 103, 104, 105, 106, 107, 108, 109, 110, 111, 112, 113, 114, 115, 116, 10] 51 (phiA9 w.heap.size op S T D A m s t hi lo) (by kernel_rfl) (by kernel_rfl) rfl rfl (phiA9_mono w.heap.size op S T D A m s t hi lo) ?_ ?_
  · intro j hj xs w3 hxs hR hpre
    obtain ⟨x0, x1, x2, x3, x4, x5, x6, x7, x8, x9, x10, x11, x12, x13, x14, x15, x16, x17, x18, x19, x20, x21, x22, x23, x24, x25, x26, x27, x28, x29, x30, x31, x32, x33, x34, x35, x36, x37, x38, x39, x40, x41, x42, x43, x44, x45, x46, x47, x48, x49, x50, rfl⟩ := list51 xs hxs
    have hI : Blk w3 w.heap.size (insC op S T D A m) 24 := (Hid.out HI).later hR
    rcases (show j = 0 ∨ j = 1 ∨ j = 2 ∨ j = 3 ∨ j = 4 ∨ j = 5 ∨ j = 6 ∨ j = 7 ∨ j = 8 ∨ j = 9 ∨ j = 10 ∨ j = 11 ∨ j = 12 ∨ j = 13 ∨ j = 14 ∨ j = 15 ∨ j = 16 ∨ j = 17 ∨ j = 18 ∨ j = 19 ∨ j = 20 ∨ j = 21 ∨ j = 22 ∨ j = 23 ∨ j = 24 ∨ j = 25 ∨ j = 26 ∨ j = 27 ∨ j = 28 ∨ j = 29 ∨ j = 30 ∨ j = 31 ∨ j = 32 ∨ j = 33 ∨ j = 34 ∨ j = 35 ∨ j = 36 ∨ j = 37 ∨ j = 38 ∨ j = 39 ∨ j = 40 ∨ j = 41 ∨ j = 42 ∨ j = 43 ∨ j = 44 ∨ j = 45 ∨ j = 46 ∨ j = 47 ∨ j = 48 ∨ j = 49 ∨ j = 50 by omega) with rfl | rfl | rfl | rfl | rfl | rfl | rfl | rfl | rfl | rfl | rfl | rfl | rfl | rfl | rfl | rfl | rfl | rfl | rfl | rfl | rfl | rfl | rfl | rfl | rfl | rfl | rfl | rfl | rfl | rfl | rfl | rfl | rfl | rfl | rfl | rfl | rfl | rfl | rfl | rfl | rfl | rfl | rfl | rfl | rfl | rfl | rfl | rfl | rfl | rfl | rfl
    · exact wpOp_run (.int .u32 (reck op s t A m).1) rfl (by kernel_rfl) (exec_move rfl (by kernel_rfl) w3) ⟨_, by kernel_rfl, rfl, Below.refl _ _⟩
    · exact wpOp_run (.int .u32 (reck op s t A m).1) rfl (by kernel_rfl) (exec_move rfl (by kernel_rfl) w3) ⟨_, by kernel_rfl, rfl, Below.refl _ _⟩
    · have e0 : x0 = .int .u32 (reck op s t A m).1 := hpre 0 (by kernel_rfl)
      subst e0
      have e1 : x1 = .int .u32 (reck op s t A m).1 := hpre 1 (by kernel_rfl)
      subst e1
      exact wpOp_run (.bool true) rfl (by kernel_rfl) (exec_eql (n := (reck op s t A m).1) 22 rfl Try.underlying22 (by kernel_rfl) (by kernel_rfl) w3) ⟨_, by kernel_rfl, rfl, Below.refl _ _⟩
    · have e2 : x2 = .bool true := hpre 2 (by kernel_rfl)
      subst e2
      exact wpOp_run (.bool true) rfl (by kernel_rfl) (exec_move rfl (by kernel_rfl) w3) ⟨_, by kernel_rfl, rfl, Below.refl _ _⟩
    · have e3 : x3 = .bool true := hpre 3 (by kernel_rfl)
      subst e3
      exact wpOp_run (.bool (reck op s t A m).2) rfl (by kernel_rfl) (exec_move rfl (by kernel_rfl) w3) ⟨_, by kernel_rfl, rfl, Below.refl _ _⟩
    · have e3 : x3 = .bool true := hpre 3 (by kernel_rfl)
      subst e3
      exact wpOp_run (.bool (reck op s t A m).2) rfl (by kernel_rfl) (exec_move rfl (by kernel_rfl) w3) ⟨_, by kernel_rfl, rfl, Below.refl _ _⟩
    · have e3 : x3 = .bool true := hpre 3 (by kernel_rfl)
      subst e3
      have e4 : x4 = .bool (reck op s t A m).2 := hpre 4 (by kernel_rfl)
      subst e4
      have e5 : x5 = .bool (reck op s t A m).2 := hpre 5 (by kernel_rfl)
      subst e5
      exact wpOp_run (.bool true) rfl (by kernel_rfl) (exec_eqlB (b := (reck op s t A m).2) rfl (by kernel_rfl) (by kernel_rfl) w3) ⟨_, by kernel_rfl, rfl, Below.refl _ _⟩
    · have e3 : x3 = .bool true := hpre 3 (by kernel_rfl)
      subst e3
      have e6 : x6 = .bool true := hpre 6 (by kernel_rfl)
      subst e6
      exact wpOp_run (.bool true) rfl (by kernel_rfl) (by kernel_rfl) ⟨_, by kernel_rfl, rfl, Below.refl _ _⟩
    · have e7 : x7 = .bool true := hpre 7 (by kernel_rfl)
      subst e7
      exact wpOp_run (.bool true) rfl (by kernel_rfl) (exec_move rfl (by kernel_rfl) w3) ⟨_, by kernel_rfl, rfl, Below.refl _ _⟩
    · have e8 : x8 = .bool true := hpre 8 (by kernel_rfl)
      subst e8
      exact wpOp_run (.int .u32 (longV op s t hi lo).1) rfl (by kernel_rfl) (exec_move rfl (by kernel_rfl) w3) ⟨_, by kernel_rfl, rfl, Below.refl _ _⟩
    · have e8 : x8 = .bool true := hpre 8 (by kernel_rfl)
      subst e8
      exact wpOp_run (.int .u32 (longV op s t hi lo).1) rfl (by kernel_rfl) (exec_move rfl (by kernel_rfl) w3) ⟨_, by kernel_rfl, rfl, Below.refl _ _⟩
    · have e8 : x8 = .bool true := hpre 8 (by kernel_rfl)
      subst e8
      have e9 : x9 = .int .u32 (longV op s t hi lo).1 := hpre 9 (by kernel_rfl)
      subst e9
      have e10 : x10 = .int .u32 (longV op s t hi lo).1 := hpre 10 (by kernel_rfl)
      subst e10
      exact wpOp_run (.bool true) rfl (by kernel_rfl) (exec_eql (n := (longV op s t hi lo).1) 22 rfl Try.underlying22 (by kernel_rfl) (by kernel_rfl) w3) ⟨_, by kernel_rfl, rfl, Below.refl _ _⟩
    · have e8 : x8 = .bool true := hpre 8 (by kernel_rfl)
      subst e8
      have e11 : x11 = .bool true := hpre 11 (by kernel_rfl)
      subst e11
      exact wpOp_run (.bool true) rfl (by kernel_rfl) (by kernel_rfl) ⟨_, by kernel_rfl, rfl, Below.refl _ _⟩
    · have e12 : x12 = .bool true := hpre 12 (by kernel_rfl)
      subst e12
      exact wpOp_run (.bool true) rfl (by kernel_rfl) (exec_move rfl (by kernel_rfl) w3) ⟨_, by kernel_rfl, rfl, Below.refl _ _⟩
    · have e13 : x13 = .bool true := hpre 13 (by kernel_rfl)
      subst e13
      exact wpOp_run (.int .u32 (longV op s t hi lo).2) rfl (by kernel_rfl) (exec_move rfl (by kernel_rfl) w3) ⟨_, by kernel_rfl, rfl, Below.refl _ _⟩
    · have e13 : x13 = .bool true := hpre 13 (by kernel_rfl)
      subst e13
      exact wpOp_run (.int .u32 (longV op s t hi lo).2) rfl (by kernel_rfl) (exec_move rfl (by kernel_rfl) w3) ⟨_, by kernel_rfl, rfl, Below.refl _ _⟩
    · have e13 : x13 = .bool true := hpre 13 (by kernel_rfl)
      subst e13
      have e14 : x14 = .int .u32 (longV op s t hi lo).2 := hpre 14 (by kernel_rfl)
      subst e14
      have e15 : x15 = .int .u32 (longV op s t hi lo).2 := hpre 15 (by kernel_rfl)
      subst e15
      exact wpOp_run (.bool true) rfl (by kernel_rfl) (exec_eql (n := (longV op s t hi lo).2) 22 rfl Try.underlying22 (by kernel_rfl) (by kernel_rfl) w3) ⟨_, by kernel_rfl, rfl, Below.refl _ _⟩
    · have e13 : x13 = .bool true := hpre 13 (by kernel_rfl)
      subst e13
      have e16 : x16 = .bool true := hpre 16 (by kernel_rfl)
      subst e16
      exact wpOp_run (.bool true) rfl (by kernel_rfl) (by kernel_rfl) ⟨_, by kernel_rfl, rfl, Below.refl _ _⟩
    · have e17 : x17 = .bool true := hpre 17 (by kernel_rfl)
      subst e17
      exact wpOp_run (.bool true) rfl (by kernel_rfl) (exec_move rfl (by kernel_rfl) w3) ⟨_, by kernel_rfl, rfl, Below.refl _ _⟩
    · have e18 : x18 = .bool true := hpre 18 (by kernel_rfl)
      subst e18
      exact wpOp_run (.agg (insC op S T D A m)) rfl (by kernel_rfl) (exec_load 24 rfl (by kernel_rfl) w3 (load24 hI)) ⟨_, by kernel_rfl, rfl, Below.refl _ _⟩
    · have e18 : x18 = .bool true := hpre 18 (by kernel_rfl)
      subst e18
      exact wpOp_run (.int .u32 s) rfl (by kernel_rfl) (exec_move rfl (by kernel_rfl) w3) ⟨_, by kernel_rfl, rfl, Below.refl _ _⟩
    · have e18 : x18 = .bool true := hpre 18 (by kernel_rfl)
      subst e18
      exact wpOp_run (.int .u32 t) rfl (by kernel_rfl) (exec_move rfl (by kernel_rfl) w3) ⟨_, by kernel_rfl, rfl, Below.refl _ _⟩
    · have e18 : x18 = .bool true := hpre 18 (by kernel_rfl)
      subst e18
      have e19 : x19 = .agg (insC op S T D A m) := hpre 19 (by kernel_rfl)
      subst e19
      have e20 : x20 = .int .u32 s := hpre 20 (by kernel_rfl)
      subst e20
      have e21 : x21 = .int .u32 t := hpre 21 (by kernel_rfl)
      subst e21
      refine wpOp_callR (R := fun u w4 => u = .bool (trapB op s t m) ∧ Below w3.heap.size w3 w4) 12 #[.agg (insC op S T D A m), .int .u32 s, .int .u32 t] rfl (by kernel_rfl) (by kernel_rfl) ((traps_any op S T D A m s t h1 h2 h3 h4 h5 h6 w3).mono fun e w4 ⟨he, hb⟩ => ⟨_, he, rfl, hb⟩) ?_
      rintro _ w4 ⟨rfl, hb⟩
      exact ⟨_, by kernel_rfl, rfl, hb⟩
    · have e18 : x18 = .bool true := hpre 18 (by kernel_rfl)
      subst e18
      exact wpOp_run (.agg (insC op S T D A m)) rfl (by kernel_rfl) (exec_load 24 rfl (by kernel_rfl) w3 (load24 hI)) ⟨_, by kernel_rfl, rfl, Below.refl _ _⟩
    · have e18 : x18 = .bool true := hpre 18 (by kernel_rfl)
      subst e18
      exact wpOp_run (.int .u32 s) rfl (by kernel_rfl) (exec_move rfl (by kernel_rfl) w3) ⟨_, by kernel_rfl, rfl, Below.refl _ _⟩
    · have e18 : x18 = .bool true := hpre 18 (by kernel_rfl)
      subst e18
      exact wpOp_run (.int .u32 t) rfl (by kernel_rfl) (exec_move rfl (by kernel_rfl) w3) ⟨_, by kernel_rfl, rfl, Below.refl _ _⟩
    · have e18 : x18 = .bool true := hpre 18 (by kernel_rfl)
      subst e18
      have e23 : x23 = .agg (insC op S T D A m) := hpre 23 (by kernel_rfl)
      subst e23
      have e24 : x24 = .int .u32 s := hpre 24 (by kernel_rfl)
      subst e24
      have e25 : x25 = .int .u32 t := hpre 25 (by kernel_rfl)
      subst e25
      refine wpOp_callR (R := fun u w4 => u = .bool (trapB op s t m) ∧ Below w3.heap.size w3 w4) 13 #[.agg (insC op S T D A m), .int .u32 s, .int .u32 t] rfl (by kernel_rfl) (by kernel_rfl) ((refTraps_any op S T D A m s t h1 h2 h3 h4 h5 h6 w3).mono fun e w4 ⟨he, hb⟩ => ⟨_, he, rfl, hb⟩) ?_
      rintro _ w4 ⟨rfl, hb⟩
      exact ⟨_, by kernel_rfl, rfl, hb⟩
    · have e18 : x18 = .bool true := hpre 18 (by kernel_rfl)
      subst e18
      have e22 : x22 = .bool (trapB op s t m) := hpre 22 (by kernel_rfl)
      subst e22
      have e26 : x26 = .bool (trapB op s t m) := hpre 26 (by kernel_rfl)
      subst e26
      exact wpOp_run (.bool true) rfl (by kernel_rfl) (exec_eqlB (b := (trapB op s t m)) rfl (by kernel_rfl) (by kernel_rfl) w3) ⟨_, by kernel_rfl, rfl, Below.refl _ _⟩
    · have e18 : x18 = .bool true := hpre 18 (by kernel_rfl)
      subst e18
      have e27 : x27 = .bool true := hpre 27 (by kernel_rfl)
      subst e27
      exact wpOp_run (.bool true) rfl (by kernel_rfl) (by kernel_rfl) ⟨_, by kernel_rfl, rfl, Below.refl _ _⟩
    · have e28 : x28 = .bool true := hpre 28 (by kernel_rfl)
      subst e28
      exact wpOp_run (.bool true) rfl (by kernel_rfl) (exec_move rfl (by kernel_rfl) w3) ⟨_, by kernel_rfl, rfl, Below.refl _ _⟩
    · have e29 : x29 = .bool true := hpre 29 (by kernel_rfl)
      subst e29
      exact wpOp_run (.agg (insC op S T D A m)) rfl (by kernel_rfl) (exec_load 24 rfl (by kernel_rfl) w3 (load24 hI)) ⟨_, by kernel_rfl, rfl, Below.refl _ _⟩
    · have e29 : x29 = .bool true := hpre 29 (by kernel_rfl)
      subst e29
      exact wpOp_run (.int .u32 s) rfl (by kernel_rfl) (exec_move rfl (by kernel_rfl) w3) ⟨_, by kernel_rfl, rfl, Below.refl _ _⟩
    · have e29 : x29 = .bool true := hpre 29 (by kernel_rfl)
      subst e29
      exact wpOp_run (.int .u32 t) rfl (by kernel_rfl) (exec_move rfl (by kernel_rfl) w3) ⟨_, by kernel_rfl, rfl, Below.refl _ _⟩
    · have e29 : x29 = .bool true := hpre 29 (by kernel_rfl)
      subst e29
      have e30 : x30 = .agg (insC op S T D A m) := hpre 30 (by kernel_rfl)
      subst e30
      have e31 : x31 = .int .u32 s := hpre 31 (by kernel_rfl)
      subst e31
      have e32 : x32 = .int .u32 t := hpre 32 (by kernel_rfl)
      subst e32
      refine wpOp_callR (R := fun u w4 => u = .bool (takeB op s t m) ∧ Below w3.heap.size w3 w4) 14 #[.agg (insC op S T D A m), .int .u32 s, .int .u32 t] rfl (by kernel_rfl) (by kernel_rfl) ((takes_any op S T D A m s t h1 h2 h3 h4 h5 h6 w3).mono fun e w4 ⟨he, hb⟩ => ⟨_, he, rfl, hb⟩) ?_
      rintro _ w4 ⟨rfl, hb⟩
      exact ⟨_, by kernel_rfl, rfl, hb⟩
    · have e29 : x29 = .bool true := hpre 29 (by kernel_rfl)
      subst e29
      exact wpOp_run (.agg (insC op S T D A m)) rfl (by kernel_rfl) (exec_load 24 rfl (by kernel_rfl) w3 (load24 hI)) ⟨_, by kernel_rfl, rfl, Below.refl _ _⟩
    · have e29 : x29 = .bool true := hpre 29 (by kernel_rfl)
      subst e29
      exact wpOp_run (.int .u32 s) rfl (by kernel_rfl) (exec_move rfl (by kernel_rfl) w3) ⟨_, by kernel_rfl, rfl, Below.refl _ _⟩
    · have e29 : x29 = .bool true := hpre 29 (by kernel_rfl)
      subst e29
      exact wpOp_run (.int .u32 t) rfl (by kernel_rfl) (exec_move rfl (by kernel_rfl) w3) ⟨_, by kernel_rfl, rfl, Below.refl _ _⟩
    · have e29 : x29 = .bool true := hpre 29 (by kernel_rfl)
      subst e29
      have e34 : x34 = .agg (insC op S T D A m) := hpre 34 (by kernel_rfl)
      subst e34
      have e35 : x35 = .int .u32 s := hpre 35 (by kernel_rfl)
      subst e35
      have e36 : x36 = .int .u32 t := hpre 36 (by kernel_rfl)
      subst e36
      refine wpOp_callR (R := fun u w4 => u = .bool (takeB op s t m) ∧ Below w3.heap.size w3 w4) 15 #[.agg (insC op S T D A m), .int .u32 s, .int .u32 t] rfl (by kernel_rfl) (by kernel_rfl) ((refTakes_any op S T D A m s t h1 h2 h3 h4 h5 h6 w3).mono fun e w4 ⟨he, hb⟩ => ⟨_, he, rfl, hb⟩) ?_
      rintro _ w4 ⟨rfl, hb⟩
      exact ⟨_, by kernel_rfl, rfl, hb⟩
    · have e29 : x29 = .bool true := hpre 29 (by kernel_rfl)
      subst e29
      have e33 : x33 = .bool (takeB op s t m) := hpre 33 (by kernel_rfl)
      subst e33
      have e37 : x37 = .bool (takeB op s t m) := hpre 37 (by kernel_rfl)
      subst e37
      exact wpOp_run (.bool true) rfl (by kernel_rfl) (exec_eqlB (b := (takeB op s t m)) rfl (by kernel_rfl) (by kernel_rfl) w3) ⟨_, by kernel_rfl, rfl, Below.refl _ _⟩
    · have e29 : x29 = .bool true := hpre 29 (by kernel_rfl)
      subst e29
      have e38 : x38 = .bool true := hpre 38 (by kernel_rfl)
      subst e38
      exact wpOp_run (.bool true) rfl (by kernel_rfl) (by kernel_rfl) ⟨_, by kernel_rfl, rfl, Below.refl _ _⟩
    · have e39 : x39 = .bool true := hpre 39 (by kernel_rfl)
      subst e39
      exact wpOp_run (.bool true) rfl (by kernel_rfl) (exec_move rfl (by kernel_rfl) w3) ⟨_, by kernel_rfl, rfl, Below.refl _ _⟩
    · have e40 : x40 = .bool true := hpre 40 (by kernel_rfl)
      subst e40
      exact wpOp_run (.agg (insC op S T D A m)) rfl (by kernel_rfl) (exec_load 24 rfl (by kernel_rfl) w3 (load24 hI)) ⟨_, by kernel_rfl, rfl, Below.refl _ _⟩
    · have e40 : x40 = .bool true := hpre 40 (by kernel_rfl)
      subst e40
      have e41 : x41 = .agg (insC op S T D A m) := hpre 41 (by kernel_rfl)
      subst e41
      refine wpOp_callR (R := fun u w4 => u = .int .i64 (writeV op T D) ∧ Below w3.heap.size w3 w4) 16 #[.agg (insC op S T D A m)] rfl (by kernel_rfl) (by kernel_rfl) ((writes_any op S T D A m w3).mono fun e w4 ⟨he, hb⟩ => ⟨_, he, rfl, hb⟩) ?_
      rintro _ w4 ⟨rfl, hb⟩
      exact ⟨_, by kernel_rfl, rfl, hb⟩
    · have e40 : x40 = .bool true := hpre 40 (by kernel_rfl)
      subst e40
      exact wpOp_run (.agg (insC op S T D A m)) rfl (by kernel_rfl) (exec_load 24 rfl (by kernel_rfl) w3 (load24 hI)) ⟨_, by kernel_rfl, rfl, Below.refl _ _⟩
    · have e40 : x40 = .bool true := hpre 40 (by kernel_rfl)
      subst e40
      have e43 : x43 = .agg (insC op S T D A m) := hpre 43 (by kernel_rfl)
      subst e43
      refine wpOp_callR (R := fun u w4 => u = .int .i64 (writeV op T D) ∧ Below w3.heap.size w3 w4) 17 #[.agg (insC op S T D A m)] rfl (by kernel_rfl) (by kernel_rfl) ((refWrites_any op S T D A m w3).mono fun e w4 ⟨he, hb⟩ => ⟨_, he, rfl, hb⟩) ?_
      rintro _ w4 ⟨rfl, hb⟩
      exact ⟨_, by kernel_rfl, rfl, hb⟩
    · have e40 : x40 = .bool true := hpre 40 (by kernel_rfl)
      subst e40
      have e42 : x42 = .int .i64 (writeV op T D) := hpre 42 (by kernel_rfl)
      subst e42
      have e44 : x44 = .int .i64 (writeV op T D) := hpre 44 (by kernel_rfl)
      subst e44
      exact wpOp_run (.bool true) rfl (by kernel_rfl) (exec_eql (n := (writeV op T D)) 3 rfl Try.underlying3 (by kernel_rfl) (by kernel_rfl) w3) ⟨_, by kernel_rfl, rfl, Below.refl _ _⟩
    · have e40 : x40 = .bool true := hpre 40 (by kernel_rfl)
      subst e40
      have e45 : x45 = .bool true := hpre 45 (by kernel_rfl)
      subst e45
      exact wpOp_run (.bool true) rfl (by kernel_rfl) (by kernel_rfl) ⟨_, by kernel_rfl, rfl, Below.refl _ _⟩
    · have e46 : x46 = .bool true := hpre 46 (by kernel_rfl)
      subst e46
      exact wpOp_run (.bool true) rfl (by kernel_rfl) (exec_move rfl (by kernel_rfl) w3) ⟨_, by kernel_rfl, rfl, Below.refl _ _⟩
    · have e47 : x47 = .bool true := hpre 47 (by kernel_rfl)
      subst e47
      refine wpOp_callR (R := fun u w4 => u = .bool true ∧ Below w3.heap.size w3 w4) 18 #[] rfl (by kernel_rfl) (by kernel_rfl) ((awake9_any w3).mono fun e w4 ⟨he, hb⟩ => ⟨_, he, rfl, hb⟩) ?_
      rintro _ w4 ⟨rfl, hb⟩
      exact ⟨_, by kernel_rfl, rfl, hb⟩
    · have e47 : x47 = .bool true := hpre 47 (by kernel_rfl)
      subst e47
      have e48 : x48 = .bool true := hpre 48 (by kernel_rfl)
      subst e48
      exact wpOp_run (.bool true) rfl (by kernel_rfl) (by kernel_rfl) ⟨_, by kernel_rfl, rfl, Below.refl _ _⟩
    · have e49 : x49 = .bool true := hpre 49 (by kernel_rfl)
      subst e49
      exact wpOp_run (.bool true) rfl (by kernel_rfl) (by kernel_rfl) ⟨_, by kernel_rfl, rfl, Below.refl _ _⟩
  · intro xs w3 hxs hR hall
    obtain ⟨x0, x1, x2, x3, x4, x5, x6, x7, x8, x9, x10, x11, x12, x13, x14, x15, x16, x17, x18, x19, x20, x21, x22, x23, x24, x25, x26, x27, x28, x29, x30, x31, x32, x33, x34, x35, x36, x37, x38, x39, x40, x41, x42, x43, x44, x45, x46, x47, x48, x49, x50, rfl⟩ := list51 xs hxs
    have e50 : x50 = .bool true := hall 50 (by omega)
    subst e50
    have HR := hidden hR
    clear hall hR hxs
    simp only [slotsOn, putAll, List.set_cons_succ, List.set_cons_zero]
    go_wp2
    go_ret
    exact ⟨rfl, (Hid.out HB).trans ((Hid.out HR).mono (Hid.out HB).size)⟩
end Go.Proofs.Ytlheilpaafjeiaa
