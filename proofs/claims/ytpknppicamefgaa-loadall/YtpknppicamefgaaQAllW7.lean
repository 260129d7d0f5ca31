/- LoadAll, walked. -/
import Derived.Test.YtpknppicamefgaaQMBC
import Derived.Test.YtpknppicamefgaaQMBD
import Derived.Test.YtpknppicamefgaaQMBK
import Derived.Test.YtpknppicamefgaaQMBL
import Derived.Deep.CutBlock
namespace Go.Proofs.Ytpknppicamefgaa
open Go.ChangeShapes Go.WideShapes Go.ChangeAt Go.RowKit
set_option linter.unusedVariables false
theorem load25 {w : World} {g : Nat} {a b : Value} (hg : Blk w g #[a, b] 25) : (loadVar 25 ⟨g, 0, none⟩).run Try.prog w = .ok (.agg #[a, b]) w :=
  run_loadVar_row w g 25 25 _ _ _ hg Try.underlying25 rfl (by kernel_rfl)
theorem sameMem_to (w : World) (s : MS) (t : S5) (mb : Nat) (hs : MemW w s) (ht : M5 w t) (hm : t.m = mb) (hS : Sim s t.l) : Calls Try.prog 12 #[.pointer (some ⟨s.mb, 0, none⟩), .pointer (some ⟨mb, 0, none⟩)] w fun e w' => e = .returned (.bool true) ∧ Below w.heap.size w w' := by
  subst hm
  exact sameMem_any w s t hs ht hS
/-- A file in memory, and its box. -/
structure FS (w : World) (n : Nat) (ao : Option Addr) (cap ent : Nat) (l : List Sg) : Prop where
  segs : Segs w ao l
  box : Blk w n #[.int .u32 (ent : Int), .slice ao l.length cap] 25
theorem FS.later {w w' : World} {n : Nat} {ao : Option Addr} {cap ent : Nat} {l : List Sg} (h : FS w n ao cap ent l) (hb : Below w.heap.size w w') : FS w' n ao cap ent l := ⟨h.segs.later hb, h.box.later hb⟩
theorem FS.c0 {w : World} {n : Nat} {ao : Option Addr} {cap ent : Nat} {l : List Sg} (h : FS w n ao cap ent l) : w.cell? ⟨n, 0, none⟩ = some (.int .u32 (ent : Int)) ∧ w.cell? ⟨n, 1, none⟩ = some (.slice ao l.length cap) := ⟨h.box.cell rfl, h.box.cell rfl⟩
theorem put_later {w2 w3 w4 : World} (b : Below w2.heap.size w2 w3) (o : Only w2.heap.size w3 w4) : Below w2.heap.size w2 w4 := only_below b o (Nat.le_refl _)
/-- What the slots of the region hold, whatever the order. -/
def phiA7N (nb g6 g9 cap ent : Nat) (ao : Option Addr) (l : List Sg) : Nat → Value → World → Prop
  | 0, x, _ => x = .int .i64 (errX ent l)
  | 1, x, _ => x = .int .i64 (errX ent l)
  | 2, x, _ => x = .bool true
  | 3, x, _ => x = .bool true
  | 4, x, _ => x = .agg (stC 0 0 0)
  | 5, x, _ => x = .agg (stC 0 0 0)
  | 6, x, _ => x = .bool true
  | 7, x, _ => x = .bool true
  | 8, x, _ => x = .bool true
  | 9, x, _ => x = .pointer none
  | 10, x, _ => x = .pointer none
  | 11, x, _ => x = .bool true
  | 12, x, _ => x = .bool true
  | 13, x, _ => x = .bool true
  | 14, x, _ => x = .agg #[.int .u32 (ent : Int), .slice ao l.length cap]
  | 15, x, _ => x = .int .u32 (digE ent l : Int)
  | 16, x, _ => x = .agg #[.int .u32 (ent : Int), .slice ao l.length cap]
  | 17, x, _ => x = .int .u32 (digE ent l : Int)
  | 18, x, _ => x = .bool true
  | 19, x, _ => x = .bool true
  | 20, x, _ => x = .bool true
  | 21, x, _ => x = .bool true
  | 22, x, _ => x = .bool true
  | 23, x, _ => x = .bool true
  | _ + 24, _, _ => True
theorem phiA7N_mono (nb g6 g9 cap ent : Nat) (ao : Option Addr) (l : List Sg) : ∀ i x w w', phiA7N nb g6 g9 cap ent ao l i x w → Below w.heap.size w w' → phiA7N nb g6 g9 cap ent ao l i x w'
  | 0, _, _, _, h, _ => h
  | 1, _, _, _, h, _ => h
  | 2, _, _, _, h, _ => h
  | 3, _, _, _, h, _ => h
  | 4, _, _, _, h, _ => h
  | 5, _, _, _, h, _ => h
  | 6, _, _, _, h, _ => h
  | 7, _, _, _, h, _ => h
  | 8, _, _, _, h, _ => h
  | 9, _, _, _, h, _ => h
  | 10, _, _, _, h, _ => h
  | 11, _, _, _, h, _ => h
  | 12, _, _, _, h, _ => h
  | 13, _, _, _, h, _ => h
  | 14, _, _, _, h, _ => h
  | 15, _, _, _, h, _ => h
  | 16, _, _, _, h, _ => h
  | 17, _, _, _, h, _ => h
  | 18, _, _, _, h, _ => h
  | 19, _, _, _, h, _ => h
  | 20, _, _, _, h, _ => h
  | 21, _, _, _, h, _ => h
  | 22, _, _, _, h, _ => h
  | 23, _, _, _, h, _ => h
  | _ + 24, _, _, _, _, _ => trivial
theorem list24 : ∀ xs : List Value, xs.length = 24 → ∃ x0 x1 x2 x3 x4 x5 x6 x7 x8 x9 x10 x11 x12 x13 x14 x15 x16 x17 x18 x19 x20 x21 x22 x23, xs = [x0, x1, x2, x3, x4, x5, x6, x7, x8, x9, x10, x11, x12, x13, x14, x15, x16, x17, x18, x19, x20, x21, x22, x23]
  | [x0, x1, x2, x3, x4, x5, x6, x7, x8, x9, x10, x11, x12, x13, x14, x15, x16, x17, x18, x19, x20, x21, x22, x23], _ => ⟨_, _, _, _, _, _, _, _, _, _, _, _, _, _, _, _, _, _, _, _, _, _, _, _, rfl⟩
set_option maxRecDepth 20000 in
set_option maxHeartbeats 4000000 in
theorem all7_N (w : World) (ao : Option Addr) (cap ent : Nat) (l : List Sg) (z : Int) (h : Segs w ao l) (hcap : l.length ≤ cap) (hmax : cap ≤ 9223372036854775807) (he : ent < 4294967296) (hfew : fewB l = true) (hb : Hid (checkE ent l ≠ 0 ∨ allKs (cutMost z) l = none)) : Calls Try.prog 3 #[.agg #[.int .u32 (ent : Int), .slice ao l.length cap], .int .i64 z] w fun e w' => e = .returned (.bool true) ∧ Below w.heap.size w w' := by
  have b0 := below_new w (.cells #[.int .u32 (ent : Int), .slice ao l.length cap] 25)
  have f0 : FS (w.alloc (.cells #[.int .u32 (ent : Int), .slice ao l.length cap] 25)) w.heap.size ao cap ent l := ⟨h.later b0, Blk.new w _ _⟩
  have HF0 := hidden f0
  have HB0 := hidden b0
  have T1 : Hid True := trivial
  have T2 : Hid True := trivial
  have T3 : Hid True := trivial
  have T4 : Hid True := trivial
  clear f0 b0 h
  obtain ⟨nb, hnb⟩ : ∃ nb, w.heap.size = nb := ⟨_, rfl⟩
  rw [hnb] at HF0
  go_enter Try.func3, Try.ntmps3
  rw [hnb]
  go_upto_region 5 with (first
    | (go_at_call 7; refine (fewFile_any _ ao cap ent l (Hid.out HF0).segs hcap hmax).mono ?_; rintro e w1 ⟨rfl, b1⟩; have HF1 := hidden ((Hid.out HF0).later b1); obtain ⟨p0, p1⟩ := (Hid.out HF1).c0; have HB1 := hidden (bthen (Hid.out HB0) b1); clear b1)
    | (go_at_call 9; refine (loadN _ ao cap ent l z (Hid.out HF1).segs hcap hmax he (Hid.out hb)).mono ?_; rintro e w2 ⟨rfl, b2⟩; have HF2 := hidden ((Hid.out HF1).later b2); have HB2 := hidden (bthen (Hid.out HB1) b2); clear b2)
    | (clear T1; refine wpList_allocSt rfl rfl ?_; rintro w3 k3 s3 b3; have HK3 := hidden k3; have HA3 := hidden b3; clear k3 s3 b3)
    | (clear T2; refine wpList_storeSt rfl _ _ rfl w2.heap.size (stC 0 0 0) rfl rfl (stC 0 0 0) (Hid.out HK3) (stC_size _ _ _) (stC_size _ _ _) (stC_one _ _ _) ?_; rintro w4 k4 o4; have b4 := put_later (Hid.out HA3) o4; have HG4 := hidden k4; have HF4 := hidden ((Hid.out HF2).later b4); obtain ⟨q0, q1⟩ := (Hid.out HF4).c0; have HB4 := hidden (bthen (Hid.out HB2) b4); have HA4 := hidden b4; clear k4 o4 b4)
    | (go_at_call 10; refine (rloadN _ ao cap ent l z (Hid.out HF4).segs hcap hmax he (Hid.out hb)).mono ?_; rintro e w5 ⟨rfl, b5⟩; have HF5 := hidden ((Hid.out HF4).later b5); have HB5 := hidden (bthen (Hid.out HB4) b5); have HG5 := hidden ((Hid.out HG4).later b5); clear b5)
    | (clear T3; refine wpList_allocSt rfl rfl ?_; rintro w6 k6 s6 b6; have HK6 := hidden k6; have HA6 := hidden b6; clear k6 s6 b6)
    | (clear T4; refine wpList_storeSt rfl _ _ rfl w5.heap.size (stC 0 0 0) rfl rfl (stC 0 0 0) (Hid.out HK6) (stC_size _ _ _) (stC_size _ _ _) (stC_one _ _ _) ?_; rintro w7 k7 o7; have HA7 := hidden (put_later (Hid.out HA6) o7); have HG7 := hidden k7; clear k7 o7))
  have FS7 := hidden ((Hid.out HF5).later (Hid.out HA7))
  have BB := hidden (bthen (Hid.out HB5) (Hid.out HA7))
  have G6 := hidden ((Hid.out HG5).later (Hid.out HA7))
  have G9 := HG7
  generalize w2.heap.size = g6 at G6 ⊢
  generalize w5.heap.size = g9 at G9 ⊢
  refine wp_region_on later_below [29, 30, 31, 32, 33, 34, 35, 36, 37, 38, 39, 40, 41, 42, 43, 44, 45, 46, 47, 48, 49, 50, 51, 4] 24 (phiA7N nb g6 g9 cap ent ao l) (by kernel_rfl) (by kernel_rfl) rfl rfl (phiA7N_mono nb g6 g9 cap ent ao l) ?_ ?_
  · intro j hj xs w3 hxs hR hpre
    obtain ⟨x0, x1, x2, x3, x4, x5, x6, x7, x8, x9, x10, x11, x12, x13, x14, x15, x16, x17, x18, x19, x20, x21, x22, x23, rfl⟩ := list24 xs hxs
    have hG6 : Blk w3 g6 (stC 0 0 0) 31 := (Hid.out G6).later hR
    have hG9 : Blk w3 g9 (stC 0 0 0) 31 := (Hid.out G9).later hR
    have hF := (Hid.out FS7).later hR
    have hF3 := hF.box
    have hS3 := hF.segs
    rcases (show j = 0 ∨ j = 1 ∨ j = 2 ∨ j = 3 ∨ j = 4 ∨ j = 5 ∨ j = 6 ∨ j = 7 ∨ j = 8 ∨ j = 9 ∨ j = 10 ∨ j = 11 ∨ j = 12 ∨ j = 13 ∨ j = 14 ∨ j = 15 ∨ j = 16 ∨ j = 17 ∨ j = 18 ∨ j = 19 ∨ j = 20 ∨ j = 21 ∨ j = 22 ∨ j = 23 by omega) with rfl | rfl | rfl | rfl | rfl | rfl | rfl | rfl | rfl | rfl | rfl | rfl | rfl | rfl | rfl | rfl | rfl | rfl | rfl | rfl | rfl | rfl | rfl | rfl
    · exact wpOp_run (.int .i64 (errX ent l)) rfl (by kernel_rfl) (exec_move rfl (by kernel_rfl) w3) ⟨_, by kernel_rfl, rfl, Below.refl _ _⟩
    · exact wpOp_run (.int .i64 (errX ent l)) rfl (by kernel_rfl) (exec_move rfl (by kernel_rfl) w3) ⟨_, by kernel_rfl, rfl, Below.refl _ _⟩
    · have e0 : x0 = .int .i64 (errX ent l) := hpre 0 (by kernel_rfl)
      subst e0
      have e1 : x1 = .int .i64 (errX ent l) := hpre 1 (by kernel_rfl)
      subst e1
      exact wpOp_run (.bool true) rfl (by kernel_rfl) (exec_eql (n := (errX ent l)) 32 rfl Try.underlying32 (by kernel_rfl) (by kernel_rfl) w3) ⟨_, by kernel_rfl, rfl, Below.refl _ _⟩
    · have e2 : x2 = .bool true := hpre 2 (by kernel_rfl)
      subst e2
      exact wpOp_run (.bool true) rfl (by kernel_rfl) (exec_move rfl (by kernel_rfl) w3) ⟨_, by kernel_rfl, rfl, Below.refl _ _⟩
    · have e3 : x3 = .bool true := hpre 3 (by kernel_rfl)
      subst e3
      exact wpOp_run (.agg (stC 0 0 0)) rfl (by kernel_rfl) (exec_load 31 rfl (by kernel_rfl) w3 (load31 hG6)) ⟨_, by kernel_rfl, rfl, Below.refl _ _⟩
    · have e3 : x3 = .bool true := hpre 3 (by kernel_rfl)
      subst e3
      exact wpOp_run (.agg (stC 0 0 0)) rfl (by kernel_rfl) (exec_load 31 rfl (by kernel_rfl) w3 (load31 hG9)) ⟨_, by kernel_rfl, rfl, Below.refl _ _⟩
    · have e3 : x3 = .bool true := hpre 3 (by kernel_rfl)
      subst e3
      have e4 : x4 = .agg (stC 0 0 0) := hpre 4 (by kernel_rfl)
      subst e4
      have e5 : x5 = .agg (stC 0 0 0) := hpre 5 (by kernel_rfl)
      subst e5
      refine wpOp_callR (R := fun u w4 => u = .bool true ∧ Below w3.heap.size w3 w4) 11 #[.agg (stC 0 0 0), .agg (stC 0 0 0)] rfl (by kernel_rfl) (by kernel_rfl) ((sameState_zero w3).mono fun e w4 ⟨he, hb⟩ => ⟨_, he, rfl, hb⟩) ?_
      rintro _ w4 ⟨rfl, hb⟩
      exact ⟨_, by kernel_rfl, rfl, hb⟩
    · have e3 : x3 = .bool true := hpre 3 (by kernel_rfl)
      subst e3
      have e6 : x6 = .bool true := hpre 6 (by kernel_rfl)
      subst e6
      exact wpOp_run (.bool true) rfl (by kernel_rfl) (by kernel_rfl) ⟨_, by kernel_rfl, rfl, Below.refl _ _⟩
    · have e7 : x7 = .bool true := hpre 7 (by kernel_rfl)
      subst e7
      exact wpOp_run (.bool true) rfl (by kernel_rfl) (exec_move rfl (by kernel_rfl) w3) ⟨_, by kernel_rfl, rfl, Below.refl _ _⟩
    · have e8 : x8 = .bool true := hpre 8 (by kernel_rfl)
      subst e8
      exact wpOp_run (.pointer none) rfl (by kernel_rfl) (exec_move rfl (by kernel_rfl) w3) ⟨_, by kernel_rfl, rfl, Below.refl _ _⟩
    · have e8 : x8 = .bool true := hpre 8 (by kernel_rfl)
      subst e8
      exact wpOp_run (.pointer none) rfl (by kernel_rfl) (exec_move rfl (by kernel_rfl) w3) ⟨_, by kernel_rfl, rfl, Below.refl _ _⟩
    · have e8 : x8 = .bool true := hpre 8 (by kernel_rfl)
      subst e8
      have e9 : x9 = .pointer none := hpre 9 (by kernel_rfl)
      subst e9
      have e10 : x10 = .pointer none := hpre 10 (by kernel_rfl)
      subst e10
      refine wpOp_callR (R := fun u w4 => u = .bool true ∧ Below w3.heap.size w3 w4) 12 #[.pointer none, .pointer none] rfl (by kernel_rfl) (by kernel_rfl) ((sameMem_nil w3).mono fun e w4 ⟨he, hb⟩ => ⟨_, he, rfl, hb⟩) ?_
      rintro _ w4 ⟨rfl, hb⟩
      exact ⟨_, by kernel_rfl, rfl, hb⟩
    · have e8 : x8 = .bool true := hpre 8 (by kernel_rfl)
      subst e8
      have e11 : x11 = .bool true := hpre 11 (by kernel_rfl)
      subst e11
      exact wpOp_run (.bool true) rfl (by kernel_rfl) (by kernel_rfl) ⟨_, by kernel_rfl, rfl, Below.refl _ _⟩
    · have e12 : x12 = .bool true := hpre 12 (by kernel_rfl)
      subst e12
      exact wpOp_run (.bool true) rfl (by kernel_rfl) (exec_move rfl (by kernel_rfl) w3) ⟨_, by kernel_rfl, rfl, Below.refl _ _⟩
    · have e13 : x13 = .bool true := hpre 13 (by kernel_rfl)
      subst e13
      exact wpOp_run (.agg #[.int .u32 (ent : Int), .slice ao l.length cap]) rfl (by kernel_rfl) (exec_load 25 rfl (by kernel_rfl) w3 (load25 hF3)) ⟨_, by kernel_rfl, rfl, Below.refl _ _⟩
    · have e13 : x13 = .bool true := hpre 13 (by kernel_rfl)
      subst e13
      have e14 : x14 = .agg #[.int .u32 (ent : Int), .slice ao l.length cap] := hpre 14 (by kernel_rfl)
      subst e14
      refine wpOp_callR (R := fun u w4 => u = .int .u32 (digE ent l : Int) ∧ Below w3.heap.size w3 w4) 13 #[.agg #[.int .u32 (ent : Int), .slice ao l.length cap]] rfl (by kernel_rfl) (by kernel_rfl) ((digest_any w3 ao cap ent l hS3 hcap hmax he).mono fun e w4 ⟨he, hb⟩ => ⟨_, he, rfl, hb⟩) ?_
      rintro _ w4 ⟨rfl, hb⟩
      exact ⟨_, by kernel_rfl, rfl, hb⟩
    · have e13 : x13 = .bool true := hpre 13 (by kernel_rfl)
      subst e13
      exact wpOp_run (.agg #[.int .u32 (ent : Int), .slice ao l.length cap]) rfl (by kernel_rfl) (exec_load 25 rfl (by kernel_rfl) w3 (load25 hF3)) ⟨_, by kernel_rfl, rfl, Below.refl _ _⟩
    · have e13 : x13 = .bool true := hpre 13 (by kernel_rfl)
      subst e13
      have e16 : x16 = .agg #[.int .u32 (ent : Int), .slice ao l.length cap] := hpre 16 (by kernel_rfl)
      subst e16
      refine wpOp_callR (R := fun u w4 => u = .int .u32 (digE ent l : Int) ∧ Below w3.heap.size w3 w4) 14 #[.agg #[.int .u32 (ent : Int), .slice ao l.length cap]] rfl (by kernel_rfl) (by kernel_rfl) ((rdigest_any w3 ao cap ent l hS3 hcap hmax he).mono fun e w4 ⟨he, hb⟩ => ⟨_, he, rfl, hb⟩) ?_
      rintro _ w4 ⟨rfl, hb⟩
      exact ⟨_, by kernel_rfl, rfl, hb⟩
    · have e13 : x13 = .bool true := hpre 13 (by kernel_rfl)
      subst e13
      have e15 : x15 = .int .u32 (digE ent l : Int) := hpre 15 (by kernel_rfl)
      subst e15
      have e17 : x17 = .int .u32 (digE ent l : Int) := hpre 17 (by kernel_rfl)
      subst e17
      exact wpOp_run (.bool true) rfl (by kernel_rfl) (exec_eql (n := (digE ent l : Int)) 22 rfl Try.underlying22 (by kernel_rfl) (by kernel_rfl) w3) ⟨_, by kernel_rfl, rfl, Below.refl _ _⟩
    · have e13 : x13 = .bool true := hpre 13 (by kernel_rfl)
      subst e13
      have e18 : x18 = .bool true := hpre 18 (by kernel_rfl)
      subst e18
      exact wpOp_run (.bool true) rfl (by kernel_rfl) (by kernel_rfl) ⟨_, by kernel_rfl, rfl, Below.refl _ _⟩
    · have e19 : x19 = .bool true := hpre 19 (by kernel_rfl)
      subst e19
      exact wpOp_run (.bool true) rfl (by kernel_rfl) (exec_move rfl (by kernel_rfl) w3) ⟨_, by kernel_rfl, rfl, Below.refl _ _⟩
    · have e20 : x20 = .bool true := hpre 20 (by kernel_rfl)
      subst e20
      refine wpOp_callR (R := fun u w4 => u = .bool true ∧ Below w3.heap.size w3 w4) 8 #[] rfl (by kernel_rfl) (by kernel_rfl) ((wake_any w3).mono fun e w4 ⟨he, hb⟩ => ⟨_, he, rfl, hb⟩) ?_
      rintro _ w4 ⟨rfl, hb⟩
      exact ⟨_, by kernel_rfl, rfl, hb⟩
    · have e20 : x20 = .bool true := hpre 20 (by kernel_rfl)
      subst e20
      have e21 : x21 = .bool true := hpre 21 (by kernel_rfl)
      subst e21
      exact wpOp_run (.bool true) rfl (by kernel_rfl) (by kernel_rfl) ⟨_, by kernel_rfl, rfl, Below.refl _ _⟩
    · have e22 : x22 = .bool true := hpre 22 (by kernel_rfl)
      subst e22
      exact wpOp_run (.bool true) rfl (by kernel_rfl) (by kernel_rfl) ⟨_, by kernel_rfl, rfl, Below.refl _ _⟩
  · intro xs w3 hxs hR hall
    obtain ⟨x0, x1, x2, x3, x4, x5, x6, x7, x8, x9, x10, x11, x12, x13, x14, x15, x16, x17, x18, x19, x20, x21, x22, x23, rfl⟩ := list24 xs hxs
    have e23 : x23 = .bool true := hall 23 (by omega)
    subst e23
    have HR := hidden hR
    clear hall hR hxs
    simp only [slotsOn, putAll, List.set_cons_succ, List.set_cons_zero]
    go_wp2
    go_ret
    exact ⟨rfl, hnb ▸ bthen (Hid.out BB) (Hid.out HR)⟩
/-- What the slots of the region hold, whatever the order. -/
def phiA7Y (nb g6 g9 cap ent : Nat) (ao : Option Addr) (l : List Sg) (s : MS) (mb : Nat) : Nat → Value → World → Prop
  | 0, x, _ => x = .int .i64 (0)
  | 1, x, _ => x = .int .i64 (0)
  | 2, x, _ => x = .bool true
  | 3, x, _ => x = .bool true
  | 4, x, _ => x = .agg (stC 2147479536 (ent : Int) ((ent : Int) + 4))
  | 5, x, _ => x = .agg (stC 2147479536 (ent : Int) ((ent : Int) + 4))
  | 6, x, _ => x = .bool true
  | 7, x, _ => x = .bool true
  | 8, x, _ => x = .bool true
  | 9, x, _ => x = .pointer (some ⟨s.mb, 0, none⟩)
  | 10, x, _ => x = .pointer (some ⟨mb, 0, none⟩)
  | 11, x, _ => x = .bool true
  | 12, x, _ => x = .bool true
  | 13, x, _ => x = .bool true
  | 14, x, _ => x = .agg #[.int .u32 (ent : Int), .slice ao l.length cap]
  | 15, x, _ => x = .int .u32 (digE ent l : Int)
  | 16, x, _ => x = .agg #[.int .u32 (ent : Int), .slice ao l.length cap]
  | 17, x, _ => x = .int .u32 (digE ent l : Int)
  | 18, x, _ => x = .bool true
  | 19, x, _ => x = .bool true
  | 20, x, _ => x = .bool true
  | 21, x, _ => x = .bool true
  | 22, x, _ => x = .bool true
  | 23, x, _ => x = .bool true
  | _ + 24, _, _ => True
theorem phiA7Y_mono (nb g6 g9 cap ent : Nat) (ao : Option Addr) (l : List Sg) (s : MS) (mb : Nat) : ∀ i x w w', phiA7Y nb g6 g9 cap ent ao l s mb i x w → Below w.heap.size w w' → phiA7Y nb g6 g9 cap ent ao l s mb i x w'
  | 0, _, _, _, h, _ => h
  | 1, _, _, _, h, _ => h
  | 2, _, _, _, h, _ => h
  | 3, _, _, _, h, _ => h
  | 4, _, _, _, h, _ => h
  | 5, _, _, _, h, _ => h
  | 6, _, _, _, h, _ => h
  | 7, _, _, _, h, _ => h
  | 8, _, _, _, h, _ => h
  | 9, _, _, _, h, _ => h
  | 10, _, _, _, h, _ => h
  | 11, _, _, _, h, _ => h
  | 12, _, _, _, h, _ => h
  | 13, _, _, _, h, _ => h
  | 14, _, _, _, h, _ => h
  | 15, _, _, _, h, _ => h
  | 16, _, _, _, h, _ => h
  | 17, _, _, _, h, _ => h
  | 18, _, _, _, h, _ => h
  | 19, _, _, _, h, _ => h
  | 20, _, _, _, h, _ => h
  | 21, _, _, _, h, _ => h
  | 22, _, _, _, h, _ => h
  | 23, _, _, _, h, _ => h
  | _ + 24, _, _, _, _, _ => trivial
set_option maxRecDepth 20000 in
set_option maxHeartbeats 4000000 in
theorem all7_Y (w : World) (ao : Option Addr) (cap ent : Nat) (l : List Sg) (z : Int) (h : Segs w ao l) (hcap : l.length ≤ cap) (hmax : cap ≤ 9223372036854775807) (he : ent < 4294967296) (hfew : fewB l = true) (hc : Hid (checkE ent l = 0)) (ks : List Nat) (hk : Hid (allKs (cutMost z) l = some ks)) : Calls Try.prog 3 #[.agg #[.int .u32 (ent : Int), .slice ao l.length cap], .int .i64 z] w fun e w' => e = .returned (.bool true) ∧ Below w.heap.size w w' := by
  have b0 := below_new w (.cells #[.int .u32 (ent : Int), .slice ao l.length cap] 25)
  have f0 : FS (w.alloc (.cells #[.int .u32 (ent : Int), .slice ao l.length cap] 25)) w.heap.size ao cap ent l := ⟨h.later b0, Blk.new w _ _⟩
  have HF0 := hidden f0
  have HB0 := hidden b0
  have T1 : Hid True := trivial
  have T2 : Hid True := trivial
  have T3 : Hid True := trivial
  have T4 : Hid True := trivial
  clear f0 b0 h
  obtain ⟨nb, hnb⟩ : ∃ nb, w.heap.size = nb := ⟨_, rfl⟩
  rw [hnb] at HF0
  go_enter Try.func3, Try.ntmps3
  rw [hnb]
  go_upto_region 5 with (first
    | (go_at_call 7; refine (fewFile_any _ ao cap ent l (Hid.out HF0).segs hcap hmax).mono ?_; rintro e w1 ⟨rfl, b1⟩; have HF1 := hidden ((Hid.out HF0).later b1); obtain ⟨p0, p1⟩ := (Hid.out HF1).c0; have HB1 := hidden (bthen (Hid.out HB0) b1); clear b1)
    | (go_at_call 9; refine (loadY _ ao cap ent l z (Hid.out HF1).segs hcap hmax he (Hid.out hc) (Hid.out hk)).mono ?_; rintro e w2 ⟨s, rfl, L2⟩; have HL2 := hidden L2; have HF2 := hidden ((Hid.out HF1).later L2.own.below); have HB2 := hidden (bthen (Hid.out HB1) L2.own.below); clear L2)
    | (clear T1; refine wpList_allocSt rfl rfl ?_; rintro w3 k3 s3 b3; have HK3 := hidden k3; have HA3 := hidden b3; clear k3 s3 b3)
    | (clear T2; refine wpList_storeSt rfl _ _ rfl w2.heap.size (stC 2147479536 (ent : Int) ((ent : Int) + 4)) rfl rfl (stC 0 0 0) (Hid.out HK3) (stC_size _ _ _) (stC_size _ _ _) (stC_one _ _ _) ?_; rintro w4 k4 o4; have b4 := put_later (Hid.out HA3) o4; have HG4 := hidden k4; have HF4 := hidden ((Hid.out HF2).later b4); obtain ⟨q0, q1⟩ := (Hid.out HF4).c0; have HB4 := hidden (bthen (Hid.out HB2) b4); have HA4 := hidden b4; clear k4 o4 b4)
    | (go_at_call 10; refine (rloadY _ ao cap ent l z (Hid.out HF4).segs hcap hmax he (Hid.out hc) (Hid.out hk)).mono ?_; rintro e w5 ⟨mb, t, rfl, O5⟩; have HO5 := hidden O5; have HF5 := hidden ((Hid.out HF4).later O5.bel); have HB5 := hidden (bthen (Hid.out HB4) O5.bel); have HG5 := hidden ((Hid.out HG4).later O5.bel); have HM5 := hidden (((Hid.out HL2).own.mem.later (Hid.out HA4)).later O5.bel); clear O5)
    | (clear T3; refine wpList_allocSt rfl rfl ?_; rintro w6 k6 s6 b6; have HK6 := hidden k6; have HA6 := hidden b6; clear k6 s6 b6)
    | (clear T4; refine wpList_storeSt rfl _ _ rfl w5.heap.size (stC 2147479536 (ent : Int) ((ent : Int) + 4)) rfl rfl (stC 0 0 0) (Hid.out HK6) (stC_size _ _ _) (stC_size _ _ _) (stC_one _ _ _) ?_; rintro w7 k7 o7; have HA7 := hidden (put_later (Hid.out HA6) o7); have HG7 := hidden k7; clear k7 o7))
  have FS7 := hidden ((Hid.out HF5).later (Hid.out HA7))
  have BB := hidden (bthen (Hid.out HB5) (Hid.out HA7))
  have G6 := hidden ((Hid.out HG5).later (Hid.out HA7))
  have G9 := HG7
  have HM7 := hidden ((Hid.out HM5).later (Hid.out HA7))
  have HT7 : Hid (M5 w7 t ∧ t.m = mb) := hidden ⟨(Hid.out HO5).mem.later (Hid.out HA7), (Hid.out HO5).m⟩
  have HSIM : Hid (Sim s t.l) := hidden ((Hid.out HL2).sim (Hid.out HO5) (Hid.out hk))
  generalize w2.heap.size = g6 at G6 ⊢
  generalize w5.heap.size = g9 at G9 ⊢
  refine wp_region_on later_below [29, 30, 31, 32, 33, 34, 35, 36, 37, 38, 39, 40, 41, 42, 43, 44, 45, 46, 47, 48, 49, 50, 51, 4] 24 (phiA7Y nb g6 g9 cap ent ao l s mb) (by kernel_rfl) (by kernel_rfl) rfl rfl (phiA7Y_mono nb g6 g9 cap ent ao l s mb) ?_ ?_
  · intro j hj xs w3 hxs hR hpre
    obtain ⟨x0, x1, x2, x3, x4, x5, x6, x7, x8, x9, x10, x11, x12, x13, x14, x15, x16, x17, x18, x19, x20, x21, x22, x23, rfl⟩ := list24 xs hxs
    have hG6 : Blk w3 g6 (stC 2147479536 (ent : Int) ((ent : Int) + 4)) 31 := (Hid.out G6).later hR
    have hG9 : Blk w3 g9 (stC 2147479536 (ent : Int) ((ent : Int) + 4)) 31 := (Hid.out G9).later hR
    have hF := (Hid.out FS7).later hR
    have hF3 := hF.box
    have hS3 := hF.segs
    have hM3 : MemW w3 s := (Hid.out HM7).later hR
    have hT3 : M5 w3 t ∧ t.m = mb := ⟨(Hid.out HT7).1.later hR, (Hid.out HT7).2⟩
    rcases (show j = 0 ∨ j = 1 ∨ j = 2 ∨ j = 3 ∨ j = 4 ∨ j = 5 ∨ j = 6 ∨ j = 7 ∨ j = 8 ∨ j = 9 ∨ j = 10 ∨ j = 11 ∨ j = 12 ∨ j = 13 ∨ j = 14 ∨ j = 15 ∨ j = 16 ∨ j = 17 ∨ j = 18 ∨ j = 19 ∨ j = 20 ∨ j = 21 ∨ j = 22 ∨ j = 23 by omega) with rfl | rfl | rfl | rfl | rfl | rfl | rfl | rfl | rfl | rfl | rfl | rfl | rfl | rfl | rfl | rfl | rfl | rfl | rfl | rfl | rfl | rfl | rfl | rfl
    · exact wpOp_run (.int .i64 (0)) rfl (by kernel_rfl) (exec_move rfl (by kernel_rfl) w3) ⟨_, by kernel_rfl, rfl, Below.refl _ _⟩
    · exact wpOp_run (.int .i64 (0)) rfl (by kernel_rfl) (exec_move rfl (by kernel_rfl) w3) ⟨_, by kernel_rfl, rfl, Below.refl _ _⟩
    · have e0 : x0 = .int .i64 (0) := hpre 0 (by kernel_rfl)
      subst e0
      have e1 : x1 = .int .i64 (0) := hpre 1 (by kernel_rfl)
      subst e1
      exact wpOp_run (.bool true) rfl (by kernel_rfl) (exec_eql (n := (0)) 32 rfl Try.underlying32 (by kernel_rfl) (by kernel_rfl) w3) ⟨_, by kernel_rfl, rfl, Below.refl _ _⟩
    · have e2 : x2 = .bool true := hpre 2 (by kernel_rfl)
      subst e2
      exact wpOp_run (.bool true) rfl (by kernel_rfl) (exec_move rfl (by kernel_rfl) w3) ⟨_, by kernel_rfl, rfl, Below.refl _ _⟩
    · have e3 : x3 = .bool true := hpre 3 (by kernel_rfl)
      subst e3
      exact wpOp_run (.agg (stC 2147479536 (ent : Int) ((ent : Int) + 4))) rfl (by kernel_rfl) (exec_load 31 rfl (by kernel_rfl) w3 (load31 hG6)) ⟨_, by kernel_rfl, rfl, Below.refl _ _⟩
    · have e3 : x3 = .bool true := hpre 3 (by kernel_rfl)
      subst e3
      exact wpOp_run (.agg (stC 2147479536 (ent : Int) ((ent : Int) + 4))) rfl (by kernel_rfl) (exec_load 31 rfl (by kernel_rfl) w3 (load31 hG9)) ⟨_, by kernel_rfl, rfl, Below.refl _ _⟩
    · have e3 : x3 = .bool true := hpre 3 (by kernel_rfl)
      subst e3
      have e4 : x4 = .agg (stC 2147479536 (ent : Int) ((ent : Int) + 4)) := hpre 4 (by kernel_rfl)
      subst e4
      have e5 : x5 = .agg (stC 2147479536 (ent : Int) ((ent : Int) + 4)) := hpre 5 (by kernel_rfl)
      subst e5
      refine wpOp_callR (R := fun u w4 => u = .bool true ∧ Below w3.heap.size w3 w4) 11 #[.agg (stC 2147479536 (ent : Int) ((ent : Int) + 4)), .agg (stC 2147479536 (ent : Int) ((ent : Int) + 4))] rfl (by kernel_rfl) (by kernel_rfl) ((sameState_begun w3 _ _).mono fun e w4 ⟨he, hb⟩ => ⟨_, he, rfl, hb⟩) ?_
      rintro _ w4 ⟨rfl, hb⟩
      exact ⟨_, by kernel_rfl, rfl, hb⟩
    · have e3 : x3 = .bool true := hpre 3 (by kernel_rfl)
      subst e3
      have e6 : x6 = .bool true := hpre 6 (by kernel_rfl)
      subst e6
      exact wpOp_run (.bool true) rfl (by kernel_rfl) (by kernel_rfl) ⟨_, by kernel_rfl, rfl, Below.refl _ _⟩
    · have e7 : x7 = .bool true := hpre 7 (by kernel_rfl)
      subst e7
      exact wpOp_run (.bool true) rfl (by kernel_rfl) (exec_move rfl (by kernel_rfl) w3) ⟨_, by kernel_rfl, rfl, Below.refl _ _⟩
    · have e8 : x8 = .bool true := hpre 8 (by kernel_rfl)
      subst e8
      exact wpOp_run (.pointer (some ⟨s.mb, 0, none⟩)) rfl (by kernel_rfl) (exec_move rfl (by kernel_rfl) w3) ⟨_, by kernel_rfl, rfl, Below.refl _ _⟩
    · have e8 : x8 = .bool true := hpre 8 (by kernel_rfl)
      subst e8
      exact wpOp_run (.pointer (some ⟨mb, 0, none⟩)) rfl (by kernel_rfl) (exec_move rfl (by kernel_rfl) w3) ⟨_, by kernel_rfl, rfl, Below.refl _ _⟩
    · have e8 : x8 = .bool true := hpre 8 (by kernel_rfl)
      subst e8
      have e9 : x9 = .pointer (some ⟨s.mb, 0, none⟩) := hpre 9 (by kernel_rfl)
      subst e9
      have e10 : x10 = .pointer (some ⟨mb, 0, none⟩) := hpre 10 (by kernel_rfl)
      subst e10
      refine wpOp_callR (R := fun u w4 => u = .bool true ∧ Below w3.heap.size w3 w4) 12 #[.pointer (some ⟨s.mb, 0, none⟩), .pointer (some ⟨mb, 0, none⟩)] rfl (by kernel_rfl) (by kernel_rfl) ((sameMem_to w3 s t mb hM3 hT3.1 hT3.2 (Hid.out HSIM)).mono fun e w4 ⟨he, hb⟩ => ⟨_, he, rfl, hb⟩) ?_
      rintro _ w4 ⟨rfl, hb⟩
      exact ⟨_, by kernel_rfl, rfl, hb⟩
    · have e8 : x8 = .bool true := hpre 8 (by kernel_rfl)
      subst e8
      have e11 : x11 = .bool true := hpre 11 (by kernel_rfl)
      subst e11
      exact wpOp_run (.bool true) rfl (by kernel_rfl) (by kernel_rfl) ⟨_, by kernel_rfl, rfl, Below.refl _ _⟩
    · have e12 : x12 = .bool true := hpre 12 (by kernel_rfl)
      subst e12
      exact wpOp_run (.bool true) rfl (by kernel_rfl) (exec_move rfl (by kernel_rfl) w3) ⟨_, by kernel_rfl, rfl, Below.refl _ _⟩
    · have e13 : x13 = .bool true := hpre 13 (by kernel_rfl)
      subst e13
      exact wpOp_run (.agg #[.int .u32 (ent : Int), .slice ao l.length cap]) rfl (by kernel_rfl) (exec_load 25 rfl (by kernel_rfl) w3 (load25 hF3)) ⟨_, by kernel_rfl, rfl, Below.refl _ _⟩
    · have e13 : x13 = .bool true := hpre 13 (by kernel_rfl)
      subst e13
      have e14 : x14 = .agg #[.int .u32 (ent : Int), .slice ao l.length cap] := hpre 14 (by kernel_rfl)
      subst e14
      refine wpOp_callR (R := fun u w4 => u = .int .u32 (digE ent l : Int) ∧ Below w3.heap.size w3 w4) 13 #[.agg #[.int .u32 (ent : Int), .slice ao l.length cap]] rfl (by kernel_rfl) (by kernel_rfl) ((digest_any w3 ao cap ent l hS3 hcap hmax he).mono fun e w4 ⟨he, hb⟩ => ⟨_, he, rfl, hb⟩) ?_
      rintro _ w4 ⟨rfl, hb⟩
      exact ⟨_, by kernel_rfl, rfl, hb⟩
    · have e13 : x13 = .bool true := hpre 13 (by kernel_rfl)
      subst e13
      exact wpOp_run (.agg #[.int .u32 (ent : Int), .slice ao l.length cap]) rfl (by kernel_rfl) (exec_load 25 rfl (by kernel_rfl) w3 (load25 hF3)) ⟨_, by kernel_rfl, rfl, Below.refl _ _⟩
    · have e13 : x13 = .bool true := hpre 13 (by kernel_rfl)
      subst e13
      have e16 : x16 = .agg #[.int .u32 (ent : Int), .slice ao l.length cap] := hpre 16 (by kernel_rfl)
      subst e16
      refine wpOp_callR (R := fun u w4 => u = .int .u32 (digE ent l : Int) ∧ Below w3.heap.size w3 w4) 14 #[.agg #[.int .u32 (ent : Int), .slice ao l.length cap]] rfl (by kernel_rfl) (by kernel_rfl) ((rdigest_any w3 ao cap ent l hS3 hcap hmax he).mono fun e w4 ⟨he, hb⟩ => ⟨_, he, rfl, hb⟩) ?_
      rintro _ w4 ⟨rfl, hb⟩
      exact ⟨_, by kernel_rfl, rfl, hb⟩
    · have e13 : x13 = .bool true := hpre 13 (by kernel_rfl)
      subst e13
      have e15 : x15 = .int .u32 (digE ent l : Int) := hpre 15 (by kernel_rfl)
      subst e15
      have e17 : x17 = .int .u32 (digE ent l : Int) := hpre 17 (by kernel_rfl)
      subst e17
      exact wpOp_run (.bool true) rfl (by kernel_rfl) (exec_eql (n := (digE ent l : Int)) 22 rfl Try.underlying22 (by kernel_rfl) (by kernel_rfl) w3) ⟨_, by kernel_rfl, rfl, Below.refl _ _⟩
    · have e13 : x13 = .bool true := hpre 13 (by kernel_rfl)
      subst e13
      have e18 : x18 = .bool true := hpre 18 (by kernel_rfl)
      subst e18
      exact wpOp_run (.bool true) rfl (by kernel_rfl) (by kernel_rfl) ⟨_, by kernel_rfl, rfl, Below.refl _ _⟩
    · have e19 : x19 = .bool true := hpre 19 (by kernel_rfl)
      subst e19
      exact wpOp_run (.bool true) rfl (by kernel_rfl) (exec_move rfl (by kernel_rfl) w3) ⟨_, by kernel_rfl, rfl, Below.refl _ _⟩
    · have e20 : x20 = .bool true := hpre 20 (by kernel_rfl)
      subst e20
      refine wpOp_callR (R := fun u w4 => u = .bool true ∧ Below w3.heap.size w3 w4) 8 #[] rfl (by kernel_rfl) (by kernel_rfl) ((wake_any w3).mono fun e w4 ⟨he, hb⟩ => ⟨_, he, rfl, hb⟩) ?_
      rintro _ w4 ⟨rfl, hb⟩
      exact ⟨_, by kernel_rfl, rfl, hb⟩
    · have e20 : x20 = .bool true := hpre 20 (by kernel_rfl)
      subst e20
      have e21 : x21 = .bool true := hpre 21 (by kernel_rfl)
      subst e21
      exact wpOp_run (.bool true) rfl (by kernel_rfl) (by kernel_rfl) ⟨_, by kernel_rfl, rfl, Below.refl _ _⟩
    · have e22 : x22 = .bool true := hpre 22 (by kernel_rfl)
      subst e22
      exact wpOp_run (.bool true) rfl (by kernel_rfl) (by kernel_rfl) ⟨_, by kernel_rfl, rfl, Below.refl _ _⟩
  · intro xs w3 hxs hR hall
    obtain ⟨x0, x1, x2, x3, x4, x5, x6, x7, x8, x9, x10, x11, x12, x13, x14, x15, x16, x17, x18, x19, x20, x21, x22, x23, rfl⟩ := list24 xs hxs
    have e23 : x23 = .bool true := hall 23 (by omega)
    subst e23
    have HR := hidden hR
    clear hall hR hxs
    simp only [slotsOn, putAll, List.set_cons_succ, List.set_cons_zero]
    go_wp2
    go_ret
    exact ⟨rfl, hnb ▸ bthen (Hid.out BB) (Hid.out HR)⟩
set_option maxRecDepth 20000 in
theorem all7_many (w : World) (ao : Option Addr) (cap ent : Nat) (l : List Sg) (z : Int) (h : Segs w ao l) (hcap : l.length ≤ cap) (hmax : cap ≤ 9223372036854775807) (hfew : fewB l = false) : Calls Try.prog 3 #[.agg #[.int .u32 (ent : Int), .slice ao l.length cap], .int .i64 z] w fun e w' => e = .returned (.bool true) ∧ Below w.heap.size w w' := by
  have b0 := below_new w (.cells #[.int .u32 (ent : Int), .slice ao l.length cap] 25)
  have HS := hidden (h.later b0)
  have HB0 := hidden b0
  clear b0 h
  go_enter Try.func3, Try.ntmps3
  go_wp2_with (first
    | (go_at_call 7; refine (fewFile_any _ ao cap ent l (Hid.out HS) hcap hmax).mono ?_; rintro e w1 ⟨rfl, b1⟩; have HB1 := hidden (bthen (Hid.out HB0) b1); clear b1)
    | (go_at_call 8; refine (wake_any _).mono ?_; rintro e w2 ⟨rfl, b2⟩; have HB2 := hidden b2; clear b2))
  go_ret
  exact ⟨rfl, bthen (Hid.out HB1) (Hid.out HB2)⟩
theorem all7_walk (w : World) (ao : Option Addr) (cap ent : Nat) (l : List Sg) (z : Int) (h : Segs w ao l) (hcap : l.length ≤ cap) (hmax : cap ≤ 9223372036854775807) (he : ent < 4294967296) : Calls Try.prog 3 #[.agg #[.int .u32 (ent : Int), .slice ao l.length cap], .int .i64 z] w fun e w' => e = .returned (.bool true) ∧ Below w.heap.size w w' := by
  cases hf : fewB l with
  | false => exact all7_many w ao cap ent l z h hcap hmax hf
  | true =>
    by_cases hc : checkE ent l = 0
    · cases hk : allKs (cutMost z) l with
      | none => exact all7_N w ao cap ent l z h hcap hmax he hf (hidden (.inr hk))
      | some ks => exact all7_Y w ao cap ent l z h hcap hmax he hf (hidden hc) ks (hidden hk)
    · exact all7_N w ao cap ent l z h hcap hmax he hf (hidden (.inl hc))
end Go.Proofs.Ytpknppicamefgaa
