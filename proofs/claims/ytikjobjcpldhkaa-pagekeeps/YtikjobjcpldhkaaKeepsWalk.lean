/- PageKeeps, walked. -/
import Derived.Test.YtikjobjcpldhkaaKeeps
import Derived.Deep.QuietTactic
import Derived.BigQuiet
import Derived.Outline
import Derived.Laws.Cover1
namespace Go.Proofs.Ytikjobjcpldhkaa
open Go.ChangeShapes Go.WideShapes Go.ChangeAt Go.RowKit
set_option linter.unusedVariables false
/-- The numbers lie where a slice of them begins. -/
def Ints (w : World) (ao : Option Addr) (zs : List Int) (n : Nat) : Prop :=
  n = 0 ∨ ∃ b off, ao = some ⟨b, off, none⟩ ∧ b < w.heap.size ∧ ∀ j, j < n → w.cell? ⟨b, off + j, none⟩ = some (.int .i64 (zs.getD j 0))
theorem min3 (x y : Nat) (N : Nat) (hN : N = min (min x y) 200) (w : World) : (Builtin.min_ #[3, 3, 3] 3 #[.int .i64 (x : Int), .int .i64 (y : Int), .int .i64 200]).run Try.prog w = .ok (.int .i64 (N : Int)) w := by
  rw [run_min_int3]
  congr 2
  split <;> split <;> omega
/-- What the slots of the region hold, whatever the order. -/
def phiKeep (p q N : Nat) (m : List UInt8) : Nat → Value → World → Prop
  | 0, x, _ => x = .pointer (some ⟨p, 0, none⟩)
  | 1, x, _ => x = .int .u8 ((m.getD 0 0).toNat : Int)
  | 2, x, _ => x = .pointer (some ⟨q, 0, none⟩)
  | 3, x, _ => x = .int .u8 ((m.getD 0 0).toNat : Int)
  | 4, x, _ => x = .bool true
  | 5, x, _ => x = .bool true
  | 6, x, _ => x = .pointer (some ⟨p, 0, none⟩)
  | 7, x, _ => x = .int .i64 (N : Int)
  | 8, x, _ => x = .int .i64 (N : Int)
  | 9, x, _ => x = .bool true
  | 10, x, _ => x = .bool true
  | 11, x, _ => x = .bool true
  | 12, x, _ => x = .pointer (some ⟨p, 0, none⟩)
  | 13, x, _ => x = .int .u8 0
  | 14, x, _ => x = .bool true
  | 15, x, _ => x = .bool true
  | 16, x, _ => x = .bool true
  | 17, x, _ => x = .pointer (some ⟨p, 0, none⟩)
  | 18, x, _ => x = .int .u8 0
  | 19, x, _ => x = .bool true
  | 20, x, _ => x = .bool true
  | 21, x, _ => x = .bool true
  | 22, x, _ => x = .bool true
  | 23, x, _ => x = .bool true
  | 24, x, _ => x = .bool true
  | _ + 25, _, _ => True
theorem phiKeep_mono (p q N : Nat) (m : List UInt8) : ∀ i x w w', phiKeep p q N m i x w → Below w.heap.size w w' → phiKeep p q N m i x w'
  | 0, _, _, _, h, _ => h
  | 1, _, _, _, h, _ => h
  | 2, _, _, _, h, _ => h
  | 3, _, _, _, h, _ => h
  | 4, _, _, _, h, _ => h
  | 5, _, _, _, h, _ => h
  | 6, _, _, _, h, _ => h
  | 7, _, _, _, h, _ => h
  | 8, _, _, _, h, _ => h
  | 9, _, _, _, h, _ => h
  | 10, _, _, _, h, _ => h
  | 11, _, _, _, h, _ => h
  | 12, _, _, _, h, _ => h
  | 13, _, _, _, h, _ => h
  | 14, _, _, _, h, _ => h
  | 15, _, _, _, h, _ => h
  | 16, _, _, _, h, _ => h
  | 17, _, _, _, h, _ => h
  | 18, _, _, _, h, _ => h
  | 19, _, _, _, h, _ => h
  | 20, _, _, _, h, _ => h
  | 21, _, _, _, h, _ => h
  | 22, _, _, _, h, _ => h
  | 23, _, _, _, h, _ => h
  | 24, _, _, _, h, _ => h
  | _ + 25, _, _, _, _, _ => trivial
theorem list25 : ∀ xs : List Value, xs.length = 25 → ∃ x0 x1 x2 x3 x4 x5 x6 x7 x8 x9 x10 x11 x12 x13 x14 x15 x16 x17 x18 x19 x20 x21 x22 x23 x24, xs = [x0, x1, x2, x3, x4, x5, x6, x7, x8, x9, x10, x11, x12, x13, x14, x15, x16, x17, x18, x19, x20, x21, x22, x23, x24]
  | [x0, x1, x2, x3, x4, x5, x6, x7, x8, x9, x10, x11, x12, x13, x14, x15, x16, x17, x18, x19, x20, x21, x22, x23, x24], _ => ⟨_, _, _, _, _, _, _, _, _, _, _, _, _, _, _, _, _, _, _, _, _, _, _, _, _, rfl⟩
set_option maxRecDepth 20000 in
set_option maxHeartbeats 8000000 in
theorem keeps_walk (ao bo : Option Addr) (len cap cap2 : Nat) (zs : List Int) (l : List UInt8) (N : Nat) (w : World) (hN : N = min (min len l.length) 200) (hz : Ints w ao zs N) (hl : Row w bo l cap2) (hlc : len ≤ cap) (hcap : cap ≤ 9223372036854775807) (hbig : l.length ≤ 9223372036854775807) :
    Calls Try.prog 4 #[.slice ao len cap, .slice bo l.length cap2] w fun e w' => e = .returned (.bool true) ∧ Below w.heap.size w w' := by
  have HZ := hidden hz
  have HL := hidden hl
  have hmin := min3 len l.length N hN
  have hN1 : N ≤ len := by omega
  have hN2 : N ≤ l.length := by omega
  have hN3 : N ≤ 200 := by omega
  have hcell31 : Hid (∀ W : World, Ar (W.alloc (.cells (cellsU zeros).toArray 31)) W.heap.size zeros) := ar_new
  clear hz hl hN
  go_enter Try.func4, Try.ntmps4
  go_wp2_with (first | (go_at_call 6; refine (new_pg 0 w).mono ?_; rintro e w1 ⟨rfl, hp1, hb1⟩; have HP1 := hidden hp1; have HB1 := hidden hb1; clear hp1 hb1) | (refine wpList_exec rfl (exec_alloc31 rfl _) ?_))
  go_loopw [8] (fun i wr => ∃ (k : Nat) (m : List UInt8), k ≤ N ∧ i = .int .i64 (k : Int) ∧ Pg 51 wr w.heap.size m 0 (k : Int) ∧ Ar wr w1.heap.size m ∧ Below w.heap.size w wr) (fun i _ => N - (intOf i).toNat)
  case atStart => exact ⟨0, zeros, by omega, rfl, (Hid.out HP1).later ((Below.refl _ _).alloc (Nat.le_refl _) _), (Hid.out hcell31) _, (Hid.out HB1).alloc (Hid.out HB1).size _⟩
  case round =>
    obtain ⟨k, m, hk, rfl, hpg, har, hbel⟩ := hrel
    have HP := hidden hpg
    have HA := hidden har
    have HB := hidden hbel
    have hne : Hid (w.heap.size < w1.heap.size) := (Hid.out HP1).lt
    clear hpg hbel har
    by_cases hkn : k < N
    · obtain ⟨b, off, rfl, hc⟩ : ∃ b off, bo = some ⟨b, off, none⟩ ∧ wr.cell? ⟨b, off + k, none⟩ = some (.int .u8 ((l.getD k 0).toNat : Int)) ∧ b < w.heap.size := by
        rcases Row.lies (Hid.out HL) with h | ⟨b, off, e, h⟩
        · simp [h] at hN2; omega
        · have hc := h k (by omega)
          have hlt := World.block_lt_of_cell? _ _ hc
          exact ⟨b, off, e, ((Hid.out HB).cell (p := ⟨b, off + k, none⟩) hlt).trans hc, hlt⟩
      obtain ⟨b2, off2, rfl, hc2⟩ : ∃ b off, ao = some ⟨b, off, none⟩ ∧ wr.cell? ⟨b, off + k, none⟩ = some (.int .i64 (zs.getD k 0)) := by
        rcases Hid.out HZ with h | ⟨b, off, e, hlt, h⟩
        · omega
        · exact ⟨b, off, e, ((Hid.out HB).cell (p := ⟨b, off + k, none⟩) hlt).trans (h k hkn)⟩
      obtain ⟨hc, hlt⟩ := hc
      have H8 := hidden (place_any (zs.getD k 0) 256 (by omega) (by omega) wr)
      have hK0 := Int.emod_nonneg (zs.getD k 0) (show (256 : Int) ≠ 0 by omega)
      have hK1 := Int.emod_lt_of_pos (zs.getD k 0) (show (0 : Int) < 256 by omega)
      have H11 := hidden (setByte_any wr w.heap.size m 0 (k : Int) (zs.getD k 0 % 256) (l.getD k 0) (by omega) (by omega) (Hid.out HP))
      rw [cntB_in _ _ ⟨hK0, hK1⟩, setB_in _ _ _ ⟨hK0, hK1⟩] at H11
      generalize zs.getD k 0 % 256 = K at H8 hK0 hK1 H11
      generalize zs.getD k 0 = z at H8 hc2
      generalize l.getD k 0 = x at hc H11
      go_wp2_with (first | (go_at_call 8; refine (Hid.out H8).mono ?_; rintro e w0 ⟨rfl, hww⟩; rw [hww]; clear hww w0) | (go_at_call 11; refine (Hid.out H11).mono ?_; rintro e w2 ⟨rfl, hp2, ho2⟩; have HP2 := hidden hp2; have HB2 := hidden (Below.trans (Hid.out HB) (Only.below ho2 (Nat.le_refl _))); have HA2 := hidden (Ar.only (Hid.out HA) ho2 (Nat.ne_of_gt (Hid.out hne))); have hcx := (Below.cell (Only.below ho2 (Nat.le_refl _)) (p := ⟨b, off + k, none⟩) hlt).trans hc; have hca := Ar.byte (Hid.out HA2) (j := K.toNat) (by omega); have hza := Ar.thaw (Hid.out HA2) K.toNat; generalize (List.getD m K.toNat 0) = y at hca; clear hp2 ho2))
      go_roundw
      case rel =>
        have r1 : Pg 51 (w2.setCell ⟨w1.heap.size, K.toNat, none⟩ (.int .u8 (x.toNat : Int))) w.heap.size (m.set K.toNat x) 0 ((k : Int) + 1) := (Hid.out HP2).same (Below.heap_setCell _ _ _ _ (Nat.ne_of_lt (Hid.out hne)))
        have r2 := (Hid.out HA2).set K.toNat x
        have r3 := (Hid.out HB2).setCell (p := ⟨w1.heap.size, K.toNat, none⟩) (Nat.le_of_lt (Hid.out hne)) (.int .u8 (x.toNat : Int))
        first | exact ⟨k + 1, m.set K.toNat x, by omega, by go_num, by simpa using r1, r2, r3⟩ | ((repeat apply Exists.intro); exact ⟨⟨k + 1, m.set K.toNat x, by omega, by go_num, by simpa using r1, r2, r3⟩, rfl⟩)
      case measure => simp [intOf]; omega
    · have hkN : N = k := by omega
      clear hkn
      subst hkN
      obtain ⟨gC, hg1, hg2, H17⟩ : ∃ g, Hid (w.heap.size < g) ∧ Hid (w1.heap.size < g) ∧ Hid (Calls Try.prog 17 #[.pointer (some ⟨w.heap.size, 0, none⟩), .int .i64 0, .int .i64 256] wr fun e w' => e = .returned (.slice (some ⟨g, 0, none⟩) 256 256) ∧ w'.heap[g]? = some (.cells (cellsU m).toArray 5 (0, 0)) ∧ Below wr.heap.size wr w') :=
        ⟨wr.heap.size, (Hid.out HP).lt, (Hid.out HA).lt, bytes_all wr w.heap.size m 0 _ (Hid.out HP)⟩
      go_wp2_with (go_at_call 17; refine (Hid.out H17).mono ?_; rintro e w2 ⟨rfl, hblk, hb2⟩; have HC := hidden hblk; have HP2 := hidden (Pg.later (Hid.out HP) hb2); have HA2 := hidden (Ar.later (Hid.out HA) hb2); have HB2 := hidden (Below.trans (Hid.out HB) (Below.mono hb2 (Hid.out HB).size)); have hwz := hidden (Below.size (Hid.out HB)); clear hblk hb2)
      go_loopw [11] (fun i wr => ∃ (j : Nat), j ≤ 256 ∧ i = .int .i64 (j : Int) ∧ Below w2.heap.size w2 wr) (fun i _ => 256 - (intOf i).toNat)
      case atStart => exact ⟨0, by omega, rfl, Below.refl _ _⟩
      case round =>
        obtain ⟨j, hj, rfl, hbj⟩ := hrel
        have HPq := hidden ((Hid.out HP2).later hbj)
        have HAq := hidden ((Hid.out HA2).later hbj)
        have HCq := hidden ((hbj.block gC ((Array.getElem?_eq_some_iff.1 (Hid.out HC)).1)).trans (Hid.out HC))
        have HBq := hidden ((Hid.out HB2).trans (hbj.mono (Hid.out HB2).size))
        have HBj := hidden hbj
        have hml := (Hid.out HAq).len
        clear hbj
        by_cases hj2 : j < 256
        · have hcA := (Hid.out HAq).byte hj2
          have hcC : wr.cell? ⟨gC, j, none⟩ = some (.int .u8 ((m.getD j 0).toNat : Int)) := by rw [cell_of_row _ _ _ _ _ _ (Hid.out HCq), List.getElem?_toArray, cellsU_get m j (by omega)]
          have H13 := fun (W : World) (h : W.heap = wr.heap) => hidden (byte_any W w.heap.size m 0 _ (j : Int) ((Hid.out HPq).same (by rw [h])))
          rw [getB_in _ _ (by unfold inB; omega), Int.toNat_natCast] at H13
          generalize m.getD j 0 = x at hcA hcC H13
          clear hml
          go_wp2
          go_quiet ((go_at_call 13; exact Calls.quiet_of_same (Hid.out (H13 _ rfl))))
          go_wp2
          go_roundw
          case rel =>
            have r := (Hid.out HBj)
            first | exact ⟨j + 1, by omega, by go_num, ⟨r.os, r.tape, r.output, r.size, r.block⟩⟩ | ((repeat apply Exists.intro); exact ⟨⟨j + 1, by omega, by go_num, ⟨r.os, r.tape, r.output, r.size, r.block⟩⟩, rfl⟩)
          case measure => simp [intOf]; omega
        · have hc0 : wr.cell? ⟨gC, 0, none⟩ = some (.int .u8 ((m.getD 0 0).toNat : Int)) := by rw [cell_of_row _ _ _ _ _ _ (Hid.out HCq), List.getElem?_toArray, cellsU_get m 0 (by omega)]
          have hz0 : wr.frozen? ⟨gC, 0, none⟩ = false := frozen_of_row _ _ _ _ _ (Hid.out HCq)
          have HP6 := fun v => hidden ((Hid.out HPq).same (Below.heap_setCell wr ⟨gC, 0, none⟩ v w.heap.size (Nat.ne_of_lt (Hid.out hg1))))
          have HA6 := fun v => hidden ((Hid.out HAq).same (Below.heap_setCell wr ⟨gC, 0, none⟩ v w1.heap.size (Nat.ne_of_lt (Hid.out hg2))))
          have HB6 := fun v => hidden ((Hid.out HBq).setCell (p := ⟨gC, 0, none⟩) (Nat.le_of_lt (Hid.out hg1)) v)
          generalize m.getD 0 0 = x at hc0
          go_wp2
          generalize hw6 : wr.setCell ⟨gC, 0, none⟩ _ = w6
          replace HP6 : Hid (Pg 51 w6 w.heap.size m 0 (N : Int)) := by rw [← hw6]; exact HP6 _
          replace HA6 : Hid (Ar w6 w1.heap.size m) := by rw [← hw6]; exact HA6 _
          replace HB6 : Hid (Below w.heap.size w w6) := by rw [← hw6]; exact HB6 _
          clear hw6
          refine wp_region_on later_below [74, 75, 76, 77, 78, 79, 80, 81, 82, 83, 84, 85, 86, 87, 88, 89, 90, 91, 92, 93, 94, 95, 96, 97, 4] 25 (phiKeep w.heap.size w1.heap.size N m) (by kernel_rfl) (by kernel_rfl) rfl rfl (phiKeep_mono w.heap.size w1.heap.size N m) ?_ ?_
          · intro j hj xs w3 hxs hR hpre
            obtain ⟨x0, x1, x2, x3, x4, x5, x6, x7, x8, x9, x10, x11, x12, x13, x14, x15, x16, x17, x18, x19, x20, x21, x22, x23, x24, rfl⟩ := list25 xs hxs
            have hP : Pg 51 w3 w.heap.size m 0 (N : Int) := (Hid.out HP6).later hR
            have hA : Ar w3 w1.heap.size m := (Hid.out HA6).later hR
            rcases (show j = 0 ∨ j = 1 ∨ j = 2 ∨ j = 3 ∨ j = 4 ∨ j = 5 ∨ j = 6 ∨ j = 7 ∨ j = 8 ∨ j = 9 ∨ j = 10 ∨ j = 11 ∨ j = 12 ∨ j = 13 ∨ j = 14 ∨ j = 15 ∨ j = 16 ∨ j = 17 ∨ j = 18 ∨ j = 19 ∨ j = 20 ∨ j = 21 ∨ j = 22 ∨ j = 23 ∨ j = 24 by omega) with rfl | rfl | rfl | rfl | rfl | rfl | rfl | rfl | rfl | rfl | rfl | rfl | rfl | rfl | rfl | rfl | rfl | rfl | rfl | rfl | rfl | rfl | rfl | rfl | rfl
            · exact wpOp_run (.pointer (some ⟨w.heap.size, 0, none⟩)) rfl (by kernel_rfl) (exec_move rfl (by kernel_rfl) w3) ⟨_, by kernel_rfl, rfl, Below.refl _ _⟩
            · have e0 : x0 = .pointer (some ⟨w.heap.size, 0, none⟩) := hpre 0 (by kernel_rfl)
              subst e0
              refine wpOp_callR (R := fun u w4 => u = .int .u8 ((m.getD 0 0).toNat : Int) ∧ w4 = w3) 13 #[.pointer (some ⟨w.heap.size, 0, none⟩), .int .i64 0] rfl (by kernel_rfl) (by kernel_rfl) ((byte_first w3 w.heap.size m 0 (N : Int) hP).mono fun e w4 ⟨he, hw⟩ => ⟨_, he, rfl, hw⟩) ?_
              rintro _ w4 ⟨rfl, hw⟩
              subst hw
              exact ⟨_, by kernel_rfl, rfl, Below.refl _ _⟩
            · exact wpOp_run (.pointer (some ⟨w1.heap.size, 0, none⟩)) rfl (by kernel_rfl) (by kernel_rfl) ⟨_, by kernel_rfl, rfl, Below.refl _ _⟩
            · have e2 : x2 = .pointer (some ⟨w1.heap.size, 0, none⟩) := hpre 2 (by kernel_rfl)
              subst e2
              exact wpOp_run (.int .u8 ((m.getD 0 0).toNat : Int)) rfl (by kernel_rfl) (exec_load 5 rfl (by kernel_rfl) w3 (load5 (hA.byte (j := 0) (by omega)))) ⟨_, by kernel_rfl, rfl, Below.refl _ _⟩
            · have e1 : x1 = .int .u8 ((m.getD 0 0).toNat : Int) := hpre 1 (by kernel_rfl)
              subst e1
              have e3 : x3 = .int .u8 ((m.getD 0 0).toNat : Int) := hpre 3 (by kernel_rfl)
              subst e3
              exact wpOp_run (.bool true) rfl (by kernel_rfl) (exec_eql (n := ((m.getD 0 0).toNat : Int)) 5 rfl Try.underlying5 (by kernel_rfl) (by kernel_rfl) w3) ⟨_, by kernel_rfl, rfl, Below.refl _ _⟩
            · have e4 : x4 = .bool true := hpre 4 (by kernel_rfl)
              subst e4
              exact wpOp_run (.bool true) rfl (by kernel_rfl) (exec_move rfl (by kernel_rfl) w3) ⟨_, by kernel_rfl, rfl, Below.refl _ _⟩
            · have e5 : x5 = .bool true := hpre 5 (by kernel_rfl)
              subst e5
              exact wpOp_run (.pointer (some ⟨w.heap.size, 0, none⟩)) rfl (by kernel_rfl) (exec_move rfl (by kernel_rfl) w3) ⟨_, by kernel_rfl, rfl, Below.refl _ _⟩
            · have e5 : x5 = .bool true := hpre 5 (by kernel_rfl)
              subst e5
              have e6 : x6 = .pointer (some ⟨w.heap.size, 0, none⟩) := hpre 6 (by kernel_rfl)
              subst e6
              refine wpOp_callR (R := fun u w4 => u = .int .i64 (N : Int) ∧ w4 = w3) 16 #[.pointer (some ⟨w.heap.size, 0, none⟩)] rfl (by kernel_rfl) (by kernel_rfl) ((writes_any w3 w.heap.size m 0 (N : Int) hP).mono fun e w4 ⟨he, hw⟩ => ⟨_, he, rfl, hw⟩) ?_
              rintro _ w4 ⟨rfl, hw⟩
              subst hw
              exact ⟨_, by kernel_rfl, rfl, Below.refl _ _⟩
            · have e5 : x5 = .bool true := hpre 5 (by kernel_rfl)
              subst e5
              exact wpOp_run (.int .i64 (N : Int)) rfl (by kernel_rfl) (exec_move rfl (by kernel_rfl) w3) ⟨_, by kernel_rfl, rfl, Below.refl _ _⟩
            · have e5 : x5 = .bool true := hpre 5 (by kernel_rfl)
              subst e5
              have e7 : x7 = .int .i64 (N : Int) := hpre 7 (by kernel_rfl)
              subst e7
              have e8 : x8 = .int .i64 (N : Int) := hpre 8 (by kernel_rfl)
              subst e8
              exact wpOp_run (.bool true) rfl (by kernel_rfl) (exec_eql (n := (N : Int)) 3 rfl Try.underlying3 (by kernel_rfl) (by kernel_rfl) w3) ⟨_, by kernel_rfl, rfl, Below.refl _ _⟩
            · have e5 : x5 = .bool true := hpre 5 (by kernel_rfl)
              subst e5
              have e9 : x9 = .bool true := hpre 9 (by kernel_rfl)
              subst e9
              exact wpOp_run (.bool true) rfl (by kernel_rfl) (by kernel_rfl) ⟨_, by kernel_rfl, rfl, Below.refl _ _⟩
            · have e10 : x10 = .bool true := hpre 10 (by kernel_rfl)
              subst e10
              exact wpOp_run (.bool true) rfl (by kernel_rfl) (exec_move rfl (by kernel_rfl) w3) ⟨_, by kernel_rfl, rfl, Below.refl _ _⟩
            · have e11 : x11 = .bool true := hpre 11 (by kernel_rfl)
              subst e11
              exact wpOp_run (.pointer (some ⟨w.heap.size, 0, none⟩)) rfl (by kernel_rfl) (exec_move rfl (by kernel_rfl) w3) ⟨_, by kernel_rfl, rfl, Below.refl _ _⟩
            · have e11 : x11 = .bool true := hpre 11 (by kernel_rfl)
              subst e11
              have e12 : x12 = .pointer (some ⟨w.heap.size, 0, none⟩) := hpre 12 (by kernel_rfl)
              subst e12
              refine wpOp_callR (R := fun u w4 => u = .int .u8 0 ∧ w4 = w3) 13 #[.pointer (some ⟨w.heap.size, 0, none⟩), .int .i64 (-1)] rfl (by kernel_rfl) (by kernel_rfl) ((byte_ahead w3 w.heap.size m 0 (N : Int) hP).mono fun e w4 ⟨he, hw⟩ => ⟨_, he, rfl, hw⟩) ?_
              rintro _ w4 ⟨rfl, hw⟩
              subst hw
              exact ⟨_, by kernel_rfl, rfl, Below.refl _ _⟩
            · have e11 : x11 = .bool true := hpre 11 (by kernel_rfl)
              subst e11
              have e13 : x13 = .int .u8 0 := hpre 13 (by kernel_rfl)
              subst e13
              exact wpOp_run (.bool true) rfl (by kernel_rfl) (by kernel_rfl) ⟨_, by kernel_rfl, rfl, Below.refl _ _⟩
            · have e11 : x11 = .bool true := hpre 11 (by kernel_rfl)
              subst e11
              have e14 : x14 = .bool true := hpre 14 (by kernel_rfl)
              subst e14
              exact wpOp_run (.bool true) rfl (by kernel_rfl) (by kernel_rfl) ⟨_, by kernel_rfl, rfl, Below.refl _ _⟩
            · have e15 : x15 = .bool true := hpre 15 (by kernel_rfl)
              subst e15
              exact wpOp_run (.bool true) rfl (by kernel_rfl) (exec_move rfl (by kernel_rfl) w3) ⟨_, by kernel_rfl, rfl, Below.refl _ _⟩
            · have e16 : x16 = .bool true := hpre 16 (by kernel_rfl)
              subst e16
              exact wpOp_run (.pointer (some ⟨w.heap.size, 0, none⟩)) rfl (by kernel_rfl) (exec_move rfl (by kernel_rfl) w3) ⟨_, by kernel_rfl, rfl, Below.refl _ _⟩
            · have e16 : x16 = .bool true := hpre 16 (by kernel_rfl)
              subst e16
              have e17 : x17 = .pointer (some ⟨w.heap.size, 0, none⟩) := hpre 17 (by kernel_rfl)
              subst e17
              refine wpOp_callR (R := fun u w4 => u = .int .u8 0 ∧ w4 = w3) 13 #[.pointer (some ⟨w.heap.size, 0, none⟩), .int .i64 256] rfl (by kernel_rfl) (by kernel_rfl) ((byte_behind w3 w.heap.size m 0 (N : Int) hP).mono fun e w4 ⟨he, hw⟩ => ⟨_, he, rfl, hw⟩) ?_
              rintro _ w4 ⟨rfl, hw⟩
              subst hw
              exact ⟨_, by kernel_rfl, rfl, Below.refl _ _⟩
            · have e16 : x16 = .bool true := hpre 16 (by kernel_rfl)
              subst e16
              have e18 : x18 = .int .u8 0 := hpre 18 (by kernel_rfl)
              subst e18
              exact wpOp_run (.bool true) rfl (by kernel_rfl) (by kernel_rfl) ⟨_, by kernel_rfl, rfl, Below.refl _ _⟩
            · have e16 : x16 = .bool true := hpre 16 (by kernel_rfl)
              subst e16
              have e19 : x19 = .bool true := hpre 19 (by kernel_rfl)
              subst e19
              exact wpOp_run (.bool true) rfl (by kernel_rfl) (by kernel_rfl) ⟨_, by kernel_rfl, rfl, Below.refl _ _⟩
            · have e20 : x20 = .bool true := hpre 20 (by kernel_rfl)
              subst e20
              exact wpOp_run (.bool true) rfl (by kernel_rfl) (exec_move rfl (by kernel_rfl) w3) ⟨_, by kernel_rfl, rfl, Below.refl _ _⟩
            · have e21 : x21 = .bool true := hpre 21 (by kernel_rfl)
              subst e21
              refine wpOp_callR (R := fun u w4 => u = .bool true ∧ Below w3.heap.size w3 w4) 19 #[] rfl (by kernel_rfl) (by kernel_rfl) ((awake_any w3).mono fun e w4 ⟨he, hb⟩ => ⟨_, he, rfl, hb⟩) ?_
              rintro _ w4 ⟨rfl, hb⟩
              exact ⟨_, by kernel_rfl, rfl, hb⟩
            · have e21 : x21 = .bool true := hpre 21 (by kernel_rfl)
              subst e21
              have e22 : x22 = .bool true := hpre 22 (by kernel_rfl)
              subst e22
              exact wpOp_run (.bool true) rfl (by kernel_rfl) (by kernel_rfl) ⟨_, by kernel_rfl, rfl, Below.refl _ _⟩
            · have e23 : x23 = .bool true := hpre 23 (by kernel_rfl)
              subst e23
              exact wpOp_run (.bool true) rfl (by kernel_rfl) (by kernel_rfl) ⟨_, by kernel_rfl, rfl, Below.refl _ _⟩
          · intro xs w3 hxs hR hall
            obtain ⟨x0, x1, x2, x3, x4, x5, x6, x7, x8, x9, x10, x11, x12, x13, x14, x15, x16, x17, x18, x19, x20, x21, x22, x23, x24, rfl⟩ := list25 xs hxs
            have e24 : x24 = .bool true := hall 24 (by omega)
            subst e24
            have HR := hidden hR
            clear hall hR hxs
            simp only [slotsOn, putAll, List.set_cons_succ, List.set_cons_zero]
            go_wp2
            go_ret
            exact ⟨rfl, (Hid.out HB6).trans ((Hid.out HR).mono (Hid.out HB6).size)⟩
end Go.Proofs.Ytikjobjcpldhkaa
