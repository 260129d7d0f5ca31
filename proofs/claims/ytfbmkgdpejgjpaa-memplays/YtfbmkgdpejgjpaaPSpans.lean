/- Word and Bytes of a memory. -/
import Derived.Test.YtfbmkgdpejgjpaaPModel
import Derived.Laws.OwnMore
namespace Go.Proofs.Ytfbmkgdpejgjpaa
open Go.ChangeShapes Go.WideShapes Go.ChangeAt Go.RowKit
set_option linter.unusedVariables false
/-- The bytes from a place on. -/
def MS.span (s : MS) (a n : Nat) : List UInt8 := (List.range n).map fun i => s.get (wrapAt a i)
theorem span_len (s : MS) (a n : Nat) : (s.span a n).length = n := by simp [MS.span]
theorem span_get (s : MS) (a n j : Nat) (h : j < n) : (s.span a n).getD j 0 = s.get (wrapAt a j) := by simp [MS.span, List.getD_eq_getElem?_getD, h]
/-- So much of a word. -/
def preW (s : MS) (a : Nat) : Nat → Nat
  | 0 => 0
  | k + 1 => preW s a k * 256 + (s.get (wrapAt a k)).toNat
theorem preW_lt (s : MS) (a : Nat) : ∀ k, preW s a k < 256 ^ k
  | 0 => by simp [preW]
  | k + 1 => by
    have h1 := preW_lt s a k
    have h2 := UInt8.toNat_lt (s.get (wrapAt a k))
    rw [preW, Nat.pow_succ]
    have : (preW s a k + 1) * 256 ≤ 256 ^ k * 256 := Nat.mul_le_mul_right _ h1
    omega
theorem u32_or_low (x y : Nat) (hx : x < 16777216) (hy : y < 256) : bits .or .u32 ((x : Int) * 256) (y : Int) = (x : Int) * 256 + (y : Int) := by
  have e0 : (x : Int) * 256 = ((2 ^ 8 * x : Nat) : Int) := by omega
  have e1 : (BitVec.ofInt 32 ((2 ^ 8 * x : Nat) : Int)).toNat = 2 ^ 8 * x := by
    rw [BitVec.toNat_ofInt]
    omega
  have e2 : (BitVec.ofInt 32 (y : Int)).toNat = y := by
    rw [BitVec.toNat_ofInt]
    omega
  rw [e0]
  show IntKind.u32.wrap ((BitVec.ofInt 32 ((2 ^ 8 * x : Nat) : Int) ||| BitVec.ofInt 32 (y : Int)).toNat : Nat) = _
  rw [BitVec.toNat_or, e1, e2, ← Nat.two_pow_add_eq_or_of_lt (by omega)]
  simp only [IntKind.wrap_u32]
  omega
set_option maxRecDepth 20000 in
theorem word_any (w : World) (s : MS) (a : Nat) (h : MemW w s) (ha : a < 4294967296) : Calls Try.prog 30 #[.pointer (some ⟨s.mb, 0, none⟩), .int .u32 (a : Int)] w fun e w' => e = .returned (.int .u32 (preW s a 4 : Int)) ∧ ∃ n, w' = w.drewN n := by
  have H := hidden h
  clear h
  go_enter Try.func30, Try.ntmps30
  go_wp2
  go_loopw [5, 6, 7] (fun x5 x6 x7 wr => ∃ (k : Nat), k ≤ 4 ∧ x7 = .int .u32 (k : Int) ∧ x5 = .int .u32 (preW s a k : Int) ∧ ∃ n, wr = w.drewN n) (fun x5 x6 x7 _ => 4 - (intOf x7).toNat)
  case atStart => exact ⟨0, by omega, rfl, rfl, 0, rfl⟩
  case round =>
    obtain ⟨k, hk, rfl, rfl, n, rfl⟩ := hrel
    by_cases hk4 : k < 4
    · have H28 := hidden (peek_any (w.drewN n) s (wrapAt a k) ((Hid.out H).drewN n) (wrapAt_lt _ _))
      rw [show ((wrapAt a k : Nat) : Int) = ((a : Int) + (k : Int)) % 4294967296 by unfold wrapAt; omega] at H28
      have hb := UInt8.toNat_lt (s.get (wrapAt a k))
      have hp : preW s a k < 16777216 := Nat.lt_of_lt_of_le (preW_lt s a k) (by
        have : 256 ^ k ≤ 256 ^ 3 := Nat.pow_le_pow_right (by omega) (by omega)
        simpa using this)
      have hor := u32_or_low _ _ hp hb
      have HP : Hid (preW s a (k + 1) = preW s a k * 256 + (s.get (wrapAt a k)).toNat) := rfl
      generalize hgx : (s.get (wrapAt a k)).toNat = x at hb hor HP
      rw [hgx] at H28
      clear hgx
      generalize hgp : preW s a k = y at hor HP hp
      clear hgp
      go_wp2_with (go_at_call 28; with_reducible refine (Hid.out H28).mono ?_; rintro e w1 ⟨rfl, m, hww⟩; rw [hww]; clear hww w1)
      go_roundw
      case rel => exact ⟨k + 1, by omega, by simp, by rw [Hid.out HP]; simp, _, rfl⟩
      case measure => simp [intOf]; omega
    · obtain rfl : k = 4 := by omega
      go_wp2
      go_ret
      exact ⟨rfl, _, rfl⟩
def cutLen (n : Int) : Nat := (min (max n 0) 16384).toNat
theorem make45 (M : Nat) (h : M ≤ 16384) (w : World) : (Instr.makeSlice 45 (.int .i64 (M : Int)) (.int .i64 (M : Int))).run Try.prog w = .ok (.slice (some ⟨w.heap.size, 0, none⟩) M M) (w.alloc (.cells (madeCells #[.int .u8 0] M) 5)) := by
  obtain ⟨i0, hi, hz0, hz1, hz2⟩ := info_parts info5
  have h := run_make (P := Try.prog) w 45 5 i0 (.int .u8 0) Try.underlying45 hi hz0 .i64 .i64 (M : Int) (M : Int) (by omega) (Int.le_refl _) (by rw [hz2]; omega) (by omega)
  rw [hz1, Nat.mul_one, Int.toNat_natCast] at h
  exact h
/-- A row of bytes on the way. -/
def Brow (w : World) (g : Nat) (d : List UInt8) : Prop := w.heap[g]? = some (.cells (cellsU d).toArray 5 (0, 0))
theorem Brow.set {w : World} {g : Nat} {d : List UInt8} (h : Brow w g d) {j : Nat} (hj : j < d.length) (v : UInt8) : Brow (w.setCell ⟨g, j, none⟩ (.int .u8 (v.toNat : Int))) g (d.set j v) := by
  unfold Brow
  rw [heap_setCell_same _ _ _ _ _ _ h, List.setIfInBounds_toArray, cellsU_set]
theorem Brow.cell {w : World} {g : Nat} {d : List UInt8} (h : Brow w g d) {j : Nat} (hj : j < d.length) : w.cell? ⟨g, j, none⟩ = some (.int .u8 ((d.getD j 0).toNat : Int)) := by
  rw [cell_of_row _ _ _ _ _ _ h, List.getElem?_toArray, cellsU_get d j hj]
theorem Brow.row {w : World} {g : Nat} {d : List UInt8} (h : Brow w g d) (hm : d.length ≤ 16384) : Row w (some ⟨g, 0, none⟩) d d.length :=
  ⟨Nat.le_refl _, by unfold maxLen; omega, by simp, .inr ⟨g, 0, rfl, fun j hj => by rw [Nat.zero_add]; exact h.cell hj⟩⟩
theorem made_cells (M : Nat) : madeCells #[.int .u8 0] M = (cellsU (List.replicate M 0)).toArray := by
  apply Array.ext'
  rw [toList_madeCells_one, cellsU, List.map_replicate]
  rfl
theorem span_set (s : MS) (a k M : Nat) (h : k < M) : (s.span a k ++ List.replicate (M - k) 0).set k (s.get (wrapAt a k)) = s.span a (k + 1) ++ List.replicate (M - (k + 1)) 0 := by
  rw [List.set_append_right _ _ (by rw [span_len]; exact Nat.le_refl _), span_len, Nat.sub_self, show M - k = (M - (k + 1)) + 1 by omega, List.replicate_succ, List.set_cons_zero]
  unfold MS.span
  rw [List.range_succ, List.map_append, List.append_assoc]
  rfl
set_option maxRecDepth 20000 in
set_option maxHeartbeats 1000000 in
theorem mbytes_any (w : World) (s : MS) (a : Nat) (n : Int) (h : MemW w s) (ha : a < 4294967296) : Calls Try.prog 34 #[.pointer (some ⟨s.mb, 0, none⟩), .int .u32 (a : Int), .int .i64 n] w fun e w' => ∃ ao, e = .returned (.slice ao (s.span a (cutLen n)).length (cutLen n)) ∧ Row w' ao (s.span a (cutLen n)) (cutLen n) ∧ Below w.heap.size w w' := by
  obtain ⟨M, hM⟩ : ∃ M, M = cutLen n := ⟨_, rfl⟩
  rw [← hM, span_len]
  have hM2 : M ≤ 16384 := by rw [hM]; unfold cutLen; omega
  have hmk := make45 M hM2 w
  have hMz : (M : Int) = min (max n 0) 16384 := by rw [hM]; unfold cutLen; omega
  have H := hidden h
  have HB : Hid (Brow (w.alloc (.cells (madeCells #[.int .u8 0] M) 5)) w.heap.size (List.replicate M 0)) := by
    show _ = _
    rw [heap_alloc_new w _, made_cells]
  clear h hM
  by_cases hn0 : n < 0
  · have hM0 : (M : Int) = 0 := by omega
    rw [hM0] at hmk
    clear hMz hM0
    go_enter Try.func34, Try.ntmps34
    go_wp2
    go_loopw [8, 15] (fun x8 x15 wr => ∃ (k : Nat), k ≤ M ∧ x15 = .int .i64 (k : Int) ∧ Brow wr w.heap.size (s.span a k ++ List.replicate (M - k) 0) ∧ Below w.heap.size w wr) (fun x8 x15 _ => M - (intOf x15).toNat)
    case atStart => exact ⟨0, by omega, rfl, Hid.out HB, (Below.refl _ w).alloc (Nat.le_refl _) _⟩
    case round =>
      obtain ⟨k, hk, rfl, hbr, hbel⟩ := hrel
      have HBR := hidden hbr
      have HBL := hidden hbel
      by_cases hkM : k < M
      · have hkM2 : (k : Int) < (M : Int) := by omega
        have H28 := hidden (peek_any wr s (wrapAt a k) ((Hid.out H).later hbel) (wrapAt_lt _ _))
        rw [show ((wrapAt a k : Nat) : Int) = ((a : Int) + (k : Int)) % 4294967296 by unfold wrapAt; omega] at H28
        have hcl : k < (s.span a k ++ List.replicate (M - k) 0).length := by rw [List.length_append, span_len, List.length_replicate]; omega
        have HC : Hid (∀ m, ∃ y, (wr.drewN m).cell? ⟨w.heap.size, k, none⟩ = some (.int .u8 y) ∧ (wr.drewN m).frozen? ⟨w.heap.size, k, none⟩ = false) := fun m => ⟨_, hbr.cell hcl, frozen_of_row _ _ _ _ _ hbr⟩
        have HN : Hid (∀ m, Brow ((wr.drewN m).setCell ⟨w.heap.size, k, none⟩ (.int .u8 ((s.get (wrapAt a k)).toNat : Int))) w.heap.size (s.span a (k + 1) ++ List.replicate (M - (k + 1)) 0)) := fun m => by
          have := Brow.set (w := wr.drewN m) hbr hcl (s.get (wrapAt a k))
          rw [span_set s a k M hkM] at this
          exact this
        clear hbr hbel
        generalize (s.get (wrapAt a k)).toNat = x at H28 HN
        go_wp2_with (go_at_call 28; with_reducible refine (Hid.out H28).mono ?_; rintro e w1 ⟨rfl, m, hww⟩; rw [hww]; obtain ⟨y, hc1, hc2⟩ := Hid.out HC m; clear hww w1)
        go_roundw
        case rel => exact ⟨k + 1, by omega, by simp, Hid.out HN _, (below_drewN (Hid.out HBL) _).setCell (p := ⟨w.heap.size, k, none⟩) (Nat.le_refl _) _⟩
        case measure => simp [intOf]; omega
      · have hkM2 : ¬ (k : Int) < (M : Int) := by omega
        obtain rfl : k = M := by omega
        clear hbr hbel
        go_wp2
        go_ret
        have hb2 := Hid.out HBR
        rw [Nat.sub_self, List.replicate_zero, List.append_nil] at hb2
        refine ⟨_, rfl, ?_, Hid.out HBL⟩
        have := hb2.row (by rw [span_len]; exact hM2)
        rw [span_len] at this
        exact this
  · by_cases hn1 : 16384 < n
    · have hM0 : (M : Int) = 16384 := by omega
      rw [hM0] at hmk
      clear hMz hM0
      go_enter Try.func34, Try.ntmps34
      go_wp2
      go_loopw [8, 15] (fun x8 x15 wr => ∃ (k : Nat), k ≤ M ∧ x15 = .int .i64 (k : Int) ∧ Brow wr w.heap.size (s.span a k ++ List.replicate (M - k) 0) ∧ Below w.heap.size w wr) (fun x8 x15 _ => M - (intOf x15).toNat)
      case atStart => exact ⟨0, by omega, rfl, Hid.out HB, (Below.refl _ w).alloc (Nat.le_refl _) _⟩
      case round =>
        obtain ⟨k, hk, rfl, hbr, hbel⟩ := hrel
        have HBR := hidden hbr
        have HBL := hidden hbel
        by_cases hkM : k < M
        · have hkM2 : (k : Int) < (M : Int) := by omega
          have H28 := hidden (peek_any wr s (wrapAt a k) ((Hid.out H).later hbel) (wrapAt_lt _ _))
          rw [show ((wrapAt a k : Nat) : Int) = ((a : Int) + (k : Int)) % 4294967296 by unfold wrapAt; omega] at H28
          have hcl : k < (s.span a k ++ List.replicate (M - k) 0).length := by rw [List.length_append, span_len, List.length_replicate]; omega
          have HC : Hid (∀ m, ∃ y, (wr.drewN m).cell? ⟨w.heap.size, k, none⟩ = some (.int .u8 y) ∧ (wr.drewN m).frozen? ⟨w.heap.size, k, none⟩ = false) := fun m => ⟨_, hbr.cell hcl, frozen_of_row _ _ _ _ _ hbr⟩
          have HN : Hid (∀ m, Brow ((wr.drewN m).setCell ⟨w.heap.size, k, none⟩ (.int .u8 ((s.get (wrapAt a k)).toNat : Int))) w.heap.size (s.span a (k + 1) ++ List.replicate (M - (k + 1)) 0)) := fun m => by
            have := Brow.set (w := wr.drewN m) hbr hcl (s.get (wrapAt a k))
            rw [span_set s a k M hkM] at this
            exact this
          clear hbr hbel
          generalize (s.get (wrapAt a k)).toNat = x at H28 HN
          go_wp2_with (go_at_call 28; with_reducible refine (Hid.out H28).mono ?_; rintro e w1 ⟨rfl, m, hww⟩; rw [hww]; obtain ⟨y, hc1, hc2⟩ := Hid.out HC m; clear hww w1)
          go_roundw
          case rel => exact ⟨k + 1, by omega, by simp, Hid.out HN _, (below_drewN (Hid.out HBL) _).setCell (p := ⟨w.heap.size, k, none⟩) (Nat.le_refl _) _⟩
          case measure => simp [intOf]; omega
        · have hkM2 : ¬ (k : Int) < (M : Int) := by omega
          obtain rfl : k = M := by omega
          clear hbr hbel
          go_wp2
          go_ret
          have hb2 := Hid.out HBR
          rw [Nat.sub_self, List.replicate_zero, List.append_nil] at hb2
          refine ⟨_, rfl, ?_, Hid.out HBL⟩
          have := hb2.row (by rw [span_len]; exact hM2)
          rw [span_len] at this
          exact this
    · have hMn : (M : Int) = n := by omega
      rw [hMn] at hmk
      subst hMn
      clear hMz
      go_enter Try.func34, Try.ntmps34
      go_wp2
      go_loopw [8, 15] (fun x8 x15 wr => ∃ (k : Nat), k ≤ M ∧ x15 = .int .i64 (k : Int) ∧ Brow wr w.heap.size (s.span a k ++ List.replicate (M - k) 0) ∧ Below w.heap.size w wr) (fun x8 x15 _ => M - (intOf x15).toNat)
      case atStart => exact ⟨0, by omega, rfl, Hid.out HB, (Below.refl _ w).alloc (Nat.le_refl _) _⟩
      case round =>
        obtain ⟨k, hk, rfl, hbr, hbel⟩ := hrel
        have HBR := hidden hbr
        have HBL := hidden hbel
        by_cases hkM : k < M
        · have hkM2 : (k : Int) < (M : Int) := by omega
          have H28 := hidden (peek_any wr s (wrapAt a k) ((Hid.out H).later hbel) (wrapAt_lt _ _))
          rw [show ((wrapAt a k : Nat) : Int) = ((a : Int) + (k : Int)) % 4294967296 by unfold wrapAt; omega] at H28
          have hcl : k < (s.span a k ++ List.replicate (M - k) 0).length := by rw [List.length_append, span_len, List.length_replicate]; omega
          have HC : Hid (∀ m, ∃ y, (wr.drewN m).cell? ⟨w.heap.size, k, none⟩ = some (.int .u8 y) ∧ (wr.drewN m).frozen? ⟨w.heap.size, k, none⟩ = false) := fun m => ⟨_, hbr.cell hcl, frozen_of_row _ _ _ _ _ hbr⟩
          have HN : Hid (∀ m, Brow ((wr.drewN m).setCell ⟨w.heap.size, k, none⟩ (.int .u8 ((s.get (wrapAt a k)).toNat : Int))) w.heap.size (s.span a (k + 1) ++ List.replicate (M - (k + 1)) 0)) := fun m => by
            have := Brow.set (w := wr.drewN m) hbr hcl (s.get (wrapAt a k))
            rw [span_set s a k M hkM] at this
            exact this
          clear hbr hbel
          generalize (s.get (wrapAt a k)).toNat = x at H28 HN
          go_wp2_with (go_at_call 28; with_reducible refine (Hid.out H28).mono ?_; rintro e w1 ⟨rfl, m, hww⟩; rw [hww]; obtain ⟨y, hc1, hc2⟩ := Hid.out HC m; clear hww w1)
          go_roundw
          case rel => exact ⟨k + 1, by omega, by simp, Hid.out HN _, (below_drewN (Hid.out HBL) _).setCell (p := ⟨w.heap.size, k, none⟩) (Nat.le_refl _) _⟩
          case measure => simp [intOf]; omega
        · have hkM2 : ¬ (k : Int) < (M : Int) := by omega
          obtain rfl : k = M := by omega
          clear hbr hbel
          go_wp2
          go_ret
          have hb2 := Hid.out HBR
          rw [Nat.sub_self, List.replicate_zero, List.append_nil] at hb2
          refine ⟨_, rfl, ?_, Hid.out HBL⟩
          have := hb2.row (by rw [span_len]; exact hM2)
          rw [span_len] at this
          exact this
end Go.Proofs.Ytfbmkgdpejgjpaa
