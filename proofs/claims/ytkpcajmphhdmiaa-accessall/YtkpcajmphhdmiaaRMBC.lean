/- Chapter 10's own Load. -/
import Derived.Test.YtkpcajmphhdmiaaRMAZ
import Derived.Test.YtkpcajmphhdmiaaRMBB
import Derived.Test.YtkpcajmphhdmiaaRMAW
import Derived.Test.YtkpcajmphhdmiaaRMBA
import Derived.Test.YtkpcajmphhdmiaaRMAH
namespace Go.Proofs.Ytkpcajmphhdmiaa
open Go.ChangeShapes Go.WideShapes Go.ChangeAt Go.RowKit
set_option linter.unusedVariables false
theorem sext32_8 {x : Nat} (h : x < 256) : sext32 (x : Int) 8 = ((if x < 128 then x else x + 4294967040 : Nat) : Int) := by
  unfold sext32
  rw [show clip 8 1 32 = 8 by decide]
  show sg ((x : Int) * 2 ^ 24 % 4294967296) / 2 ^ 24 % 4294967296 = _
  unfold sg
  split <;> split <;> omega
theorem sext32_16 {x : Nat} (h : x < 65536) : sext32 (x : Int) 16 = ((if x < 32768 then x else x + 4294901760 : Nat) : Int) := by
  unfold sext32
  rw [show clip 16 1 32 = 16 by decide]
  show sg ((x : Int) * 2 ^ 16 % 4294967296) / 2 ^ 16 % 4294967296 = _
  unfold sg
  split <;> split <;> omega
theorem ref_lwl0 (w old : Nat) (hw : w < 4294967296) (ho : old < 4294967296) : bits .or .u32 (((w * 1 % 4294967296 : Nat)) : Int) (bits .and .u32 (old : Int) 0) = ((lwlN 0 w old : Nat) : Int) := by
  have e1 := u32_and_nat old 0 ho (by omega)
  rw [show old &&& 0 = old % 2 ^ 0 from low_mask old 0] at e1
  rw [show ((0 : Nat) : Int) = 0 from rfl] at e1
  have hm : old % 2 ^ 0 < 2 ^ 0 := Nat.mod_lt _ (by decide)
  rw [e1, u32_or_nat _ _ (Nat.mod_lt _ (by omega)) (Nat.lt_of_lt_of_le hm (by decide))]
  have e2 : w * 1 % 4294967296 = 2 ^ 0 * (w % 2 ^ 32) := by
    rw [show (4294967296 : Nat) = 2 ^ 0 * 2 ^ 32 by decide, Nat.mul_comm w, show (1 : Nat) = 2 ^ 0 by decide, Nat.mul_mod_mul_left]
  rw [e2, or_sum _ _ _ hm, ← e2]
  rfl
theorem ref_lwl1 (w old : Nat) (hw : w < 4294967296) (ho : old < 4294967296) : bits .or .u32 (((w * 256 % 4294967296 : Nat)) : Int) (bits .and .u32 (old : Int) 255) = ((lwlN 1 w old : Nat) : Int) := by
  have e1 := u32_and_nat old 255 ho (by omega)
  rw [show old &&& 255 = old % 2 ^ 8 from low_mask old 8] at e1
  rw [show ((255 : Nat) : Int) = 255 from rfl] at e1
  have hm : old % 2 ^ 8 < 2 ^ 8 := Nat.mod_lt _ (by decide)
  rw [e1, u32_or_nat _ _ (Nat.mod_lt _ (by omega)) (Nat.lt_of_lt_of_le hm (by decide))]
  have e2 : w * 256 % 4294967296 = 2 ^ 8 * (w % 2 ^ 24) := by
    rw [show (4294967296 : Nat) = 2 ^ 8 * 2 ^ 24 by decide, Nat.mul_comm w, show (256 : Nat) = 2 ^ 8 by decide, Nat.mul_mod_mul_left]
  rw [e2, or_sum _ _ _ hm, ← e2]
  rfl
theorem ref_lwl2 (w old : Nat) (hw : w < 4294967296) (ho : old < 4294967296) : bits .or .u32 (((w * 65536 % 4294967296 : Nat)) : Int) (bits .and .u32 (old : Int) 65535) = ((lwlN 2 w old : Nat) : Int) := by
  have e1 := u32_and_nat old 65535 ho (by omega)
  rw [show old &&& 65535 = old % 2 ^ 16 from low_mask old 16] at e1
  rw [show ((65535 : Nat) : Int) = 65535 from rfl] at e1
  have hm : old % 2 ^ 16 < 2 ^ 16 := Nat.mod_lt _ (by decide)
  rw [e1, u32_or_nat _ _ (Nat.mod_lt _ (by omega)) (Nat.lt_of_lt_of_le hm (by decide))]
  have e2 : w * 65536 % 4294967296 = 2 ^ 16 * (w % 2 ^ 16) := by
    rw [show (4294967296 : Nat) = 2 ^ 16 * 2 ^ 16 by decide, Nat.mul_comm w, show (65536 : Nat) = 2 ^ 16 by decide, Nat.mul_mod_mul_left]
  rw [e2, or_sum _ _ _ hm, ← e2]
  rfl
theorem ref_lwl3 (w old : Nat) (hw : w < 4294967296) (ho : old < 4294967296) : bits .or .u32 (((w * 16777216 % 4294967296 : Nat)) : Int) (bits .and .u32 (old : Int) 16777215) = ((lwlN 3 w old : Nat) : Int) := by
  have e1 := u32_and_nat old 16777215 ho (by omega)
  rw [show old &&& 16777215 = old % 2 ^ 24 from low_mask old 24] at e1
  rw [show ((16777215 : Nat) : Int) = 16777215 from rfl] at e1
  have hm : old % 2 ^ 24 < 2 ^ 24 := Nat.mod_lt _ (by decide)
  rw [e1, u32_or_nat _ _ (Nat.mod_lt _ (by omega)) (Nat.lt_of_lt_of_le hm (by decide))]
  have e2 : w * 16777216 % 4294967296 = 2 ^ 24 * (w % 2 ^ 8) := by
    rw [show (4294967296 : Nat) = 2 ^ 24 * 2 ^ 8 by decide, Nat.mul_comm w, show (16777216 : Nat) = 2 ^ 24 by decide, Nat.mul_mod_mul_left]
  rw [e2, or_sum _ _ _ hm, ← e2]
  rfl
theorem ref_lwr0 (w old : Nat) (hw : w < 4294967296) (ho : old < 4294967296) : bits .or .u32 (((w / 16777216 : Nat)) : Int) ((old / 256 * 256 : Nat) : Int) = ((lwrN 0 w old : Nat) : Int) := by
  have hm : w / 16777216 < 2 ^ 8 := by omega
  have hh : old / 2 ^ 8 * 2 ^ 8 < 4294967296 := Nat.lt_of_le_of_lt (Nat.div_mul_le_self _ _) ho
  rw [u32_or_nat _ _ (Nat.lt_of_lt_of_le hm (by decide)) hh]
  rw [show old / 256 * 256 = 2 ^ 8 * (old / 2 ^ 8) from Nat.mul_comm _ _, Nat.or_comm, or_sum _ _ _ hm, Nat.add_comm, Nat.mul_comm]
  rfl
theorem ref_lwr1 (w old : Nat) (hw : w < 4294967296) (ho : old < 4294967296) : bits .or .u32 (((w / 65536 : Nat)) : Int) ((old / 65536 * 65536 : Nat) : Int) = ((lwrN 1 w old : Nat) : Int) := by
  have hm : w / 65536 < 2 ^ 16 := by omega
  have hh : old / 2 ^ 16 * 2 ^ 16 < 4294967296 := Nat.lt_of_le_of_lt (Nat.div_mul_le_self _ _) ho
  rw [u32_or_nat _ _ (Nat.lt_of_lt_of_le hm (by decide)) hh]
  rw [show old / 65536 * 65536 = 2 ^ 16 * (old / 2 ^ 16) from Nat.mul_comm _ _, Nat.or_comm, or_sum _ _ _ hm, Nat.add_comm, Nat.mul_comm]
  rfl
theorem ref_lwr2 (w old : Nat) (hw : w < 4294967296) (ho : old < 4294967296) : bits .or .u32 (((w / 256 : Nat)) : Int) ((old / 16777216 * 16777216 : Nat) : Int) = ((lwrN 2 w old : Nat) : Int) := by
  have hm : w / 256 < 2 ^ 24 := by omega
  have hh : old / 2 ^ 24 * 2 ^ 24 < 4294967296 := Nat.lt_of_le_of_lt (Nat.div_mul_le_self _ _) ho
  rw [u32_or_nat _ _ (Nat.lt_of_lt_of_le hm (by decide)) hh]
  rw [show old / 16777216 * 16777216 = 2 ^ 24 * (old / 2 ^ 24) from Nat.mul_comm _ _, Nat.or_comm, or_sum _ _ _ hm, Nat.add_comm, Nat.mul_comm]
  rfl
theorem ref_lwr3 (w old : Nat) (hw : w < 4294967296) (ho : old < 4294967296) : bits .or .u32 (((w / 1 : Nat)) : Int) ((old / 4294967296 * 4294967296 : Nat) : Int) = ((lwrN 3 w old : Nat) : Int) := by
  have hm : w / 1 < 2 ^ 32 := by omega
  have hh : old / 2 ^ 32 * 2 ^ 32 < 4294967296 := Nat.lt_of_le_of_lt (Nat.div_mul_le_self _ _) ho
  rw [u32_or_nat _ _ (Nat.lt_of_lt_of_le hm (by decide)) hh]
  rw [show old / 4294967296 * 4294967296 = 2 ^ 32 * (old / 2 ^ 32) from Nat.mul_comm _ _, Nat.or_comm, or_sum _ _ _ hm, Nat.add_comm, Nat.mul_comm]
  rfl
set_option maxRecDepth 20000 in
set_option maxHeartbeats 1000000 in
theorem rload_52 (w : World) (t : S5) (s : MS) (ht : M5 w t) (hS : Sim s t.l) (S T D A imm : Int) (a old : Nat) (ha : a < 4294967296) (ho : old < 4294967296) : Calls Try.prog 16 #[.pointer (some ⟨t.m, 0, none⟩), .agg (insC 52 S T D A imm), .int .u32 ((a : Nat) : Int), .int .u32 (old : Int)] w fun e w' => e = .returned (.int .u32 (loadN s 52 a old : Int)) ∧ Below w.heap.size w w' := by
  have hI := Blk.new w (insC 52 S T D A imm) 31
  have hb := below_new w (.cells (insC 52 S T D A imm) 31)
  have HB := hidden hb
  have hm := ht.later hb
  have c1 : (w.alloc (.cells (insC 52 S T D A imm) 31)).cell? ⟨w.heap.size, 0, none⟩ = some (.int .i64 (52)) := hI.cell rfl
  have hq0 := hm.peekC (a) ha
  have hq1 := hm.peekC (wrapAt (a) 1) (wrapAt_lt _ 1)
  have hqw := hm.wordC (a - (a) % 4) (by omega)
  rw [hS.peek] at hq0 hq1
  rw [hS.word _ (by omega)] at hqw
  have b0 := byteN_lt s (a)
  have b1 := byteN_lt s (wrapAt (a) 1)
  have bw := wordN_lt s (a - (a) % 4)
  change Calls Try.prog 41 _ _ fun e w' => e = .returned (.int .u8 (byteN s (a) : Int)) ∧ _ at hq0
  change Calls Try.prog 41 _ _ fun e w' => e = .returned (.int .u8 (byteN s (wrapAt (a) 1) : Int)) ∧ _ at hq1
  have e3 := and3 (a) ha
  have ew : (((a : Nat) : Int) + 1) % 4294967296 = ((wrapAt (a) 1 : Nat) : Int) := by unfold wrapAt; omega
  rw [show loadN s 52 a old = byteN s a from rfl]
  have e5 : ((a : Nat) : Int) - ((a % 4 : Nat) : Int) = ((a - a % 4 : Nat) : Int) := by omega
  generalize preW s (a - a % 4) 4 = xw at *
  generalize a - a % 4 = pw at *
  generalize a % 4 = r at *
  obtain ⟨x0, hx0⟩ : ∃ x0, byteN s a = x0 := ⟨_, rfl⟩
  obtain ⟨x1, hx1⟩ : ∃ x1, byteN s (wrapAt a 1) = x1 := ⟨_, rfl⟩
  rw [hx0] at hq0 b0
  rw [hx1] at hq1 b1
  rw [hx0]
  generalize wrapAt a 1 = q1 at *
  have HQ0 := hidden hq0
  have HQ1 := hidden hq1
  have HQW := hidden hqw
  clear ht hS hI hb hm hq0 hq1 hqw
  go_enter Try.func16, Try.ntmps16
  go_wp2_with (first | (go_at_call 41; (with_reducible refine HQ0.out.mono ?_); rintro e w1 ⟨rfl, hww1⟩; rw [hww1]; clear hww1 w1) | (go_at_call 41; (with_reducible refine HQ1.out.mono ?_); rintro e w2 ⟨rfl, hww2⟩; rw [hww2]; clear hww2 w2) | (go_at_call 38; (with_reducible refine HQW.out.mono ?_); rintro e w3 ⟨rfl, hww3⟩; rw [hww3]; clear hww3 w3))
  go_ret
  exact ⟨ret_int (by omega), HB.out⟩
set_option maxRecDepth 20000 in
set_option maxHeartbeats 1000000 in
theorem rload_53 (w : World) (t : S5) (s : MS) (ht : M5 w t) (hS : Sim s t.l) (S T D A imm : Int) (a old : Nat) (ha : a < 4294967296) (ho : old < 4294967296) : Calls Try.prog 16 #[.pointer (some ⟨t.m, 0, none⟩), .agg (insC 53 S T D A imm), .int .u32 ((a : Nat) : Int), .int .u32 (old : Int)] w fun e w' => e = .returned (.int .u32 (loadN s 53 a old : Int)) ∧ Below w.heap.size w w' := by
  have hI := Blk.new w (insC 53 S T D A imm) 31
  have hb := below_new w (.cells (insC 53 S T D A imm) 31)
  have HB := hidden hb
  have hm := ht.later hb
  have c1 : (w.alloc (.cells (insC 53 S T D A imm) 31)).cell? ⟨w.heap.size, 0, none⟩ = some (.int .i64 (53)) := hI.cell rfl
  have hq0 := hm.peekC (a) ha
  have hq1 := hm.peekC (wrapAt (a) 1) (wrapAt_lt _ 1)
  have hqw := hm.wordC (a - (a) % 4) (by omega)
  rw [hS.peek] at hq0 hq1
  rw [hS.word _ (by omega)] at hqw
  have b0 := byteN_lt s (a)
  have b1 := byteN_lt s (wrapAt (a) 1)
  have bw := wordN_lt s (a - (a) % 4)
  change Calls Try.prog 41 _ _ fun e w' => e = .returned (.int .u8 (byteN s (a) : Int)) ∧ _ at hq0
  change Calls Try.prog 41 _ _ fun e w' => e = .returned (.int .u8 (byteN s (wrapAt (a) 1) : Int)) ∧ _ at hq1
  have e3 := and3 (a) ha
  have ew : (((a : Nat) : Int) + 1) % 4294967296 = ((wrapAt (a) 1 : Nat) : Int) := by unfold wrapAt; omega
  rw [show loadN s 53 a old = halfN s a from rfl]
  have e5 : ((a : Nat) : Int) - ((a % 4 : Nat) : Int) = ((a - a % 4 : Nat) : Int) := by omega
  generalize preW s (a - a % 4) 4 = xw at *
  generalize a - a % 4 = pw at *
  generalize a % 4 = r at *
  obtain ⟨x0, hx0⟩ : ∃ x0, byteN s a = x0 := ⟨_, rfl⟩
  obtain ⟨x1, hx1⟩ : ∃ x1, byteN s (wrapAt a 1) = x1 := ⟨_, rfl⟩
  rw [hx0] at hq0 b0
  rw [hx1] at hq1 b1
  rw [show halfN s a = x0 * 256 + x1 by unfold halfN; rw [hx0, hx1]]
  generalize wrapAt a 1 = q1 at *
  have HQ0 := hidden hq0
  have HQ1 := hidden hq1
  have HQW := hidden hqw
  clear ht hS hI hb hm hq0 hq1 hqw
  go_enter Try.func16, Try.ntmps16
  go_wp2_with (first | (go_at_call 41; (with_reducible refine HQ0.out.mono ?_); rintro e w1 ⟨rfl, hww1⟩; rw [hww1]; clear hww1 w1) | (go_at_call 41; (with_reducible refine HQ1.out.mono ?_); rintro e w2 ⟨rfl, hww2⟩; rw [hww2]; clear hww2 w2) | (go_at_call 38; (with_reducible refine HQW.out.mono ?_); rintro e w3 ⟨rfl, hww3⟩; rw [hww3]; clear hww3 w3))
  go_ret
  exact ⟨ret_int (by omega), HB.out⟩
set_option maxRecDepth 20000 in
set_option maxHeartbeats 1000000 in
theorem rload_51 (w : World) (t : S5) (s : MS) (ht : M5 w t) (hS : Sim s t.l) (S T D A imm : Int) (a old : Nat) (ha : a < 4294967296) (ho : old < 4294967296) : Calls Try.prog 16 #[.pointer (some ⟨t.m, 0, none⟩), .agg (insC 51 S T D A imm), .int .u32 ((a : Nat) : Int), .int .u32 (old : Int)] w fun e w' => e = .returned (.int .u32 (loadN s 51 a old : Int)) ∧ Below w.heap.size w w' := by
  have hI := Blk.new w (insC 51 S T D A imm) 31
  have hb := below_new w (.cells (insC 51 S T D A imm) 31)
  have HB := hidden hb
  have hm := ht.later hb
  have c1 : (w.alloc (.cells (insC 51 S T D A imm) 31)).cell? ⟨w.heap.size, 0, none⟩ = some (.int .i64 (51)) := hI.cell rfl
  have hq0 := hm.peekC (a) ha
  have hq1 := hm.peekC (wrapAt (a) 1) (wrapAt_lt _ 1)
  have hqw := hm.wordC (a - (a) % 4) (by omega)
  rw [hS.peek] at hq0 hq1
  rw [hS.word _ (by omega)] at hqw
  have b0 := byteN_lt s (a)
  have b1 := byteN_lt s (wrapAt (a) 1)
  have bw := wordN_lt s (a - (a) % 4)
  change Calls Try.prog 41 _ _ fun e w' => e = .returned (.int .u8 (byteN s (a) : Int)) ∧ _ at hq0
  change Calls Try.prog 41 _ _ fun e w' => e = .returned (.int .u8 (byteN s (wrapAt (a) 1) : Int)) ∧ _ at hq1
  have e3 := and3 (a) ha
  have ew : (((a : Nat) : Int) + 1) % 4294967296 = ((wrapAt (a) 1 : Nat) : Int) := by unfold wrapAt; omega
  rw [show loadN s 51 a old = preW s a 4 from rfl]
  have e5 : ((a : Nat) : Int) - ((a % 4 : Nat) : Int) = ((a - a % 4 : Nat) : Int) := by omega
  have hqv := hm.wordC a ha
  rw [hS.word _ ha] at hqv
  have HQV := hidden hqv
  clear hqv
  have bv := wordN_lt s a
  generalize preW s a 4 = xv at *
  generalize preW s (a - a % 4) 4 = xw at *
  generalize a - a % 4 = pw at *
  generalize a % 4 = r at *
  obtain ⟨x0, hx0⟩ : ∃ x0, byteN s a = x0 := ⟨_, rfl⟩
  obtain ⟨x1, hx1⟩ : ∃ x1, byteN s (wrapAt a 1) = x1 := ⟨_, rfl⟩
  rw [hx0] at hq0 b0
  rw [hx1] at hq1 b1
  generalize wrapAt a 1 = q1 at *
  have HQ0 := hidden hq0
  have HQ1 := hidden hq1
  have HQW := hidden hqw
  clear ht hS hI hb hm hq0 hq1 hqw
  go_enter Try.func16, Try.ntmps16
  go_wp2_with (first | (go_at_call 41; (with_reducible refine HQ0.out.mono ?_); rintro e w1 ⟨rfl, hww1⟩; rw [hww1]; clear hww1 w1) | (go_at_call 41; (with_reducible refine HQ1.out.mono ?_); rintro e w2 ⟨rfl, hww2⟩; rw [hww2]; clear hww2 w2) | (go_at_call 38; (with_reducible refine HQW.out.mono ?_); rintro e w3 ⟨rfl, hww3⟩; rw [hww3]; clear hww3 w3) | (go_at_call 38; (with_reducible refine HQV.out.mono ?_); rintro e w5 ⟨rfl, hww5⟩; rw [hww5]; clear hww5 w5))
  go_ret
  exact ⟨rfl, HB.out⟩
set_option maxRecDepth 20000 in
set_option maxHeartbeats 1000000 in
theorem rload_48 (w : World) (t : S5) (s : MS) (ht : M5 w t) (hS : Sim s t.l) (S T D A imm : Int) (a old : Nat) (ha : a < 4294967296) (ho : old < 4294967296) : Calls Try.prog 16 #[.pointer (some ⟨t.m, 0, none⟩), .agg (insC 48 S T D A imm), .int .u32 ((a : Nat) : Int), .int .u32 (old : Int)] w fun e w' => e = .returned (.int .u32 (loadN s 48 a old : Int)) ∧ Below w.heap.size w w' := by
  have hI := Blk.new w (insC 48 S T D A imm) 31
  have hb := below_new w (.cells (insC 48 S T D A imm) 31)
  have HB := hidden hb
  have hm := ht.later hb
  have c1 : (w.alloc (.cells (insC 48 S T D A imm) 31)).cell? ⟨w.heap.size, 0, none⟩ = some (.int .i64 (48)) := hI.cell rfl
  have hq0 := hm.peekC (a) ha
  have hq1 := hm.peekC (wrapAt (a) 1) (wrapAt_lt _ 1)
  have hqw := hm.wordC (a - (a) % 4) (by omega)
  rw [hS.peek] at hq0 hq1
  rw [hS.word _ (by omega)] at hqw
  have b0 := byteN_lt s (a)
  have b1 := byteN_lt s (wrapAt (a) 1)
  have bw := wordN_lt s (a - (a) % 4)
  change Calls Try.prog 41 _ _ fun e w' => e = .returned (.int .u8 (byteN s (a) : Int)) ∧ _ at hq0
  change Calls Try.prog 41 _ _ fun e w' => e = .returned (.int .u8 (byteN s (wrapAt (a) 1) : Int)) ∧ _ at hq1
  have e3 := and3 (a) ha
  have ew : (((a : Nat) : Int) + 1) % 4294967296 = ((wrapAt (a) 1 : Nat) : Int) := by unfold wrapAt; omega
  rw [show loadN s 48 a old = (if byteN s a < 128 then byteN s a else byteN s a + 4294967040) from rfl]
  have e5 : ((a : Nat) : Int) - ((a % 4 : Nat) : Int) = ((a - a % 4 : Nat) : Int) := by omega
  generalize preW s (a - a % 4) 4 = xw at *
  generalize a - a % 4 = pw at *
  generalize a % 4 = r at *
  obtain ⟨x0, hx0⟩ : ∃ x0, byteN s a = x0 := ⟨_, rfl⟩
  obtain ⟨x1, hx1⟩ : ∃ x1, byteN s (wrapAt a 1) = x1 := ⟨_, rfl⟩
  rw [hx0] at hq0 b0
  rw [hx1] at hq1 b1
  rw [hx0]
  have hx := sext32_8 b0
  obtain ⟨r0, hr0⟩ : ∃ r0, r0 = (if x0 < 128 then x0 else x0 + 4294967040) := ⟨_, rfl⟩
  rw [← hr0] at hx ⊢
  have HX := hidden (fun u => refSext_any (x0 : Int) 8 (by omega) (by omega) u)
  rw [hx] at HX
  generalize wrapAt a 1 = q1 at *
  clear hx hr0
  have HQ0 := hidden hq0
  have HQ1 := hidden hq1
  have HQW := hidden hqw
  clear ht hS hI hb hm hq0 hq1 hqw
  go_enter Try.func16, Try.ntmps16
  go_wp2_with (first | (go_at_call 41; (with_reducible refine HQ0.out.mono ?_); rintro e w1 ⟨rfl, hww1⟩; rw [hww1]; clear hww1 w1) | (go_at_call 41; (with_reducible refine HQ1.out.mono ?_); rintro e w2 ⟨rfl, hww2⟩; rw [hww2]; clear hww2 w2) | (go_at_call 38; (with_reducible refine HQW.out.mono ?_); rintro e w3 ⟨rfl, hww3⟩; rw [hww3]; clear hww3 w3) | (go_at_call 42; refine (HX.out _).mono ?_; rintro e w4 ⟨rfl, hww4⟩; rw [hww4]; clear hww4 w4))
  go_ret
  exact ⟨rfl, HB.out⟩
set_option maxRecDepth 20000 in
set_option maxHeartbeats 1000000 in
theorem rload_49 (w : World) (t : S5) (s : MS) (ht : M5 w t) (hS : Sim s t.l) (S T D A imm : Int) (a old : Nat) (ha : a < 4294967296) (ho : old < 4294967296) : Calls Try.prog 16 #[.pointer (some ⟨t.m, 0, none⟩), .agg (insC 49 S T D A imm), .int .u32 ((a : Nat) : Int), .int .u32 (old : Int)] w fun e w' => e = .returned (.int .u32 (loadN s 49 a old : Int)) ∧ Below w.heap.size w w' := by
  have hI := Blk.new w (insC 49 S T D A imm) 31
  have hb := below_new w (.cells (insC 49 S T D A imm) 31)
  have HB := hidden hb
  have hm := ht.later hb
  have c1 : (w.alloc (.cells (insC 49 S T D A imm) 31)).cell? ⟨w.heap.size, 0, none⟩ = some (.int .i64 (49)) := hI.cell rfl
  have hq0 := hm.peekC (a) ha
  have hq1 := hm.peekC (wrapAt (a) 1) (wrapAt_lt _ 1)
  have hqw := hm.wordC (a - (a) % 4) (by omega)
  rw [hS.peek] at hq0 hq1
  rw [hS.word _ (by omega)] at hqw
  have b0 := byteN_lt s (a)
  have b1 := byteN_lt s (wrapAt (a) 1)
  have bw := wordN_lt s (a - (a) % 4)
  change Calls Try.prog 41 _ _ fun e w' => e = .returned (.int .u8 (byteN s (a) : Int)) ∧ _ at hq0
  change Calls Try.prog 41 _ _ fun e w' => e = .returned (.int .u8 (byteN s (wrapAt (a) 1) : Int)) ∧ _ at hq1
  have e3 := and3 (a) ha
  have ew : (((a : Nat) : Int) + 1) % 4294967296 = ((wrapAt (a) 1 : Nat) : Int) := by unfold wrapAt; omega
  rw [show loadN s 49 a old = (if halfN s a < 32768 then halfN s a else halfN s a + 4294901760) from rfl]
  have e5 : ((a : Nat) : Int) - ((a % 4 : Nat) : Int) = ((a - a % 4 : Nat) : Int) := by omega
  generalize preW s (a - a % 4) 4 = xw at *
  generalize a - a % 4 = pw at *
  generalize a % 4 = r at *
  obtain ⟨x0, hx0⟩ : ∃ x0, byteN s a = x0 := ⟨_, rfl⟩
  obtain ⟨x1, hx1⟩ : ∃ x1, byteN s (wrapAt a 1) = x1 := ⟨_, rfl⟩
  rw [hx0] at hq0 b0
  rw [hx1] at hq1 b1
  have bh := halfN_lt s a
  rw [show halfN s a = x0 * 256 + x1 by unfold halfN; rw [hx0, hx1]] at bh ⊢
  have hx := sext32_16 bh
  obtain ⟨r0, hr0⟩ : ∃ r0, r0 = (if x0 * 256 + x1 < 32768 then x0 * 256 + x1 else x0 * 256 + x1 + 4294901760) := ⟨_, rfl⟩
  rw [← hr0] at hx ⊢
  have ex : ((x0 * 256 + x1 : Nat) : Int) = (x0 : Int) * 256 + (x1 : Int) := by omega
  have HX := hidden (fun u => refSext_any ((x0 * 256 + x1 : Nat) : Int) 16 (by omega) (by omega) u)
  rw [hx, ex] at HX
  generalize wrapAt a 1 = q1 at *
  clear hx hr0 ex
  have HQ0 := hidden hq0
  have HQ1 := hidden hq1
  have HQW := hidden hqw
  clear ht hS hI hb hm hq0 hq1 hqw
  go_enter Try.func16, Try.ntmps16
  go_wp2_with (first | (go_at_call 41; (with_reducible refine HQ0.out.mono ?_); rintro e w1 ⟨rfl, hww1⟩; rw [hww1]; clear hww1 w1) | (go_at_call 41; (with_reducible refine HQ1.out.mono ?_); rintro e w2 ⟨rfl, hww2⟩; rw [hww2]; clear hww2 w2) | (go_at_call 38; (with_reducible refine HQW.out.mono ?_); rintro e w3 ⟨rfl, hww3⟩; rw [hww3]; clear hww3 w3) | (go_at_call 42; refine (HX.out _).mono ?_; rintro e w4 ⟨rfl, hww4⟩; rw [hww4]; clear hww4 w4))
  go_ret
  exact ⟨rfl, HB.out⟩
set_option maxRecDepth 20000 in
set_option maxHeartbeats 1000000 in
theorem rload_lwl0 (w : World) (t : S5) (s : MS) (ht : M5 w t) (hS : Sim s t.l) (S T D A imm : Int) (q old : Nat) (ha : 4 * q + 0 < 4294967296) (ho : old < 4294967296) : Calls Try.prog 16 #[.pointer (some ⟨t.m, 0, none⟩), .agg (insC 50 S T D A imm), .int .u32 ((4 * q + 0 : Nat) : Int), .int .u32 (old : Int)] w fun e w' => e = .returned (.int .u32 (lwlN 0 (preW s (4 * q) 4) old : Int)) ∧ Below w.heap.size w w' := by
  have hI := Blk.new w (insC 50 S T D A imm) 31
  have hb := below_new w (.cells (insC 50 S T D A imm) 31)
  have HB := hidden hb
  have hm := ht.later hb
  have c1 : (w.alloc (.cells (insC 50 S T D A imm) 31)).cell? ⟨w.heap.size, 0, none⟩ = some (.int .i64 (50)) := hI.cell rfl
  have hq0 := hm.peekC (4 * q + 0) ha
  have hq1 := hm.peekC (wrapAt (4 * q + 0) 1) (wrapAt_lt _ 1)
  have hqw := hm.wordC (4 * q + 0 - (4 * q + 0) % 4) (by omega)
  rw [hS.peek] at hq0 hq1
  rw [hS.word _ (by omega)] at hqw
  have b0 := byteN_lt s (4 * q + 0)
  have b1 := byteN_lt s (wrapAt (4 * q + 0) 1)
  have bw := wordN_lt s (4 * q + 0 - (4 * q + 0) % 4)
  change Calls Try.prog 41 _ _ fun e w' => e = .returned (.int .u8 (byteN s (4 * q + 0) : Int)) ∧ _ at hq0
  change Calls Try.prog 41 _ _ fun e w' => e = .returned (.int .u8 (byteN s (wrapAt (4 * q + 0) 1) : Int)) ∧ _ at hq1
  have e3 := and3 (4 * q + 0) ha
  have ew : (((4 * q + 0 : Nat) : Int) + 1) % 4294967296 = ((wrapAt (4 * q + 0) 1 : Nat) : Int) := by unfold wrapAt; omega
  have e6 : 4 * q + 0 - (4 * q + 0) % 4 = 4 * q := by omega
  rw [show (4 * q + 0) % 4 = 0 by omega] at e3
  rw [e6] at hqw bw
  have hc := ref_lwl0 (preW s (4 * q) 4) old bw ho
  have e5 : ((4 * q + 0 : Nat) : Int) - 0 = ((4 * q : Nat) : Int) := by omega
  rw [Nat.mul_one, Nat.mod_eq_of_lt bw] at hc
  generalize preW s (4 * q) 4 = xw at *
  obtain ⟨a, hq⟩ : ∃ a, a = 4 * q + 0 := ⟨_, rfl⟩
  rw [← hq] at ha b0 b1 e3 ew e5 hq0 hq1 ⊢
  obtain ⟨p, hp⟩ : ∃ p, p = 4 * q := ⟨_, rfl⟩
  rw [← hp] at hqw e5
  generalize byteN s a = x0 at *
  generalize byteN s (wrapAt a 1) = x1 at *
  generalize wrapAt a 1 = q1 at *
  clear hp e6 hq
  have HQ0 := hidden hq0
  have HQ1 := hidden hq1
  have HQW := hidden hqw
  clear ht hS hI hb hm hq0 hq1 hqw
  go_enter Try.func16, Try.ntmps16
  go_wp2_with (first | (go_at_call 41; (with_reducible refine HQ0.out.mono ?_); rintro e w1 ⟨rfl, hww1⟩; rw [hww1]; clear hww1 w1) | (go_at_call 41; (with_reducible refine HQ1.out.mono ?_); rintro e w2 ⟨rfl, hww2⟩; rw [hww2]; clear hww2 w2) | (go_at_call 38; (with_reducible refine HQW.out.mono ?_); rintro e w3 ⟨rfl, hww3⟩; rw [hww3]; clear hww3 w3))
  go_ret
  exact ⟨ret_int rfl, HB.out⟩
set_option maxRecDepth 20000 in
set_option maxHeartbeats 1000000 in
theorem rload_lwl1 (w : World) (t : S5) (s : MS) (ht : M5 w t) (hS : Sim s t.l) (S T D A imm : Int) (q old : Nat) (ha : 4 * q + 1 < 4294967296) (ho : old < 4294967296) : Calls Try.prog 16 #[.pointer (some ⟨t.m, 0, none⟩), .agg (insC 50 S T D A imm), .int .u32 ((4 * q + 1 : Nat) : Int), .int .u32 (old : Int)] w fun e w' => e = .returned (.int .u32 (lwlN 1 (preW s (4 * q) 4) old : Int)) ∧ Below w.heap.size w w' := by
  have hI := Blk.new w (insC 50 S T D A imm) 31
  have hb := below_new w (.cells (insC 50 S T D A imm) 31)
  have HB := hidden hb
  have hm := ht.later hb
  have c1 : (w.alloc (.cells (insC 50 S T D A imm) 31)).cell? ⟨w.heap.size, 0, none⟩ = some (.int .i64 (50)) := hI.cell rfl
  have hq0 := hm.peekC (4 * q + 1) ha
  have hq1 := hm.peekC (wrapAt (4 * q + 1) 1) (wrapAt_lt _ 1)
  have hqw := hm.wordC (4 * q + 1 - (4 * q + 1) % 4) (by omega)
  rw [hS.peek] at hq0 hq1
  rw [hS.word _ (by omega)] at hqw
  have b0 := byteN_lt s (4 * q + 1)
  have b1 := byteN_lt s (wrapAt (4 * q + 1) 1)
  have bw := wordN_lt s (4 * q + 1 - (4 * q + 1) % 4)
  change Calls Try.prog 41 _ _ fun e w' => e = .returned (.int .u8 (byteN s (4 * q + 1) : Int)) ∧ _ at hq0
  change Calls Try.prog 41 _ _ fun e w' => e = .returned (.int .u8 (byteN s (wrapAt (4 * q + 1) 1) : Int)) ∧ _ at hq1
  have e3 := and3 (4 * q + 1) ha
  have ew : (((4 * q + 1 : Nat) : Int) + 1) % 4294967296 = ((wrapAt (4 * q + 1) 1 : Nat) : Int) := by unfold wrapAt; omega
  have e6 : 4 * q + 1 - (4 * q + 1) % 4 = 4 * q := by omega
  rw [show (4 * q + 1) % 4 = 1 by omega] at e3
  rw [e6] at hqw bw
  have hc := ref_lwl1 (preW s (4 * q) 4) old bw ho
  have e5 : ((4 * q + 1 : Nat) : Int) - 1 = ((4 * q : Nat) : Int) := by omega
  generalize preW s (4 * q) 4 = xw at *
  obtain ⟨a, hq⟩ : ∃ a, a = 4 * q + 1 := ⟨_, rfl⟩
  rw [← hq] at ha b0 b1 e3 ew e5 hq0 hq1 ⊢
  obtain ⟨p, hp⟩ : ∃ p, p = 4 * q := ⟨_, rfl⟩
  rw [← hp] at hqw e5
  generalize byteN s a = x0 at *
  generalize byteN s (wrapAt a 1) = x1 at *
  generalize wrapAt a 1 = q1 at *
  clear hp e6 hq
  have HQ0 := hidden hq0
  have HQ1 := hidden hq1
  have HQW := hidden hqw
  clear ht hS hI hb hm hq0 hq1 hqw
  go_enter Try.func16, Try.ntmps16
  go_wp2_with (first | (go_at_call 41; (with_reducible refine HQ0.out.mono ?_); rintro e w1 ⟨rfl, hww1⟩; rw [hww1]; clear hww1 w1) | (go_at_call 41; (with_reducible refine HQ1.out.mono ?_); rintro e w2 ⟨rfl, hww2⟩; rw [hww2]; clear hww2 w2) | (go_at_call 38; (with_reducible refine HQW.out.mono ?_); rintro e w3 ⟨rfl, hww3⟩; rw [hww3]; clear hww3 w3))
  go_ret
  exact ⟨ret_int hc, HB.out⟩
set_option maxRecDepth 20000 in
set_option maxHeartbeats 1000000 in
theorem rload_lwl2 (w : World) (t : S5) (s : MS) (ht : M5 w t) (hS : Sim s t.l) (S T D A imm : Int) (q old : Nat) (ha : 4 * q + 2 < 4294967296) (ho : old < 4294967296) : Calls Try.prog 16 #[.pointer (some ⟨t.m, 0, none⟩), .agg (insC 50 S T D A imm), .int .u32 ((4 * q + 2 : Nat) : Int), .int .u32 (old : Int)] w fun e w' => e = .returned (.int .u32 (lwlN 2 (preW s (4 * q) 4) old : Int)) ∧ Below w.heap.size w w' := by
  have hI := Blk.new w (insC 50 S T D A imm) 31
  have hb := below_new w (.cells (insC 50 S T D A imm) 31)
  have HB := hidden hb
  have hm := ht.later hb
  have c1 : (w.alloc (.cells (insC 50 S T D A imm) 31)).cell? ⟨w.heap.size, 0, none⟩ = some (.int .i64 (50)) := hI.cell rfl
  have hq0 := hm.peekC (4 * q + 2) ha
  have hq1 := hm.peekC (wrapAt (4 * q + 2) 1) (wrapAt_lt _ 1)
  have hqw := hm.wordC (4 * q + 2 - (4 * q + 2) % 4) (by omega)
  rw [hS.peek] at hq0 hq1
  rw [hS.word _ (by omega)] at hqw
  have b0 := byteN_lt s (4 * q + 2)
  have b1 := byteN_lt s (wrapAt (4 * q + 2) 1)
  have bw := wordN_lt s (4 * q + 2 - (4 * q + 2) % 4)
  change Calls Try.prog 41 _ _ fun e w' => e = .returned (.int .u8 (byteN s (4 * q + 2) : Int)) ∧ _ at hq0
  change Calls Try.prog 41 _ _ fun e w' => e = .returned (.int .u8 (byteN s (wrapAt (4 * q + 2) 1) : Int)) ∧ _ at hq1
  have e3 := and3 (4 * q + 2) ha
  have ew : (((4 * q + 2 : Nat) : Int) + 1) % 4294967296 = ((wrapAt (4 * q + 2) 1 : Nat) : Int) := by unfold wrapAt; omega
  have e6 : 4 * q + 2 - (4 * q + 2) % 4 = 4 * q := by omega
  rw [show (4 * q + 2) % 4 = 2 by omega] at e3
  rw [e6] at hqw bw
  have hc := ref_lwl2 (preW s (4 * q) 4) old bw ho
  have e5 : ((4 * q + 2 : Nat) : Int) - 2 = ((4 * q : Nat) : Int) := by omega
  generalize preW s (4 * q) 4 = xw at *
  obtain ⟨a, hq⟩ : ∃ a, a = 4 * q + 2 := ⟨_, rfl⟩
  rw [← hq] at ha b0 b1 e3 ew e5 hq0 hq1 ⊢
  obtain ⟨p, hp⟩ : ∃ p, p = 4 * q := ⟨_, rfl⟩
  rw [← hp] at hqw e5
  generalize byteN s a = x0 at *
  generalize byteN s (wrapAt a 1) = x1 at *
  generalize wrapAt a 1 = q1 at *
  clear hp e6 hq
  have HQ0 := hidden hq0
  have HQ1 := hidden hq1
  have HQW := hidden hqw
  clear ht hS hI hb hm hq0 hq1 hqw
  go_enter Try.func16, Try.ntmps16
  go_wp2_with (first | (go_at_call 41; (with_reducible refine HQ0.out.mono ?_); rintro e w1 ⟨rfl, hww1⟩; rw [hww1]; clear hww1 w1) | (go_at_call 41; (with_reducible refine HQ1.out.mono ?_); rintro e w2 ⟨rfl, hww2⟩; rw [hww2]; clear hww2 w2) | (go_at_call 38; (with_reducible refine HQW.out.mono ?_); rintro e w3 ⟨rfl, hww3⟩; rw [hww3]; clear hww3 w3))
  go_ret
  exact ⟨ret_int hc, HB.out⟩
set_option maxRecDepth 20000 in
set_option maxHeartbeats 1000000 in
theorem rload_lwl3 (w : World) (t : S5) (s : MS) (ht : M5 w t) (hS : Sim s t.l) (S T D A imm : Int) (q old : Nat) (ha : 4 * q + 3 < 4294967296) (ho : old < 4294967296) : Calls Try.prog 16 #[.pointer (some ⟨t.m, 0, none⟩), .agg (insC 50 S T D A imm), .int .u32 ((4 * q + 3 : Nat) : Int), .int .u32 (old : Int)] w fun e w' => e = .returned (.int .u32 (lwlN 3 (preW s (4 * q) 4) old : Int)) ∧ Below w.heap.size w w' := by
  have hI := Blk.new w (insC 50 S T D A imm) 31
  have hb := below_new w (.cells (insC 50 S T D A imm) 31)
  have HB := hidden hb
  have hm := ht.later hb
  have c1 : (w.alloc (.cells (insC 50 S T D A imm) 31)).cell? ⟨w.heap.size, 0, none⟩ = some (.int .i64 (50)) := hI.cell rfl
  have hq0 := hm.peekC (4 * q + 3) ha
  have hq1 := hm.peekC (wrapAt (4 * q + 3) 1) (wrapAt_lt _ 1)
  have hqw := hm.wordC (4 * q + 3 - (4 * q + 3) % 4) (by omega)
  rw [hS.peek] at hq0 hq1
  rw [hS.word _ (by omega)] at hqw
  have b0 := byteN_lt s (4 * q + 3)
  have b1 := byteN_lt s (wrapAt (4 * q + 3) 1)
  have bw := wordN_lt s (4 * q + 3 - (4 * q + 3) % 4)
  change Calls Try.prog 41 _ _ fun e w' => e = .returned (.int .u8 (byteN s (4 * q + 3) : Int)) ∧ _ at hq0
  change Calls Try.prog 41 _ _ fun e w' => e = .returned (.int .u8 (byteN s (wrapAt (4 * q + 3) 1) : Int)) ∧ _ at hq1
  have e3 := and3 (4 * q + 3) ha
  have ew : (((4 * q + 3 : Nat) : Int) + 1) % 4294967296 = ((wrapAt (4 * q + 3) 1 : Nat) : Int) := by unfold wrapAt; omega
  have e6 : 4 * q + 3 - (4 * q + 3) % 4 = 4 * q := by omega
  rw [show (4 * q + 3) % 4 = 3 by omega] at e3
  rw [e6] at hqw bw
  have hc := ref_lwl3 (preW s (4 * q) 4) old bw ho
  have e5 : ((4 * q + 3 : Nat) : Int) - 3 = ((4 * q : Nat) : Int) := by omega
  generalize preW s (4 * q) 4 = xw at *
  obtain ⟨a, hq⟩ : ∃ a, a = 4 * q + 3 := ⟨_, rfl⟩
  rw [← hq] at ha b0 b1 e3 ew e5 hq0 hq1 ⊢
  obtain ⟨p, hp⟩ : ∃ p, p = 4 * q := ⟨_, rfl⟩
  rw [← hp] at hqw e5
  generalize byteN s a = x0 at *
  generalize byteN s (wrapAt a 1) = x1 at *
  generalize wrapAt a 1 = q1 at *
  clear hp e6 hq
  have HQ0 := hidden hq0
  have HQ1 := hidden hq1
  have HQW := hidden hqw
  clear ht hS hI hb hm hq0 hq1 hqw
  go_enter Try.func16, Try.ntmps16
  go_wp2_with (first | (go_at_call 41; (with_reducible refine HQ0.out.mono ?_); rintro e w1 ⟨rfl, hww1⟩; rw [hww1]; clear hww1 w1) | (go_at_call 41; (with_reducible refine HQ1.out.mono ?_); rintro e w2 ⟨rfl, hww2⟩; rw [hww2]; clear hww2 w2) | (go_at_call 38; (with_reducible refine HQW.out.mono ?_); rintro e w3 ⟨rfl, hww3⟩; rw [hww3]; clear hww3 w3))
  go_ret
  exact ⟨ret_int hc, HB.out⟩
set_option maxRecDepth 20000 in
set_option maxHeartbeats 1000000 in
theorem rload_lwr0 (w : World) (t : S5) (s : MS) (ht : M5 w t) (hS : Sim s t.l) (S T D A imm : Int) (q old : Nat) (ha : 4 * q + 0 < 4294967296) (ho : old < 4294967296) : Calls Try.prog 16 #[.pointer (some ⟨t.m, 0, none⟩), .agg (insC 54 S T D A imm), .int .u32 ((4 * q + 0 : Nat) : Int), .int .u32 (old : Int)] w fun e w' => e = .returned (.int .u32 (lwrN 0 (preW s (4 * q) 4) old : Int)) ∧ Below w.heap.size w w' := by
  have hI := Blk.new w (insC 54 S T D A imm) 31
  have hb := below_new w (.cells (insC 54 S T D A imm) 31)
  have HB := hidden hb
  have hm := ht.later hb
  have c1 : (w.alloc (.cells (insC 54 S T D A imm) 31)).cell? ⟨w.heap.size, 0, none⟩ = some (.int .i64 (54)) := hI.cell rfl
  have hq0 := hm.peekC (4 * q + 0) ha
  have hq1 := hm.peekC (wrapAt (4 * q + 0) 1) (wrapAt_lt _ 1)
  have hqw := hm.wordC (4 * q + 0 - (4 * q + 0) % 4) (by omega)
  rw [hS.peek] at hq0 hq1
  rw [hS.word _ (by omega)] at hqw
  have b0 := byteN_lt s (4 * q + 0)
  have b1 := byteN_lt s (wrapAt (4 * q + 0) 1)
  have bw := wordN_lt s (4 * q + 0 - (4 * q + 0) % 4)
  change Calls Try.prog 41 _ _ fun e w' => e = .returned (.int .u8 (byteN s (4 * q + 0) : Int)) ∧ _ at hq0
  change Calls Try.prog 41 _ _ fun e w' => e = .returned (.int .u8 (byteN s (wrapAt (4 * q + 0) 1) : Int)) ∧ _ at hq1
  have e3 := and3 (4 * q + 0) ha
  have ew : (((4 * q + 0 : Nat) : Int) + 1) % 4294967296 = ((wrapAt (4 * q + 0) 1 : Nat) : Int) := by unfold wrapAt; omega
  have e6 : 4 * q + 0 - (4 * q + 0) % 4 = 4 * q := by omega
  rw [show (4 * q + 0) % 4 = 0 by omega] at e3
  rw [e6] at hqw bw
  have hc := ref_lwr0 (preW s (4 * q) 4) old bw ho
  have e5 : ((4 * q + 0 : Nat) : Int) - 0 = ((4 * q : Nat) : Int) := by omega
  generalize preW s (4 * q) 4 = xw at *
  obtain ⟨a, hq⟩ : ∃ a, a = 4 * q + 0 := ⟨_, rfl⟩
  rw [← hq] at ha b0 b1 e3 ew e5 hq0 hq1 ⊢
  obtain ⟨p, hp⟩ : ∃ p, p = 4 * q := ⟨_, rfl⟩
  rw [← hp] at hqw e5
  generalize byteN s a = x0 at *
  generalize byteN s (wrapAt a 1) = x1 at *
  generalize wrapAt a 1 = q1 at *
  clear hp e6 hq
  have HQ0 := hidden hq0
  have HQ1 := hidden hq1
  have HQW := hidden hqw
  clear ht hS hI hb hm hq0 hq1 hqw
  go_enter Try.func16, Try.ntmps16
  go_wp2_with (first | (go_at_call 41; (with_reducible refine HQ0.out.mono ?_); rintro e w1 ⟨rfl, hww1⟩; rw [hww1]; clear hww1 w1) | (go_at_call 41; (with_reducible refine HQ1.out.mono ?_); rintro e w2 ⟨rfl, hww2⟩; rw [hww2]; clear hww2 w2) | (go_at_call 38; (with_reducible refine HQW.out.mono ?_); rintro e w3 ⟨rfl, hww3⟩; rw [hww3]; clear hww3 w3))
  go_ret
  exact ⟨ret_int hc, HB.out⟩
set_option maxRecDepth 20000 in
set_option maxHeartbeats 1000000 in
theorem rload_lwr1 (w : World) (t : S5) (s : MS) (ht : M5 w t) (hS : Sim s t.l) (S T D A imm : Int) (q old : Nat) (ha : 4 * q + 1 < 4294967296) (ho : old < 4294967296) : Calls Try.prog 16 #[.pointer (some ⟨t.m, 0, none⟩), .agg (insC 54 S T D A imm), .int .u32 ((4 * q + 1 : Nat) : Int), .int .u32 (old : Int)] w fun e w' => e = .returned (.int .u32 (lwrN 1 (preW s (4 * q) 4) old : Int)) ∧ Below w.heap.size w w' := by
  have hI := Blk.new w (insC 54 S T D A imm) 31
  have hb := below_new w (.cells (insC 54 S T D A imm) 31)
  have HB := hidden hb
  have hm := ht.later hb
  have c1 : (w.alloc (.cells (insC 54 S T D A imm) 31)).cell? ⟨w.heap.size, 0, none⟩ = some (.int .i64 (54)) := hI.cell rfl
  have hq0 := hm.peekC (4 * q + 1) ha
  have hq1 := hm.peekC (wrapAt (4 * q + 1) 1) (wrapAt_lt _ 1)
  have hqw := hm.wordC (4 * q + 1 - (4 * q + 1) % 4) (by omega)
  rw [hS.peek] at hq0 hq1
  rw [hS.word _ (by omega)] at hqw
  have b0 := byteN_lt s (4 * q + 1)
  have b1 := byteN_lt s (wrapAt (4 * q + 1) 1)
  have bw := wordN_lt s (4 * q + 1 - (4 * q + 1) % 4)
  change Calls Try.prog 41 _ _ fun e w' => e = .returned (.int .u8 (byteN s (4 * q + 1) : Int)) ∧ _ at hq0
  change Calls Try.prog 41 _ _ fun e w' => e = .returned (.int .u8 (byteN s (wrapAt (4 * q + 1) 1) : Int)) ∧ _ at hq1
  have e3 := and3 (4 * q + 1) ha
  have ew : (((4 * q + 1 : Nat) : Int) + 1) % 4294967296 = ((wrapAt (4 * q + 1) 1 : Nat) : Int) := by unfold wrapAt; omega
  have e6 : 4 * q + 1 - (4 * q + 1) % 4 = 4 * q := by omega
  rw [show (4 * q + 1) % 4 = 1 by omega] at e3
  rw [e6] at hqw bw
  have hc := ref_lwr1 (preW s (4 * q) 4) old bw ho
  have e5 : ((4 * q + 1 : Nat) : Int) - 1 = ((4 * q : Nat) : Int) := by omega
  generalize preW s (4 * q) 4 = xw at *
  obtain ⟨a, hq⟩ : ∃ a, a = 4 * q + 1 := ⟨_, rfl⟩
  rw [← hq] at ha b0 b1 e3 ew e5 hq0 hq1 ⊢
  obtain ⟨p, hp⟩ : ∃ p, p = 4 * q := ⟨_, rfl⟩
  rw [← hp] at hqw e5
  generalize byteN s a = x0 at *
  generalize byteN s (wrapAt a 1) = x1 at *
  generalize wrapAt a 1 = q1 at *
  clear hp e6 hq
  have HQ0 := hidden hq0
  have HQ1 := hidden hq1
  have HQW := hidden hqw
  clear ht hS hI hb hm hq0 hq1 hqw
  go_enter Try.func16, Try.ntmps16
  go_wp2_with (first | (go_at_call 41; (with_reducible refine HQ0.out.mono ?_); rintro e w1 ⟨rfl, hww1⟩; rw [hww1]; clear hww1 w1) | (go_at_call 41; (with_reducible refine HQ1.out.mono ?_); rintro e w2 ⟨rfl, hww2⟩; rw [hww2]; clear hww2 w2) | (go_at_call 38; (with_reducible refine HQW.out.mono ?_); rintro e w3 ⟨rfl, hww3⟩; rw [hww3]; clear hww3 w3))
  go_ret
  exact ⟨ret_int hc, HB.out⟩
set_option maxRecDepth 20000 in
set_option maxHeartbeats 1000000 in
theorem rload_lwr2 (w : World) (t : S5) (s : MS) (ht : M5 w t) (hS : Sim s t.l) (S T D A imm : Int) (q old : Nat) (ha : 4 * q + 2 < 4294967296) (ho : old < 4294967296) : Calls Try.prog 16 #[.pointer (some ⟨t.m, 0, none⟩), .agg (insC 54 S T D A imm), .int .u32 ((4 * q + 2 : Nat) : Int), .int .u32 (old : Int)] w fun e w' => e = .returned (.int .u32 (lwrN 2 (preW s (4 * q) 4) old : Int)) ∧ Below w.heap.size w w' := by
  have hI := Blk.new w (insC 54 S T D A imm) 31
  have hb := below_new w (.cells (insC 54 S T D A imm) 31)
  have HB := hidden hb
  have hm := ht.later hb
  have c1 : (w.alloc (.cells (insC 54 S T D A imm) 31)).cell? ⟨w.heap.size, 0, none⟩ = some (.int .i64 (54)) := hI.cell rfl
  have hq0 := hm.peekC (4 * q + 2) ha
  have hq1 := hm.peekC (wrapAt (4 * q + 2) 1) (wrapAt_lt _ 1)
  have hqw := hm.wordC (4 * q + 2 - (4 * q + 2) % 4) (by omega)
  rw [hS.peek] at hq0 hq1
  rw [hS.word _ (by omega)] at hqw
  have b0 := byteN_lt s (4 * q + 2)
  have b1 := byteN_lt s (wrapAt (4 * q + 2) 1)
  have bw := wordN_lt s (4 * q + 2 - (4 * q + 2) % 4)
  change Calls Try.prog 41 _ _ fun e w' => e = .returned (.int .u8 (byteN s (4 * q + 2) : Int)) ∧ _ at hq0
  change Calls Try.prog 41 _ _ fun e w' => e = .returned (.int .u8 (byteN s (wrapAt (4 * q + 2) 1) : Int)) ∧ _ at hq1
  have e3 := and3 (4 * q + 2) ha
  have ew : (((4 * q + 2 : Nat) : Int) + 1) % 4294967296 = ((wrapAt (4 * q + 2) 1 : Nat) : Int) := by unfold wrapAt; omega
  have e6 : 4 * q + 2 - (4 * q + 2) % 4 = 4 * q := by omega
  rw [show (4 * q + 2) % 4 = 2 by omega] at e3
  rw [e6] at hqw bw
  have hc := ref_lwr2 (preW s (4 * q) 4) old bw ho
  have e5 : ((4 * q + 2 : Nat) : Int) - 2 = ((4 * q : Nat) : Int) := by omega
  generalize preW s (4 * q) 4 = xw at *
  obtain ⟨a, hq⟩ : ∃ a, a = 4 * q + 2 := ⟨_, rfl⟩
  rw [← hq] at ha b0 b1 e3 ew e5 hq0 hq1 ⊢
  obtain ⟨p, hp⟩ : ∃ p, p = 4 * q := ⟨_, rfl⟩
  rw [← hp] at hqw e5
  generalize byteN s a = x0 at *
  generalize byteN s (wrapAt a 1) = x1 at *
  generalize wrapAt a 1 = q1 at *
  clear hp e6 hq
  have HQ0 := hidden hq0
  have HQ1 := hidden hq1
  have HQW := hidden hqw
  clear ht hS hI hb hm hq0 hq1 hqw
  go_enter Try.func16, Try.ntmps16
  go_wp2_with (first | (go_at_call 41; (with_reducible refine HQ0.out.mono ?_); rintro e w1 ⟨rfl, hww1⟩; rw [hww1]; clear hww1 w1) | (go_at_call 41; (with_reducible refine HQ1.out.mono ?_); rintro e w2 ⟨rfl, hww2⟩; rw [hww2]; clear hww2 w2) | (go_at_call 38; (with_reducible refine HQW.out.mono ?_); rintro e w3 ⟨rfl, hww3⟩; rw [hww3]; clear hww3 w3))
  go_ret
  exact ⟨ret_int hc, HB.out⟩
set_option maxRecDepth 20000 in
set_option maxHeartbeats 1000000 in
theorem rload_lwr3 (w : World) (t : S5) (s : MS) (ht : M5 w t) (hS : Sim s t.l) (S T D A imm : Int) (q old : Nat) (ha : 4 * q + 3 < 4294967296) (ho : old < 4294967296) : Calls Try.prog 16 #[.pointer (some ⟨t.m, 0, none⟩), .agg (insC 54 S T D A imm), .int .u32 ((4 * q + 3 : Nat) : Int), .int .u32 (old : Int)] w fun e w' => e = .returned (.int .u32 (lwrN 3 (preW s (4 * q) 4) old : Int)) ∧ Below w.heap.size w w' := by
  have hI := Blk.new w (insC 54 S T D A imm) 31
  have hb := below_new w (.cells (insC 54 S T D A imm) 31)
  have HB := hidden hb
  have hm := ht.later hb
  have c1 : (w.alloc (.cells (insC 54 S T D A imm) 31)).cell? ⟨w.heap.size, 0, none⟩ = some (.int .i64 (54)) := hI.cell rfl
  have hq0 := hm.peekC (4 * q + 3) ha
  have hq1 := hm.peekC (wrapAt (4 * q + 3) 1) (wrapAt_lt _ 1)
  have hqw := hm.wordC (4 * q + 3 - (4 * q + 3) % 4) (by omega)
  rw [hS.peek] at hq0 hq1
  rw [hS.word _ (by omega)] at hqw
  have b0 := byteN_lt s (4 * q + 3)
  have b1 := byteN_lt s (wrapAt (4 * q + 3) 1)
  have bw := wordN_lt s (4 * q + 3 - (4 * q + 3) % 4)
  change Calls Try.prog 41 _ _ fun e w' => e = .returned (.int .u8 (byteN s (4 * q + 3) : Int)) ∧ _ at hq0
  change Calls Try.prog 41 _ _ fun e w' => e = .returned (.int .u8 (byteN s (wrapAt (4 * q + 3) 1) : Int)) ∧ _ at hq1
  have e3 := and3 (4 * q + 3) ha
  have ew : (((4 * q + 3 : Nat) : Int) + 1) % 4294967296 = ((wrapAt (4 * q + 3) 1 : Nat) : Int) := by unfold wrapAt; omega
  have e6 : 4 * q + 3 - (4 * q + 3) % 4 = 4 * q := by omega
  rw [show (4 * q + 3) % 4 = 3 by omega] at e3
  rw [e6] at hqw bw
  have hc := ref_lwr3 (preW s (4 * q) 4) old bw ho
  have e5 : ((4 * q + 3 : Nat) : Int) - 3 = ((4 * q : Nat) : Int) := by omega
  rw [Nat.div_one] at hc
  generalize preW s (4 * q) 4 = xw at *
  obtain ⟨a, hq⟩ : ∃ a, a = 4 * q + 3 := ⟨_, rfl⟩
  rw [← hq] at ha b0 b1 e3 ew e5 hq0 hq1 ⊢
  obtain ⟨p, hp⟩ : ∃ p, p = 4 * q := ⟨_, rfl⟩
  rw [← hp] at hqw e5
  generalize byteN s a = x0 at *
  generalize byteN s (wrapAt a 1) = x1 at *
  generalize wrapAt a 1 = q1 at *
  clear hp e6 hq
  have HQ0 := hidden hq0
  have HQ1 := hidden hq1
  have HQW := hidden hqw
  clear ht hS hI hb hm hq0 hq1 hqw
  go_enter Try.func16, Try.ntmps16
  go_wp2_with (first | (go_at_call 41; (with_reducible refine HQ0.out.mono ?_); rintro e w1 ⟨rfl, hww1⟩; rw [hww1]; clear hww1 w1) | (go_at_call 41; (with_reducible refine HQ1.out.mono ?_); rintro e w2 ⟨rfl, hww2⟩; rw [hww2]; clear hww2 w2) | (go_at_call 38; (with_reducible refine HQW.out.mono ?_); rintro e w3 ⟨rfl, hww3⟩; rw [hww3]; clear hww3 w3))
  go_ret
  exact ⟨ret_int hc, HB.out⟩
set_option maxRecDepth 20000 in
set_option maxHeartbeats 1000000 in
theorem rload_other (w : World) (t : S5) (s : MS) (ht : M5 w t) (hS : Sim s t.l) (op S T D A imm : Int) (h48 : (op == 48) = false) (h52 : (op == 52) = false) (h49 : (op == 49) = false) (h53 : (op == 53) = false) (h51 : (op == 51) = false) (h50 : (op == 50) = false) (h54 : (op == 54) = false) (a old : Nat) (ha : a < 4294967296) (ho : old < 4294967296) : Calls Try.prog 16 #[.pointer (some ⟨t.m, 0, none⟩), .agg (insC op S T D A imm), .int .u32 ((a : Nat) : Int), .int .u32 (old : Int)] w fun e w' => e = .returned (.int .u32 (old : Int)) ∧ Below w.heap.size w w' := by
  have hI := Blk.new w (insC op S T D A imm) 31
  have hb := below_new w (.cells (insC op S T D A imm) 31)
  have HB := hidden hb
  have hm := ht.later hb
  have c1 : (w.alloc (.cells (insC op S T D A imm) 31)).cell? ⟨w.heap.size, 0, none⟩ = some (.int .i64 (op)) := hI.cell rfl
  have hq0 := hm.peekC (a) ha
  have hq1 := hm.peekC (wrapAt (a) 1) (wrapAt_lt _ 1)
  have hqw := hm.wordC (a - (a) % 4) (by omega)
  rw [hS.peek] at hq0 hq1
  rw [hS.word _ (by omega)] at hqw
  have b0 := byteN_lt s (a)
  have b1 := byteN_lt s (wrapAt (a) 1)
  have bw := wordN_lt s (a - (a) % 4)
  change Calls Try.prog 41 _ _ fun e w' => e = .returned (.int .u8 (byteN s (a) : Int)) ∧ _ at hq0
  change Calls Try.prog 41 _ _ fun e w' => e = .returned (.int .u8 (byteN s (wrapAt (a) 1) : Int)) ∧ _ at hq1
  have e3 := and3 (a) ha
  have ew : (((a : Nat) : Int) + 1) % 4294967296 = ((wrapAt (a) 1 : Nat) : Int) := by unfold wrapAt; omega
  have e5 : ((a : Nat) : Int) - ((a % 4 : Nat) : Int) = ((a - a % 4 : Nat) : Int) := by omega
  generalize preW s (a - a % 4) 4 = xw at *
  generalize a - a % 4 = pw at *
  generalize a % 4 = r at *
  obtain ⟨x0, hx0⟩ : ∃ x0, byteN s a = x0 := ⟨_, rfl⟩
  obtain ⟨x1, hx1⟩ : ∃ x1, byteN s (wrapAt a 1) = x1 := ⟨_, rfl⟩
  rw [hx0] at hq0 b0
  rw [hx1] at hq1 b1
  generalize wrapAt a 1 = q1 at *
  have HQ0 := hidden hq0
  have HQ1 := hidden hq1
  have HQW := hidden hqw
  clear ht hS hI hb hm hq0 hq1 hqw
  go_enter Try.func16, Try.ntmps16
  go_wp2_with (first | (go_at_call 41; (with_reducible refine HQ0.out.mono ?_); rintro e w1 ⟨rfl, hww1⟩; rw [hww1]; clear hww1 w1) | (go_at_call 41; (with_reducible refine HQ1.out.mono ?_); rintro e w2 ⟨rfl, hww2⟩; rw [hww2]; clear hww2 w2) | (go_at_call 38; (with_reducible refine HQW.out.mono ?_); rintro e w3 ⟨rfl, hww3⟩; rw [hww3]; clear hww3 w3))
  go_ret
  exact ⟨rfl, HB.out⟩
theorem rload_any (w : World) (t : S5) (s : MS) (ht : M5 w t) (hS : Sim s t.l) (op S T D A imm : Int) (a old : Nat) (ha : a < 4294967296) (ho : old < 4294967296) : Calls Try.prog 16 #[.pointer (some ⟨t.m, 0, none⟩), .agg (insC op S T D A imm), .int .u32 (a : Int), .int .u32 (old : Int)] w fun e w' => e = .returned (.int .u32 (loadN s op a old : Int)) ∧ Below w.heap.size w w' := by
  by_cases h48 : op = 48
  · subst h48; exact rload_48 w t s ht hS S T D A imm a old ha ho
  by_cases h52 : op = 52
  · subst h52; exact rload_52 w t s ht hS S T D A imm a old ha ho
  by_cases h49 : op = 49
  · subst h49; exact rload_49 w t s ht hS S T D A imm a old ha ho
  by_cases h53 : op = 53
  · subst h53; exact rload_53 w t s ht hS S T D A imm a old ha ho
  by_cases h51 : op = 51
  · subst h51; exact rload_51 w t s ht hS S T D A imm a old ha ho
  have hq : a = 4 * (a / 4) + a % 4 := by omega
  have hq4 : a - a % 4 = 4 * (a / 4) := by omega
  by_cases h50 : op = 50
  · subst h50
    rw [show loadN s 50 a old = lwlN (a % 4) (preW s (a - a % 4) 4) old from rfl, hq4]
    generalize a / 4 = q at hq hq4 ⊢
    rcases (show a % 4 = 0 ∨ a % 4 = 1 ∨ a % 4 = 2 ∨ a % 4 = 3 by omega) with e | e | e | e
    · rw [e] at hq ⊢; subst hq; exact rload_lwl0 w t s ht hS S T D A imm q old ha ho
    · rw [e] at hq ⊢; subst hq; exact rload_lwl1 w t s ht hS S T D A imm q old ha ho
    · rw [e] at hq ⊢; subst hq; exact rload_lwl2 w t s ht hS S T D A imm q old ha ho
    · rw [e] at hq ⊢; subst hq; exact rload_lwl3 w t s ht hS S T D A imm q old ha ho
  by_cases h54 : op = 54
  · subst h54
    rw [show loadN s 54 a old = lwrN (a % 4) (preW s (a - a % 4) 4) old from rfl, hq4]
    generalize a / 4 = q at hq hq4 ⊢
    rcases (show a % 4 = 0 ∨ a % 4 = 1 ∨ a % 4 = 2 ∨ a % 4 = 3 by omega) with e | e | e | e
    · rw [e] at hq ⊢; subst hq; exact rload_lwr0 w t s ht hS S T D A imm q old ha ho
    · rw [e] at hq ⊢; subst hq; exact rload_lwr1 w t s ht hS S T D A imm q old ha ho
    · rw [e] at hq ⊢; subst hq; exact rload_lwr2 w t s ht hS S T D A imm q old ha ho
    · rw [e] at hq ⊢; subst hq; exact rload_lwr3 w t s ht hS S T D A imm q old ha ho
  have e : loadN s op a old = old := by unfold loadN; rw [if_neg h48, if_neg h52, if_neg h49, if_neg h53, if_neg h51, if_neg h50, if_neg h54]
  rw [e]
  exact rload_other w t s ht hS op S T D A imm (beq_eq_false_iff_ne.2 h48) (beq_eq_false_iff_ne.2 h52) (beq_eq_false_iff_ne.2 h49) (beq_eq_false_iff_ne.2 h53) (beq_eq_false_iff_ne.2 h51) (beq_eq_false_iff_ne.2 h50) (beq_eq_false_iff_ne.2 h54) a old ha ho
end Go.Proofs.Ytkpcajmphhdmiaa
namespace Go.Proofs.Ytkpcajmphhdmiaa
open Go.ChangeShapes Go.WideShapes Go.ChangeAt Go.RowKit
set_option linter.unusedVariables false
/-- Both memories of the same parts. -/
theorem duo_make {W w1 w2 : World} {s s5 : MS} {mb : Nat} (ho : Own W w1 s) (h5 : O5 w1 w2 s5 mb) (he : s.abs = s5.abs) : ∃ t : S5, Duo W w2 s t ∧ t.m = mb ∧ t.ts = [] ∧ Sim s t.l := by
  obtain ⟨t, ht, hm, _, hts, hs, hf⟩ := h5.mem
  refine ⟨t, ⟨ho.step (Step.later ho.mem h5.below), ht, fun b hb => Nat.le_trans ho.below.size (hf b hb), fun b hb h5 => ?_⟩, hm, hts, hs.abs he ho.mem.nodup⟩
  have h1 := ho.mem.lt hb
  have h2 := hf b h5
  omega
/-- Both behind a store. -/
structure After (W w : World) (s : MS) (t : S5) (m1 m2 : Nat) : Prop where
  duo : Duo W w s t
  m1 : s.mb = m1
  m2 : t.m = m2
  sim : Sim s t.l
  ts : s.ts = t.ts
  few : t.ts.length ≤ 4
theorem After.later {W w w' : World} {s : MS} {t : S5} {m1 m2 : Nat} (h : After W w s t m1 m2) (hb : Below w.heap.size w w') : After W w' s t m1 m2 := ⟨h.duo.later hb, h.m1, h.m2, h.sim, h.ts, h.few⟩
theorem storeL_few (op : Int) (a v : Nat) : (storeL op a v).length ≤ 4 := by
  unfold storeL
  repeat' split
  · rw [placesL_len, List.length_drop]; show 4 - 3 ≤ 4; omega
  · rw [placesL_len, List.length_drop]; show 4 - 2 ≤ 4; omega
  · rw [placesL_len]; exact Nat.le_refl 4
  · rw [placesL_len, List.length_take]; show min _ 4 ≤ 4; omega
  · rw [placesL_len, List.length_drop]; show 4 - _ ≤ 4; omega
  · simp
theorem stA {W w : World} {s : MS} {t : S5} {m1 m2 : Nat} (h : After W w s t m1 m2) (h0 : t.ts = []) (hc : s.c ≤ 4800) (op : Int) (a v : Nat) (ha : a < 4294967296) (hv : v < 4294967296) : Calls Try.prog 17 #[.pointer (some ⟨m1, 0, none⟩), .agg (insC op 0 0 0 0 0), .int .u32 (a : Int), .int .u32 (v : Int)] w fun e w' => e = .returned (.tuple #[]) ∧ ∃ s', Duo W w' s' t ∧ s'.mb = m1 ∧ PokesTo s (storeL op a v) s' ∧ ∀ b cs T, ¬ foot s b → Blk w b cs T → Blk w' b cs T := by
  have hs := accStore_any w s h.duo.own.mem op 0 0 0 0 0 a v ha hv (by omega)
  rw [h.m1] at hs
  exact hs.mono fun e w' ⟨he, s', hp, hst⟩ => ⟨he, s', h.duo.code hst, hp.mb.trans h.m1, hp, fun b cs T hn hb => (hst.keep.block b hb.lt hn).trans hb⟩
theorem stB {W w0 w : World} {s s' : MS} {t : S5} {m1 m2 : Nat} (h : After W w0 s t m1 m2) (h0 : t.ts = []) (op : Int) (a v : Nat) (ha : a < 4294967296) (hv : v < 4294967296) (hd : Duo W w s' t) (hm : s'.mb = m1) (hp : PokesTo s (storeL op a v) s') : Calls Try.prog 18 #[.pointer (some ⟨m2, 0, none⟩), .agg (insC op 0 0 0 0 0), .int .u32 (a : Int), .int .u32 (v : Int)] w fun e w' => e = .returned (.tuple #[]) ∧ ∃ t', After W w' s' t' m1 m2 := by
  have hs := rstore_any w t hd.mem5 op 0 0 0 0 0 a v ha hv (by rw [h0]; simp)
  rw [h.m2] at hs
  refine hs.mono ?_
  rintro e w' ⟨he, t', hr⟩
  obtain ⟨h1, h2⟩ := hp.sim h.sim
  refine ⟨he, t', hd.model hr.step, hm, hr.m.trans h.m2, by rw [hr.l]; exact h1, by rw [h2, hr.ts, h.ts], ?_⟩
  have h3 := touches5_len (storeL op a v) t.l t.ts
  rw [← hr.ts, h0] at h3
  have h4 := storeL_few op a v
  simp at h3
  omega
theorem smC {W w : World} {s : MS} {t : S5} {m1 m2 : Nat} (h : After W w s t m1 m2) : Calls Try.prog 19 #[.pointer (some ⟨m1, 0, none⟩), .pointer (some ⟨m2, 0, none⟩)] w fun e w' => e = .returned (.bool true) ∧ After W w' s t m1 m2 := by
  have := sameMem_any w s t h.duo.own.mem h.duo.mem5 h.sim
  rw [h.m1, h.m2] at this
  exact this.mono fun e w' ⟨he, hb⟩ => ⟨he, h.later hb⟩
/-- What was touched of the one, to be held against the other's. -/
structure Told (W w : World) (t : S5) (m2 : Nat) (v : Value) : Prop where
  mem5 : M5 w t
  f5 : ∀ b, foot5 t b → W.heap.size ≤ b
  bel : Below W.heap.size W w
  m2 : t.m = m2
  few : t.ts.length ≤ 4
  row : w.ownsRow 0 23 1 v t.ts.length (words t.ts)
  out : ∀ g, v.ownBlock = some g → g < w.heap.size ∧ ¬ foot5 t g
theorem tlC {W w : World} {s : MS} {t : S5} {m1 m2 : Nat} (h : After W w s t m1 m2) : Calls Try.prog 21 #[.pointer (some ⟨m1, 0, none⟩)] w fun e w' => e = .returned s.tv ∧ Told W w' t m2 s.tv := by
  have := told_any w s h.duo.own.mem
  rw [h.m1] at this
  refine this.mono ?_
  rintro e w' ⟨he, hst, hrow, hnf⟩
  have hd := h.duo.code hst
  rw [h.ts] at hrow
  refine ⟨he, hd.mem5, hd.f5, hd.own.below, h.m2, h.few, hrow, fun g hg => ?_⟩
  have hf : foot s g := .inr (.inr (.inr (.inr hg)))
  exact ⟨Nat.lt_of_lt_of_le (h.duo.own.mem.lt hf) hst.keep.size, h.duo.apart g hf⟩
theorem tkC {W w : World} {t : S5} {m2 : Nat} {v : Value} (h : Told W w t m2 v) : Calls Try.prog 22 #[.pointer (some ⟨m2, 0, none⟩)] w fun e w' => e = .returned t.vT ∧ (Wds w' v t.ts ∧ Wds w' t.vT t.ts) ∧ Below W.heap.size W w' := by
  have := h.mem5.takeC
  rw [h.m2] at this
  refine this.mono ?_
  rintro e w' ⟨he, hst, hrow⟩
  refine ⟨he, ⟨wds_of_row (ownsRow_same h.row fun g hg => hst.keep.block g (h.out g hg).1 (h.out g hg).2), wds_of_row hrow⟩, h.bel.trans (hst.keep.below h.bel.size h.f5)⟩
theorem swC {W w1 w : World} {t : S5} {m2 : Nat} {v : Value} (h : Told W w1 t m2 v) (hw : Wds w v t.ts ∧ Wds w t.vT t.ts) : Calls Try.prog 20 #[v, t.vT] w fun e w' => e = .returned (.bool true) ∧ ∃ n, w' = w.drewN n := sameWords_any w v t.vT t.ts hw.1 hw.2 (by have := h.few; omega)
section
variable {ρ : Operand → Value} {o : Oper}
theorem exec_eqlP {x : Operand} {b : Nat} (hop : o.op = .binOp .eql 26 x (.const (.pointer none)) 26) (hx : ρ x = .pointer (some ⟨b, 0, none⟩)) (hc : ρ (.const (.pointer none)) = .pointer none) (w : World) : (execOp ρ o).run Try.prog w = .ok (.value (.bool false)) w := by
  unfold execOp
  rw [hop]
  simp [hx, hc, go_sem]
end
theorem sizeIns : (Try.prog.info? 31).map (·.size) = some 6 := by kernel_rfl
theorem loadIns {w : World} {b : Nat} {op : Int} (h : Blk w b (insC op 0 0 0 0 0) 31) : (loadVar 31 ⟨b, 0, none⟩).run Try.prog w = .ok (.agg (insC op 0 0 0 0 0)) w :=
  run_loadVar_row w b 31 31 (insC op 0 0 0 0 0) (0, 0) _ h Try.underlying31 rfl sizeIns
/-- An instruction's cells. -/
structure insCells (w : World) (b : Nat) (op : Int) : Prop where
  c0 : w.cell? ⟨b, 0, none⟩ = some (.int .i64 op)
  c1 : w.cell? ⟨b, 1, none⟩ = some (.int .i64 0)
  c2 : w.cell? ⟨b, 2, none⟩ = some (.int .i64 0)
  c3 : w.cell? ⟨b, 3, none⟩ = some (.int .i64 0)
  c4 : w.cell? ⟨b, 4, none⟩ = some (.int .i64 0)
  c5 : w.cell? ⟨b, 5, none⟩ = some (.int .u32 0)
theorem ins_cells {w : World} {b : Nat} {op : Int} (h : Blk w b (insC op 0 0 0 0 0) 31) : insCells w b op := ⟨h.cell rfl, h.cell rfl, h.cell rfl, h.cell rfl, h.cell rfl, h.cell rfl⟩
theorem few_of {ps : List Part4} (h : few ps = true) : ps.length ≤ 8 ∧ ∀ p ∈ ps, p.data.length ≤ 600 := by
  unfold few at h
  simp only [Bool.and_eq_true, decide_eq_true_eq, List.all_eq_true] at h
  refine ⟨h.2, fun p hp => h.1 p ?_⟩
  rw [List.take_of_length_le h.2]
  exact hp
/-- What the slots of the region hold, whatever the order. -/
def phiA5 (qb m1 m2 a : Nat) (op kd : Int) : Nat → Value → World → Prop
  | 0, x, _ => x = .pointer (some ⟨m1, 0, none⟩)
  | 1, x, _ => x = .bool false
  | 2, x, _ => x = .bool false
  | 3, x, _ => x = .pointer (some ⟨m1, 0, none⟩)
  | 4, x, _ => x = .agg (insC op 0 0 0 0 0)
  | 5, x, _ => x = .int .u32 (a : Int)
  | 6, x, _ => x = .int .i64 kd
  | 7, x, _ => x = .pointer (some ⟨m2, 0, none⟩)
  | 8, x, _ => x = .agg (insC op 0 0 0 0 0)
  | 9, x, _ => x = .int .u32 (a : Int)
  | 10, x, _ => x = .int .i64 kd
  | 11, x, _ => x = .bool false
  | 12, x, _ => x = .bool false
  | _ + 13, _, _ => True
theorem phiA5_mono (qb m1 m2 a : Nat) (op kd : Int) : ∀ i x w w', phiA5 qb m1 m2 a op kd i x w → Below w.heap.size w w' → phiA5 qb m1 m2 a op kd i x w'
  | 0, _, _, _, h, _ => h
  | 1, _, _, _, h, _ => h
  | 2, _, _, _, h, _ => h
  | 3, _, _, _, h, _ => h
  | 4, _, _, _, h, _ => h
  | 5, _, _, _, h, _ => h
  | 6, _, _, _, h, _ => h
  | 7, _, _, _, h, _ => h
  | 8, _, _, _, h, _ => h
  | 9, _, _, _, h, _ => h
  | 10, _, _, _, h, _ => h
  | 11, _, _, _, h, _ => h
  | 12, _, _, _, h, _ => h
  | _ + 13, _, _, _, _, _ => trivial
theorem listA13 : ∀ xs : List Value, xs.length = 13 → ∃ x0 x1 x2 x3 x4 x5 x6 x7 x8 x9 x10 x11 x12, xs = [x0, x1, x2, x3, x4, x5, x6, x7, x8, x9, x10, x11, x12]
  | [x0, x1, x2, x3, x4, x5, x6, x7, x8, x9, x10, x11, x12], _ => ⟨_, _, _, _, _, _, _, _, _, _, _, _, _, rfl⟩
/-- What the slots of the region hold, whatever the order. -/
def phiA13 (qb m1 m2 a v : Nat) (op kl : Int) : Nat → Value → World → Prop
  | 0, x, _ => x = .pointer (some ⟨m1, 0, none⟩)
  | 1, x, _ => x = .agg (insC op 0 0 0 0 0)
  | 2, x, _ => x = .int .u32 (a : Int)
  | 3, x, _ => x = .int .u32 (v : Int)
  | 4, x, _ => x = .int .u32 kl
  | 5, x, _ => x = .pointer (some ⟨m2, 0, none⟩)
  | 6, x, _ => x = .agg (insC op 0 0 0 0 0)
  | 7, x, _ => x = .int .u32 (a : Int)
  | 8, x, _ => x = .int .u32 (v : Int)
  | 9, x, _ => x = .int .u32 kl
  | 10, x, _ => x = .bool false
  | _ + 11, _, _ => True
theorem phiA13_mono (qb m1 m2 a v : Nat) (op kl : Int) : ∀ i x w w', phiA13 qb m1 m2 a v op kl i x w → Below w.heap.size w w' → phiA13 qb m1 m2 a v op kl i x w'
  | 0, _, _, _, h, _ => h
  | 1, _, _, _, h, _ => h
  | 2, _, _, _, h, _ => h
  | 3, _, _, _, h, _ => h
  | 4, _, _, _, h, _ => h
  | 5, _, _, _, h, _ => h
  | 6, _, _, _, h, _ => h
  | 7, _, _, _, h, _ => h
  | 8, _, _, _, h, _ => h
  | 9, _, _, _, h, _ => h
  | 10, _, _, _, h, _ => h
  | _ + 11, _, _, _, _, _ => trivial
theorem listA11 : ∀ xs : List Value, xs.length = 11 → ∃ x0 x1 x2 x3 x4 x5 x6 x7 x8 x9 x10, xs = [x0, x1, x2, x3, x4, x5, x6, x7, x8, x9, x10]
  | [x0, x1, x2, x3, x4, x5, x6, x7, x8, x9, x10], _ => ⟨_, _, _, _, _, _, _, _, _, _, _, rfl⟩
set_option maxRecDepth 20000 in
set_option maxHeartbeats 4000000 in
theorem all10_walk (W : World) (ao : Option Addr) (cap : Nat) (ps : List Part4) (hpc : Pieces W ao ps) (hln : ps.length ≤ 9223372036854775807) (op : Int) (a v : Nat) (ha : a < 4294967296) (hv : v < 4294967296) : Calls Try.prog 3 #[.slice ao ps.length cap, .int .i64 op, .int .u32 (a : Int), .int .u32 (v : Int)] W fun e w' => e = .returned (.bool true) ∧ Below W.heap.size W w' := by
  have HF := hidden (few_any W ao cap ps hpc hln)
  have HAW := hidden (fun u => awake10_any u)
  cases hf : few ps with
  | false =>
    rw [hf] at HF
    clear hf
    go_enter Try.func3, Try.ntmps3
    go_wp2_with (first | (go_at_call 7; refine HF.out.mono ?_; rintro e w9 ⟨rfl, hww⟩; rw [hww]; clear hww w9) | (go_at_call 8; refine (HAW.out _).mono ?_; rintro e w8 ⟨rfl, hb8⟩; have HB8 := hidden hb8; clear hb8))
    go_ret
    exact ⟨rfl, HB8.out⟩
  | true =>
    rw [hf] at HF
    obtain ⟨hl8, h600⟩ := few_of hf
    have HME := hidden (memory_any W ao cap ps hpc hl8 h600)
    have HMO := hidden (fun (u : World) (hb : Below W.heap.size W u) => model_any u ao cap ps (hpc.later hb) hl8 h600)
    have HA := hidden ha
    have HV := hidden hv
    clear hf hl8 h600 hpc hln ha hv
    go_enter Try.func3, Try.ntmps3
    go_upto_region 5 with (first | (go_at_call 7; refine HF.out.mono ?_; rintro e w9 ⟨rfl, hww⟩; rw [hww]; clear hww w9) | (go_at_call 9; refine HME.out.mono ?_; rintro e w1 ⟨s, rfl, hown, habs, h64, h32, hts, hcc⟩; have HO := hidden hown; have HAB := hidden habs; have HTS := hidden hts; have HCC := hidden hcc; clear hown habs h64 h32 hts hcc) | (go_at_call 10; refine (HMO.out _ HO.out.below).mono ?_; rintro e w2 ⟨m2, rfl, s5, ho5, habs5⟩; have HO5 := hidden ho5; have HAB5 := hidden habs5; clear ho5 habs5))
    obtain ⟨t, hd0, hm2, ht0, hsim⟩ := duo_make HO.out HO5.out (HAB.out.trans HAB5.out.symm)
    obtain ⟨m1, hm1⟩ : ∃ m1, s.mb = m1 := ⟨_, rfl⟩
    have hQ0 := Blk.new w2 (insC op 0 0 0 0 0) 31
    have hb0 := below_new w2 (.cells (insC op 0 0 0 0 0) 31)
    obtain ⟨wr, hwr⟩ : ∃ wr, wr = w2.alloc (.cells (insC op 0 0 0 0 0) 31) := ⟨_, rfl⟩
    obtain ⟨qn, hqn⟩ : ∃ qn, qn = w2.heap.size := ⟨_, rfl⟩
    rw [← hqn, ← hwr] at hQ0
    rw [← hwr] at hb0
    rw [hm1, ← hwr, ← hqn]
    have HQ := hidden hQ0
    have hAf : After W wr s t m1 m2 := ⟨hd0.later hb0, hm1, hm2, hsim, by rw [HTS.out, ht0], by rw [ht0]; simp⟩
    have HAF := hidden hAf
    have HT0 := hidden ht0
    have HNF := hidden (show ¬ foot s qn from fun hf => by have := hd0.own.mem.lt hf; omega)
    clear hd0 hm2 ht0 hsim hm1 hQ0 hb0 hwr hqn hAf HO5 HAB5 HAB HTS HME HMO HF
    obtain ⟨kd, hkd⟩ : ∃ kd, faultK s op a = kd := ⟨_, rfl⟩
    have HC1 := hidden (fun (u : World) (hb : Below wr.heap.size wr u) => (by have h := accKind_any u s (HAF.out.later hb).duo.own.mem op 0 0 0 0 0 a HA.out; rw [HAF.out.m1, hkd] at h; exact h : Calls Try.prog 11 #[.pointer (some ⟨m1, 0, none⟩), .agg (insC op 0 0 0 0 0), .int .u32 (a : Int)] u fun e w' => e = .returned (.int .i64 kd) ∧ Below u.heap.size u w'))
    have HC2 := hidden (fun (u : World) (hb : Below wr.heap.size wr u) => (by have h := rkind_any u t s (HAF.out.later hb).duo.mem5 HAF.out.sim op 0 0 0 0 0 a HA.out; rw [HAF.out.m2, hkd] at h; exact h : Calls Try.prog 12 #[.pointer (some ⟨m2, 0, none⟩), .agg (insC op 0 0 0 0 0), .int .u32 (a : Int)] u fun e w' => e = .returned (.int .i64 kd) ∧ Below u.heap.size u w'))
    obtain ⟨f1, hf1⟩ : ∃ f1, (fetchV s a).1 = f1 := ⟨_, rfl⟩
    obtain ⟨f2, hf2⟩ : ∃ f2, (fetchV s a).2 = f2 := ⟨_, rfl⟩
    have HF1 := hidden (fun (u : World) (hb : Below wr.heap.size wr u) => (by have h := accFetch_any u s (HAF.out.later hb).duo.own.mem a HA.out; rw [HAF.out.m1, hf1, hf2] at h; exact h.mono fun e w' ⟨h1, n, h2⟩ => ⟨h1, by rw [h2]; exact below_drewN (Below.refl _ u) n⟩ : Calls Try.prog 13 #[.pointer (some ⟨m1, 0, none⟩), .int .u32 (a : Int)] u fun e w' => e = .returned (.tuple #[.int .u32 f1, .int .i64 f2]) ∧ Below u.heap.size u w'))
    have HF2 := hidden (fun (u : World) (hb : Below wr.heap.size wr u) => (by have h := rfetch_any u t s (HAF.out.later hb).duo.mem5 HAF.out.sim a HA.out; rw [HAF.out.m2, hf1, hf2] at h; exact h : Calls Try.prog 14 #[.pointer (some ⟨m2, 0, none⟩), .int .u32 (a : Int)] u fun e w' => e = .returned (.tuple #[.int .u32 f1, .int .i64 f2]) ∧ w' = u))
    clear hkd hf1 hf2
    refine wp_region_on later_below [26, 27, 28, 29, 30, 31, 32, 33, 34, 35, 36, 37, 38] 13 (phiA5 qn m1 m2 a op kd) (by kernel_rfl) (by kernel_rfl) rfl rfl (phiA5_mono qn m1 m2 a op kd) ?_ ?_
    · intro j hj xs w3 hxs hR hpre
      obtain ⟨x0, x1, x2, x3, x4, x5, x6, x7, x8, x9, x10, x11, x12, rfl⟩ := listA13 xs hxs
      have hQ : Blk w3 qn (insC op 0 0 0 0 0) 31 := HQ.out.later hR
      rcases (show j = 0 ∨ j = 1 ∨ j = 2 ∨ j = 3 ∨ j = 4 ∨ j = 5 ∨ j = 6 ∨ j = 7 ∨ j = 8 ∨ j = 9 ∨ j = 10 ∨ j = 11 ∨ j = 12 by omega) with rfl | rfl | rfl | rfl | rfl | rfl | rfl | rfl | rfl | rfl | rfl | rfl | rfl
      · exact wpOp_run (.pointer (some ⟨m1, 0, none⟩)) rfl (by kernel_rfl) (exec_move rfl (by kernel_rfl) w3) ⟨_, by kernel_rfl, rfl, Below.refl _ _⟩
      · have e0 : x0 = .pointer (some ⟨m1, 0, none⟩) := hpre 0 (by kernel_rfl)
        subst e0
        exact wpOp_run (.bool false) rfl (by kernel_rfl) (exec_eqlP (b := m1) rfl (by kernel_rfl) (by kernel_rfl) w3) ⟨_, by kernel_rfl, rfl, Below.refl _ _⟩
      · have e1 : x1 = .bool false := hpre 1 (by kernel_rfl)
        subst e1
        exact wpOp_run (.bool false) rfl (by kernel_rfl) (exec_move rfl (by kernel_rfl) w3) ⟨_, by kernel_rfl, rfl, Below.refl _ _⟩
      · have e2 : x2 = .bool false := hpre 2 (by kernel_rfl)
        subst e2
        exact wpOp_run (.pointer (some ⟨m1, 0, none⟩)) rfl (by kernel_rfl) (exec_move rfl (by kernel_rfl) w3) ⟨_, by kernel_rfl, rfl, Below.refl _ _⟩
      · have e2 : x2 = .bool false := hpre 2 (by kernel_rfl)
        subst e2
        exact wpOp_run (.agg (insC op 0 0 0 0 0)) rfl (by kernel_rfl) (exec_load 31 rfl (by kernel_rfl) w3 (loadIns hQ)) ⟨_, by kernel_rfl, rfl, Below.refl _ _⟩
      · have e2 : x2 = .bool false := hpre 2 (by kernel_rfl)
        subst e2
        exact wpOp_run (.int .u32 (a : Int)) rfl (by kernel_rfl) (exec_move rfl (by kernel_rfl) w3) ⟨_, by kernel_rfl, rfl, Below.refl _ _⟩
      · have e2 : x2 = .bool false := hpre 2 (by kernel_rfl)
        subst e2
        have e3 : x3 = .pointer (some ⟨m1, 0, none⟩) := hpre 3 (by kernel_rfl)
        subst e3
        have e4 : x4 = .agg (insC op 0 0 0 0 0) := hpre 4 (by kernel_rfl)
        subst e4
        have e5 : x5 = .int .u32 (a : Int) := hpre 5 (by kernel_rfl)
        subst e5
        refine wpOp_callR (R := fun u w4 => u = .int .i64 kd ∧ Below w3.heap.size w3 w4) 11 #[.pointer (some ⟨m1, 0, none⟩), .agg (insC op 0 0 0 0 0), .int .u32 (a : Int)] rfl (by kernel_rfl) (by kernel_rfl) ((HC1.out w3 hR).mono fun e w4 ⟨he, hb⟩ => ⟨_, he, rfl, hb⟩) ?_
        rintro _ w4 ⟨rfl, hb⟩
        exact ⟨_, by kernel_rfl, rfl, hb⟩
      · have e2 : x2 = .bool false := hpre 2 (by kernel_rfl)
        subst e2
        exact wpOp_run (.pointer (some ⟨m2, 0, none⟩)) rfl (by kernel_rfl) (exec_move rfl (by kernel_rfl) w3) ⟨_, by kernel_rfl, rfl, Below.refl _ _⟩
      · have e2 : x2 = .bool false := hpre 2 (by kernel_rfl)
        subst e2
        exact wpOp_run (.agg (insC op 0 0 0 0 0)) rfl (by kernel_rfl) (exec_load 31 rfl (by kernel_rfl) w3 (loadIns hQ)) ⟨_, by kernel_rfl, rfl, Below.refl _ _⟩
      · have e2 : x2 = .bool false := hpre 2 (by kernel_rfl)
        subst e2
        exact wpOp_run (.int .u32 (a : Int)) rfl (by kernel_rfl) (exec_move rfl (by kernel_rfl) w3) ⟨_, by kernel_rfl, rfl, Below.refl _ _⟩
      · have e2 : x2 = .bool false := hpre 2 (by kernel_rfl)
        subst e2
        have e7 : x7 = .pointer (some ⟨m2, 0, none⟩) := hpre 7 (by kernel_rfl)
        subst e7
        have e8 : x8 = .agg (insC op 0 0 0 0 0) := hpre 8 (by kernel_rfl)
        subst e8
        have e9 : x9 = .int .u32 (a : Int) := hpre 9 (by kernel_rfl)
        subst e9
        refine wpOp_callR (R := fun u w4 => u = .int .i64 kd ∧ Below w3.heap.size w3 w4) 12 #[.pointer (some ⟨m2, 0, none⟩), .agg (insC op 0 0 0 0 0), .int .u32 (a : Int)] rfl (by kernel_rfl) (by kernel_rfl) ((HC2.out w3 hR).mono fun e w4 ⟨he, hb⟩ => ⟨_, he, rfl, hb⟩) ?_
        rintro _ w4 ⟨rfl, hb⟩
        exact ⟨_, by kernel_rfl, rfl, hb⟩
      · have e2 : x2 = .bool false := hpre 2 (by kernel_rfl)
        subst e2
        have e6 : x6 = .int .i64 kd := hpre 6 (by kernel_rfl)
        subst e6
        have e10 : x10 = .int .i64 kd := hpre 10 (by kernel_rfl)
        subst e10
        exact wpOp_run (.bool false) rfl (by kernel_rfl) (exec_neq (n := kd) 3 rfl Try.underlying3 (by kernel_rfl) (by kernel_rfl) w3) ⟨_, by kernel_rfl, rfl, Below.refl _ _⟩
      · have e2 : x2 = .bool false := hpre 2 (by kernel_rfl)
        subst e2
        have e11 : x11 = .bool false := hpre 11 (by kernel_rfl)
        subst e11
        exact wpOp_run (.bool false) rfl (by kernel_rfl) (by kernel_rfl) ⟨_, by kernel_rfl, rfl, Below.refl _ _⟩
    · intro xs w3 hxs hR hall
      obtain ⟨x0, x1, x2, x3, x4, x5, x6, x7, x8, x9, x10, x11, x12, rfl⟩ := listA13 xs hxs
      have e12 : x12 = .bool false := hall 12 (by omega)
      subst e12
      have HR := hidden hR
      clear hall hR hxs
      simp only [slotsOn, putAll, List.set_cons_succ, List.set_cons_zero]
      have hcell : ∀ u : World, Below wr.heap.size wr u → insCells u qn op := fun u hb => ins_cells (HQ.out.later hb)
      have HLI := hidden hcell
      clear hcell
      by_cases hk : kd = 0
      · subst hk
        go_upto_region 13 with (first | (go_at_call 13; refine (HF1.out _ HR.out).mono ?_; rintro e w4 ⟨rfl, hb4⟩; have HR4 := hidden (HR.out.trans (hb4.mono HR.out.size)); obtain ⟨g0, g1, g2, g3, g4, g5⟩ := HLI.out w4 HR4.out; clear hb4) | (go_at_call 14; refine (HF2.out _ HR4.out).mono ?_; rintro e w5 ⟨rfl, hww⟩; rw [hww]; clear hww w5) | (go_at_call 12; refine (HC2.out _ HR4.out).mono ?_; rintro e w6 ⟨rfl, hb6⟩; have HR6 := hidden (HR4.out.trans (hb6.mono HR4.out.size)); obtain ⟨j0, j1, j2, j3, j4, j5⟩ := HLI.out w6 HR6.out; clear hb6))
        obtain ⟨kl, hkl⟩ : ∃ kl : Int, (loadN s op a v : Int) = kl := ⟨_, rfl⟩
        have HC3 := hidden (fun (u : World) (hb : Below w6.heap.size w6 u) => (by have h := accLoad_any u s ((HAF.out.later HR6.out).later hb).duo.own.mem op 0 0 0 0 0 a v HA.out HV.out; rw [HAF.out.m1, hkl] at h; exact h : Calls Try.prog 15 #[.pointer (some ⟨m1, 0, none⟩), .agg (insC op 0 0 0 0 0), .int .u32 (a : Int), .int .u32 (v : Int)] u fun e w' => e = .returned (.int .u32 kl) ∧ Below u.heap.size u w'))
        have HC4 := hidden (fun (u : World) (hb : Below w6.heap.size w6 u) => (by have h := rload_any u t s ((HAF.out.later HR6.out).later hb).duo.mem5 HAF.out.sim op 0 0 0 0 0 a v HA.out HV.out; rw [HAF.out.m2, hkl] at h; exact h : Calls Try.prog 16 #[.pointer (some ⟨m2, 0, none⟩), .agg (insC op 0 0 0 0 0), .int .u32 (a : Int), .int .u32 (v : Int)] u fun e w' => e = .returned (.int .u32 kl) ∧ Below u.heap.size u w'))
        clear hkl
        refine wp_region_on later_below [65, 66, 67, 68, 69, 70, 71, 72, 73, 74, 75] 11 (phiA13 qn m1 m2 a v op kl) (by kernel_rfl) (by kernel_rfl) rfl rfl (phiA13_mono qn m1 m2 a v op kl) ?_ ?_
        · intro j hj xs w3 hxs hR hpre
          obtain ⟨x0, x1, x2, x3, x4, x5, x6, x7, x8, x9, x10, rfl⟩ := listA11 xs hxs
          have hQ : Blk w3 qn (insC op 0 0 0 0 0) 31 := HQ.out.later (HR6.out.trans (hR.mono HR6.out.size))
          rcases (show j = 0 ∨ j = 1 ∨ j = 2 ∨ j = 3 ∨ j = 4 ∨ j = 5 ∨ j = 6 ∨ j = 7 ∨ j = 8 ∨ j = 9 ∨ j = 10 by omega) with rfl | rfl | rfl | rfl | rfl | rfl | rfl | rfl | rfl | rfl | rfl
          · exact wpOp_run (.pointer (some ⟨m1, 0, none⟩)) rfl (by kernel_rfl) (exec_move rfl (by kernel_rfl) w3) ⟨_, by kernel_rfl, rfl, Below.refl _ _⟩
          · exact wpOp_run (.agg (insC op 0 0 0 0 0)) rfl (by kernel_rfl) (exec_load 31 rfl (by kernel_rfl) w3 (loadIns hQ)) ⟨_, by kernel_rfl, rfl, Below.refl _ _⟩
          · exact wpOp_run (.int .u32 (a : Int)) rfl (by kernel_rfl) (exec_move rfl (by kernel_rfl) w3) ⟨_, by kernel_rfl, rfl, Below.refl _ _⟩
          · exact wpOp_run (.int .u32 (v : Int)) rfl (by kernel_rfl) (exec_move rfl (by kernel_rfl) w3) ⟨_, by kernel_rfl, rfl, Below.refl _ _⟩
          · have e0 : x0 = .pointer (some ⟨m1, 0, none⟩) := hpre 0 (by kernel_rfl)
            subst e0
            have e1 : x1 = .agg (insC op 0 0 0 0 0) := hpre 1 (by kernel_rfl)
            subst e1
            have e2 : x2 = .int .u32 (a : Int) := hpre 2 (by kernel_rfl)
            subst e2
            have e3 : x3 = .int .u32 (v : Int) := hpre 3 (by kernel_rfl)
            subst e3
            refine wpOp_callR (R := fun u w4 => u = .int .u32 kl ∧ Below w3.heap.size w3 w4) 15 #[.pointer (some ⟨m1, 0, none⟩), .agg (insC op 0 0 0 0 0), .int .u32 (a : Int), .int .u32 (v : Int)] rfl (by kernel_rfl) (by kernel_rfl) ((HC3.out w3 hR).mono fun e w4 ⟨he, hb⟩ => ⟨_, he, rfl, hb⟩) ?_
            rintro _ w4 ⟨rfl, hb⟩
            exact ⟨_, by kernel_rfl, rfl, hb⟩
          · exact wpOp_run (.pointer (some ⟨m2, 0, none⟩)) rfl (by kernel_rfl) (exec_move rfl (by kernel_rfl) w3) ⟨_, by kernel_rfl, rfl, Below.refl _ _⟩
          · exact wpOp_run (.agg (insC op 0 0 0 0 0)) rfl (by kernel_rfl) (exec_load 31 rfl (by kernel_rfl) w3 (loadIns hQ)) ⟨_, by kernel_rfl, rfl, Below.refl _ _⟩
          · exact wpOp_run (.int .u32 (a : Int)) rfl (by kernel_rfl) (exec_move rfl (by kernel_rfl) w3) ⟨_, by kernel_rfl, rfl, Below.refl _ _⟩
          · exact wpOp_run (.int .u32 (v : Int)) rfl (by kernel_rfl) (exec_move rfl (by kernel_rfl) w3) ⟨_, by kernel_rfl, rfl, Below.refl _ _⟩
          · have e5 : x5 = .pointer (some ⟨m2, 0, none⟩) := hpre 5 (by kernel_rfl)
            subst e5
            have e6 : x6 = .agg (insC op 0 0 0 0 0) := hpre 6 (by kernel_rfl)
            subst e6
            have e7 : x7 = .int .u32 (a : Int) := hpre 7 (by kernel_rfl)
            subst e7
            have e8 : x8 = .int .u32 (v : Int) := hpre 8 (by kernel_rfl)
            subst e8
            refine wpOp_callR (R := fun u w4 => u = .int .u32 kl ∧ Below w3.heap.size w3 w4) 16 #[.pointer (some ⟨m2, 0, none⟩), .agg (insC op 0 0 0 0 0), .int .u32 (a : Int), .int .u32 (v : Int)] rfl (by kernel_rfl) (by kernel_rfl) ((HC4.out w3 hR).mono fun e w4 ⟨he, hb⟩ => ⟨_, he, rfl, hb⟩) ?_
            rintro _ w4 ⟨rfl, hb⟩
            exact ⟨_, by kernel_rfl, rfl, hb⟩
          · have e4 : x4 = .int .u32 kl := hpre 4 (by kernel_rfl)
            subst e4
            have e9 : x9 = .int .u32 kl := hpre 9 (by kernel_rfl)
            subst e9
            exact wpOp_run (.bool false) rfl (by kernel_rfl) (exec_neq (n := kl) 23 rfl Try.underlying23 (by kernel_rfl) (by kernel_rfl) w3) ⟨_, by kernel_rfl, rfl, Below.refl _ _⟩
        · intro xs w3 hxs hR hall
          obtain ⟨x0, x1, x2, x3, x4, x5, x6, x7, x8, x9, x10, rfl⟩ := listA11 xs hxs
          have e10 : x10 = .bool false := hall 10 (by omega)
          subst e10
          have HR7 := hidden (HR6.out.trans (hR.mono HR6.out.size))
          have HAF7 := hidden (HAF.out.later HR7.out)
          clear hall hR hxs
          simp only [slotsOn, putAll, List.set_cons_succ, List.set_cons_zero]
          obtain ⟨y0, y1, y2, y3, y4, y5⟩ := HLI.out w3 HR7.out
          have HBQ := hidden (show Blk w3 qn (insC op 0 0 0 0 0) 31 from HQ.out.later HR7.out)
          go_wp2_with (first | (go_at_call 17; refine (stA HAF7.out HT0.out HCC.out op a v HA.out HV.out).mono ?_; rintro e w8 ⟨rfl, s1, hd8, hm8, hp8, hk8⟩; obtain ⟨z0, z1, z2, z3, z4, z5⟩ := ins_cells (hk8 qn _ _ HNF.out HBQ.out); have HD8 := hidden hd8; have HM8 := hidden hm8; have HP8 := hidden hp8; clear hd8 hm8 hp8 hk8) | (go_at_call 18; refine (stB HAF7.out HT0.out op a v HA.out HV.out HD8.out HM8.out HP8.out).mono ?_; rintro e w9 ⟨rfl, t1, ha9⟩; have HA9 := hidden ha9; clear ha9) | (go_at_call 19; refine (smC HA9.out).mono ?_; rintro e w10 ⟨rfl, ha10⟩; have HA10 := hidden ha10; clear ha10) | (go_at_call 21; refine (tlC HA10.out).mono ?_; rintro e w11 ⟨rfl, ht11⟩; have HT11 := hidden ht11; clear ht11) | (go_at_call 22; refine (tkC HT11.out).mono ?_; rintro e w12 ⟨rfl, hw12, hb12⟩; have HW12 := hidden hw12; have HB12 := hidden hb12; clear hw12 hb12) | (go_at_call 20; refine (swC HT11.out HW12.out).mono ?_; rintro e w13 ⟨rfl, n13, hww13⟩; rw [hww13]; clear hww13 w13) | (go_at_call 8; refine (HAW.out _).mono ?_; rintro e w14 ⟨rfl, hb14⟩; have HB14 := hidden hb14; clear hb14))
          go_ret
          have hz := below_drewN HB12.out n13
          exact ⟨rfl, hz.trans (HB14.out.mono hz.size)⟩
      · have hk1 : (kd == 0) = false := beq_eq_false_iff_ne.2 hk
        go_wp2_with (first | (go_at_call 13; refine (HF1.out _ HR.out).mono ?_; rintro e w4 ⟨rfl, hb4⟩; have HR4 := hidden (HR.out.trans (hb4.mono HR.out.size)); obtain ⟨g0, g1, g2, g3, g4, g5⟩ := HLI.out w4 HR4.out; clear hb4) | (go_at_call 14; refine (HF2.out _ HR4.out).mono ?_; rintro e w5 ⟨rfl, hww⟩; rw [hww]; clear hww w5) | (go_at_call 12; refine (HC2.out _ HR4.out).mono ?_; rintro e w6 ⟨rfl, hb6⟩; have HR6 := hidden (HR4.out.trans (hb6.mono HR4.out.size)); obtain ⟨j0, j1, j2, j3, j4, j5⟩ := HLI.out w6 HR6.out; clear hb6) | (go_at_call 8; refine (HAW.out _).mono ?_; rintro e w8 ⟨rfl, hb8⟩; have HB8 := hidden hb8; clear hb8))
        go_ret
        have hz := (HAF.out.later HR6.out).duo.own.below
        exact ⟨rfl, hz.trans (HB8.out.mono hz.size)⟩
end Go.Proofs.Ytkpcajmphhdmiaa
