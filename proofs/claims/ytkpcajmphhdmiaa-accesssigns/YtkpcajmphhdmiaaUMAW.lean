/- The first sentence of layer 10. -/
import Derived.Test.YtkpcajmphhdmiaaUMAU
import Derived.Test.YtkpcajmphhdmiaaUMAV
import Derived.Test.YtkpcajmphhdmiaaUMAI
import Derived.Test.YtkpcajmphhdmiaaUMAT
import Derived.Test.YtkpcajmphhdmiaaUMAK
namespace Go.Proofs.Ytkpcajmphhdmiaa
open Go.ChangeShapes Go.WideShapes Go.ChangeAt Go.RowKit
set_option linter.unusedVariables false
/-- The chapter's example: four bytes at 0. -/
def exP (ao : Option Addr) : Part4 := ⟨0, [1, 2, 3, 4], 7, false, ao, 4⟩
theorem ex_word {s : MS} {ao : Option Addr} (h : s.abs = memOf [exP ao]) : preW s 0 4 = 16909060 := by
  have g : ∀ j, j < 4 → (s.get (wrapAt 0 j)) = [1, 2, 3, 4].getD j 0 := fun j hj => by
    rw [get_getA, h]
    exact one_get (exP ao) (by simp [exP]) (by simp [exP]) j (by simpa [exP] using hj)
  show (((0 * 256 + (s.get (wrapAt 0 0)).toNat) * 256 + (s.get (wrapAt 0 1)).toNat) * 256 + (s.get (wrapAt 0 2)).toNat) * 256 + (s.get (wrapAt 0 3)).toNat = _
  rw [g 0 (by omega), g 1 (by omega), g 2 (by omega), g 3 (by omega)]
  rfl
theorem ex_load {s : MS} {ao : Option Addr} (h : s.abs = memOf [exP ao]) : loadN s 50 1 2864434397 = 33752285 := by
  show lwlN 1 (preW s 0 4) 2864434397 = _
  rw [ex_word h]
  rfl
theorem ex_kind (s : MS) : faultK s 51 2 = 2 := by
  unfold faultK
  rw [if_pos (kindP_reads (by omega))]
  rfl
theorem ex_loadC {s : MS} {ao : Option Addr} (h : s.abs = memOf [exP ao]) (w : World) (hm : MemW w s) : Calls Try.prog 15 #[.pointer (some ⟨s.mb, 0, none⟩), .agg (insC 50 0 0 0 0 0), .int .u32 1, .int .u32 2864434397] w fun e w' => e = .returned (.int .u32 33752285) ∧ Below w.heap.size w w' := by
  have := accLoad_any w s hm 50 0 0 0 0 0 1 2864434397 (by omega) (by omega)
  rw [ex_load h] at this
  exact this
theorem ex_kindC (s : MS) (w : World) (hm : MemW w s) : Calls Try.prog 11 #[.pointer (some ⟨s.mb, 0, none⟩), .agg (insC 51 0 0 0 0 0), .int .u32 2] w fun e w' => e = .returned (.int .i64 2) ∧ Below w.heap.size w w' := by
  have := accKind_any w s hm 51 0 0 0 0 0 2 (by omega)
  rw [ex_kind] at this
  exact this
set_option maxRecDepth 20000 in
set_option maxHeartbeats 1000000 in
theorem awake10_any (w : World) : Calls Try.prog 8 #[] w fun e w' => e = .returned (.bool true) ∧ Below w.heap.size w w' := by
  obtain ⟨wa, hwa⟩ : ∃ wa, w.alloc (.cells #[.int .u8 1, .int .u8 2, .int .u8 3, .int .u8 4] 5) = wa := ⟨_, rfl⟩
  obtain ⟨gn, hgn⟩ : ∃ gn, w.heap.size = gn := ⟨_, rfl⟩
  have hra : Row wa (some ⟨gn, 0, none⟩) [1, 2, 3, 4] 4 := by rw [← hwa, ← hgn]; exact row_new w [1, 2, 3, 4] (by simp) (by simp)
  have hba : Below w.heap.size w wa := by rw [← hwa]; exact below_new w _
  obtain ⟨wb, hwb⟩ : ∃ wb, wa.alloc (.cells #[.int .u32 0, .slice (some ⟨gn, 0, none⟩) 4 4, .int .i64 7, .bool false] 48) = wb := ⟨_, rfl⟩
  obtain ⟨pn, hpn⟩ : ∃ pn, wa.heap.size = pn := ⟨_, rfl⟩
  have hpb : Pieces wb (some ⟨pn, 0, none⟩) [exP (some ⟨gn, 0, none⟩)] := by rw [← hwb, ← hpn]; exact piece_new wa 0 (by omega) (some ⟨gn, 0, none⟩) [1, 2, 3, 4] 4 7 false hra
  have hbb : Below wa.heap.size wa wb := by rw [← hwb]; exact below_new wa _
  have HBB := hidden (hba.trans (hbb.mono hba.size))
  have HME := hidden (memory_any wb (some ⟨pn, 0, none⟩) 1 [exP (some ⟨gn, 0, none⟩)] hpb (by simp) (by simp [exP]))
  clear hra hba hpb hbb
  go_enter Try.func8, Try.ntmps8
  go_wp2_with (first | (go_at_call 9; refine HME.out.mono ?_; rintro e w1 ⟨s, rfl, hown, habs, h64, h32, hts, hcc⟩; have HO := hidden hown; have HAB := hidden habs; clear hown habs h64 h32 hts hcc) | (go_at_call 15; refine (ex_loadC HAB.out w1 HO.out.mem).mono ?_; rintro e w2 ⟨rfl, hb2⟩; have HB2 := hidden hb2; have HM2 := hidden (HO.out.mem.later hb2); clear hb2) | (go_at_call 11; refine (ex_kindC s w2 HM2.out).mono ?_; rintro e w3 ⟨rfl, hb3⟩; have HB3 := hidden hb3; clear hb3))
  go_ret
  have hb1 := HBB.out.trans (HO.out.below.mono HBB.out.size)
  have hb2 := hb1.trans (HB2.out.mono hb1.size)
  exact ⟨rfl, hb2.trans (HB3.out.mono hb2.size)⟩
end Go.Proofs.Ytkpcajmphhdmiaa
namespace Go.Proofs.Ytkpcajmphhdmiaa
open Go.ChangeShapes Go.WideShapes Go.ChangeAt Go.RowKit
set_option linter.unusedVariables false
theorem M5.alloc {w : World} {t : S5} (h : M5 w t) (o : Obj) : M5 (w.alloc o) t := h.later (below_new w o)
theorem and1 (a : Nat) (ha : a < 4294967296) : bits .and .u32 (a : Int) 1 = ((a % 2 : Nat) : Int) := by
  have := u32_and_nat a 1 ha (by omega)
  rw [show a &&& 1 = a % 2 from Nat.and_one_is_mod a] at this
  exact this
theorem and3 (a : Nat) (ha : a < 4294967296) : bits .and .u32 (a : Int) 3 = ((a % 4 : Nat) : Int) := by
  have := u32_and_nat a 3 ha (by omega)
  rw [show a &&& 3 = a % 4 from Nat.and_two_pow_sub_one_eq_mod a 2] at this
  exact this
theorem faultK_r {s : MS} {op : Int} (h : 48 ≤ op ∧ op ≤ 54) (a : Nat) : faultK s op a = faultV s 4 2 5 op a := by unfold faultK; rw [if_pos (kindP_reads h)]
theorem faultK_w {s : MS} {op : Int} (h : 55 ≤ op ∧ op ≤ 59) (a : Nat) : faultK s op a = faultV s 2 3 6 op a := by unfold faultK; rw [if_neg (by rw [kindP_writes h]; decide), if_pos (kindP_writes h)]
theorem faultK_o {s : MS} {op : Int} (h : op < 48 ∨ 59 < op) (a : Nat) : faultK s op a = 0 := by unfold faultK; rw [if_neg (kindP_else h).1, if_neg (kindP_else h).2]
theorem fault_al {s : MS} {pm al pg op : Int} {a : Nat} (h : astrayB op a = true) : faultV s pm al pg op a = al := by unfold faultV; rw [if_pos h]
theorem fault_pg {s : MS} {pm al pg op : Int} {a : Nat} (h : astrayB op a = false) (hz : bits .and .i64 (s.perm a) pm = 0) : faultV s pm al pg op a = pg := by unfold faultV; rw [if_neg (by rw [h]; decide), if_pos hz]
theorem fault_no {s : MS} {pm al pg op : Int} {a : Nat} (h : astrayB op a = false) (hz : ¬ bits .and .i64 (s.perm a) pm = 0) : faultV s pm al pg op a = 0 := by unfold faultV; rw [if_neg (by rw [h]; decide), if_neg hz]
set_option maxRecDepth 20000 in
theorem rkind_48 (w : World) (t : S5) (s : MS) (ht : M5 w t) (hS : Sim s t.l) (S T D A imm : Int) (a : Nat) (ha : a < 4294967296) : Calls Try.prog 12 #[.pointer (some ⟨t.m, 0, none⟩), .agg (insC 48 S T D A imm), .int .u32 (a : Int)] w fun e w' => e = .returned (.int .i64 (faultK s 48 a)) ∧ Below w.heap.size w w' := by
  have hB := hidden (below_new w (.cells (insC 48 S T D A imm) 31))
  have HP := hidden ((ht.alloc (.cells (insC 48 S T D A imm) 31)).permC a ha)
  rw [hS.perm a] at HP
  have e1 := and1 a ha
  have e3 := and3 a ha
  rw [faultK_r (by omega)]
  clear ht hS
  have HA : astrayB 48 a = false := rfl
  generalize a % 2 = r1 at *
  generalize a % 4 = r3 at *
  by_cases hz : bits .and .i64 (s.perm a) 4 = 0
  · rw [fault_pg HA hz]
    have f1 : (bits .and .i64 (s.perm a) 4 == 0) = true := beq_iff_eq.2 hz
    generalize s.perm a = p at *
    clear hz HA
    go_enter Try.func12, Try.ntmps12
    go_wp2_with (go_at_call 36; refine HP.out.mono ?_; rintro e w1 ⟨rfl, hww⟩; rw [hww]; clear hww w1)
    go_ret
    exact ⟨rfl, hB.out⟩
  · rw [fault_no HA hz]
    have f1 : (bits .and .i64 (s.perm a) 4 == 0) = false := beq_eq_false_iff_ne.2 hz
    generalize s.perm a = p at *
    clear hz HA
    go_enter Try.func12, Try.ntmps12
    go_wp2_with (go_at_call 36; refine HP.out.mono ?_; rintro e w1 ⟨rfl, hww⟩; rw [hww]; clear hww w1)
    go_ret
    exact ⟨rfl, hB.out⟩
set_option maxRecDepth 20000 in
theorem rkind_49 (w : World) (t : S5) (s : MS) (ht : M5 w t) (hS : Sim s t.l) (S T D A imm : Int) (a : Nat) (ha : a < 4294967296) : Calls Try.prog 12 #[.pointer (some ⟨t.m, 0, none⟩), .agg (insC 49 S T D A imm), .int .u32 (a : Int)] w fun e w' => e = .returned (.int .i64 (faultK s 49 a)) ∧ Below w.heap.size w w' := by
  have hB := hidden (below_new w (.cells (insC 49 S T D A imm) 31))
  have HP := hidden ((ht.alloc (.cells (insC 49 S T D A imm) 31)).permC a ha)
  rw [hS.perm a] at HP
  have e1 := and1 a ha
  have e3 := and3 a ha
  rw [faultK_r (by omega)]
  clear ht hS
  by_cases h2 : a % 2 ≠ 0
  · have HA : astrayB 49 a = true := decide_eq_true h2
    rw [fault_al HA]
    rw [show a % 2 = 1 by omega] at e1
    clear h2 HA
    generalize a % 4 = r3 at *
    go_enter Try.func12, Try.ntmps12
    go_wp2_with (go_at_call 36; refine HP.out.mono ?_; rintro e w1 ⟨rfl, hww⟩; rw [hww]; clear hww w1)
    go_ret
    exact ⟨rfl, hB.out⟩
  · have HA : astrayB 49 a = false := decide_eq_false h2
    rw [show a % 2 = 0 by omega] at e1
    clear h2
    generalize a % 4 = ro at *
    by_cases hz : bits .and .i64 (s.perm a) 4 = 0
    · rw [fault_pg HA hz]
      have f1 : (bits .and .i64 (s.perm a) 4 == 0) = true := beq_iff_eq.2 hz
      generalize s.perm a = p at *
      clear hz HA
      go_enter Try.func12, Try.ntmps12
      go_wp2_with (go_at_call 36; refine HP.out.mono ?_; rintro e w1 ⟨rfl, hww⟩; rw [hww]; clear hww w1)
      go_ret
      exact ⟨rfl, hB.out⟩
    · rw [fault_no HA hz]
      have f1 : (bits .and .i64 (s.perm a) 4 == 0) = false := beq_eq_false_iff_ne.2 hz
      generalize s.perm a = p at *
      clear hz HA
      go_enter Try.func12, Try.ntmps12
      go_wp2_with (go_at_call 36; refine HP.out.mono ?_; rintro e w1 ⟨rfl, hww⟩; rw [hww]; clear hww w1)
      go_ret
      exact ⟨rfl, hB.out⟩
set_option maxRecDepth 20000 in
theorem rkind_50 (w : World) (t : S5) (s : MS) (ht : M5 w t) (hS : Sim s t.l) (S T D A imm : Int) (a : Nat) (ha : a < 4294967296) : Calls Try.prog 12 #[.pointer (some ⟨t.m, 0, none⟩), .agg (insC 50 S T D A imm), .int .u32 (a : Int)] w fun e w' => e = .returned (.int .i64 (faultK s 50 a)) ∧ Below w.heap.size w w' := by
  have hB := hidden (below_new w (.cells (insC 50 S T D A imm) 31))
  have HP := hidden ((ht.alloc (.cells (insC 50 S T D A imm) 31)).permC a ha)
  rw [hS.perm a] at HP
  have e1 := and1 a ha
  have e3 := and3 a ha
  rw [faultK_r (by omega)]
  clear ht hS
  have HA : astrayB 50 a = false := rfl
  generalize a % 2 = r1 at *
  generalize a % 4 = r3 at *
  by_cases hz : bits .and .i64 (s.perm a) 4 = 0
  · rw [fault_pg HA hz]
    have f1 : (bits .and .i64 (s.perm a) 4 == 0) = true := beq_iff_eq.2 hz
    generalize s.perm a = p at *
    clear hz HA
    go_enter Try.func12, Try.ntmps12
    go_wp2_with (go_at_call 36; refine HP.out.mono ?_; rintro e w1 ⟨rfl, hww⟩; rw [hww]; clear hww w1)
    go_ret
    exact ⟨rfl, hB.out⟩
  · rw [fault_no HA hz]
    have f1 : (bits .and .i64 (s.perm a) 4 == 0) = false := beq_eq_false_iff_ne.2 hz
    generalize s.perm a = p at *
    clear hz HA
    go_enter Try.func12, Try.ntmps12
    go_wp2_with (go_at_call 36; refine HP.out.mono ?_; rintro e w1 ⟨rfl, hww⟩; rw [hww]; clear hww w1)
    go_ret
    exact ⟨rfl, hB.out⟩
set_option maxRecDepth 20000 in
theorem rkind_51 (w : World) (t : S5) (s : MS) (ht : M5 w t) (hS : Sim s t.l) (S T D A imm : Int) (a : Nat) (ha : a < 4294967296) : Calls Try.prog 12 #[.pointer (some ⟨t.m, 0, none⟩), .agg (insC 51 S T D A imm), .int .u32 (a : Int)] w fun e w' => e = .returned (.int .i64 (faultK s 51 a)) ∧ Below w.heap.size w w' := by
  have hB := hidden (below_new w (.cells (insC 51 S T D A imm) 31))
  have HP := hidden ((ht.alloc (.cells (insC 51 S T D A imm) 31)).permC a ha)
  rw [hS.perm a] at HP
  have e1 := and1 a ha
  have e3 := and3 a ha
  rw [faultK_r (by omega)]
  clear ht hS
  by_cases h2 : a % 4 ≠ 0
  · have HA : astrayB 51 a = true := decide_eq_true h2
    rw [fault_al HA]
    have f3 : (((a % 4 : Nat) : Int) == 0) = false := beq_eq_false_iff_ne.2 (by omega)
    generalize a % 4 = r3 at *
    clear h2 HA
    generalize a % 2 = r1 at *
    go_enter Try.func12, Try.ntmps12
    go_wp2_with (go_at_call 36; refine HP.out.mono ?_; rintro e w1 ⟨rfl, hww⟩; rw [hww]; clear hww w1)
    go_ret
    exact ⟨rfl, hB.out⟩
  · have HA : astrayB 51 a = false := decide_eq_false h2
    rw [show a % 4 = 0 by omega] at e3
    clear h2
    generalize a % 2 = ro at *
    by_cases hz : bits .and .i64 (s.perm a) 4 = 0
    · rw [fault_pg HA hz]
      have f1 : (bits .and .i64 (s.perm a) 4 == 0) = true := beq_iff_eq.2 hz
      generalize s.perm a = p at *
      clear hz HA
      go_enter Try.func12, Try.ntmps12
      go_wp2_with (go_at_call 36; refine HP.out.mono ?_; rintro e w1 ⟨rfl, hww⟩; rw [hww]; clear hww w1)
      go_ret
      exact ⟨rfl, hB.out⟩
    · rw [fault_no HA hz]
      have f1 : (bits .and .i64 (s.perm a) 4 == 0) = false := beq_eq_false_iff_ne.2 hz
      generalize s.perm a = p at *
      clear hz HA
      go_enter Try.func12, Try.ntmps12
      go_wp2_with (go_at_call 36; refine HP.out.mono ?_; rintro e w1 ⟨rfl, hww⟩; rw [hww]; clear hww w1)
      go_ret
      exact ⟨rfl, hB.out⟩
set_option maxRecDepth 20000 in
theorem rkind_52 (w : World) (t : S5) (s : MS) (ht : M5 w t) (hS : Sim s t.l) (S T D A imm : Int) (a : Nat) (ha : a < 4294967296) : Calls Try.prog 12 #[.pointer (some ⟨t.m, 0, none⟩), .agg (insC 52 S T D A imm), .int .u32 (a : Int)] w fun e w' => e = .returned (.int .i64 (faultK s 52 a)) ∧ Below w.heap.size w w' := by
  have hB := hidden (below_new w (.cells (insC 52 S T D A imm) 31))
  have HP := hidden ((ht.alloc (.cells (insC 52 S T D A imm) 31)).permC a ha)
  rw [hS.perm a] at HP
  have e1 := and1 a ha
  have e3 := and3 a ha
  rw [faultK_r (by omega)]
  clear ht hS
  have HA : astrayB 52 a = false := rfl
  generalize a % 2 = r1 at *
  generalize a % 4 = r3 at *
  by_cases hz : bits .and .i64 (s.perm a) 4 = 0
  · rw [fault_pg HA hz]
    have f1 : (bits .and .i64 (s.perm a) 4 == 0) = true := beq_iff_eq.2 hz
    generalize s.perm a = p at *
    clear hz HA
    go_enter Try.func12, Try.ntmps12
    go_wp2_with (go_at_call 36; refine HP.out.mono ?_; rintro e w1 ⟨rfl, hww⟩; rw [hww]; clear hww w1)
    go_ret
    exact ⟨rfl, hB.out⟩
  · rw [fault_no HA hz]
    have f1 : (bits .and .i64 (s.perm a) 4 == 0) = false := beq_eq_false_iff_ne.2 hz
    generalize s.perm a = p at *
    clear hz HA
    go_enter Try.func12, Try.ntmps12
    go_wp2_with (go_at_call 36; refine HP.out.mono ?_; rintro e w1 ⟨rfl, hww⟩; rw [hww]; clear hww w1)
    go_ret
    exact ⟨rfl, hB.out⟩
set_option maxRecDepth 20000 in
theorem rkind_53 (w : World) (t : S5) (s : MS) (ht : M5 w t) (hS : Sim s t.l) (S T D A imm : Int) (a : Nat) (ha : a < 4294967296) : Calls Try.prog 12 #[.pointer (some ⟨t.m, 0, none⟩), .agg (insC 53 S T D A imm), .int .u32 (a : Int)] w fun e w' => e = .returned (.int .i64 (faultK s 53 a)) ∧ Below w.heap.size w w' := by
  have hB := hidden (below_new w (.cells (insC 53 S T D A imm) 31))
  have HP := hidden ((ht.alloc (.cells (insC 53 S T D A imm) 31)).permC a ha)
  rw [hS.perm a] at HP
  have e1 := and1 a ha
  have e3 := and3 a ha
  rw [faultK_r (by omega)]
  clear ht hS
  by_cases h2 : a % 2 ≠ 0
  · have HA : astrayB 53 a = true := decide_eq_true h2
    rw [fault_al HA]
    rw [show a % 2 = 1 by omega] at e1
    clear h2 HA
    generalize a % 4 = r3 at *
    go_enter Try.func12, Try.ntmps12
    go_wp2_with (go_at_call 36; refine HP.out.mono ?_; rintro e w1 ⟨rfl, hww⟩; rw [hww]; clear hww w1)
    go_ret
    exact ⟨rfl, hB.out⟩
  · have HA : astrayB 53 a = false := decide_eq_false h2
    rw [show a % 2 = 0 by omega] at e1
    clear h2
    generalize a % 4 = ro at *
    by_cases hz : bits .and .i64 (s.perm a) 4 = 0
    · rw [fault_pg HA hz]
      have f1 : (bits .and .i64 (s.perm a) 4 == 0) = true := beq_iff_eq.2 hz
      generalize s.perm a = p at *
      clear hz HA
      go_enter Try.func12, Try.ntmps12
      go_wp2_with (go_at_call 36; refine HP.out.mono ?_; rintro e w1 ⟨rfl, hww⟩; rw [hww]; clear hww w1)
      go_ret
      exact ⟨rfl, hB.out⟩
    · rw [fault_no HA hz]
      have f1 : (bits .and .i64 (s.perm a) 4 == 0) = false := beq_eq_false_iff_ne.2 hz
      generalize s.perm a = p at *
      clear hz HA
      go_enter Try.func12, Try.ntmps12
      go_wp2_with (go_at_call 36; refine HP.out.mono ?_; rintro e w1 ⟨rfl, hww⟩; rw [hww]; clear hww w1)
      go_ret
      exact ⟨rfl, hB.out⟩
set_option maxRecDepth 20000 in
theorem rkind_54 (w : World) (t : S5) (s : MS) (ht : M5 w t) (hS : Sim s t.l) (S T D A imm : Int) (a : Nat) (ha : a < 4294967296) : Calls Try.prog 12 #[.pointer (some ⟨t.m, 0, none⟩), .agg (insC 54 S T D A imm), .int .u32 (a : Int)] w fun e w' => e = .returned (.int .i64 (faultK s 54 a)) ∧ Below w.heap.size w w' := by
  have hB := hidden (below_new w (.cells (insC 54 S T D A imm) 31))
  have HP := hidden ((ht.alloc (.cells (insC 54 S T D A imm) 31)).permC a ha)
  rw [hS.perm a] at HP
  have e1 := and1 a ha
  have e3 := and3 a ha
  rw [faultK_r (by omega)]
  clear ht hS
  have HA : astrayB 54 a = false := rfl
  generalize a % 2 = r1 at *
  generalize a % 4 = r3 at *
  by_cases hz : bits .and .i64 (s.perm a) 4 = 0
  · rw [fault_pg HA hz]
    have f1 : (bits .and .i64 (s.perm a) 4 == 0) = true := beq_iff_eq.2 hz
    generalize s.perm a = p at *
    clear hz HA
    go_enter Try.func12, Try.ntmps12
    go_wp2_with (go_at_call 36; refine HP.out.mono ?_; rintro e w1 ⟨rfl, hww⟩; rw [hww]; clear hww w1)
    go_ret
    exact ⟨rfl, hB.out⟩
  · rw [fault_no HA hz]
    have f1 : (bits .and .i64 (s.perm a) 4 == 0) = false := beq_eq_false_iff_ne.2 hz
    generalize s.perm a = p at *
    clear hz HA
    go_enter Try.func12, Try.ntmps12
    go_wp2_with (go_at_call 36; refine HP.out.mono ?_; rintro e w1 ⟨rfl, hww⟩; rw [hww]; clear hww w1)
    go_ret
    exact ⟨rfl, hB.out⟩
set_option maxRecDepth 20000 in
theorem rkind_55 (w : World) (t : S5) (s : MS) (ht : M5 w t) (hS : Sim s t.l) (S T D A imm : Int) (a : Nat) (ha : a < 4294967296) : Calls Try.prog 12 #[.pointer (some ⟨t.m, 0, none⟩), .agg (insC 55 S T D A imm), .int .u32 (a : Int)] w fun e w' => e = .returned (.int .i64 (faultK s 55 a)) ∧ Below w.heap.size w w' := by
  have hB := hidden (below_new w (.cells (insC 55 S T D A imm) 31))
  have HP := hidden ((ht.alloc (.cells (insC 55 S T D A imm) 31)).permC a ha)
  rw [hS.perm a] at HP
  have e1 := and1 a ha
  have e3 := and3 a ha
  rw [faultK_w (by omega)]
  clear ht hS
  have HA : astrayB 55 a = false := rfl
  generalize a % 2 = r1 at *
  generalize a % 4 = r3 at *
  by_cases hz : bits .and .i64 (s.perm a) 2 = 0
  · rw [fault_pg HA hz]
    have f1 : (bits .and .i64 (s.perm a) 2 == 0) = true := beq_iff_eq.2 hz
    generalize s.perm a = p at *
    clear hz HA
    go_enter Try.func12, Try.ntmps12
    go_wp2_with (go_at_call 36; refine HP.out.mono ?_; rintro e w1 ⟨rfl, hww⟩; rw [hww]; clear hww w1)
    go_ret
    exact ⟨rfl, hB.out⟩
  · rw [fault_no HA hz]
    have f1 : (bits .and .i64 (s.perm a) 2 == 0) = false := beq_eq_false_iff_ne.2 hz
    generalize s.perm a = p at *
    clear hz HA
    go_enter Try.func12, Try.ntmps12
    go_wp2_with (go_at_call 36; refine HP.out.mono ?_; rintro e w1 ⟨rfl, hww⟩; rw [hww]; clear hww w1)
    go_ret
    exact ⟨rfl, hB.out⟩
set_option maxRecDepth 20000 in
theorem rkind_56 (w : World) (t : S5) (s : MS) (ht : M5 w t) (hS : Sim s t.l) (S T D A imm : Int) (a : Nat) (ha : a < 4294967296) : Calls Try.prog 12 #[.pointer (some ⟨t.m, 0, none⟩), .agg (insC 56 S T D A imm), .int .u32 (a : Int)] w fun e w' => e = .returned (.int .i64 (faultK s 56 a)) ∧ Below w.heap.size w w' := by
  have hB := hidden (below_new w (.cells (insC 56 S T D A imm) 31))
  have HP := hidden ((ht.alloc (.cells (insC 56 S T D A imm) 31)).permC a ha)
  rw [hS.perm a] at HP
  have e1 := and1 a ha
  have e3 := and3 a ha
  rw [faultK_w (by omega)]
  clear ht hS
  by_cases h2 : a % 2 ≠ 0
  · have HA : astrayB 56 a = true := decide_eq_true h2
    rw [fault_al HA]
    rw [show a % 2 = 1 by omega] at e1
    clear h2 HA
    generalize a % 4 = r3 at *
    go_enter Try.func12, Try.ntmps12
    go_wp2_with (go_at_call 36; refine HP.out.mono ?_; rintro e w1 ⟨rfl, hww⟩; rw [hww]; clear hww w1)
    go_ret
    exact ⟨rfl, hB.out⟩
  · have HA : astrayB 56 a = false := decide_eq_false h2
    rw [show a % 2 = 0 by omega] at e1
    clear h2
    generalize a % 4 = ro at *
    by_cases hz : bits .and .i64 (s.perm a) 2 = 0
    · rw [fault_pg HA hz]
      have f1 : (bits .and .i64 (s.perm a) 2 == 0) = true := beq_iff_eq.2 hz
      generalize s.perm a = p at *
      clear hz HA
      go_enter Try.func12, Try.ntmps12
      go_wp2_with (go_at_call 36; refine HP.out.mono ?_; rintro e w1 ⟨rfl, hww⟩; rw [hww]; clear hww w1)
      go_ret
      exact ⟨rfl, hB.out⟩
    · rw [fault_no HA hz]
      have f1 : (bits .and .i64 (s.perm a) 2 == 0) = false := beq_eq_false_iff_ne.2 hz
      generalize s.perm a = p at *
      clear hz HA
      go_enter Try.func12, Try.ntmps12
      go_wp2_with (go_at_call 36; refine HP.out.mono ?_; rintro e w1 ⟨rfl, hww⟩; rw [hww]; clear hww w1)
      go_ret
      exact ⟨rfl, hB.out⟩
set_option maxRecDepth 20000 in
theorem rkind_57 (w : World) (t : S5) (s : MS) (ht : M5 w t) (hS : Sim s t.l) (S T D A imm : Int) (a : Nat) (ha : a < 4294967296) : Calls Try.prog 12 #[.pointer (some ⟨t.m, 0, none⟩), .agg (insC 57 S T D A imm), .int .u32 (a : Int)] w fun e w' => e = .returned (.int .i64 (faultK s 57 a)) ∧ Below w.heap.size w w' := by
  have hB := hidden (below_new w (.cells (insC 57 S T D A imm) 31))
  have HP := hidden ((ht.alloc (.cells (insC 57 S T D A imm) 31)).permC a ha)
  rw [hS.perm a] at HP
  have e1 := and1 a ha
  have e3 := and3 a ha
  rw [faultK_w (by omega)]
  clear ht hS
  have HA : astrayB 57 a = false := rfl
  generalize a % 2 = r1 at *
  generalize a % 4 = r3 at *
  by_cases hz : bits .and .i64 (s.perm a) 2 = 0
  · rw [fault_pg HA hz]
    have f1 : (bits .and .i64 (s.perm a) 2 == 0) = true := beq_iff_eq.2 hz
    generalize s.perm a = p at *
    clear hz HA
    go_enter Try.func12, Try.ntmps12
    go_wp2_with (go_at_call 36; refine HP.out.mono ?_; rintro e w1 ⟨rfl, hww⟩; rw [hww]; clear hww w1)
    go_ret
    exact ⟨rfl, hB.out⟩
  · rw [fault_no HA hz]
    have f1 : (bits .and .i64 (s.perm a) 2 == 0) = false := beq_eq_false_iff_ne.2 hz
    generalize s.perm a = p at *
    clear hz HA
    go_enter Try.func12, Try.ntmps12
    go_wp2_with (go_at_call 36; refine HP.out.mono ?_; rintro e w1 ⟨rfl, hww⟩; rw [hww]; clear hww w1)
    go_ret
    exact ⟨rfl, hB.out⟩
set_option maxRecDepth 20000 in
theorem rkind_58 (w : World) (t : S5) (s : MS) (ht : M5 w t) (hS : Sim s t.l) (S T D A imm : Int) (a : Nat) (ha : a < 4294967296) : Calls Try.prog 12 #[.pointer (some ⟨t.m, 0, none⟩), .agg (insC 58 S T D A imm), .int .u32 (a : Int)] w fun e w' => e = .returned (.int .i64 (faultK s 58 a)) ∧ Below w.heap.size w w' := by
  have hB := hidden (below_new w (.cells (insC 58 S T D A imm) 31))
  have HP := hidden ((ht.alloc (.cells (insC 58 S T D A imm) 31)).permC a ha)
  rw [hS.perm a] at HP
  have e1 := and1 a ha
  have e3 := and3 a ha
  rw [faultK_w (by omega)]
  clear ht hS
  by_cases h2 : a % 4 ≠ 0
  · have HA : astrayB 58 a = true := decide_eq_true h2
    rw [fault_al HA]
    have f3 : (((a % 4 : Nat) : Int) == 0) = false := beq_eq_false_iff_ne.2 (by omega)
    generalize a % 4 = r3 at *
    clear h2 HA
    generalize a % 2 = r1 at *
    go_enter Try.func12, Try.ntmps12
    go_wp2_with (go_at_call 36; refine HP.out.mono ?_; rintro e w1 ⟨rfl, hww⟩; rw [hww]; clear hww w1)
    go_ret
    exact ⟨rfl, hB.out⟩
  · have HA : astrayB 58 a = false := decide_eq_false h2
    rw [show a % 4 = 0 by omega] at e3
    clear h2
    generalize a % 2 = ro at *
    by_cases hz : bits .and .i64 (s.perm a) 2 = 0
    · rw [fault_pg HA hz]
      have f1 : (bits .and .i64 (s.perm a) 2 == 0) = true := beq_iff_eq.2 hz
      generalize s.perm a = p at *
      clear hz HA
      go_enter Try.func12, Try.ntmps12
      go_wp2_with (go_at_call 36; refine HP.out.mono ?_; rintro e w1 ⟨rfl, hww⟩; rw [hww]; clear hww w1)
      go_ret
      exact ⟨rfl, hB.out⟩
    · rw [fault_no HA hz]
      have f1 : (bits .and .i64 (s.perm a) 2 == 0) = false := beq_eq_false_iff_ne.2 hz
      generalize s.perm a = p at *
      clear hz HA
      go_enter Try.func12, Try.ntmps12
      go_wp2_with (go_at_call 36; refine HP.out.mono ?_; rintro e w1 ⟨rfl, hww⟩; rw [hww]; clear hww w1)
      go_ret
      exact ⟨rfl, hB.out⟩
set_option maxRecDepth 20000 in
theorem rkind_59 (w : World) (t : S5) (s : MS) (ht : M5 w t) (hS : Sim s t.l) (S T D A imm : Int) (a : Nat) (ha : a < 4294967296) : Calls Try.prog 12 #[.pointer (some ⟨t.m, 0, none⟩), .agg (insC 59 S T D A imm), .int .u32 (a : Int)] w fun e w' => e = .returned (.int .i64 (faultK s 59 a)) ∧ Below w.heap.size w w' := by
  have hB := hidden (below_new w (.cells (insC 59 S T D A imm) 31))
  have HP := hidden ((ht.alloc (.cells (insC 59 S T D A imm) 31)).permC a ha)
  rw [hS.perm a] at HP
  have e1 := and1 a ha
  have e3 := and3 a ha
  rw [faultK_w (by omega)]
  clear ht hS
  have HA : astrayB 59 a = false := rfl
  generalize a % 2 = r1 at *
  generalize a % 4 = r3 at *
  by_cases hz : bits .and .i64 (s.perm a) 2 = 0
  · rw [fault_pg HA hz]
    have f1 : (bits .and .i64 (s.perm a) 2 == 0) = true := beq_iff_eq.2 hz
    generalize s.perm a = p at *
    clear hz HA
    go_enter Try.func12, Try.ntmps12
    go_wp2_with (go_at_call 36; refine HP.out.mono ?_; rintro e w1 ⟨rfl, hww⟩; rw [hww]; clear hww w1)
    go_ret
    exact ⟨rfl, hB.out⟩
  · rw [fault_no HA hz]
    have f1 : (bits .and .i64 (s.perm a) 2 == 0) = false := beq_eq_false_iff_ne.2 hz
    generalize s.perm a = p at *
    clear hz HA
    go_enter Try.func12, Try.ntmps12
    go_wp2_with (go_at_call 36; refine HP.out.mono ?_; rintro e w1 ⟨rfl, hww⟩; rw [hww]; clear hww w1)
    go_ret
    exact ⟨rfl, hB.out⟩
set_option maxRecDepth 20000 in
theorem rkind_lo (w : World) (t : S5) (s : MS) (op S T D A imm : Int) (h : op < 48) (a : Nat) : Calls Try.prog 12 #[.pointer (some ⟨t.m, 0, none⟩), .agg (insC op S T D A imm), .int .u32 (a : Int)] w fun e w' => e = .returned (.int .i64 (faultK s op a)) ∧ Below w.heap.size w w' := by
  have hB := hidden (below_new w (.cells (insC op S T D A imm) 31))
  rw [faultK_o (.inl h)]
  have d1 : ¬ 48 ≤ op := by omega
  have d2 : op < 55 := by omega
  go_enter Try.func12, Try.ntmps12
  go_wp2
  go_ret
  exact ⟨rfl, hB.out⟩
set_option maxRecDepth 20000 in
theorem rkind_hi (w : World) (t : S5) (s : MS) (op S T D A imm : Int) (h : 59 < op) (a : Nat) : Calls Try.prog 12 #[.pointer (some ⟨t.m, 0, none⟩), .agg (insC op S T D A imm), .int .u32 (a : Int)] w fun e w' => e = .returned (.int .i64 (faultK s op a)) ∧ Below w.heap.size w w' := by
  have hB := hidden (below_new w (.cells (insC op S T D A imm) 31))
  rw [faultK_o (.inr h)]
  have d1 : 48 ≤ op := by omega
  have d2 : ¬ op ≤ 54 := by omega
  have d3 : ¬ op < 55 := by omega
  go_enter Try.func12, Try.ntmps12
  go_wp2
  go_ret
  exact ⟨rfl, hB.out⟩
theorem rkind_any (w : World) (t : S5) (s : MS) (ht : M5 w t) (hS : Sim s t.l) (op S T D A imm : Int) (a : Nat) (ha : a < 4294967296) : Calls Try.prog 12 #[.pointer (some ⟨t.m, 0, none⟩), .agg (insC op S T D A imm), .int .u32 (a : Int)] w fun e w' => e = .returned (.int .i64 (faultK s op a)) ∧ Below w.heap.size w w' := by
  by_cases h1 : op < 48
  · exact rkind_lo w t s op S T D A imm h1 a
  by_cases h2 : 59 < op
  · exact rkind_hi w t s op S T D A imm h2 a
  rcases (show op = 48 ∨ op = 49 ∨ op = 50 ∨ op = 51 ∨ op = 52 ∨ op = 53 ∨ op = 54 ∨ op = 55 ∨ op = 56 ∨ op = 57 ∨ op = 58 ∨ op = 59 by omega) with rfl | rfl | rfl | rfl | rfl | rfl | rfl | rfl | rfl | rfl | rfl | rfl
  · exact rkind_48 w t s ht hS S T D A imm a ha
  · exact rkind_49 w t s ht hS S T D A imm a ha
  · exact rkind_50 w t s ht hS S T D A imm a ha
  · exact rkind_51 w t s ht hS S T D A imm a ha
  · exact rkind_52 w t s ht hS S T D A imm a ha
  · exact rkind_53 w t s ht hS S T D A imm a ha
  · exact rkind_54 w t s ht hS S T D A imm a ha
  · exact rkind_55 w t s ht hS S T D A imm a ha
  · exact rkind_56 w t s ht hS S T D A imm a ha
  · exact rkind_57 w t s ht hS S T D A imm a ha
  · exact rkind_58 w t s ht hS S T D A imm a ha
  · exact rkind_59 w t s ht hS S T D A imm a ha
set_option maxRecDepth 20000 in
theorem rfetch_any (w : World) (t : S5) (s : MS) (ht : M5 w t) (hS : Sim s t.l) (a : Nat) (ha : a < 4294967296) : Calls Try.prog 14 #[.pointer (some ⟨t.m, 0, none⟩), .int .u32 (a : Int)] w fun e w' => e = .returned (.tuple #[.int .u32 (fetchV s a).1, .int .i64 (fetchV s a).2]) ∧ w' = w := by
  have HP := hidden (ht.permC a ha)
  have HW := hidden (ht.wordC a ha)
  rw [hS.perm a] at HP
  rw [hS.word a ha] at HW
  have e3 := and3 a ha
  clear ht hS
  by_cases h4 : a % 4 ≠ 0
  · have f1 : (((a % 4 : Nat) : Int) == 0) = false := beq_eq_false_iff_ne.2 (by omega)
    rw [show fetchV s a = (0, 1) from if_pos h4]
    generalize a % 4 = r3 at *
    clear h4
    go_enter Try.func14, Try.ntmps14
    go_wp2
    go_ret2
    exact ⟨rfl, rfl⟩
  · unfold fetchV
    rw [if_neg h4]
    rw [show a % 4 = 0 by omega] at e3
    clear h4
    generalize s.perm a = p at *
    generalize preW s a 4 = x at *
    by_cases hz : bits .and .i64 p 1 = 0
    · have f2 : (bits .and .i64 p 1 == 0) = true := beq_iff_eq.2 hz
      rw [if_pos hz]
      clear hz
      go_enter Try.func14, Try.ntmps14
      go_wp2_with (go_at_call 36; refine HP.out.mono ?_; rintro e w1 ⟨rfl, hww⟩; rw [hww]; clear hww w1)
      go_ret2
      exact ⟨rfl, rfl⟩
    · have f2 : (bits .and .i64 p 1 == 0) = false := beq_eq_false_iff_ne.2 hz
      rw [if_neg hz]
      clear hz
      go_enter Try.func14, Try.ntmps14
      go_wp2_with (first | (go_at_call 36; refine HP.out.mono ?_; rintro e w1 ⟨rfl, hww⟩; rw [hww]; clear hww w1) | (go_at_call 38; refine HW.out.mono ?_; rintro e w2 ⟨rfl, hww2⟩; rw [hww2]; clear hww2 w2))
      go_ret2
      exact ⟨rfl, rfl⟩
end Go.Proofs.Ytkpcajmphhdmiaa
namespace Go.Proofs.Ytkpcajmphhdmiaa
open Go.ChangeShapes Go.WideShapes Go.ChangeAt Go.RowKit
set_option linter.unusedVariables false
theorem storeL_len (op : Int) (a v : Nat) : (storeL op a v).length ≤ 4 := by
  unfold storeL
  repeat' split
  · rw [placesL_len, List.length_drop, bytesL_len]; omega
  · rw [placesL_len, List.length_drop, bytesL_len]; omega
  · rw [placesL_len, bytesL_len]; omega
  · rw [placesL_len, List.length_take, bytesL_len]; omega
  · rw [placesL_len, List.length_drop, bytesL_len]; omega
  · simp
theorem stC {w0 w1 : World} {s : MS} {mb N : Nat} {op : Int} {a v : Nat} (ho : Own w0 w1 s) (hm : s.mb = mb) (hc : s.c ≤ N) (hN : N + 4 ≤ 1099511627776) (ha : a < 4294967296) (hv : v < 4294967296) : Calls Try.prog 17 #[.pointer (some ⟨mb, 0, none⟩), .agg (insC op 0 0 0 0 0), .int .u32 (a : Int), .int .u32 (v : Int)] w1 fun e w' => e = .returned (.tuple #[]) ∧ ∃ s', Own w0 w' s' ∧ s'.mb = mb ∧ s'.c ≤ N + 4 ∧ PokesTo s (storeL op a v) s' := by
  have h := accStore_any w1 s ho.mem op 0 0 0 0 0 a v ha hv (by omega)
  rw [hm] at h
  refine h.mono ?_
  rintro e w' ⟨he, s', hp, hst⟩
  have h1 := hp.c
  have h2 := storeL_len op a v
  exact ⟨he, s', ho.step hst, hp.mb.trans hm, by omega, hp⟩
theorem ldC {w0 w1 : World} {s : MS} {mb : Nat} {op r : Int} {a old : Nat} (ho : Own w0 w1 s) (hm : s.mb = mb) (ha : a < 4294967296) (hold : old < 4294967296) (hr : (loadN s op a old : Int) = r) : Calls Try.prog 15 #[.pointer (some ⟨mb, 0, none⟩), .agg (insC op 0 0 0 0 0), .int .u32 (a : Int), .int .u32 (old : Int)] w1 fun e w' => e = .returned (.int .u32 r) ∧ Own w0 w' s := by
  have h := accLoad_any w1 s ho.mem op 0 0 0 0 0 a old ha hold
  rw [hm, hr] at h
  exact h.mono fun e w' ⟨h1, h2⟩ => ⟨h1, ho.step (Step.later ho.mem h2)⟩
theorem wdC {w0 w1 : World} {s : MS} {mb : Nat} {r : Int} {a : Nat} (ho : Own w0 w1 s) (hm : s.mb = mb) (ha : a < 4294967296) (hr : (preW s a 4 : Int) = r) : Calls Try.prog 23 #[.pointer (some ⟨mb, 0, none⟩), .int .u32 (a : Int)] w1 fun e w' => e = .returned (.int .u32 r) ∧ Own w0 w' s := by
  have h := word_any w1 s a ho.mem ha
  rw [hm, hr] at h
  exact h.mono fun e w' ⟨h1, h2⟩ => ⟨h1, ho.step (Step.drew ho.mem h2)⟩
/-- Two pages of parts: at 0, at 256. -/
def lowP (ao : Option Addr) : Part4 := ⟨0, List.replicate 10 0, 7, false, ao, 10⟩
def highP : Part4 := ⟨256, [], 7, false, none, 0⟩
theorem full_awatch {f : AM} (hf : Full f) (a : Nat) (b : Bool) : Full (awatch f a b) := by
  intro k x hx
  unfold awatch at hx
  by_cases e : k = pageOf a
  · rw [if_pos e] at hx
    cases hq : f k with
    | none => rw [hq] at hx; cases hx
    | some y =>
      rw [hq] at hx
      rw [← Option.some.inj hx]
      exact hf k y hq
  · rw [if_neg e] at hx
    exact hf k x hx
theorem low_of {s : MS} {ao : Option Addr} (h : s.abs = memOf [lowP ao, highP]) : LowM s := by
  have hd : Full (partDone (fun _ => none) (lowP ao)) := full_pokes (full_maps (fun _ _ h => by cases h) _ _) _ _
  refine ⟨?_, fun b hb => ?_⟩
  · rw [h]
    exact full_awatch (full_awatch (full_pokes (full_maps hd _ _) _ _) _ _) _ _
  · rw [h]
    show (awatch (awatch (partDone (partDone (fun _ => none) (lowP ao)) highP) _ _) _ _ (pageOf b)).isSome = true
    rw [some_awatch, some_awatch]
    unfold partDone
    rw [some_pokes]
    show (amap (partPokes _ _ _) (wrapAt 256 0) 7 (pageOf b)).isSome = true
    rw [some_amap]
    by_cases e : pageOf b = pageOf (wrapAt 256 0)
    · rw [decide_eq_true e]; rfl
    · rw [decide_eq_false e, Bool.false_or, some_pokes]
      refine (some_maps _ _ _).2 ⟨0, by simp [lowP], ?_⟩
      have e1 : pageOf (wrapAt 256 0) = 256 := by decide
      have e2 : pageOf (wrapAt (lowP ao).at_ 0) = 0 := show pageOf (wrapAt 0 0) = 0 by decide
      rw [e1] at e
      rw [e2]
      unfold pageOf at e ⊢
      omega
theorem piece_two (w : World) (ao : Option Addr) (hr : Row w ao (List.replicate 10 0) 10) : Pieces (w.alloc (.cells #[.int .u32 0, .slice ao 10 10, .int .i64 7, .bool false, .int .u32 256, .slice none 0 0, .int .i64 7, .bool false] 48)) (some ⟨w.heap.size, 0, none⟩) [lowP ao, highP] := by
  have hb := heap_alloc_new w (.cells #[.int .u32 0, .slice ao 10 10, .int .i64 7, .bool false, .int .u32 256, .slice none 0 0, .int .i64 7, .bool false] 48)
  have hr2 := hr.later ((Below.refl _ w).alloc (Nat.le_refl _) (.cells #[.int .u32 0, .slice ao 10 10, .int .i64 7, .bool false, .int .u32 256, .slice none 0 0, .int .i64 7, .bool false] 48))
  refine .inr ⟨w.heap.size, 0, rfl, (Array.getElem?_eq_some_iff.1 hb).1, fun j hj => ?_⟩
  rcases (show j = 0 ∨ j = 1 by simp at hj; omega) with rfl | rfl
  · exact ⟨by rw [cell_of_row _ _ _ _ _ _ hb]; rfl, by rw [cell_of_row _ _ _ _ _ _ hb]; rfl, by rw [cell_of_row _ _ _ _ _ _ hb]; rfl, by rw [cell_of_row _ _ _ _ _ _ hb]; rfl, hr2, by show 0 < _; omega⟩
  · exact ⟨by rw [cell_of_row _ _ _ _ _ _ hb]; rfl, by rw [cell_of_row _ _ _ _ _ _ hb]; rfl, by rw [cell_of_row _ _ _ _ _ _ hb]; rfl, by rw [cell_of_row _ _ _ _ _ _ hb]; rfl, Row.none _, by show 256 < _; omega⟩
theorem bl51 {s s1 : MS} {a v old : Nat} (h : LowM s) (ha : a + 4 ≤ 512) (hv : v < 4294967296) (hp : PokesTo s (storeL 58 a v) s1) : (loadN s1 51 a old : Int) = (v : Int) := by
  rw [show loadN s1 51 a old = preW s1 a 4 from rfl, (back_sw h ha hp).word (by omega) hv]
theorem bl53 {s s1 : MS} {a v old : Nat} (h : LowM s) (ha : a + 4 ≤ 512) (hv : v < 4294967296) (hp : PokesTo s (storeL 58 a v) s1) : (loadN s1 53 a old : Int) = (v : Int) / 65536 := by
  rw [show loadN s1 53 a old = halfN s1 a from rfl, back_half (back_sw h ha hp) (by omega) hv]
  omega
theorem bl52 {s s1 : MS} {a a3 v old : Nat} (e : a3 = a + 3) (h : LowM s) (ha : a + 4 ≤ 512) (hp : PokesTo s (storeL 58 a v) s1) : (loadN s1 52 a3 old : Int) = (v : Int) % 256 := by
  subst e
  rw [show loadN s1 52 (a + 3) old = byteN s1 (a + 3) from rfl, (back_sw h ha hp).2.2.2]
  omega
theorem lwl_lt (s : MS) (k old : Nat) (hold : old < 4294967296) : loadN s 50 k old < 4294967296 := by
  rw [show loadN s 50 k old = lwlN (k % 4) (preW s (k - k % 4) 4) old from rfl]
  have hw := wordN_lt s (k - k % 4)
  generalize preW s (k - k % 4) 4 = x at *
  unfold lwlN
  rcases (show k % 4 = 0 ∨ k % 4 = 1 ∨ k % 4 = 2 ∨ k % 4 = 3 by omega) with e | e | e | e <;> rw [e] <;> simp only [Nat.reduceMul, Nat.reducePow] <;> omega
theorem bl54 {s1 s2 s3 : MS} {k k3 v old : Nat} (e : k3 = k + 3) (h : LowM s1) (hk : k + 4 ≤ 512) (hv : v < 4294967296) (h2 : PokesTo s1 (storeL 57 k v) s2) (h3 : PokesTo s2 (storeL 59 k3 v) s3) : (loadN s3 54 k3 (loadN s3 50 k old) : Int) = (v : Int) := by
  subst e
  rw [back_pair (back_two h hk h2 h3) hk hv]
theorem blw {s1 s2 s3 : MS} {k k3 v : Nat} (e : k3 = k + 3) (h : LowM s1) (hk : k + 4 ≤ 512) (hv : v < 4294967296) (h2 : PokesTo s1 (storeL 57 k v) s2) (h3 : PokesTo s2 (storeL 59 k3 v) s3) : (preW s3 k 4 : Int) = (v : Int) := by
  subst e
  rw [(back_two h hk h2 h3).word (by omega) hv]
theorem bl53b {s3 s4 s5 : MS} {a a2 v old : Nat} (e : a2 = a + 2) (h : LowM s3) (ha : a + 4 ≤ 512) (h4 : PokesTo s3 (storeL 56 a v) s4) (h5 : PokesTo s4 (storeL 55 a2 v) s5) : (loadN s5 53 a old : Int) = (v : Int) % 65536 := by
  subst e
  rw [show loadN s5 53 a old = halfN s5 a from rfl, (back_small h ha h4 h5).1]
  omega
theorem bl52b {s3 s4 s5 : MS} {a a2 v old : Nat} (e : a2 = a + 2) (h : LowM s3) (ha : a + 4 ≤ 512) (h4 : PokesTo s3 (storeL 56 a v) s4) (h5 : PokesTo s4 (storeL 55 a2 v) s5) : (loadN s5 52 a2 old : Int) = (v : Int) % 256 := by
  subst e
  rw [show loadN s5 52 (a + 2) old = byteN s5 (a + 2) from rfl, (back_small h ha h4 h5).2]
  omega
theorem low_bits (v j : Nat) (hv : v < 4294967296) (hj : 2 ^ j - 1 < 4294967296) : bits .and .u32 (v : Int) ((2 ^ j - 1 : Nat) : Int) = ((v % 2 ^ j : Nat) : Int) := by
  rw [u32_and_nat v _ hv hj, low_mask]
set_option maxRecDepth 20000 in
set_option maxHeartbeats 4000000 in
theorem back_walk (x v old : Nat) (hx : x < 4294967296) (hv : v < 4294967296) (hold : old < 4294967296) (w : World) : Calls Try.prog 4 #[.int .u32 (x : Int), .int .u32 (v : Int), .int .u32 (old : Int)] w fun e w' => e = .returned (.bool true) ∧ Below w.heap.size w w' := by
  have hmk : (Instr.makeSlice 46 (.int .i64 10) (.int .i64 10)).run Try.prog w = .ok (.slice (some ⟨w.heap.size, 0, none⟩) 10 10) (w.alloc (.cells (madeCells #[.int .u8 0] 10) 5)) := make45 10 (by omega) w
  obtain ⟨wa, hwa⟩ : ∃ wa, w.alloc (.cells (madeCells #[.int .u8 0] 10) 5) = wa := ⟨_, rfl⟩
  obtain ⟨gn, hgn⟩ : ∃ gn, w.heap.size = gn := ⟨_, rfl⟩
  have hra : Row wa (some ⟨gn, 0, none⟩) (List.replicate 10 0) 10 := by
    rw [← hwa, ← hgn, made_cells]
    exact row_new w (List.replicate 10 0) (by simp) (by simp)
  have hba : Below w.heap.size w wa := by rw [← hwa]; exact below_new w _
  obtain ⟨wb, hwb⟩ : ∃ wb, wa.alloc (.cells #[.int .u32 0, .slice (some ⟨gn, 0, none⟩) 10 10, .int .i64 7, .bool false, .int .u32 256, .slice none 0 0, .int .i64 7, .bool false] 48) = wb := ⟨_, rfl⟩
  obtain ⟨pn, hpn⟩ : ∃ pn, wa.heap.size = pn := ⟨_, rfl⟩
  have hpb : Pieces wb (some ⟨pn, 0, none⟩) [lowP (some ⟨gn, 0, none⟩), highP] := by rw [← hwb, ← hpn]; exact piece_two wa _ hra
  have hbb : Below wa.heap.size wa wb := by rw [← hwb]; exact below_new wa _
  have HBB := hidden (hba.trans (hbb.mono hba.size))
  have HME := hidden (memory_any wb (some ⟨pn, 0, none⟩) 2 [lowP (some ⟨gn, 0, none⟩), highP] hpb (by simp) (by simp [lowP, highP]))
  rw [hwa, hgn] at hmk
  obtain ⟨k, hk⟩ : ∃ k, x % 4096 % 300 = k := ⟨_, rfl⟩
  obtain ⟨a, hadef⟩ : ∃ a, k - k % 4 = a := ⟨_, rfl⟩
  have e0 : bits .and .u32 (x : Int) 4095 = ((x % 4096 : Nat) : Int) := low_bits x 12 hx (by omega)
  have e1 : ((x % 4096 : Nat) : Int) % 300 = (k : Int) := by omega
  have e2 : (k : Int) - (k : Int) % 4 = (a : Int) := by omega
  have e255 : bits .and .u32 (v : Int) 255 = (v : Int) % 256 := (low_bits v 8 hv (by omega)).trans (by omega)
  have e655 : bits .and .u32 (v : Int) 65535 = (v : Int) % 65536 := (low_bits v 16 hv (by omega)).trans (by omega)
  have hk4 : k + 4 ≤ 512 := by omega
  have ha4 : a + 4 ≤ 512 := by omega
  have HK := hidden hk4
  have HA := hidden ha4
  have HKL := hidden (show k < 4294967296 by omega)
  have HAL := hidden (show a < 4294967296 by omega)
  obtain ⟨k3, hk3⟩ : ∃ k3, k3 = k + 3 := ⟨_, rfl⟩
  obtain ⟨a3, ha3⟩ : ∃ a3, a3 = a + 3 := ⟨_, rfl⟩
  obtain ⟨a2, ha2⟩ : ∃ a2, a2 = a + 2 := ⟨_, rfl⟩
  have f1 : (k : Int) + 3 = (k3 : Int) := by omega
  have f2 : (a : Int) + 3 = (a3 : Int) := by omega
  have f3 : (a : Int) + 2 = (a2 : Int) := by omega
  have HK3 := hidden (show k3 < 4294967296 by omega)
  have HA3 := hidden (show a3 < 4294967296 by omega)
  have HA2 := hidden (show a2 < 4294967296 by omega)
  have EK3 := hidden hk3
  have EA3 := hidden ha3
  have EA2 := hidden ha2
  have N1 := hidden (show 4800 + 4 ≤ 1099511627776 by omega)
  have N2 := hidden (show 4800 + 4 + 4 ≤ 1099511627776 by omega)
  have N3 := hidden (show 4800 + 4 + 4 + 4 ≤ 1099511627776 by omega)
  have N4 := hidden (show 4800 + 4 + 4 + 4 + 4 ≤ 1099511627776 by omega)
  have N5 := hidden (show 4800 + 4 + 4 + 4 + 4 + 4 ≤ 1099511627776 by omega)
  clear hk3 ha3 ha2
  have HV := hidden hv
  have HOL := hidden hold
  generalize x % 4096 = xx at *
  clear hra hba hpb hbb hk hadef hx
  go_enter Try.func4, Try.ntmps4
  go_wp2_with (first | (go_at_call 9; refine HME.out.mono ?_; rintro e w1 ⟨s, rfl, hown, habs, h64, h32, hts, hcc⟩; have HO := hidden hown; have HL := hidden (low_of habs); have HCC := hidden hcc; clear hown habs h64 h32 hts hcc) | (go_at_call 17; (with_reducible refine (stC (op := 58) HO.out rfl HCC.out N1.out HAL.out HV.out).mono ?_); rintro e w11 ⟨rfl, s1, ho, hm, hc, hp⟩; have HO1 := hidden ho; have HM1 := hidden hm; have HC1 := hidden hc; have HP1 := hidden hp; have HL1 := hidden (HL.out.pokes hp); clear ho hm hc hp) | (go_at_call 15; (with_reducible refine (ldC (op := 51) HO1.out HM1.out HAL.out HOL.out (bl51 HL.out HA.out HV.out HP1.out)).mono ?_); rintro e w12 ⟨rfl, ho⟩; have HQ1 := hidden ho; clear ho) | (go_at_call 15; (with_reducible refine (ldC (op := 53) HQ1.out HM1.out HAL.out HOL.out (bl53 HL.out HA.out HV.out HP1.out)).mono ?_); rintro e w13 ⟨rfl, ho⟩; have HQ2 := hidden ho; clear ho) | (go_at_call 15; (with_reducible refine (ldC (op := 52) HQ2.out HM1.out HA3.out HOL.out (bl52 EA3.out HL.out HA.out HP1.out)).mono ?_); rintro e w14 ⟨rfl, ho⟩; have HQ3 := hidden ho; clear ho) | (go_at_call 17; (with_reducible refine (stC (op := 57) HQ3.out HM1.out HC1.out N2.out HKL.out HV.out).mono ?_); rintro e w15 ⟨rfl, s2, ho, hm, hc, hp⟩; have HO2 := hidden ho; have HM2 := hidden hm; have HC2 := hidden hc; have HP2 := hidden hp; have HL2 := hidden (HL1.out.pokes hp); clear ho hm hc hp) | (go_at_call 17; (with_reducible refine (stC (op := 59) HO2.out HM2.out HC2.out N3.out HK3.out HV.out).mono ?_); rintro e w16 ⟨rfl, s3, ho, hm, hc, hp⟩; have HO3 := hidden ho; have HM3 := hidden hm; have HC3 := hidden hc; have HP3 := hidden hp; have HL3 := hidden (HL2.out.pokes hp); clear ho hm hc hp) | (go_at_call 15; (with_reducible refine (ldC (op := 50) HO3.out HM3.out HKL.out HOL.out rfl).mono ?_); rintro e w17 ⟨rfl, ho⟩; have HQ4 := hidden ho; clear ho) | (go_at_call 15; (with_reducible refine (ldC (op := 54) (old := loadN s3 50 k old) HQ4.out HM3.out HK3.out (lwl_lt s3 k old HOL.out) (bl54 EK3.out HL1.out HK.out HV.out HP2.out HP3.out)).mono ?_); rintro e w18 ⟨rfl, ho⟩; have HQ5 := hidden ho; clear ho) | (go_at_call 23; (with_reducible refine (wdC HQ5.out HM3.out HKL.out (blw EK3.out HL1.out HK.out HV.out HP2.out HP3.out)).mono ?_); rintro e w19 ⟨rfl, ho⟩; have HQ6 := hidden ho; clear ho) | (go_at_call 17; (with_reducible refine (stC (op := 56) HQ6.out HM3.out HC3.out N4.out HAL.out HV.out).mono ?_); rintro e w20 ⟨rfl, s4, ho, hm, hc, hp⟩; have HO4 := hidden ho; have HM4 := hidden hm; have HC4 := hidden hc; have HP4 := hidden hp; have HL4 := hidden (HL3.out.pokes hp); clear ho hm hc hp) | (go_at_call 17; (with_reducible refine (stC (op := 55) HO4.out HM4.out HC4.out N5.out HA2.out HV.out).mono ?_); rintro e w21 ⟨rfl, s5, ho, hm, hc, hp⟩; have HO5 := hidden ho; have HM5 := hidden hm; have HC5 := hidden hc; have HP5 := hidden hp; have HL5 := hidden (HL4.out.pokes hp); clear ho hm hc hp) | (go_at_call 15; (with_reducible refine (ldC (op := 53) HO5.out HM5.out HAL.out HOL.out (bl53b EA2.out HL3.out HA.out HP4.out HP5.out)).mono ?_); rintro e w22 ⟨rfl, ho⟩; have HQ7 := hidden ho; clear ho) | (go_at_call 15; (with_reducible refine (ldC (op := 52) HQ7.out HM5.out HA2.out HOL.out (bl52b EA2.out HL3.out HA.out HP4.out HP5.out)).mono ?_); rintro e w23 ⟨rfl, ho⟩; have HQ8 := hidden ho; clear ho) | (go_at_call 15; (with_reducible refine (ldC (op := 1) HQ8.out HM5.out HAL.out HOL.out rfl).mono ?_); rintro e w24 ⟨rfl, ho⟩; have HQ9 := hidden ho; clear ho) | (go_at_call 8; refine (awake10_any _).mono ?_; rintro e w25 ⟨rfl, hb8⟩; have HB8 := hidden hb8; clear hb8))
  go_ret
  have b1 := HBB.out.trans (HQ9.out.below.mono HBB.out.size)
  exact ⟨rfl, b1.trans (HB8.out.mono b1.size)⟩
end Go.Proofs.Ytkpcajmphhdmiaa
