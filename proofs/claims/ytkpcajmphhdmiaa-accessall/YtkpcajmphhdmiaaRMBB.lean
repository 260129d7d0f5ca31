/- What any instruction writes. -/
import Derived.Test.YtkpcajmphhdmiaaRMBA
import Derived.Test.YtkpcajmphhdmiaaRMAZ
namespace Go.Proofs.Ytkpcajmphhdmiaa
open Go.ChangeShapes Go.WideShapes Go.ChangeAt Go.RowKit
set_option linter.unusedVariables false
set_option maxRecDepth 20000 in
theorem store_other (w : World) (s : MS) (h : MemW w s) (op S T D A imm : Int) (h1 : (op == 55) = false) (h2 : (op == 56) = false) (h3 : (op == 58) = false) (h4 : (op == 57) = false) (h5 : (op == 59) = false) (a v : Nat) (hv : v < 4294967296) : Calls Try.prog 17 #[.pointer (some ⟨s.mb, 0, none⟩), .agg (insC op S T D A imm), .int .u32 (a : Int), .int .u32 (v : Int)] w fun e w' => e = .returned (.tuple #[]) ∧ Step w s w' s := by
  have H0 := hidden h
  have hI := Blk.new w (insC op S T D A imm) 31
  have HI := hidden hI
  have HB := hidden (below_new w (.cells (insC op S T D A imm) 31))
  have HC := hidden (acut_any v hv (w.alloc (.cells (insC op S T D A imm) 31)))
  obtain ⟨b0, b1, b2, b3, hbl⟩ : ∃ b0 b1 b2 b3, bytesL v = [b0, b1, b2, b3] := ⟨_, _, _, _, rfl⟩
  rw [hbl] at HC
  change Hid (Calls Try.prog 43 _ _ fun e w' => e = .returned (.agg #[.int .u8 (b0.toNat : Int), .int .u8 (b1.toNat : Int), .int .u8 (b2.toNat : Int), .int .u8 (b3.toNat : Int)]) ∧ _) at HC
  clear h hI hbl
  go_enter Try.func17, Try.ntmps17
  go_wp2_with (go_at_call 43; refine HC.out.mono ?_; rintro e w1 ⟨rfl, hb1⟩; have c1 : ∀ o : Obj, (w1.alloc o).cell? ⟨w.heap.size, 0, none⟩ = some (.int .i64 op) := (fun o => ((HI.out.later hb1).later (below_new w1 o)).cell rfl); have HB1 := hidden (HB.out.trans (hb1.mono HB.out.size)); clear hb1)
  first | go_end0 | refine bodyPost_ret (results_none rfl _ _ _) rfl ?_
  have hb2 := below_new w1 (.cells #[.int .u8 (b0.toNat : Int), .int .u8 (b1.toNat : Int), .int .u8 (b2.toNat : Int), .int .u8 (b3.toNat : Int)] 73)
  exact ⟨rfl, Step.later H0.out (HB1.out.trans (hb2.mono HB1.out.size))⟩
theorem accStore_any (w : World) (s : MS) (h : MemW w s) (op S T D A imm : Int) (a v : Nat) (ha : a < 4294967296) (hv : v < 4294967296) (hc : s.c + 4 ≤ 1099511627776) : Calls Try.prog 17 #[.pointer (some ⟨s.mb, 0, none⟩), .agg (insC op S T D A imm), .int .u32 (a : Int), .int .u32 (v : Int)] w fun e w' => e = .returned (.tuple #[]) ∧ ∃ s', PokesTo s (storeL op a v) s' ∧ Step w s w' s' := by
  by_cases h55 : op = 55
  · subst h55; exact store_55 w s h S T D A imm a v ha hv hc
  by_cases h56 : op = 56
  · subst h56; exact store_56 w s h S T D A imm a v ha hv hc
  by_cases h58 : op = 58
  · subst h58; exact store_58 w s h S T D A imm a v ha hv hc
  have hq : a = 4 * (a / 4) + a % 4 := by omega
  have hq4 : a - a % 4 = 4 * (a / 4) := by omega
  by_cases h57 : op = 57
  · subst h57
    rw [show storeL 57 a v = placesL a ((bytesL v).take (4 - a % 4)) from rfl]
    generalize a / 4 = q at hq hq4 ⊢
    rcases (show a % 4 = 0 ∨ a % 4 = 1 ∨ a % 4 = 2 ∨ a % 4 = 3 by omega) with e | e | e | e
    · rw [e] at hq ⊢; subst hq; exact store_swl0 w s h S T D A imm q v ha hv hc
    · rw [e] at hq ⊢; subst hq; exact store_swl1 w s h S T D A imm q v ha hv hc
    · rw [e] at hq ⊢; subst hq; exact store_swl2 w s h S T D A imm q v ha hv hc
    · rw [e] at hq ⊢; subst hq; exact store_swl3 w s h S T D A imm q v ha hv hc
  by_cases h59 : op = 59
  · subst h59
    rw [show storeL 59 a v = placesL (a - a % 4) ((bytesL v).drop (3 - a % 4)) from rfl, hq4]
    generalize a / 4 = q at hq hq4 ⊢
    rcases (show a % 4 = 0 ∨ a % 4 = 1 ∨ a % 4 = 2 ∨ a % 4 = 3 by omega) with e | e | e | e
    · rw [e] at hq ⊢; subst hq; exact store_swr0 w s h S T D A imm q v ha hv hc
    · rw [e] at hq ⊢; subst hq; exact store_swr1 w s h S T D A imm q v ha hv hc
    · rw [e] at hq ⊢; subst hq; exact store_swr2 w s h S T D A imm q v ha hv hc
    · rw [e] at hq ⊢; subst hq; exact store_swr3 w s h S T D A imm q v ha hv hc
  have e : storeL op a v = [] := by unfold storeL; rw [if_neg h55, if_neg h56, if_neg h58, if_neg h57, if_neg h59]
  rw [e]
  exact (store_other w s h op S T D A imm (beq_eq_false_iff_ne.2 h55) (beq_eq_false_iff_ne.2 h56) (beq_eq_false_iff_ne.2 h58) (beq_eq_false_iff_ne.2 h57) (beq_eq_false_iff_ne.2 h59) a v hv).mono fun e w' ⟨h1, h2⟩ => ⟨h1, s, rfl, h2⟩
end Go.Proofs.Ytkpcajmphhdmiaa
namespace Go.Proofs.Ytkpcajmphhdmiaa
open Go.ChangeShapes Go.WideShapes Go.ChangeAt Go.RowKit
set_option linter.unusedVariables false
theorem M5.alloc {w : World} {t : S5} (h : M5 w t) (o : Obj) : M5 (w.alloc o) t := h.later (below_new w o)
theorem and1 (a : Nat) (ha : a < 4294967296) : bits .and .u32 (a : Int) 1 = ((a % 2 : Nat) : Int) := by
  have := u32_and_nat a 1 ha (by omega)
  rw [show a &&& 1 = a % 2 from Nat.and_one_is_mod a] at this
  exact this
theorem and3 (a : Nat) (ha : a < 4294967296) : bits .and .u32 (a : Int) 3 = ((a % 4 : Nat) : Int) := by
  have := u32_and_nat a 3 ha (by omega)
  rw [show a &&& 3 = a % 4 from Nat.and_two_pow_sub_one_eq_mod a 2] at this
  exact this
theorem faultK_r {s : MS} {op : Int} (h : 48 ≤ op ∧ op ≤ 54) (a : Nat) : faultK s op a = faultV s 4 2 5 op a := by unfold faultK; rw [if_pos (kindP_reads h)]
theorem faultK_w {s : MS} {op : Int} (h : 55 ≤ op ∧ op ≤ 59) (a : Nat) : faultK s op a = faultV s 2 3 6 op a := by unfold faultK; rw [if_neg (by rw [kindP_writes h]; decide), if_pos (kindP_writes h)]
theorem faultK_o {s : MS} {op : Int} (h : op < 48 ∨ 59 < op) (a : Nat) : faultK s op a = 0 := by unfold faultK; rw [if_neg (kindP_else h).1, if_neg (kindP_else h).2]
theorem fault_al {s : MS} {pm al pg op : Int} {a : Nat} (h : astrayB op a = true) : faultV s pm al pg op a = al := by unfold faultV; rw [if_pos h]
theorem fault_pg {s : MS} {pm al pg op : Int} {a : Nat} (h : astrayB op a = false) (hz : bits .and .i64 (s.perm a) pm = 0) : faultV s pm al pg op a = pg := by unfold faultV; rw [if_neg (by rw [h]; decide), if_pos hz]
theorem fault_no {s : MS} {pm al pg op : Int} {a : Nat} (h : astrayB op a = false) (hz : ¬ bits .and .i64 (s.perm a) pm = 0) : faultV s pm al pg op a = 0 := by unfold faultV; rw [if_neg (by rw [h]; decide), if_neg hz]
set_option maxRecDepth 20000 in
theorem rkind_48 (w : World) (t : S5) (s : MS) (ht : M5 w t) (hS : Sim s t.l) (S T D A imm : Int) (a : Nat) (ha : a < 4294967296) : Calls Try.prog 12 #[.pointer (some ⟨t.m, 0, none⟩), .agg (insC 48 S T D A imm), .int .u32 (a : Int)] w fun e w' => e = .returned (.int .i64 (faultK s 48 a)) ∧ Below w.heap.size w w' := by
  have hB := hidden (below_new w (.cells (insC 48 S T D A imm) 31))
  have HP := hidden ((ht.alloc (.cells (insC 48 S T D A imm) 31)).permC a ha)
  rw [hS.perm a] at HP
  have e1 := and1 a ha
  have e3 := and3 a ha
  rw [faultK_r (by omega)]
  clear ht hS
  have HA : astrayB 48 a = false := rfl
  generalize a % 2 = r1 at *
  generalize a % 4 = r3 at *
  by_cases hz : bits .and .i64 (s.perm a) 4 = 0
  · rw [fault_pg HA hz]
    have f1 : (bits .and .i64 (s.perm a) 4 == 0) = true := beq_iff_eq.2 hz
    generalize s.perm a = p at *
    clear hz HA
    go_enter Try.func12, Try.ntmps12
    go_wp2_with (go_at_call 36; refine HP.out.mono ?_; rintro e w1 ⟨rfl, hww⟩; rw [hww]; clear hww w1)
    go_ret
    exact ⟨rfl, hB.out⟩
  · rw [fault_no HA hz]
    have f1 : (bits .and .i64 (s.perm a) 4 == 0) = false := beq_eq_false_iff_ne.2 hz
    generalize s.perm a = p at *
    clear hz HA
    go_enter Try.func12, Try.ntmps12
    go_wp2_with (go_at_call 36; refine HP.out.mono ?_; rintro e w1 ⟨rfl, hww⟩; rw [hww]; clear hww w1)
    go_ret
    exact ⟨rfl, hB.out⟩
set_option maxRecDepth 20000 in
theorem rkind_49 (w : World) (t : S5) (s : MS) (ht : M5 w t) (hS : Sim s t.l) (S T D A imm : Int) (a : Nat) (ha : a < 4294967296) : Calls Try.prog 12 #[.pointer (some ⟨t.m, 0, none⟩), .agg (insC 49 S T D A imm), .int .u32 (a : Int)] w fun e w' => e = .returned (.int .i64 (faultK s 49 a)) ∧ Below w.heap.size w w' := by
  have hB := hidden (below_new w (.cells (insC 49 S T D A imm) 31))
  have HP := hidden ((ht.alloc (.cells (insC 49 S T D A imm) 31)).permC a ha)
  rw [hS.perm a] at HP
  have e1 := and1 a ha
  have e3 := and3 a ha
  rw [faultK_r (by omega)]
  clear ht hS
  by_cases h2 : a % 2 ≠ 0
  · have HA : astrayB 49 a = true := decide_eq_true h2
    rw [fault_al HA]
    rw [show a % 2 = 1 by omega] at e1
    clear h2 HA
    generalize a % 4 = r3 at *
    go_enter Try.func12, Try.ntmps12
    go_wp2_with (go_at_call 36; refine HP.out.mono ?_; rintro e w1 ⟨rfl, hww⟩; rw [hww]; clear hww w1)
    go_ret
    exact ⟨rfl, hB.out⟩
  · have HA : astrayB 49 a = false := decide_eq_false h2
    rw [show a % 2 = 0 by omega] at e1
    clear h2
    generalize a % 4 = ro at *
    by_cases hz : bits .and .i64 (s.perm a) 4 = 0
    · rw [fault_pg HA hz]
      have f1 : (bits .and .i64 (s.perm a) 4 == 0) = true := beq_iff_eq.2 hz
      generalize s.perm a = p at *
      clear hz HA
      go_enter Try.func12, Try.ntmps12
      go_wp2_with (go_at_call 36; refine HP.out.mono ?_; rintro e w1 ⟨rfl, hww⟩; rw [hww]; clear hww w1)
      go_ret
      exact ⟨rfl, hB.out⟩
    · rw [fault_no HA hz]
      have f1 : (bits .and .i64 (s.perm a) 4 == 0) = false := beq_eq_false_iff_ne.2 hz
      generalize s.perm a = p at *
      clear hz HA
      go_enter Try.func12, Try.ntmps12
      go_wp2_with (go_at_call 36; refine HP.out.mono ?_; rintro e w1 ⟨rfl, hww⟩; rw [hww]; clear hww w1)
      go_ret
      exact ⟨rfl, hB.out⟩
set_option maxRecDepth 20000 in
theorem rkind_50 (w : World) (t : S5) (s : MS) (ht : M5 w t) (hS : Sim s t.l) (S T D A imm : Int) (a : Nat) (ha : a < 4294967296) : Calls Try.prog 12 #[.pointer (some ⟨t.m, 0, none⟩), .agg (insC 50 S T D A imm), .int .u32 (a : Int)] w fun e w' => e = .returned (.int .i64 (faultK s 50 a)) ∧ Below w.heap.size w w' := by
  have hB := hidden (below_new w (.cells (insC 50 S T D A imm) 31))
  have HP := hidden ((ht.alloc (.cells (insC 50 S T D A imm) 31)).permC a ha)
  rw [hS.perm a] at HP
  have e1 := and1 a ha
  have e3 := and3 a ha
  rw [faultK_r (by omega)]
  clear ht hS
  have HA : astrayB 50 a = false := rfl
  generalize a % 2 = r1 at *
  generalize a % 4 = r3 at *
  by_cases hz : bits .and .i64 (s.perm a) 4 = 0
  · rw [fault_pg HA hz]
    have f1 : (bits .and .i64 (s.perm a) 4 == 0) = true := beq_iff_eq.2 hz
    generalize s.perm a = p at *
    clear hz HA
    go_enter Try.func12, Try.ntmps12
    go_wp2_with (go_at_call 36; refine HP.out.mono ?_; rintro e w1 ⟨rfl, hww⟩; rw [hww]; clear hww w1)
    go_ret
    exact ⟨rfl, hB.out⟩
  · rw [fault_no HA hz]
    have f1 : (bits .and .i64 (s.perm a) 4 == 0) = false := beq_eq_false_iff_ne.2 hz
    generalize s.perm a = p at *
    clear hz HA
    go_enter Try.func12, Try.ntmps12
    go_wp2_with (go_at_call 36; refine HP.out.mono ?_; rintro e w1 ⟨rfl, hww⟩; rw [hww]; clear hww w1)
    go_ret
    exact ⟨rfl, hB.out⟩
set_option maxRecDepth 20000 in
theorem rkind_51 (w : World) (t : S5) (s : MS) (ht : M5 w t) (hS : Sim s t.l) (S T D A imm : Int) (a : Nat) (ha : a < 4294967296) : Calls Try.prog 12 #[.pointer (some ⟨t.m, 0, none⟩), .agg (insC 51 S T D A imm), .int .u32 (a : Int)] w fun e w' => e = .returned (.int .i64 (faultK s 51 a)) ∧ Below w.heap.size w w' := by
  have hB := hidden (below_new w (.cells (insC 51 S T D A imm) 31))
  have HP := hidden ((ht.alloc (.cells (insC 51 S T D A imm) 31)).permC a ha)
  rw [hS.perm a] at HP
  have e1 := and1 a ha
  have e3 := and3 a ha
  rw [faultK_r (by omega)]
  clear ht hS
  by_cases h2 : a % 4 ≠ 0
  · have HA : astrayB 51 a = true := decide_eq_true h2
    rw [fault_al HA]
    have f3 : (((a % 4 : Nat) : Int) == 0) = false := beq_eq_false_iff_ne.2 (by omega)
    generalize a % 4 = r3 at *
    clear h2 HA
    generalize a % 2 = r1 at *
    go_enter Try.func12, Try.ntmps12
    go_wp2_with (go_at_call 36; refine HP.out.mono ?_; rintro e w1 ⟨rfl, hww⟩; rw [hww]; clear hww w1)
    go_ret
    exact ⟨rfl, hB.out⟩
  · have HA : astrayB 51 a = false := decide_eq_false h2
    rw [show a % 4 = 0 by omega] at e3
    clear h2
    generalize a % 2 = ro at *
    by_cases hz : bits .and .i64 (s.perm a) 4 = 0
    · rw [fault_pg HA hz]
      have f1 : (bits .and .i64 (s.perm a) 4 == 0) = true := beq_iff_eq.2 hz
      generalize s.perm a = p at *
      clear hz HA
      go_enter Try.func12, Try.ntmps12
      go_wp2_with (go_at_call 36; refine HP.out.mono ?_; rintro e w1 ⟨rfl, hww⟩; rw [hww]; clear hww w1)
      go_ret
      exact ⟨rfl, hB.out⟩
    · rw [fault_no HA hz]
      have f1 : (bits .and .i64 (s.perm a) 4 == 0) = false := beq_eq_false_iff_ne.2 hz
      generalize s.perm a = p at *
      clear hz HA
      go_enter Try.func12, Try.ntmps12
      go_wp2_with (go_at_call 36; refine HP.out.mono ?_; rintro e w1 ⟨rfl, hww⟩; rw [hww]; clear hww w1)
      go_ret
      exact ⟨rfl, hB.out⟩
set_option maxRecDepth 20000 in
theorem rkind_52 (w : World) (t : S5) (s : MS) (ht : M5 w t) (hS : Sim s t.l) (S T D A imm : Int) (a : Nat) (ha : a < 4294967296) : Calls Try.prog 12 #[.pointer (some ⟨t.m, 0, none⟩), .agg (insC 52 S T D A imm), .int .u32 (a : Int)] w fun e w' => e = .returned (.int .i64 (faultK s 52 a)) ∧ Below w.heap.size w w' := by
  have hB := hidden (below_new w (.cells (insC 52 S T D A imm) 31))
  have HP := hidden ((ht.alloc (.cells (insC 52 S T D A imm) 31)).permC a ha)
  rw [hS.perm a] at HP
  have e1 := and1 a ha
  have e3 := and3 a ha
  rw [faultK_r (by omega)]
  clear ht hS
  have HA : astrayB 52 a = false := rfl
  generalize a % 2 = r1 at *
  generalize a % 4 = r3 at *
  by_cases hz : bits .and .i64 (s.perm a) 4 = 0
  · rw [fault_pg HA hz]
    have f1 : (bits .and .i64 (s.perm a) 4 == 0) = true := beq_iff_eq.2 hz
    generalize s.perm a = p at *
    clear hz HA
    go_enter Try.func12, Try.ntmps12
    go_wp2_with (go_at_call 36; refine HP.out.mono ?_; rintro e w1 ⟨rfl, hww⟩; rw [hww]; clear hww w1)
    go_ret
    exact ⟨rfl, hB.out⟩
  · rw [fault_no HA hz]
    have f1 : (bits .and .i64 (s.perm a) 4 == 0) = false := beq_eq_false_iff_ne.2 hz
    generalize s.perm a = p at *
    clear hz HA
    go_enter Try.func12, Try.ntmps12
    go_wp2_with (go_at_call 36; refine HP.out.mono ?_; rintro e w1 ⟨rfl, hww⟩; rw [hww]; clear hww w1)
    go_ret
    exact ⟨rfl, hB.out⟩
set_option maxRecDepth 20000 in
theorem rkind_53 (w : World) (t : S5) (s : MS) (ht : M5 w t) (hS : Sim s t.l) (S T D A imm : Int) (a : Nat) (ha : a < 4294967296) : Calls Try.prog 12 #[.pointer (some ⟨t.m, 0, none⟩), .agg (insC 53 S T D A imm), .int .u32 (a : Int)] w fun e w' => e = .returned (.int .i64 (faultK s 53 a)) ∧ Below w.heap.size w w' := by
  have hB := hidden (below_new w (.cells (insC 53 S T D A imm) 31))
  have HP := hidden ((ht.alloc (.cells (insC 53 S T D A imm) 31)).permC a ha)
  rw [hS.perm a] at HP
  have e1 := and1 a ha
  have e3 := and3 a ha
  rw [faultK_r (by omega)]
  clear ht hS
  by_cases h2 : a % 2 ≠ 0
  · have HA : astrayB 53 a = true := decide_eq_true h2
    rw [fault_al HA]
    rw [show a % 2 = 1 by omega] at e1
    clear h2 HA
    generalize a % 4 = r3 at *
    go_enter Try.func12, Try.ntmps12
    go_wp2_with (go_at_call 36; refine HP.out.mono ?_; rintro e w1 ⟨rfl, hww⟩; rw [hww]; clear hww w1)
    go_ret
    exact ⟨rfl, hB.out⟩
  · have HA : astrayB 53 a = false := decide_eq_false h2
    rw [show a % 2 = 0 by omega] at e1
    clear h2
    generalize a % 4 = ro at *
    by_cases hz : bits .and .i64 (s.perm a) 4 = 0
    · rw [fault_pg HA hz]
      have f1 : (bits .and .i64 (s.perm a) 4 == 0) = true := beq_iff_eq.2 hz
      generalize s.perm a = p at *
      clear hz HA
      go_enter Try.func12, Try.ntmps12
      go_wp2_with (go_at_call 36; refine HP.out.mono ?_; rintro e w1 ⟨rfl, hww⟩; rw [hww]; clear hww w1)
      go_ret
      exact ⟨rfl, hB.out⟩
    · rw [fault_no HA hz]
      have f1 : (bits .and .i64 (s.perm a) 4 == 0) = false := beq_eq_false_iff_ne.2 hz
      generalize s.perm a = p at *
      clear hz HA
      go_enter Try.func12, Try.ntmps12
      go_wp2_with (go_at_call 36; refine HP.out.mono ?_; rintro e w1 ⟨rfl, hww⟩; rw [hww]; clear hww w1)
      go_ret
      exact ⟨rfl, hB.out⟩
set_option maxRecDepth 20000 in
theorem rkind_54 (w : World) (t : S5) (s : MS) (ht : M5 w t) (hS : Sim s t.l) (S T D A imm : Int) (a : Nat) (ha : a < 4294967296) : Calls Try.prog 12 #[.pointer (some ⟨t.m, 0, none⟩), .agg (insC 54 S T D A imm), .int .u32 (a : Int)] w fun e w' => e = .returned (.int .i64 (faultK s 54 a)) ∧ Below w.heap.size w w' := by
  have hB := hidden (below_new w (.cells (insC 54 S T D A imm) 31))
  have HP := hidden ((ht.alloc (.cells (insC 54 S T D A imm) 31)).permC a ha)
  rw [hS.perm a] at HP
  have e1 := and1 a ha
  have e3 := and3 a ha
  rw [faultK_r (by omega)]
  clear ht hS
  have HA : astrayB 54 a = false := rfl
  generalize a % 2 = r1 at *
  generalize a % 4 = r3 at *
  by_cases hz : bits .and .i64 (s.perm a) 4 = 0
  · rw [fault_pg HA hz]
    have f1 : (bits .and .i64 (s.perm a) 4 == 0) = true := beq_iff_eq.2 hz
    generalize s.perm a = p at *
    clear hz HA
    go_enter Try.func12, Try.ntmps12
    go_wp2_with (go_at_call 36; refine HP.out.mono ?_; rintro e w1 ⟨rfl, hww⟩; rw [hww]; clear hww w1)
    go_ret
    exact ⟨rfl, hB.out⟩
  · rw [fault_no HA hz]
    have f1 : (bits .and .i64 (s.perm a) 4 == 0) = false := beq_eq_false_iff_ne.2 hz
    generalize s.perm a = p at *
    clear hz HA
    go_enter Try.func12, Try.ntmps12
    go_wp2_with (go_at_call 36; refine HP.out.mono ?_; rintro e w1 ⟨rfl, hww⟩; rw [hww]; clear hww w1)
    go_ret
    exact ⟨rfl, hB.out⟩
set_option maxRecDepth 20000 in
theorem rkind_55 (w : World) (t : S5) (s : MS) (ht : M5 w t) (hS : Sim s t.l) (S T D A imm : Int) (a : Nat) (ha : a < 4294967296) : Calls Try.prog 12 #[.pointer (some ⟨t.m, 0, none⟩), .agg (insC 55 S T D A imm), .int .u32 (a : Int)] w fun e w' => e = .returned (.int .i64 (faultK s 55 a)) ∧ Below w.heap.size w w' := by
  have hB := hidden (below_new w (.cells (insC 55 S T D A imm) 31))
  have HP := hidden ((ht.alloc (.cells (insC 55 S T D A imm) 31)).permC a ha)
  rw [hS.perm a] at HP
  have e1 := and1 a ha
  have e3 := and3 a ha
  rw [faultK_w (by omega)]
  clear ht hS
  have HA : astrayB 55 a = false := rfl
  generalize a % 2 = r1 at *
  generalize a % 4 = r3 at *
  by_cases hz : bits .and .i64 (s.perm a) 2 = 0
  · rw [fault_pg HA hz]
    have f1 : (bits .and .i64 (s.perm a) 2 == 0) = true := beq_iff_eq.2 hz
    generalize s.perm a = p at *
    clear hz HA
    go_enter Try.func12, Try.ntmps12
    go_wp2_with (go_at_call 36; refine HP.out.mono ?_; rintro e w1 ⟨rfl, hww⟩; rw [hww]; clear hww w1)
    go_ret
    exact ⟨rfl, hB.out⟩
  · rw [fault_no HA hz]
    have f1 : (bits .and .i64 (s.perm a) 2 == 0) = false := beq_eq_false_iff_ne.2 hz
    generalize s.perm a = p at *
    clear hz HA
    go_enter Try.func12, Try.ntmps12
    go_wp2_with (go_at_call 36; refine HP.out.mono ?_; rintro e w1 ⟨rfl, hww⟩; rw [hww]; clear hww w1)
    go_ret
    exact ⟨rfl, hB.out⟩
set_option maxRecDepth 20000 in
theorem rkind_56 (w : World) (t : S5) (s : MS) (ht : M5 w t) (hS : Sim s t.l) (S T D A imm : Int) (a : Nat) (ha : a < 4294967296) : Calls Try.prog 12 #[.pointer (some ⟨t.m, 0, none⟩), .agg (insC 56 S T D A imm), .int .u32 (a : Int)] w fun e w' => e = .returned (.int .i64 (faultK s 56 a)) ∧ Below w.heap.size w w' := by
  have hB := hidden (below_new w (.cells (insC 56 S T D A imm) 31))
  have HP := hidden ((ht.alloc (.cells (insC 56 S T D A imm) 31)).permC a ha)
  rw [hS.perm a] at HP
  have e1 := and1 a ha
  have e3 := and3 a ha
  rw [faultK_w (by omega)]
  clear ht hS
  by_cases h2 : a % 2 ≠ 0
  · have HA : astrayB 56 a = true := decide_eq_true h2
    rw [fault_al HA]
    rw [show a % 2 = 1 by omega] at e1
    clear h2 HA
    generalize a % 4 = r3 at *
    go_enter Try.func12, Try.ntmps12
    go_wp2_with (go_at_call 36; refine HP.out.mono ?_; rintro e w1 ⟨rfl, hww⟩; rw [hww]; clear hww w1)
    go_ret
    exact ⟨rfl, hB.out⟩
  · have HA : astrayB 56 a = false := decide_eq_false h2
    rw [show a % 2 = 0 by omega] at e1
    clear h2
    generalize a % 4 = ro at *
    by_cases hz : bits .and .i64 (s.perm a) 2 = 0
    · rw [fault_pg HA hz]
      have f1 : (bits .and .i64 (s.perm a) 2 == 0) = true := beq_iff_eq.2 hz
      generalize s.perm a = p at *
      clear hz HA
      go_enter Try.func12, Try.ntmps12
      go_wp2_with (go_at_call 36; refine HP.out.mono ?_; rintro e w1 ⟨rfl, hww⟩; rw [hww]; clear hww w1)
      go_ret
      exact ⟨rfl, hB.out⟩
    · rw [fault_no HA hz]
      have f1 : (bits .and .i64 (s.perm a) 2 == 0) = false := beq_eq_false_iff_ne.2 hz
      generalize s.perm a = p at *
      clear hz HA
      go_enter Try.func12, Try.ntmps12
      go_wp2_with (go_at_call 36; refine HP.out.mono ?_; rintro e w1 ⟨rfl, hww⟩; rw [hww]; clear hww w1)
      go_ret
      exact ⟨rfl, hB.out⟩
set_option maxRecDepth 20000 in
theorem rkind_57 (w : World) (t : S5) (s : MS) (ht : M5 w t) (hS : Sim s t.l) (S T D A imm : Int) (a : Nat) (ha : a < 4294967296) : Calls Try.prog 12 #[.pointer (some ⟨t.m, 0, none⟩), .agg (insC 57 S T D A imm), .int .u32 (a : Int)] w fun e w' => e = .returned (.int .i64 (faultK s 57 a)) ∧ Below w.heap.size w w' := by
  have hB := hidden (below_new w (.cells (insC 57 S T D A imm) 31))
  have HP := hidden ((ht.alloc (.cells (insC 57 S T D A imm) 31)).permC a ha)
  rw [hS.perm a] at HP
  have e1 := and1 a ha
  have e3 := and3 a ha
  rw [faultK_w (by omega)]
  clear ht hS
  have HA : astrayB 57 a = false := rfl
  generalize a % 2 = r1 at *
  generalize a % 4 = r3 at *
  by_cases hz : bits .and .i64 (s.perm a) 2 = 0
  · rw [fault_pg HA hz]
    have f1 : (bits .and .i64 (s.perm a) 2 == 0) = true := beq_iff_eq.2 hz
    generalize s.perm a = p at *
    clear hz HA
    go_enter Try.func12, Try.ntmps12
    go_wp2_with (go_at_call 36; refine HP.out.mono ?_; rintro e w1 ⟨rfl, hww⟩; rw [hww]; clear hww w1)
    go_ret
    exact ⟨rfl, hB.out⟩
  · rw [fault_no HA hz]
    have f1 : (bits .and .i64 (s.perm a) 2 == 0) = false := beq_eq_false_iff_ne.2 hz
    generalize s.perm a = p at *
    clear hz HA
    go_enter Try.func12, Try.ntmps12
    go_wp2_with (go_at_call 36; refine HP.out.mono ?_; rintro e w1 ⟨rfl, hww⟩; rw [hww]; clear hww w1)
    go_ret
    exact ⟨rfl, hB.out⟩
set_option maxRecDepth 20000 in
theorem rkind_58 (w : World) (t : S5) (s : MS) (ht : M5 w t) (hS : Sim s t.l) (S T D A imm : Int) (a : Nat) (ha : a < 4294967296) : Calls Try.prog 12 #[.pointer (some ⟨t.m, 0, none⟩), .agg (insC 58 S T D A imm), .int .u32 (a : Int)] w fun e w' => e = .returned (.int .i64 (faultK s 58 a)) ∧ Below w.heap.size w w' := by
  have hB := hidden (below_new w (.cells (insC 58 S T D A imm) 31))
  have HP := hidden ((ht.alloc (.cells (insC 58 S T D A imm) 31)).permC a ha)
  rw [hS.perm a] at HP
  have e1 := and1 a ha
  have e3 := and3 a ha
  rw [faultK_w (by omega)]
  clear ht hS
  by_cases h2 : a % 4 ≠ 0
  · have HA : astrayB 58 a = true := decide_eq_true h2
    rw [fault_al HA]
    have f3 : (((a % 4 : Nat) : Int) == 0) = false := beq_eq_false_iff_ne.2 (by omega)
    generalize a % 4 = r3 at *
    clear h2 HA
    generalize a % 2 = r1 at *
    go_enter Try.func12, Try.ntmps12
    go_wp2_with (go_at_call 36; refine HP.out.mono ?_; rintro e w1 ⟨rfl, hww⟩; rw [hww]; clear hww w1)
    go_ret
    exact ⟨rfl, hB.out⟩
  · have HA : astrayB 58 a = false := decide_eq_false h2
    rw [show a % 4 = 0 by omega] at e3
    clear h2
    generalize a % 2 = ro at *
    by_cases hz : bits .and .i64 (s.perm a) 2 = 0
    · rw [fault_pg HA hz]
      have f1 : (bits .and .i64 (s.perm a) 2 == 0) = true := beq_iff_eq.2 hz
      generalize s.perm a = p at *
      clear hz HA
      go_enter Try.func12, Try.ntmps12
      go_wp2_with (go_at_call 36; refine HP.out.mono ?_; rintro e w1 ⟨rfl, hww⟩; rw [hww]; clear hww w1)
      go_ret
      exact ⟨rfl, hB.out⟩
    · rw [fault_no HA hz]
      have f1 : (bits .and .i64 (s.perm a) 2 == 0) = false := beq_eq_false_iff_ne.2 hz
      generalize s.perm a = p at *
      clear hz HA
      go_enter Try.func12, Try.ntmps12
      go_wp2_with (go_at_call 36; refine HP.out.mono ?_; rintro e w1 ⟨rfl, hww⟩; rw [hww]; clear hww w1)
      go_ret
      exact ⟨rfl, hB.out⟩
set_option maxRecDepth 20000 in
theorem rkind_59 (w : World) (t : S5) (s : MS) (ht : M5 w t) (hS : Sim s t.l) (S T D A imm : Int) (a : Nat) (ha : a < 4294967296) : Calls Try.prog 12 #[.pointer (some ⟨t.m, 0, none⟩), .agg (insC 59 S T D A imm), .int .u32 (a : Int)] w fun e w' => e = .returned (.int .i64 (faultK s 59 a)) ∧ Below w.heap.size w w' := by
  have hB := hidden (below_new w (.cells (insC 59 S T D A imm) 31))
  have HP := hidden ((ht.alloc (.cells (insC 59 S T D A imm) 31)).permC a ha)
  rw [hS.perm a] at HP
  have e1 := and1 a ha
  have e3 := and3 a ha
  rw [faultK_w (by omega)]
  clear ht hS
  have HA : astrayB 59 a = false := rfl
  generalize a % 2 = r1 at *
  generalize a % 4 = r3 at *
  by_cases hz : bits .and .i64 (s.perm a) 2 = 0
  · rw [fault_pg HA hz]
    have f1 : (bits .and .i64 (s.perm a) 2 == 0) = true := beq_iff_eq.2 hz
    generalize s.perm a = p at *
    clear hz HA
    go_enter Try.func12, Try.ntmps12
    go_wp2_with (go_at_call 36; refine HP.out.mono ?_; rintro e w1 ⟨rfl, hww⟩; rw [hww]; clear hww w1)
    go_ret
    exact ⟨rfl, hB.out⟩
  · rw [fault_no HA hz]
    have f1 : (bits .and .i64 (s.perm a) 2 == 0) = false := beq_eq_false_iff_ne.2 hz
    generalize s.perm a = p at *
    clear hz HA
    go_enter Try.func12, Try.ntmps12
    go_wp2_with (go_at_call 36; refine HP.out.mono ?_; rintro e w1 ⟨rfl, hww⟩; rw [hww]; clear hww w1)
    go_ret
    exact ⟨rfl, hB.out⟩
set_option maxRecDepth 20000 in
theorem rkind_lo (w : World) (t : S5) (s : MS) (op S T D A imm : Int) (h : op < 48) (a : Nat) : Calls Try.prog 12 #[.pointer (some ⟨t.m, 0, none⟩), .agg (insC op S T D A imm), .int .u32 (a : Int)] w fun e w' => e = .returned (.int .i64 (faultK s op a)) ∧ Below w.heap.size w w' := by
  have hB := hidden (below_new w (.cells (insC op S T D A imm) 31))
  rw [faultK_o (.inl h)]
  have d1 : ¬ 48 ≤ op := by omega
  have d2 : op < 55 := by omega
  go_enter Try.func12, Try.ntmps12
  go_wp2
  go_ret
  exact ⟨rfl, hB.out⟩
set_option maxRecDepth 20000 in
theorem rkind_hi (w : World) (t : S5) (s : MS) (op S T D A imm : Int) (h : 59 < op) (a : Nat) : Calls Try.prog 12 #[.pointer (some ⟨t.m, 0, none⟩), .agg (insC op S T D A imm), .int .u32 (a : Int)] w fun e w' => e = .returned (.int .i64 (faultK s op a)) ∧ Below w.heap.size w w' := by
  have hB := hidden (below_new w (.cells (insC op S T D A imm) 31))
  rw [faultK_o (.inr h)]
  have d1 : 48 ≤ op := by omega
  have d2 : ¬ op ≤ 54 := by omega
  have d3 : ¬ op < 55 := by omega
  go_enter Try.func12, Try.ntmps12
  go_wp2
  go_ret
  exact ⟨rfl, hB.out⟩
theorem rkind_any (w : World) (t : S5) (s : MS) (ht : M5 w t) (hS : Sim s t.l) (op S T D A imm : Int) (a : Nat) (ha : a < 4294967296) : Calls Try.prog 12 #[.pointer (some ⟨t.m, 0, none⟩), .agg (insC op S T D A imm), .int .u32 (a : Int)] w fun e w' => e = .returned (.int .i64 (faultK s op a)) ∧ Below w.heap.size w w' := by
  by_cases h1 : op < 48
  · exact rkind_lo w t s op S T D A imm h1 a
  by_cases h2 : 59 < op
  · exact rkind_hi w t s op S T D A imm h2 a
  rcases (show op = 48 ∨ op = 49 ∨ op = 50 ∨ op = 51 ∨ op = 52 ∨ op = 53 ∨ op = 54 ∨ op = 55 ∨ op = 56 ∨ op = 57 ∨ op = 58 ∨ op = 59 by omega) with rfl | rfl | rfl | rfl | rfl | rfl | rfl | rfl | rfl | rfl | rfl | rfl
  · exact rkind_48 w t s ht hS S T D A imm a ha
  · exact rkind_49 w t s ht hS S T D A imm a ha
  · exact rkind_50 w t s ht hS S T D A imm a ha
  · exact rkind_51 w t s ht hS S T D A imm a ha
  · exact rkind_52 w t s ht hS S T D A imm a ha
  · exact rkind_53 w t s ht hS S T D A imm a ha
  · exact rkind_54 w t s ht hS S T D A imm a ha
  · exact rkind_55 w t s ht hS S T D A imm a ha
  · exact rkind_56 w t s ht hS S T D A imm a ha
  · exact rkind_57 w t s ht hS S T D A imm a ha
  · exact rkind_58 w t s ht hS S T D A imm a ha
  · exact rkind_59 w t s ht hS S T D A imm a ha
set_option maxRecDepth 20000 in
theorem rfetch_any (w : World) (t : S5) (s : MS) (ht : M5 w t) (hS : Sim s t.l) (a : Nat) (ha : a < 4294967296) : Calls Try.prog 14 #[.pointer (some ⟨t.m, 0, none⟩), .int .u32 (a : Int)] w fun e w' => e = .returned (.tuple #[.int .u32 (fetchV s a).1, .int .i64 (fetchV s a).2]) ∧ w' = w := by
  have HP := hidden (ht.permC a ha)
  have HW := hidden (ht.wordC a ha)
  rw [hS.perm a] at HP
  rw [hS.word a ha] at HW
  have e3 := and3 a ha
  clear ht hS
  by_cases h4 : a % 4 ≠ 0
  · have f1 : (((a % 4 : Nat) : Int) == 0) = false := beq_eq_false_iff_ne.2 (by omega)
    rw [show fetchV s a = (0, 1) from if_pos h4]
    generalize a % 4 = r3 at *
    clear h4
    go_enter Try.func14, Try.ntmps14
    go_wp2
    go_ret2
    exact ⟨rfl, rfl⟩
  · unfold fetchV
    rw [if_neg h4]
    rw [show a % 4 = 0 by omega] at e3
    clear h4
    generalize s.perm a = p at *
    generalize preW s a 4 = x at *
    by_cases hz : bits .and .i64 p 1 = 0
    · have f2 : (bits .and .i64 p 1 == 0) = true := beq_iff_eq.2 hz
      rw [if_pos hz]
      clear hz
      go_enter Try.func14, Try.ntmps14
      go_wp2_with (go_at_call 36; refine HP.out.mono ?_; rintro e w1 ⟨rfl, hww⟩; rw [hww]; clear hww w1)
      go_ret2
      exact ⟨rfl, rfl⟩
    · have f2 : (bits .and .i64 p 1 == 0) = false := beq_eq_false_iff_ne.2 hz
      rw [if_neg hz]
      clear hz
      go_enter Try.func14, Try.ntmps14
      go_wp2_with (first | (go_at_call 36; refine HP.out.mono ?_; rintro e w1 ⟨rfl, hww⟩; rw [hww]; clear hww w1) | (go_at_call 38; refine HW.out.mono ?_; rintro e w2 ⟨rfl, hww2⟩; rw [hww2]; clear hww2 w2))
      go_ret2
      exact ⟨rfl, rfl⟩
end Go.Proofs.Ytkpcajmphhdmiaa
namespace Go.Proofs.Ytkpcajmphhdmiaa
open Go.ChangeShapes Go.WideShapes Go.ChangeAt Go.RowKit
set_option linter.unusedVariables false
/-- The own memory behind bytes. -/
structure R5 (w w' : World) (t t' : S5) (L : List (Nat × UInt8)) : Prop where
  step : Step5 w t w' t'
  m : t'.m = t.m
  most : t'.most = t.most
  l : t'.l = pokes5 L t.l
  ts : t'.ts = touches5 L t.l t.ts
theorem R5.nil {w : World} {t : S5} (h : M5 w t) : R5 w w t t [] := ⟨Step5.refl h, rfl, rfl, rfl, rfl⟩
theorem touch5_len (l : List P5) (ts : List Nat) (a : Nat) : (touch5 l ts a).length ≤ ts.length + 1 := by
  unfold touch5
  split
  · simp
  · omega
theorem touches5_len : ∀ (L : List (Nat × UInt8)) (l : List P5) (ts : List Nat), (touches5 L l ts).length ≤ ts.length + L.length
  | [], _, _ => Nat.le_refl _
  | x :: L, l, ts => by
    have h1 := touches5_len L (poke5 l x.1 x.2) (touch5 l ts x.1)
    have h2 := touch5_len l ts x.1
    rw [List.length_cons]
    show (touches5 L _ _).length ≤ _
    omega
theorem R5.poke {w w1 : World} {t t1 : S5} {L : List (Nat × UInt8)} (h : R5 w w1 t t1 L) (a : Nat) (v : UInt8) (ha : a < 4294967296) (hL : t.ts.length + L.length < 1000000) : Calls Try.prog 32 #[.pointer (some ⟨t.m, 0, none⟩), .int .u32 (a : Int), .int .u8 (v.toNat : Int)] w1 fun e w' => (∃ b, e = .returned (.bool b)) ∧ ∃ t', R5 w w' t t' (L ++ [(a, v)]) := by
  have hts := touches5_len L t.l t.ts
  have hc := poke5_any w1 t1 h.step.mem a v ha (by rw [h.ts]; omega)
  rw [h.m] at hc
  refine hc.mono ?_
  rintro e w' ⟨h1, t', h2, h3, h4, h5, h6⟩
  refine ⟨⟨_, h1⟩, t', h.step.trans h2, h3, h4.trans h.most, ?_, ?_⟩
  · rw [h5, h.l, pokes5_snoc]
  · rw [h6, h.l, h.ts, touches5_snoc]
theorem R5.at {w w1 : World} {t t1 : S5} {L : List (Nat × UInt8)} {g o : Nat} {bl : List UInt8} (h : R5 w w1 t t1 L) (ha : At w g o bl) (hg : ¬ foot5 t g) : At w1 g o bl := ha.same (Nat.lt_of_lt_of_le ha.lt h.step.keep.size) (h.step.keep.block g ha.lt hg)
theorem step5_put {w w2 w4 : World} {t t' : S5} {L : List (Nat × UInt8)} (h : M5 w t) (b : Below w.heap.size w w2) (st : R5 w2 w4 t t' L) : R5 w w4 t t' L := ⟨(Step5.later (Step5.refl h) b).trans st.step, st.m, st.most, st.l, st.ts⟩
theorem foot5_new {w : World} {t : S5} (h : M5 w t) {g : Nat} (hg : w.heap.size ≤ g) : ¬ foot5 t g := fun hf => by have := h.footLt hf; omega
set_option maxRecDepth 20000 in
set_option maxHeartbeats 1000000 in
theorem rstore_55 (w : World) (t : S5) (ht : M5 w t) (S T D A imm : Int) (a v : Nat) (ha : a < 4294967296) (hv : v < 4294967296) (hc : t.ts.length < 999990) : Calls Try.prog 18 #[.pointer (some ⟨t.m, 0, none⟩), .agg (insC 55 S T D A imm), .int .u32 (a : Int), .int .u32 (v : Int)] w fun e w' => e = .returned (.tuple #[]) ∧ ∃ t', R5 w w' t t' (placesL a ((bytesL v).drop 3)) := by
  have H0 := hidden ht
  have hI := Blk.new w (insC 55 S T D A imm) 31
  have HI := hidden hI
  have HB := hidden (below_new w (.cells (insC 55 S T D A imm) 31))
  have HM := hidden (ht.alloc (.cells (insC 55 S T D A imm) 31))
  have hC := refPut_any (v : Int) (by omega) (by omega) (w.alloc (.cells (insC 55 S T D A imm) 31))
  have hb4 := b4_eq v hv
  obtain ⟨b0, b1, b2, b3, hbl⟩ : ∃ b0 b1 b2 b3, bytesL v = [b0, b1, b2, b3] := ⟨_, _, _, _, rfl⟩
  rw [hbl] at hb4 ⊢
  change b4C v = #[.int .u8 (b0.toNat : Int), .int .u8 (b1.toNat : Int), .int .u8 (b2.toNat : Int), .int .u8 (b3.toNat : Int)] at hb4
  change Calls Try.prog 45 _ _ fun e w' => e = _ ∧ w' = World.alloc _ (.cells (b4C v) 5) at hC
  rw [hb4] at hC
  have HC := hidden hC
  have HCC := hidden hc
  have e3 := and3 a ha
  have c1 : ∀ o : Obj, ((w.alloc (.cells (insC 55 S T D A imm) 31)).alloc o).cell? ⟨w.heap.size, 0, none⟩ = some (.int .i64 (55)) := fun o => (hI.later (below_new _ o)).cell rfl
  obtain ⟨wa, hwa⟩ : ∃ wa, w.alloc (.cells (insC 55 S T D A imm) 31) = wa := ⟨_, rfl⟩
  rw [hwa] at HI HB HM HC c1
  obtain ⟨wb, hwb⟩ : ∃ wb, wa.alloc (.cells #[.int .u8 (b0.toNat : Int), .int .u8 (b1.toNat : Int), .int .u8 (b2.toNat : Int), .int .u8 (b3.toNat : Int)] 5) = wb := ⟨_, rfl⟩
  have c2 := c1 (.cells #[.int .u8 (b0.toNat : Int), .int .u8 (b1.toNat : Int), .int .u8 (b2.toNat : Int), .int .u8 (b3.toNat : Int)] 5)
  rw [hwb] at HC c2
  obtain ⟨gn, hgn⟩ : ∃ gn, wa.heap.size = gn := ⟨_, rfl⟩
  have hblk : Blk wb gn #[.int .u8 (b0.toNat : Int), .int .u8 (b1.toNat : Int), .int .u8 (b2.toNat : Int), .int .u8 (b3.toNat : Int)] 5 := by rw [← hwb, ← hgn]; exact Blk.new wa _ _
  rw [hgn] at HC
  have hab : Below wa.heap.size wa wb := by rw [← hwb]; exact below_new wa _
  have HBL := hidden hblk
  have HBW := hidden (HB.out.trans (hab.mono HB.out.size))
  have HM2 := hidden (HM.out.later hab)
  have HNF := hidden (foot5_new HM.out (show wa.heap.size ≤ gn by omega))
  have d3 := hblk.cell (j := 3) rfl
  have HL1 := hidden (show t.ts.length + ([] : List (Nat × UInt8)).length < 1000000 by simp; omega)
  have ew : (wrapAt a 0) = a := by unfold wrapAt; omega
  have HEW := hidden ew
  clear ew
  clear ht hI hC hb4 hbl hc c1 hwb hgn hblk hab
  go_enter Try.func18, Try.ntmps18
  go_wp2_with (first | (go_at_call 45; refine HC.out.mono ?_; rintro e w1 ⟨rfl, hww⟩; rw [hww]; clear hww w1) | (go_at_call 32; refine ((R5.nil HM2.out).poke a b3 ha HL1.out).mono ?_; rintro e w2 ⟨⟨x2, rfl⟩, t2, hr2⟩; have HR2 := hidden hr2; clear hr2))
  first | go_end0 | refine bodyPost_ret (results_none rfl _ _ _) rfl ?_
  refine ⟨rfl, t2, ?_⟩
  have hr := step5_put H0.out HBW.out HR2.out
  rw [show placesL a ([b0, b1, b2, b3].drop 3) = [(wrapAt a 0, b3)] from rfl, HEW.out]
  exact hr
set_option maxRecDepth 20000 in
set_option maxHeartbeats 1000000 in
theorem rstore_56 (w : World) (t : S5) (ht : M5 w t) (S T D A imm : Int) (a v : Nat) (ha : a < 4294967296) (hv : v < 4294967296) (hc : t.ts.length < 999990) : Calls Try.prog 18 #[.pointer (some ⟨t.m, 0, none⟩), .agg (insC 56 S T D A imm), .int .u32 (a : Int), .int .u32 (v : Int)] w fun e w' => e = .returned (.tuple #[]) ∧ ∃ t', R5 w w' t t' (placesL a ((bytesL v).drop 2)) := by
  have H0 := hidden ht
  have hI := Blk.new w (insC 56 S T D A imm) 31
  have HI := hidden hI
  have HB := hidden (below_new w (.cells (insC 56 S T D A imm) 31))
  have HM := hidden (ht.alloc (.cells (insC 56 S T D A imm) 31))
  have hC := refPut_any (v : Int) (by omega) (by omega) (w.alloc (.cells (insC 56 S T D A imm) 31))
  have hb4 := b4_eq v hv
  obtain ⟨b0, b1, b2, b3, hbl⟩ : ∃ b0 b1 b2 b3, bytesL v = [b0, b1, b2, b3] := ⟨_, _, _, _, rfl⟩
  rw [hbl] at hb4 ⊢
  change b4C v = #[.int .u8 (b0.toNat : Int), .int .u8 (b1.toNat : Int), .int .u8 (b2.toNat : Int), .int .u8 (b3.toNat : Int)] at hb4
  change Calls Try.prog 45 _ _ fun e w' => e = _ ∧ w' = World.alloc _ (.cells (b4C v) 5) at hC
  rw [hb4] at hC
  have HC := hidden hC
  have HCC := hidden hc
  have e3 := and3 a ha
  have c1 : ∀ o : Obj, ((w.alloc (.cells (insC 56 S T D A imm) 31)).alloc o).cell? ⟨w.heap.size, 0, none⟩ = some (.int .i64 (56)) := fun o => (hI.later (below_new _ o)).cell rfl
  obtain ⟨wa, hwa⟩ : ∃ wa, w.alloc (.cells (insC 56 S T D A imm) 31) = wa := ⟨_, rfl⟩
  rw [hwa] at HI HB HM HC c1
  obtain ⟨wb, hwb⟩ : ∃ wb, wa.alloc (.cells #[.int .u8 (b0.toNat : Int), .int .u8 (b1.toNat : Int), .int .u8 (b2.toNat : Int), .int .u8 (b3.toNat : Int)] 5) = wb := ⟨_, rfl⟩
  have c2 := c1 (.cells #[.int .u8 (b0.toNat : Int), .int .u8 (b1.toNat : Int), .int .u8 (b2.toNat : Int), .int .u8 (b3.toNat : Int)] 5)
  rw [hwb] at HC c2
  obtain ⟨gn, hgn⟩ : ∃ gn, wa.heap.size = gn := ⟨_, rfl⟩
  have hblk : Blk wb gn #[.int .u8 (b0.toNat : Int), .int .u8 (b1.toNat : Int), .int .u8 (b2.toNat : Int), .int .u8 (b3.toNat : Int)] 5 := by rw [← hwb, ← hgn]; exact Blk.new wa _ _
  rw [hgn] at HC
  have hab : Below wa.heap.size wa wb := by rw [← hwb]; exact below_new wa _
  have HBL := hidden hblk
  have HBW := hidden (HB.out.trans (hab.mono HB.out.size))
  have HM2 := hidden (HM.out.later hab)
  have HNF := hidden (foot5_new HM.out (show wa.heap.size ≤ gn by omega))
  have d3 := hblk.cell (j := 3) rfl
  have d2 := hblk.cell (j := 2) rfl
  have HL1 := hidden (show t.ts.length + ([] : List (Nat × UInt8)).length < 1000000 by simp; omega)
  have ew : (wrapAt a 0) = a := by unfold wrapAt; omega
  have HEW := hidden ew
  clear ew
  have ew1 : ((a : Int) + 1) % 4294967296 = ((wrapAt a 1 : Nat) : Int) := by unfold wrapAt; omega
  have HL2 := hidden (show t.ts.length + ([(a, b2)] : List (Nat × UInt8)).length < 1000000 by simp; omega)
  have HW1 := hidden (wrapAt_lt a 1)
  have HN3 := hidden (fun (u : World) (t2 : S5) (h : R5 wb u t t2 [(a, b2)]) => (h.at (At.of hblk 0 4 (by decide)) HNF.out).cell 3 (by simp))
  clear ht hI hC hb4 hbl hc c1 hwb hgn hblk hab
  go_enter Try.func18, Try.ntmps18
  go_wp2_with (first | (go_at_call 45; refine HC.out.mono ?_; rintro e w1 ⟨rfl, hww⟩; rw [hww]; clear hww w1) | (go_at_call 32; refine ((R5.nil HM2.out).poke a b2 ha HL1.out).mono ?_; rintro e w2 ⟨⟨x2, rfl⟩, t2, hr2⟩; have d4 := HN3.out w2 t2 hr2; have HR2 := hidden hr2; clear hr2 HL1) | (go_at_call 32; refine (HR2.out.poke (wrapAt a 1) b3 HW1.out HL2.out).mono ?_; rintro e w3 ⟨⟨x3, rfl⟩, t3, hr3⟩; have HR3 := hidden hr3; clear hr3))
  first | go_end0 | refine bodyPost_ret (results_none rfl _ _ _) rfl ?_
  refine ⟨rfl, t3, ?_⟩
  have hr := step5_put H0.out HBW.out HR3.out
  rw [show placesL a ([b0, b1, b2, b3].drop 2) = [(wrapAt a 0, b2), (wrapAt a 1, b3)] from rfl, HEW.out]
  exact hr
set_option maxRecDepth 20000 in
set_option maxHeartbeats 1000000 in
theorem rstore_58 (w : World) (t : S5) (ht : M5 w t) (S T D A imm : Int) (a v : Nat) (ha : a < 4294967296) (hv : v < 4294967296) (hc : t.ts.length < 999990) : Calls Try.prog 18 #[.pointer (some ⟨t.m, 0, none⟩), .agg (insC 58 S T D A imm), .int .u32 (a : Int), .int .u32 (v : Int)] w fun e w' => e = .returned (.tuple #[]) ∧ ∃ t', R5 w w' t t' (placesL a (bytesL v)) := by
  have H0 := hidden ht
  have hI := Blk.new w (insC 58 S T D A imm) 31
  have HI := hidden hI
  have HB := hidden (below_new w (.cells (insC 58 S T D A imm) 31))
  have HM := hidden (ht.alloc (.cells (insC 58 S T D A imm) 31))
  have hC := refPut_any (v : Int) (by omega) (by omega) (w.alloc (.cells (insC 58 S T D A imm) 31))
  have hb4 := b4_eq v hv
  obtain ⟨b0, b1, b2, b3, hbl⟩ : ∃ b0 b1 b2 b3, bytesL v = [b0, b1, b2, b3] := ⟨_, _, _, _, rfl⟩
  rw [hbl] at hb4 ⊢
  change b4C v = #[.int .u8 (b0.toNat : Int), .int .u8 (b1.toNat : Int), .int .u8 (b2.toNat : Int), .int .u8 (b3.toNat : Int)] at hb4
  change Calls Try.prog 45 _ _ fun e w' => e = _ ∧ w' = World.alloc _ (.cells (b4C v) 5) at hC
  rw [hb4] at hC
  have HC := hidden hC
  have HCC := hidden hc
  have e3 := and3 a ha
  have c1 : ∀ o : Obj, ((w.alloc (.cells (insC 58 S T D A imm) 31)).alloc o).cell? ⟨w.heap.size, 0, none⟩ = some (.int .i64 (58)) := fun o => (hI.later (below_new _ o)).cell rfl
  obtain ⟨wa, hwa⟩ : ∃ wa, w.alloc (.cells (insC 58 S T D A imm) 31) = wa := ⟨_, rfl⟩
  rw [hwa] at HI HB HM HC c1
  obtain ⟨wb, hwb⟩ : ∃ wb, wa.alloc (.cells #[.int .u8 (b0.toNat : Int), .int .u8 (b1.toNat : Int), .int .u8 (b2.toNat : Int), .int .u8 (b3.toNat : Int)] 5) = wb := ⟨_, rfl⟩
  have c2 := c1 (.cells #[.int .u8 (b0.toNat : Int), .int .u8 (b1.toNat : Int), .int .u8 (b2.toNat : Int), .int .u8 (b3.toNat : Int)] 5)
  rw [hwb] at HC c2
  obtain ⟨gn, hgn⟩ : ∃ gn, wa.heap.size = gn := ⟨_, rfl⟩
  have hblk : Blk wb gn #[.int .u8 (b0.toNat : Int), .int .u8 (b1.toNat : Int), .int .u8 (b2.toNat : Int), .int .u8 (b3.toNat : Int)] 5 := by rw [← hwb, ← hgn]; exact Blk.new wa _ _
  rw [hgn] at HC
  have hab : Below wa.heap.size wa wb := by rw [← hwb]; exact below_new wa _
  have HBL := hidden hblk
  have HBW := hidden (HB.out.trans (hab.mono HB.out.size))
  have HM2 := hidden (HM.out.later hab)
  have HNF := hidden (foot5_new HM.out (show wa.heap.size ≤ gn by omega))
  obtain ⟨bl, hbe⟩ : ∃ bl, bl = [b0, b1, b2, b3] := ⟨_, rfl⟩
  have HBE := hidden hbe
  have HLEN := hidden (show bl.length = 4 by rw [hbe]; rfl)
  have HAT := hidden (show At wb gn 0 bl by rw [hbe]; exact At.of hblk 0 4 (by decide))
  clear hbe
  clear ht hI hC hb4 hbl hc c1 hwb hgn hblk hab
  go_enter Try.func18, Try.ntmps18
  go_wp2_with (first | (go_at_call 45; refine HC.out.mono ?_; rintro e w1 ⟨rfl, hww⟩; rw [hww]; clear hww w1))
  go_loopw [11] (fun i wr => ∃ (q : Nat) (t1 : S5), q ≤ 4 ∧ i = .int .u32 (q : Int) ∧ R5 wb wr t t1 ((placesL a bl).take q)) (fun i _ => 4 - (intOf i).toNat)
  case atStart => exact ⟨0, t, by omega, rfl, R5.nil HM2.out⟩
  case round =>
    obtain ⟨q, t1, hq, rfl, hR⟩ := hrel
    have HR := hidden hR
    clear hR
    by_cases hql : q < 4
    · have hlt : (q : Int) < 4 := by omega
      have h0 : (0 : Int) ≤ (q : Int) := by omega
      have hcell := (HR.out.at HAT.out HNF.out).cell q (by rw [HLEN.out]; exact hql)
      rw [Nat.zero_add] at hcell
      have HT := hidden (placesL_take a bl q (by rw [HLEN.out]; exact hql))
      have hlen : ((placesL a bl).take q).length ≤ 4 := by rw [List.length_take]; omega
      have HK := hidden (HR.out.poke (wrapAt a q) (bl.getD q 0) (wrapAt_lt _ q) (by have := HCC.out; omega))
      have ew : ((a : Int) + (q : Int)) % 4294967296 = ((wrapAt a q : Nat) : Int) := by unfold wrapAt; omega
      have hz : wrapAt a q < 4294967296 := wrapAt_lt _ q
      generalize wrapAt a q = p at *
      generalize bl.getD q 0 = b at *
      clear hlen
      go_wp2_with (go_at_call 32; refine HK.out.mono ?_; rintro e w1 ⟨⟨x1, rfl⟩, t2, hr2⟩; have HR2 := hidden hr2; clear hr2)
      exact ⟨⟨q + 1, t2, by omega, by simp, by rw [HT.out]; exact HR2.out⟩, by simp [intOf]; omega⟩
    · have heq : q = 4 := by omega
      have hP2 := HR.out
      rw [heq, ← HLEN.out, placesL_all] at hP2
      have HP2 := hidden hP2
      have hge : ¬ (q : Int) < 4 := by omega
      clear hP2
      go_wp2
      first | go_end0 | refine bodyPost_ret (results_none rfl _ _ _) rfl ?_
      have hr := step5_put H0.out HBW.out HP2.out
      rw [HBE.out] at hr
      exact ⟨rfl, t1, hr⟩
set_option maxRecDepth 20000 in
set_option maxHeartbeats 1000000 in
theorem rstore_57 (w : World) (t : S5) (ht : M5 w t) (S T D A imm : Int) (a v : Nat) (ha : a < 4294967296) (hv : v < 4294967296) (hc : t.ts.length < 999990) : Calls Try.prog 18 #[.pointer (some ⟨t.m, 0, none⟩), .agg (insC 57 S T D A imm), .int .u32 (a : Int), .int .u32 (v : Int)] w fun e w' => e = .returned (.tuple #[]) ∧ ∃ t', R5 w w' t t' (placesL a ((bytesL v).take (4 - a % 4))) := by
  have H0 := hidden ht
  have hI := Blk.new w (insC 57 S T D A imm) 31
  have HI := hidden hI
  have HB := hidden (below_new w (.cells (insC 57 S T D A imm) 31))
  have HM := hidden (ht.alloc (.cells (insC 57 S T D A imm) 31))
  have hC := refPut_any (v : Int) (by omega) (by omega) (w.alloc (.cells (insC 57 S T D A imm) 31))
  have hb4 := b4_eq v hv
  obtain ⟨b0, b1, b2, b3, hbl⟩ : ∃ b0 b1 b2 b3, bytesL v = [b0, b1, b2, b3] := ⟨_, _, _, _, rfl⟩
  rw [hbl] at hb4 ⊢
  change b4C v = #[.int .u8 (b0.toNat : Int), .int .u8 (b1.toNat : Int), .int .u8 (b2.toNat : Int), .int .u8 (b3.toNat : Int)] at hb4
  change Calls Try.prog 45 _ _ fun e w' => e = _ ∧ w' = World.alloc _ (.cells (b4C v) 5) at hC
  rw [hb4] at hC
  have HC := hidden hC
  have HCC := hidden hc
  have e3 := and3 a ha
  have c1 : ∀ o : Obj, ((w.alloc (.cells (insC 57 S T D A imm) 31)).alloc o).cell? ⟨w.heap.size, 0, none⟩ = some (.int .i64 (57)) := fun o => (hI.later (below_new _ o)).cell rfl
  obtain ⟨wa, hwa⟩ : ∃ wa, w.alloc (.cells (insC 57 S T D A imm) 31) = wa := ⟨_, rfl⟩
  rw [hwa] at HI HB HM HC c1
  obtain ⟨wb, hwb⟩ : ∃ wb, wa.alloc (.cells #[.int .u8 (b0.toNat : Int), .int .u8 (b1.toNat : Int), .int .u8 (b2.toNat : Int), .int .u8 (b3.toNat : Int)] 5) = wb := ⟨_, rfl⟩
  have c2 := c1 (.cells #[.int .u8 (b0.toNat : Int), .int .u8 (b1.toNat : Int), .int .u8 (b2.toNat : Int), .int .u8 (b3.toNat : Int)] 5)
  rw [hwb] at HC c2
  obtain ⟨gn, hgn⟩ : ∃ gn, wa.heap.size = gn := ⟨_, rfl⟩
  have hblk : Blk wb gn #[.int .u8 (b0.toNat : Int), .int .u8 (b1.toNat : Int), .int .u8 (b2.toNat : Int), .int .u8 (b3.toNat : Int)] 5 := by rw [← hwb, ← hgn]; exact Blk.new wa _ _
  rw [hgn] at HC
  have hab : Below wa.heap.size wa wb := by rw [← hwb]; exact below_new wa _
  have HBL := hidden hblk
  have HBW := hidden (HB.out.trans (hab.mono HB.out.size))
  have HM2 := hidden (HM.out.later hab)
  have HNF := hidden (foot5_new HM.out (show wa.heap.size ≤ gn by omega))
  obtain ⟨r, hr⟩ : ∃ r, a % 4 = r := ⟨_, rfl⟩
  have hr4 : r < 4 := by omega
  rw [hr] at e3 ⊢
  obtain ⟨bl, hbe⟩ : ∃ bl, bl = [b0, b1, b2, b3].take (4 - r) := ⟨_, rfl⟩
  have HBE := hidden hbe
  have HLEN := hidden (show bl.length = 4 - r by rw [hbe, List.length_take]; simp)
  have HAT := hidden (show At wb gn 0 bl by rw [hbe]; exact At.of hblk 0 (4 - r) (by omega))
  have e4 : (4 : Int) - (r : Int) = ((4 - r : Nat) : Int) := by omega
  clear hbe hr
  clear ht hI hC hb4 hbl hc c1 hwb hgn hblk hab
  go_enter Try.func18, Try.ntmps18
  go_wp2_with (first | (go_at_call 45; refine HC.out.mono ?_; rintro e w1 ⟨rfl, hww⟩; rw [hww]; clear hww w1))
  go_loopw [10] (fun i wr => ∃ (q : Nat) (t1 : S5), q ≤ (4 - r) ∧ i = .int .u32 (q : Int) ∧ R5 wb wr t t1 ((placesL a bl).take q)) (fun i _ => (4 - r) - (intOf i).toNat)
  case atStart => exact ⟨0, t, by omega, rfl, R5.nil HM2.out⟩
  case round =>
    obtain ⟨q, t1, hq, rfl, hR⟩ := hrel
    have HR := hidden hR
    clear hR
    by_cases hql : q < (4 - r)
    · have hlt : (q : Int) < ((4 - r : Nat) : Int) := by omega
      have h0 : (0 : Int) ≤ (q : Int) := by omega
      have hcell := (HR.out.at HAT.out HNF.out).cell q (by rw [HLEN.out]; exact hql)
      rw [Nat.zero_add] at hcell
      have HT := hidden (placesL_take a bl q (by rw [HLEN.out]; exact hql))
      have hlen : ((placesL a bl).take q).length ≤ 4 := by rw [List.length_take]; omega
      have HK := hidden (HR.out.poke (wrapAt a q) (bl.getD q 0) (wrapAt_lt _ q) (by have := HCC.out; omega))
      have ew : ((a : Int) + (q : Int)) % 4294967296 = ((wrapAt a q : Nat) : Int) := by unfold wrapAt; omega
      have hz : wrapAt a q < 4294967296 := wrapAt_lt _ q
      generalize wrapAt a q = p at *
      generalize bl.getD q 0 = b at *
      clear hlen
      go_wp2_with (go_at_call 32; refine HK.out.mono ?_; rintro e w1 ⟨⟨x1, rfl⟩, t2, hr2⟩; have HR2 := hidden hr2; clear hr2)
      exact ⟨⟨q + 1, t2, by omega, by simp, by rw [HT.out]; exact HR2.out⟩, by simp [intOf]; omega⟩
    · have heq : q = (4 - r) := by omega
      have hP2 := HR.out
      rw [heq, ← HLEN.out, placesL_all] at hP2
      have HP2 := hidden hP2
      have hge : ¬ (q : Int) < ((4 - r : Nat) : Int) := by omega
      clear hP2
      go_wp2
      first | go_end0 | refine bodyPost_ret (results_none rfl _ _ _) rfl ?_
      have hr := step5_put H0.out HBW.out HP2.out
      rw [HBE.out] at hr
      exact ⟨rfl, t1, hr⟩
set_option maxRecDepth 20000 in
set_option maxHeartbeats 1000000 in
theorem rstore_59 (w : World) (t : S5) (ht : M5 w t) (S T D A imm : Int) (a v : Nat) (ha : a < 4294967296) (hv : v < 4294967296) (hc : t.ts.length < 999990) : Calls Try.prog 18 #[.pointer (some ⟨t.m, 0, none⟩), .agg (insC 59 S T D A imm), .int .u32 (a : Int), .int .u32 (v : Int)] w fun e w' => e = .returned (.tuple #[]) ∧ ∃ t', R5 w w' t t' (placesL (a - a % 4) ((bytesL v).drop (3 - a % 4))) := by
  have H0 := hidden ht
  have hI := Blk.new w (insC 59 S T D A imm) 31
  have HI := hidden hI
  have HB := hidden (below_new w (.cells (insC 59 S T D A imm) 31))
  have HM := hidden (ht.alloc (.cells (insC 59 S T D A imm) 31))
  have hC := refPut_any (v : Int) (by omega) (by omega) (w.alloc (.cells (insC 59 S T D A imm) 31))
  have hb4 := b4_eq v hv
  obtain ⟨b0, b1, b2, b3, hbl⟩ : ∃ b0 b1 b2 b3, bytesL v = [b0, b1, b2, b3] := ⟨_, _, _, _, rfl⟩
  rw [hbl] at hb4 ⊢
  change b4C v = #[.int .u8 (b0.toNat : Int), .int .u8 (b1.toNat : Int), .int .u8 (b2.toNat : Int), .int .u8 (b3.toNat : Int)] at hb4
  change Calls Try.prog 45 _ _ fun e w' => e = _ ∧ w' = World.alloc _ (.cells (b4C v) 5) at hC
  rw [hb4] at hC
  have HC := hidden hC
  have HCC := hidden hc
  have e3 := and3 a ha
  have c1 : ∀ o : Obj, ((w.alloc (.cells (insC 59 S T D A imm) 31)).alloc o).cell? ⟨w.heap.size, 0, none⟩ = some (.int .i64 (59)) := fun o => (hI.later (below_new _ o)).cell rfl
  obtain ⟨wa, hwa⟩ : ∃ wa, w.alloc (.cells (insC 59 S T D A imm) 31) = wa := ⟨_, rfl⟩
  rw [hwa] at HI HB HM HC c1
  obtain ⟨wb, hwb⟩ : ∃ wb, wa.alloc (.cells #[.int .u8 (b0.toNat : Int), .int .u8 (b1.toNat : Int), .int .u8 (b2.toNat : Int), .int .u8 (b3.toNat : Int)] 5) = wb := ⟨_, rfl⟩
  have c2 := c1 (.cells #[.int .u8 (b0.toNat : Int), .int .u8 (b1.toNat : Int), .int .u8 (b2.toNat : Int), .int .u8 (b3.toNat : Int)] 5)
  rw [hwb] at HC c2
  obtain ⟨gn, hgn⟩ : ∃ gn, wa.heap.size = gn := ⟨_, rfl⟩
  have hblk : Blk wb gn #[.int .u8 (b0.toNat : Int), .int .u8 (b1.toNat : Int), .int .u8 (b2.toNat : Int), .int .u8 (b3.toNat : Int)] 5 := by rw [← hwb, ← hgn]; exact Blk.new wa _ _
  rw [hgn] at HC
  have hab : Below wa.heap.size wa wb := by rw [← hwb]; exact below_new wa _
  have HBL := hidden hblk
  have HBW := hidden (HB.out.trans (hab.mono HB.out.size))
  have HM2 := hidden (HM.out.later hab)
  have HNF := hidden (foot5_new HM.out (show wa.heap.size ≤ gn by omega))
  obtain ⟨r, hr⟩ : ∃ r, a % 4 = r := ⟨_, rfl⟩
  have hr4 : r < 4 := by omega
  rw [hr] at e3 ⊢
  obtain ⟨bl, hbe⟩ : ∃ bl, bl = [b0, b1, b2, b3].drop (3 - r) := ⟨_, rfl⟩
  have HBE := hidden hbe
  have HLEN := hidden (show bl.length = r + 1 by rw [hbe, List.length_drop]; simp; omega)
  have hat : At wb gn (3 - r) bl := by
    have := At.of hblk (3 - r) (r + 1) (by omega)
    rw [List.take_of_length_le (by rw [List.length_drop]; simp; omega)] at this
    rw [hbe]
    exact this
  have HAT := hidden hat
  have e4 : (3 : Int) - (r : Int) = ((3 - r : Nat) : Int) := by omega
  obtain ⟨pl, hpl⟩ : ∃ pl, a - r = pl := ⟨_, rfl⟩
  have e5 : (a : Int) - (r : Int) = (pl : Int) := by omega
  rw [hpl]
  clear hbe hr hat hpl
  clear ht hI hC hb4 hbl hc c1 hwb hgn hblk hab
  go_enter Try.func18, Try.ntmps18
  go_wp2_with (first | (go_at_call 45; refine HC.out.mono ?_; rintro e w1 ⟨rfl, hww⟩; rw [hww]; clear hww w1))
  go_loopw [12] (fun i wr => ∃ (q : Nat) (t1 : S5), q ≤ (r + 1) ∧ i = .int .u32 (q : Int) ∧ R5 wb wr t t1 ((placesL pl bl).take q)) (fun i _ => (r + 1) - (intOf i).toNat)
  case atStart => exact ⟨0, t, by omega, rfl, R5.nil HM2.out⟩
  case round =>
    obtain ⟨q, t1, hq, rfl, hR⟩ := hrel
    have HR := hidden hR
    clear hR
    by_cases hql : q < (r + 1)
    · have hlt : (q : Int) ≤ (r : Int) := by omega
      have h0 : (0 : Int) ≤ (q : Int) := by omega
      have hcell := (HR.out.at HAT.out HNF.out).cell q (by rw [HLEN.out]; exact hql)
      have e6 : ((3 - r : Nat) : Int) + (q : Int) = ((3 - r + q : Nat) : Int) := by omega
      have e7 : 3 - r + q < 4 := by omega
      generalize 3 - r + q = ix at *
      have HT := hidden (placesL_take pl bl q (by rw [HLEN.out]; exact hql))
      have hlen : ((placesL pl bl).take q).length ≤ 4 := by rw [List.length_take]; omega
      have HK := hidden (HR.out.poke (wrapAt pl q) (bl.getD q 0) (wrapAt_lt _ q) (by have := HCC.out; omega))
      have ew : (pl : Int) + (q : Int) = ((wrapAt pl q : Nat) : Int) := by unfold wrapAt; omega
      have hz : wrapAt pl q < 4294967296 := wrapAt_lt _ q
      generalize wrapAt pl q = p at *
      generalize bl.getD q 0 = b at *
      clear hlen
      go_wp2_with (go_at_call 32; refine HK.out.mono ?_; rintro e w1 ⟨⟨x1, rfl⟩, t2, hr2⟩; have HR2 := hidden hr2; clear hr2)
      exact ⟨⟨q + 1, t2, by omega, by simp, by rw [HT.out]; exact HR2.out⟩, by simp [intOf]; omega⟩
    · have heq : q = (r + 1) := by omega
      have hP2 := HR.out
      rw [heq, ← HLEN.out, placesL_all] at hP2
      have HP2 := hidden hP2
      have hge : ¬ (q : Int) ≤ (r : Int) := by omega
      clear hP2
      go_wp2
      first | go_end0 | refine bodyPost_ret (results_none rfl _ _ _) rfl ?_
      have hr := step5_put H0.out HBW.out HP2.out
      rw [HBE.out] at hr
      exact ⟨rfl, t1, hr⟩
theorem rstore_other (w : World) (t : S5) (ht : M5 w t) (op S T D A imm : Int) (h1 : (op == 55) = false) (h2 : (op == 56) = false) (h3 : (op == 57) = false) (h4 : (op == 58) = false) (h5 : (op == 59) = false) (a v : Nat) (ha : a < 4294967296) (hv : v < 4294967296) : Calls Try.prog 18 #[.pointer (some ⟨t.m, 0, none⟩), .agg (insC op S T D A imm), .int .u32 (a : Int), .int .u32 (v : Int)] w fun e w' => e = .returned (.tuple #[]) ∧ ∃ t', R5 w w' t t' [] := by
  have H0 := hidden ht
  have hI := Blk.new w (insC op S T D A imm) 31
  have HB := hidden (below_new w (.cells (insC op S T D A imm) 31))
  have HC := hidden (refPut_any (v : Int) (by omega) (by omega) (w.alloc (.cells (insC op S T D A imm) 31)))
  have e3 := and3 a ha
  have c1 : ∀ o : Obj, ((w.alloc (.cells (insC op S T D A imm) 31)).alloc o).cell? ⟨w.heap.size, 0, none⟩ = some (.int .i64 op) := fun o => (hI.later (below_new _ o)).cell rfl
  obtain ⟨wa, hwa⟩ : ∃ wa, w.alloc (.cells (insC op S T D A imm) 31) = wa := ⟨_, rfl⟩
  rw [hwa] at HB HC c1
  clear ht hI
  go_enter Try.func18, Try.ntmps18
  go_wp2_with (go_at_call 45; refine HC.out.mono ?_; rintro e w1 ⟨rfl, hww⟩; rw [hww]; clear hww w1)
  first | go_end0 | refine bodyPost_ret (results_none rfl _ _ _) rfl ?_
  have hb := HB.out.trans ((below_new wa (.cells (b4C v) 5)).mono HB.out.size)
  exact ⟨rfl, t, step5_put H0.out hb (R5.nil (H0.out.later hb))⟩
theorem rstore_any (w : World) (t : S5) (ht : M5 w t) (op S T D A imm : Int) (a v : Nat) (ha : a < 4294967296) (hv : v < 4294967296) (hc : t.ts.length < 999990) : Calls Try.prog 18 #[.pointer (some ⟨t.m, 0, none⟩), .agg (insC op S T D A imm), .int .u32 (a : Int), .int .u32 (v : Int)] w fun e w' => e = .returned (.tuple #[]) ∧ ∃ t', R5 w w' t t' (storeL op a v) := by
  by_cases h55 : op = 55
  · subst h55; exact rstore_55 w t ht S T D A imm a v ha hv hc
  by_cases h56 : op = 56
  · subst h56; exact rstore_56 w t ht S T D A imm a v ha hv hc
  by_cases h58 : op = 58
  · subst h58; exact rstore_58 w t ht S T D A imm a v ha hv hc
  by_cases h57 : op = 57
  · subst h57; exact rstore_57 w t ht S T D A imm a v ha hv hc
  by_cases h59 : op = 59
  · subst h59; exact rstore_59 w t ht S T D A imm a v ha hv hc
  have e : storeL op a v = [] := by unfold storeL; rw [if_neg h55, if_neg h56, if_neg h58, if_neg h57, if_neg h59]
  rw [e]
  exact rstore_other w t ht op S T D A imm (beq_eq_false_iff_ne.2 h55) (beq_eq_false_iff_ne.2 h56) (beq_eq_false_iff_ne.2 h57) (beq_eq_false_iff_ne.2 h58) (beq_eq_false_iff_ne.2 h59) a v ha hv
end Go.Proofs.Ytkpcajmphhdmiaa
