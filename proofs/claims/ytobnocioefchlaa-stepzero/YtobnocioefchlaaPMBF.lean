/- Traps of any instruction. -/
import Derived.Test.YtobnocioefchlaaPMBA
import Derived.Test.YtobnocioefchlaaPMBC
import Derived.Deep.CutBlock
import Derived.Test.YtobnocioefchlaaPStB
import Derived.BigQuiet
import Derived.Test.YtobnocioefchlaaPMAI
namespace Go.Proofs.Ytobnocioefchlaa
open Go.ChangeShapes Go.WideShapes Go.ChangeAt Go.RowKit
set_option linter.unusedVariables false
set_option maxRecDepth 20000 in
theorem traps_9 (S T D A m s t : Int) (h1 : 0 ≤ s) (h2 : s < 4294967296) (h3 : 0 ≤ t) (h4 : t < 4294967296) (h5 : 0 ≤ m) (h6 : m < 4294967296) (w : World) :
    Calls Try.prog 44 #[.agg (insC 9 S T D A m), .int .u32 s, .int .u32 t] w fun e w' => e = .returned (.bool (addOv s t)) ∧ Below w.heap.size w w' := by
  have hB := hidden (below_new w (.cells (insC 9 S T D A m) 62))
  go_enter Try.func44, Try.ntmps44
  go_upto_region 3 with fail
  repeat ((fail_if_success ((with_reducible refine leave_then ?_ ?_); exact rfl)); (first | go_values | go_skip | go_guarded | go_step | go_upon | go_back | (simp only [Int.not_lt, Int.not_le] at *; go_simp)))
  repeat (first | ((with_reducible refine leave_then ?_ ?_); exact rfl) | (with_reducible refine leave_at ?_) | ((with_reducible refine leave_block ?_ ?_); exact of_decide_eq_true rfl) | (with_reducible refine leave_block_end ?_) | (with_reducible refine leave_then_end ?_))
  go_wp2_with (first | (go_at_call 71; refine (addOver_any _ _ h1 h2 h3 h4 _).mono ?_; rintro e w' ⟨rfl, rfl⟩))
  go_ret
  exact ⟨ret_bool rfl, hB.out⟩
set_option maxRecDepth 20000 in
theorem traps_10 (S T D A m s t : Int) (h1 : 0 ≤ s) (h2 : s < 4294967296) (h3 : 0 ≤ t) (h4 : t < 4294967296) (h5 : 0 ≤ m) (h6 : m < 4294967296) (w : World) :
    Calls Try.prog 44 #[.agg (insC 10 S T D A m), .int .u32 s, .int .u32 t] w fun e w' => e = .returned (.bool (subOv s t)) ∧ Below w.heap.size w w' := by
  have hB := hidden (below_new w (.cells (insC 10 S T D A m) 62))
  go_enter Try.func44, Try.ntmps44
  go_upto_region 4 with fail
  repeat ((fail_if_success ((with_reducible refine leave_then ?_ ?_); exact rfl)); (first | go_values | go_skip | go_guarded | go_step | go_upon | go_back | (simp only [Int.not_lt, Int.not_le] at *; go_simp)))
  repeat (first | ((with_reducible refine leave_then ?_ ?_); exact rfl) | (with_reducible refine leave_at ?_) | ((with_reducible refine leave_block ?_ ?_); exact of_decide_eq_true rfl) | (with_reducible refine leave_block_end ?_) | (with_reducible refine leave_then_end ?_))
  go_wp2_with (first | (go_at_call 72; refine (subOver_any _ _ h1 h2 h3 h4 _).mono ?_; rintro e w' ⟨rfl, rfl⟩))
  go_ret
  exact ⟨ret_bool rfl, hB.out⟩
set_option maxRecDepth 20000 in
theorem traps_29 (S T D A m s t : Int) (h1 : 0 ≤ s) (h2 : s < 4294967296) (h3 : 0 ≤ t) (h4 : t < 4294967296) (h5 : 0 ≤ m) (h6 : m < 4294967296) (w : World) :
    Calls Try.prog 44 #[.agg (insC 29 S T D A m), .int .u32 s, .int .u32 t] w fun e w' => e = .returned (.bool (!lt32 s t)) ∧ Below w.heap.size w w' := by
  have hB := hidden (below_new w (.cells (insC 29 S T D A m) 62))
  go_enter Try.func44, Try.ntmps44
  go_upto_region 5 with fail
  repeat ((fail_if_success ((with_reducible refine leave_then ?_ ?_); exact rfl)); (first | go_values | go_skip | go_guarded | go_step | go_upon | go_back | (simp only [Int.not_lt, Int.not_le] at *; go_simp)))
  repeat (first | ((with_reducible refine leave_then ?_ ?_); exact rfl) | (with_reducible refine leave_at ?_) | ((with_reducible refine leave_block ?_ ?_); exact of_decide_eq_true rfl) | (with_reducible refine leave_block_end ?_) | (with_reducible refine leave_then_end ?_))
  go_wp2_with (first | (go_at_call 73; refine (below_any _ _ h1 h2 h3 h4 _).mono ?_; rintro e w' ⟨rfl, rfl⟩))
  go_ret
  exact ⟨ret_bool rfl, hB.out⟩
set_option maxRecDepth 20000 in
theorem traps_30 (S T D A m s t : Int) (h1 : 0 ≤ s) (h2 : s < 4294967296) (h3 : 0 ≤ t) (h4 : t < 4294967296) (h5 : 0 ≤ m) (h6 : m < 4294967296) (w : World) :
    Calls Try.prog 44 #[.agg (insC 30 S T D A m), .int .u32 s, .int .u32 t] w fun e w' => e = .returned (.bool (decide (t ≤ s))) ∧ Below w.heap.size w w' := by
  have hB := hidden (below_new w (.cells (insC 30 S T D A m) 62))
  go_enter Try.func44, Try.ntmps44
  go_upto_region 6 with fail
  repeat ((fail_if_success ((with_reducible refine leave_then ?_ ?_); exact rfl)); (first | go_values | go_skip | go_guarded | go_step | go_upon | go_back | (simp only [Int.not_lt, Int.not_le] at *; go_simp)))
  repeat (first | ((with_reducible refine leave_then ?_ ?_); exact rfl) | (with_reducible refine leave_at ?_) | ((with_reducible refine leave_block ?_ ?_); exact of_decide_eq_true rfl) | (with_reducible refine leave_block_end ?_) | (with_reducible refine leave_then_end ?_))
  go_wp2
  go_ret
  exact ⟨ret_bool rfl, hB.out⟩
set_option maxRecDepth 20000 in
theorem traps_31 (S T D A m s t : Int) (h1 : 0 ≤ s) (h2 : s < 4294967296) (h3 : 0 ≤ t) (h4 : t < 4294967296) (h5 : 0 ≤ m) (h6 : m < 4294967296) (w : World) :
    Calls Try.prog 44 #[.agg (insC 31 S T D A m), .int .u32 s, .int .u32 t] w fun e w' => e = .returned (.bool (lt32 s t)) ∧ Below w.heap.size w w' := by
  have hB := hidden (below_new w (.cells (insC 31 S T D A m) 62))
  go_enter Try.func44, Try.ntmps44
  go_upto_region 7 with fail
  repeat ((fail_if_success ((with_reducible refine leave_then ?_ ?_); exact rfl)); (first | go_values | go_skip | go_guarded | go_step | go_upon | go_back | (simp only [Int.not_lt, Int.not_le] at *; go_simp)))
  repeat (first | ((with_reducible refine leave_then ?_ ?_); exact rfl) | (with_reducible refine leave_at ?_) | ((with_reducible refine leave_block ?_ ?_); exact of_decide_eq_true rfl) | (with_reducible refine leave_block_end ?_) | (with_reducible refine leave_then_end ?_))
  go_wp2_with (first | (go_at_call 73; refine (below_any _ _ h1 h2 h3 h4 _).mono ?_; rintro e w' ⟨rfl, rfl⟩))
  go_ret
  exact ⟨ret_bool rfl, hB.out⟩
set_option maxRecDepth 20000 in
theorem traps_32 (S T D A m s t : Int) (h1 : 0 ≤ s) (h2 : s < 4294967296) (h3 : 0 ≤ t) (h4 : t < 4294967296) (h5 : 0 ≤ m) (h6 : m < 4294967296) (w : World) :
    Calls Try.prog 44 #[.agg (insC 32 S T D A m), .int .u32 s, .int .u32 t] w fun e w' => e = .returned (.bool (decide (s < t))) ∧ Below w.heap.size w w' := by
  have hB := hidden (below_new w (.cells (insC 32 S T D A m) 62))
  go_enter Try.func44, Try.ntmps44
  go_upto_region 8 with fail
  repeat ((fail_if_success ((with_reducible refine leave_then ?_ ?_); exact rfl)); (first | go_values | go_skip | go_guarded | go_step | go_upon | go_back | (simp only [Int.not_lt, Int.not_le] at *; go_simp)))
  repeat (first | ((with_reducible refine leave_then ?_ ?_); exact rfl) | (with_reducible refine leave_at ?_) | ((with_reducible refine leave_block ?_ ?_); exact of_decide_eq_true rfl) | (with_reducible refine leave_block_end ?_) | (with_reducible refine leave_then_end ?_))
  go_wp2
  go_ret
  exact ⟨ret_bool rfl, hB.out⟩
set_option maxRecDepth 20000 in
theorem traps_33 (S T D A m s t : Int) (h1 : 0 ≤ s) (h2 : s < 4294967296) (h3 : 0 ≤ t) (h4 : t < 4294967296) (h5 : 0 ≤ m) (h6 : m < 4294967296) (w : World) :
    Calls Try.prog 44 #[.agg (insC 33 S T D A m), .int .u32 s, .int .u32 t] w fun e w' => e = .returned (.bool (s == t)) ∧ Below w.heap.size w w' := by
  have hB := hidden (below_new w (.cells (insC 33 S T D A m) 62))
  go_enter Try.func44, Try.ntmps44
  go_upto_region 9 with fail
  repeat ((fail_if_success ((with_reducible refine leave_then ?_ ?_); exact rfl)); (first | go_values | go_skip | go_guarded | go_step | go_upon | go_back | (simp only [Int.not_lt, Int.not_le] at *; go_simp)))
  repeat (first | ((with_reducible refine leave_then ?_ ?_); exact rfl) | (with_reducible refine leave_at ?_) | ((with_reducible refine leave_block ?_ ?_); exact of_decide_eq_true rfl) | (with_reducible refine leave_block_end ?_) | (with_reducible refine leave_then_end ?_))
  go_wp2
  go_ret
  exact ⟨ret_bool rfl, hB.out⟩
set_option maxRecDepth 20000 in
theorem traps_34 (S T D A m s t : Int) (h1 : 0 ≤ s) (h2 : s < 4294967296) (h3 : 0 ≤ t) (h4 : t < 4294967296) (h5 : 0 ≤ m) (h6 : m < 4294967296) (w : World) :
    Calls Try.prog 44 #[.agg (insC 34 S T D A m), .int .u32 s, .int .u32 t] w fun e w' => e = .returned (.bool (s != t)) ∧ Below w.heap.size w w' := by
  have hB := hidden (below_new w (.cells (insC 34 S T D A m) 62))
  go_enter Try.func44, Try.ntmps44
  go_upto_region 10 with fail
  repeat ((fail_if_success ((with_reducible refine leave_then ?_ ?_); exact rfl)); (first | go_values | go_skip | go_guarded | go_step | go_upon | go_back | (simp only [Int.not_lt, Int.not_le] at *; go_simp)))
  repeat (first | ((with_reducible refine leave_then ?_ ?_); exact rfl) | (with_reducible refine leave_at ?_) | ((with_reducible refine leave_block ?_ ?_); exact of_decide_eq_true rfl) | (with_reducible refine leave_block_end ?_) | (with_reducible refine leave_then_end ?_))
  go_wp2
  go_ret
  exact ⟨ret_bool rfl, hB.out⟩
set_option maxRecDepth 20000 in
theorem traps_41 (S T D A m s t : Int) (h1 : 0 ≤ s) (h2 : s < 4294967296) (h3 : 0 ≤ t) (h4 : t < 4294967296) (h5 : 0 ≤ m) (h6 : m < 4294967296) (w : World) :
    Calls Try.prog 44 #[.agg (insC 41 S T D A m), .int .u32 s, .int .u32 t] w fun e w' => e = .returned (.bool (addOv s m)) ∧ Below w.heap.size w w' := by
  have hB := hidden (below_new w (.cells (insC 41 S T D A m) 62))
  go_enter Try.func44, Try.ntmps44
  go_upto_region 2 with fail
  repeat ((fail_if_success ((with_reducible refine leave_then ?_ ?_); exact rfl)); (first | go_values | go_skip | go_guarded | go_step | go_upon | go_back | (simp only [Int.not_lt, Int.not_le] at *; go_simp)))
  repeat (first | ((with_reducible refine leave_then ?_ ?_); exact rfl) | (with_reducible refine leave_at ?_) | ((with_reducible refine leave_block ?_ ?_); exact of_decide_eq_true rfl) | (with_reducible refine leave_block_end ?_) | (with_reducible refine leave_then_end ?_))
  go_wp2_with (first | (go_at_call 71; refine (addOver_any _ _ h1 h2 h5 h6 _).mono ?_; rintro e w' ⟨rfl, rfl⟩))
  go_ret
  exact ⟨ret_bool rfl, hB.out⟩
set_option maxRecDepth 20000 in
theorem traps_none (op S T D A m s t : Int) (h1 : 0 ≤ s) (h2 : s < 4294967296) (h3 : 0 ≤ t) (h4 : t < 4294967296) (h5 : 0 ≤ m) (h6 : m < 4294967296) (k9 : (op == 9) = false) (k10 : (op == 10) = false) (k29 : (op == 29) = false) (k30 : (op == 30) = false) (k31 : (op == 31) = false) (k32 : (op == 32) = false) (k33 : (op == 33) = false) (k34 : (op == 34) = false) (k41 : (op == 41) = false) (w : World) :
    Calls Try.prog 44 #[.agg (insC op S T D A m), .int .u32 s, .int .u32 t] w fun e w' => e = .returned (.bool (false)) ∧ Below w.heap.size w w' := by
  have hB := hidden (below_new w (.cells (insC op S T D A m) 62))
  go_enter Try.func44, Try.ntmps44
  go_upto_region 10 with fail
  repeat ((fail_if_success ((with_reducible refine leave_then ?_ ?_); exact rfl)); (first | go_values | go_skip | go_guarded | go_step | go_upon | go_back | (simp only [Int.not_lt, Int.not_le] at *; go_simp)))
  repeat (first | ((with_reducible refine leave_then ?_ ?_); exact rfl) | (with_reducible refine leave_at ?_) | ((with_reducible refine leave_block ?_ ?_); exact of_decide_eq_true rfl) | (with_reducible refine leave_block_end ?_) | (with_reducible refine leave_then_end ?_))
  go_wp2
  go_ret
  exact ⟨ret_bool rfl, hB.out⟩
theorem traps_any (op S T D A m s t : Int) (h1 : 0 ≤ s) (h2 : s < 4294967296) (h3 : 0 ≤ t) (h4 : t < 4294967296) (h5 : 0 ≤ m) (h6 : m < 4294967296) (w : World) :
    Calls Try.prog 44 #[.agg (insC op S T D A m), .int .u32 s, .int .u32 t] w fun e w' => e = .returned (.bool (trapB op s t m)) ∧ Below w.heap.size w w' := by
  by_cases k9 : op = 9
  · subst k9
    exact traps_9 S T D A m s t h1 h2 h3 h4 h5 h6 w
  by_cases k10 : op = 10
  · subst k10
    exact traps_10 S T D A m s t h1 h2 h3 h4 h5 h6 w
  by_cases k29 : op = 29
  · subst k29
    exact traps_29 S T D A m s t h1 h2 h3 h4 h5 h6 w
  by_cases k30 : op = 30
  · subst k30
    exact traps_30 S T D A m s t h1 h2 h3 h4 h5 h6 w
  by_cases k31 : op = 31
  · subst k31
    exact traps_31 S T D A m s t h1 h2 h3 h4 h5 h6 w
  by_cases k32 : op = 32
  · subst k32
    exact traps_32 S T D A m s t h1 h2 h3 h4 h5 h6 w
  by_cases k33 : op = 33
  · subst k33
    exact traps_33 S T D A m s t h1 h2 h3 h4 h5 h6 w
  by_cases k34 : op = 34
  · subst k34
    exact traps_34 S T D A m s t h1 h2 h3 h4 h5 h6 w
  by_cases k41 : op = 41
  · subst k41
    exact traps_41 S T D A m s t h1 h2 h3 h4 h5 h6 w
  have e : trapB op s t m = false := by simp only [trapB, k9, k10, k29, k30, k31, k32, k33, k34, k41, if_false]
  rw [e]
  exact traps_none op S T D A m s t h1 h2 h3 h4 h5 h6 (beq_eq_false_iff_ne.2 k9) (beq_eq_false_iff_ne.2 k10) (beq_eq_false_iff_ne.2 k29) (beq_eq_false_iff_ne.2 k30) (beq_eq_false_iff_ne.2 k31) (beq_eq_false_iff_ne.2 k32) (beq_eq_false_iff_ne.2 k33) (beq_eq_false_iff_ne.2 k34) (beq_eq_false_iff_ne.2 k41) w
end Go.Proofs.Ytobnocioefchlaa
namespace Go.Proofs.Ytobnocioefchlaa
open Go.ChangeShapes Go.WideShapes Go.ChangeAt Go.RowKit
set_option linter.unusedVariables false
/-- A task's numbers. -/
structure TOk (k : TV) : Prop where
  len : k.v.R.length = 32
  x0 : 0 ≤ k.x
  x1 : k.x < 4294967296
  t0 : 0 ≤ k.t
  t1 : k.t < 4294967296
  a : k.a < 4294967296
  m : k.i.tk.imm < 4294967296
/-- The world behind a call that lays memory: a task's block stays. -/
theorem task_later {w w' : World} {n : Nat} {k : TV} (h : Blk w n k.c 64) (hk : k.v.R.length = 32) (hb : Below w.heap.size w w') : Blk w' n k.c 64 ∧ TC w' n k := ⟨h.later hb, TC.of (h.later hb) hk⟩
set_option maxRecDepth 20000 in
set_option maxHeartbeats 4000000 in
theorem wrong_any (s : MS) (w : World) (hm : MemW w s) (k : TV) (ho : TOk k) : Calls Try.prog 27 #[.agg k.c, .pointer (some ⟨s.mb, 0, none⟩)] w fun e w' => e = .returned (.tuple #[.int .i64 (wrongP s k.v.sl k.i.op k.i.tk.imm k.x k.t k.a).1, .int .u32 (wrongP s k.v.sl k.i.op k.i.tk.imm k.x k.t k.a).2]) ∧ Below w.heap.size w w' := by
  obtain ⟨n, hn⟩ : ∃ n, w.heap.size = n := ⟨_, rfl⟩
  have HO := hidden ho
  have HK := hidden (fun u => insKind_any (k.i.op : Int) u)
  have HT : Hid (∀ u, Calls Try.prog 44 #[.agg (insT (k.i.op : Int) k.i.tk), .int .u32 k.x, .int .u32 k.t] u fun e w' => e = .returned (.bool (trapB k.i.op k.x k.t k.i.tk.imm)) ∧ Below u.heap.size u w') := hidden (fun u => traps_any _ _ _ _ _ _ _ _ ho.x0 ho.x1 ho.t0 ho.t1 (by omega) (by have := ho.m; omega) u)
  have HTR := hidden (fun u => trapKind_any (k.i.op : Int) u)
  have HA : Hid (∀ u, Below w.heap.size w u → Calls Try.prog 46 #[.pointer (some ⟨s.mb, 0, none⟩), .agg (insT (k.i.op : Int) k.i.tk), .int .u32 (k.a : Int)] u fun e w' => e = .returned (.int .i64 (faultK s k.i.op k.a)) ∧ Below u.heap.size u w') := hidden (fun u hu => accKind_any u s (hm.later hu) _ _ _ _ _ _ k.a ho.a)
  obtain ⟨C, hC⟩ : ∃ C, k.c = C := ⟨_, rfl⟩
  rw [hC]
  have HC := hidden hC
  unfold wrongP
  obtain ⟨z, hz⟩ : ∃ z, kindP (k.i.op : Int) = z := ⟨_, rfl⟩
  obtain ⟨tb, htb⟩ : ∃ tb, trapB k.i.op k.x k.t k.i.tk.imm = tb := ⟨_, rfl⟩
  obtain ⟨fk, hfk⟩ : ∃ fk, faultK s k.i.op k.a = fk := ⟨_, rfl⟩
  obtain ⟨tk, htk⟩ : ∃ tk : Int, (if (k.i.op : Int) = 9 ∨ (k.i.op : Int) = 41 ∨ (k.i.op : Int) = 10 then 8 else 9) = tk := ⟨_, rfl⟩
  obtain ⟨sl, hsl⟩ : ∃ sl, k.v.sl = sl := ⟨_, rfl⟩
  rw [hz] at HK ⊢
  rw [htb] at HT ⊢
  rw [hfk] at HA ⊢
  rw [htk] at HTR ⊢
  rw [hn] at HA
  have HTC := hidden (fun u (h : Blk u n k.c 64) => TC.of h ho.len)
  rw [hsl]
  clear hC hz htb hfk htk ho hm
  by_cases hz0 : z = 0
  · rw [if_pos (Or.inl hz0)]
    have e0 : (z == 0) = true := beq_iff_eq.2 hz0
    clear hz0
    go_enter Try.func27, Try.ntmps27
    go_wp2_with (first
    | (refine wpList_boxG rfl 64 _ rfl C rfl ?_; rintro w1 k1 s1 b1; rw [hn] at k1 s1 b1 ⊢; have K1 : Hid (Blk w1 n k.c 64) := hidden (by rw [HC.out]; exact k1); have B1 := hidden b1; have S1 : Hid (n ≤ w1.heap.size) := hidden (by omega); obtain ⟨c0, c1, c2, c3, c4, c5, c6, c7⟩ := TC.of K1.out HO.out.len; clear k1 s1 b1)
    | (go_at_call 43; refine (HK.out _).mono ?_; rintro e w2 ⟨rfl, b2⟩; obtain ⟨k2, tc⟩ := task_later K1.out HO.out.len b2; have K2 := hidden k2; clear c0 c1 c2 c3 c4 c5 c6 c7 K1; obtain ⟨c0, c1, c2, c3, c4, c5, c6, c7⟩ := tc; have B2 := hidden (B1.out.trans (b2.mono S1.out)); have S2 : Hid (n ≤ w2.heap.size) := hidden (Nat.le_trans S1.out b2.size); clear b2 k2 B1 S1)
    | (refine wpList_loadTaI rfl _ rfl n k rfl K2.out ?_)
    | (go_at_call 44; refine (HT.out _).mono ?_; rintro e w3 ⟨rfl, b3⟩; obtain ⟨k3, tc⟩ := task_later K2.out HO.out.len b3; have K3 := hidden k3; clear c0 c1 c2 c3 c4 c5 c6 c7 K2; obtain ⟨c0, c1, c2, c3, c4, c5, c6, c7⟩ := tc; have B3 := hidden (B2.out.trans (b3.mono S2.out)); have S3 : Hid (n ≤ w3.heap.size) := hidden (Nat.le_trans S2.out b3.size); clear b3 k3 B2 S2)
    | (go_at_call 45; refine (HTR.out _).mono ?_; rintro e w4 ⟨rfl, hww⟩; rw [hww]; clear hww w4)
    | (refine wpList_loadTaI rfl _ rfl n k rfl K3.out ?_)
    | (go_at_call 46; refine (HA.out _ B3.out).mono ?_; rintro e w5 ⟨rfl, b5⟩; obtain ⟨k5, tc⟩ := task_later K3.out HO.out.len b5; clear c0 c1 c2 c3 c4 c5 c6 c7 K3; obtain ⟨c0, c1, c2, c3, c4, c5, c6, c7⟩ := tc; have B5 := hidden (B3.out.trans (b5.mono S3.out)); clear b5 k5 B3 S3))
    go_ret2
    exact ⟨rfl, by first | exact B2.out | (rw [hn]; exact B2.out)⟩
  have e0 : (z == 0) = false := beq_eq_false_iff_ne.2 hz0
  by_cases hz2 : z = 2
  · have e2 : (z == 2) = true := beq_iff_eq.2 hz2
    cases sl with
    | true =>
      rw [if_pos (Or.inr ⟨hz2, rfl⟩)]
      clear hz0 hz2
      go_enter Try.func27, Try.ntmps27
      go_wp2_with (first
    | (refine wpList_boxG rfl 64 _ rfl C rfl ?_; rintro w1 k1 s1 b1; rw [hn] at k1 s1 b1 ⊢; have K1 : Hid (Blk w1 n k.c 64) := hidden (by rw [HC.out]; exact k1); have B1 := hidden b1; have S1 : Hid (n ≤ w1.heap.size) := hidden (by omega); obtain ⟨c0, c1, c2, c3, c4, c5, c6, c7⟩ := TC.of K1.out HO.out.len; clear k1 s1 b1)
    | (go_at_call 43; refine (HK.out _).mono ?_; rintro e w2 ⟨rfl, b2⟩; obtain ⟨k2, tc⟩ := task_later K1.out HO.out.len b2; have K2 := hidden k2; clear c0 c1 c2 c3 c4 c5 c6 c7 K1; obtain ⟨c0, c1, c2, c3, c4, c5, c6, c7⟩ := tc; have B2 := hidden (B1.out.trans (b2.mono S1.out)); have S2 : Hid (n ≤ w2.heap.size) := hidden (Nat.le_trans S1.out b2.size); clear b2 k2 B1 S1)
    | (refine wpList_loadTaI rfl _ rfl n k rfl K2.out ?_)
    | (go_at_call 44; refine (HT.out _).mono ?_; rintro e w3 ⟨rfl, b3⟩; obtain ⟨k3, tc⟩ := task_later K2.out HO.out.len b3; have K3 := hidden k3; clear c0 c1 c2 c3 c4 c5 c6 c7 K2; obtain ⟨c0, c1, c2, c3, c4, c5, c6, c7⟩ := tc; have B3 := hidden (B2.out.trans (b3.mono S2.out)); have S3 : Hid (n ≤ w3.heap.size) := hidden (Nat.le_trans S2.out b3.size); clear b3 k3 B2 S2)
    | (go_at_call 45; refine (HTR.out _).mono ?_; rintro e w4 ⟨rfl, hww⟩; rw [hww]; clear hww w4)
    | (refine wpList_loadTaI rfl _ rfl n k rfl K3.out ?_)
    | (go_at_call 46; refine (HA.out _ B3.out).mono ?_; rintro e w5 ⟨rfl, b5⟩; obtain ⟨k5, tc⟩ := task_later K3.out HO.out.len b5; clear c0 c1 c2 c3 c4 c5 c6 c7 K3; obtain ⟨c0, c1, c2, c3, c4, c5, c6, c7⟩ := tc; have B5 := hidden (B3.out.trans (b5.mono S3.out)); clear b5 k5 B3 S3))
      go_ret2
      exact ⟨rfl, by first | exact B2.out | (rw [hn]; exact B2.out)⟩
    | false =>
      rw [if_neg (by rintro (h | h); exact hz0 h; exact absurd h.2 (by decide))]
      by_cases h36 : (k.i.op : Int) = 36
      · rw [if_pos h36]
        have e36 : ((k.i.op : Int) == 36) = true := beq_iff_eq.2 h36
        clear h36
        go_enter Try.func27, Try.ntmps27
        go_wp2_with (first
    | (refine wpList_boxG rfl 64 _ rfl C rfl ?_; rintro w1 k1 s1 b1; rw [hn] at k1 s1 b1 ⊢; have K1 : Hid (Blk w1 n k.c 64) := hidden (by rw [HC.out]; exact k1); have B1 := hidden b1; have S1 : Hid (n ≤ w1.heap.size) := hidden (by omega); obtain ⟨c0, c1, c2, c3, c4, c5, c6, c7⟩ := TC.of K1.out HO.out.len; clear k1 s1 b1)
    | (go_at_call 43; refine (HK.out _).mono ?_; rintro e w2 ⟨rfl, b2⟩; obtain ⟨k2, tc⟩ := task_later K1.out HO.out.len b2; have K2 := hidden k2; clear c0 c1 c2 c3 c4 c5 c6 c7 K1; obtain ⟨c0, c1, c2, c3, c4, c5, c6, c7⟩ := tc; have B2 := hidden (B1.out.trans (b2.mono S1.out)); have S2 : Hid (n ≤ w2.heap.size) := hidden (Nat.le_trans S1.out b2.size); clear b2 k2 B1 S1)
    | (refine wpList_loadTaI rfl _ rfl n k rfl K2.out ?_)
    | (go_at_call 44; refine (HT.out _).mono ?_; rintro e w3 ⟨rfl, b3⟩; obtain ⟨k3, tc⟩ := task_later K2.out HO.out.len b3; have K3 := hidden k3; clear c0 c1 c2 c3 c4 c5 c6 c7 K2; obtain ⟨c0, c1, c2, c3, c4, c5, c6, c7⟩ := tc; have B3 := hidden (B2.out.trans (b3.mono S2.out)); have S3 : Hid (n ≤ w3.heap.size) := hidden (Nat.le_trans S2.out b3.size); clear b3 k3 B2 S2)
    | (go_at_call 45; refine (HTR.out _).mono ?_; rintro e w4 ⟨rfl, hww⟩; rw [hww]; clear hww w4)
    | (refine wpList_loadTaI rfl _ rfl n k rfl K3.out ?_)
    | (go_at_call 46; refine (HA.out _ B3.out).mono ?_; rintro e w5 ⟨rfl, b5⟩; obtain ⟨k5, tc⟩ := task_later K3.out HO.out.len b5; clear c0 c1 c2 c3 c4 c5 c6 c7 K3; obtain ⟨c0, c1, c2, c3, c4, c5, c6, c7⟩ := tc; have B5 := hidden (B3.out.trans (b5.mono S3.out)); clear b5 k5 B3 S3))
        go_ret2
        exact ⟨rfl, by first | exact B2.out | (rw [hn]; exact B2.out)⟩
      rw [if_neg h36]
      have e36 : ((k.i.op : Int) == 36) = false := beq_eq_false_iff_ne.2 h36
      clear h36
      cases tb with
      | true =>
        rw [if_pos rfl]
        go_enter Try.func27, Try.ntmps27
        go_wp2_with (first
    | (refine wpList_boxG rfl 64 _ rfl C rfl ?_; rintro w1 k1 s1 b1; rw [hn] at k1 s1 b1 ⊢; have K1 : Hid (Blk w1 n k.c 64) := hidden (by rw [HC.out]; exact k1); have B1 := hidden b1; have S1 : Hid (n ≤ w1.heap.size) := hidden (by omega); obtain ⟨c0, c1, c2, c3, c4, c5, c6, c7⟩ := TC.of K1.out HO.out.len; clear k1 s1 b1)
    | (go_at_call 43; refine (HK.out _).mono ?_; rintro e w2 ⟨rfl, b2⟩; obtain ⟨k2, tc⟩ := task_later K1.out HO.out.len b2; have K2 := hidden k2; clear c0 c1 c2 c3 c4 c5 c6 c7 K1; obtain ⟨c0, c1, c2, c3, c4, c5, c6, c7⟩ := tc; have B2 := hidden (B1.out.trans (b2.mono S1.out)); have S2 : Hid (n ≤ w2.heap.size) := hidden (Nat.le_trans S1.out b2.size); clear b2 k2 B1 S1)
    | (refine wpList_loadTaI rfl _ rfl n k rfl K2.out ?_)
    | (go_at_call 44; refine (HT.out _).mono ?_; rintro e w3 ⟨rfl, b3⟩; obtain ⟨k3, tc⟩ := task_later K2.out HO.out.len b3; have K3 := hidden k3; clear c0 c1 c2 c3 c4 c5 c6 c7 K2; obtain ⟨c0, c1, c2, c3, c4, c5, c6, c7⟩ := tc; have B3 := hidden (B2.out.trans (b3.mono S2.out)); have S3 : Hid (n ≤ w3.heap.size) := hidden (Nat.le_trans S2.out b3.size); clear b3 k3 B2 S2)
    | (go_at_call 45; refine (HTR.out _).mono ?_; rintro e w4 ⟨rfl, hww⟩; rw [hww]; clear hww w4)
    | (refine wpList_loadTaI rfl _ rfl n k rfl K3.out ?_)
    | (go_at_call 46; refine (HA.out _ B3.out).mono ?_; rintro e w5 ⟨rfl, b5⟩; obtain ⟨k5, tc⟩ := task_later K3.out HO.out.len b5; clear c0 c1 c2 c3 c4 c5 c6 c7 K3; obtain ⟨c0, c1, c2, c3, c4, c5, c6, c7⟩ := tc; have B5 := hidden (B3.out.trans (b5.mono S3.out)); clear b5 k5 B3 S3))
        go_ret2
        exact ⟨rfl, by first | exact B3.out | (rw [hn]; exact B3.out)⟩
      | false =>
        rw [if_neg (by decide)]
        by_cases hf : fk = 0
        · rw [if_pos hf]
          have ef : (fk == 0) = true := beq_iff_eq.2 hf
          have ef2 : (fk != 0) = false := bne_f ef
          clear hf
          go_enter Try.func27, Try.ntmps27
          go_wp2_with (first
    | (refine wpList_boxG rfl 64 _ rfl C rfl ?_; rintro w1 k1 s1 b1; rw [hn] at k1 s1 b1 ⊢; have K1 : Hid (Blk w1 n k.c 64) := hidden (by rw [HC.out]; exact k1); have B1 := hidden b1; have S1 : Hid (n ≤ w1.heap.size) := hidden (by omega); obtain ⟨c0, c1, c2, c3, c4, c5, c6, c7⟩ := TC.of K1.out HO.out.len; clear k1 s1 b1)
    | (go_at_call 43; refine (HK.out _).mono ?_; rintro e w2 ⟨rfl, b2⟩; obtain ⟨k2, tc⟩ := task_later K1.out HO.out.len b2; have K2 := hidden k2; clear c0 c1 c2 c3 c4 c5 c6 c7 K1; obtain ⟨c0, c1, c2, c3, c4, c5, c6, c7⟩ := tc; have B2 := hidden (B1.out.trans (b2.mono S1.out)); have S2 : Hid (n ≤ w2.heap.size) := hidden (Nat.le_trans S1.out b2.size); clear b2 k2 B1 S1)
    | (refine wpList_loadTaI rfl _ rfl n k rfl K2.out ?_)
    | (go_at_call 44; refine (HT.out _).mono ?_; rintro e w3 ⟨rfl, b3⟩; obtain ⟨k3, tc⟩ := task_later K2.out HO.out.len b3; have K3 := hidden k3; clear c0 c1 c2 c3 c4 c5 c6 c7 K2; obtain ⟨c0, c1, c2, c3, c4, c5, c6, c7⟩ := tc; have B3 := hidden (B2.out.trans (b3.mono S2.out)); have S3 : Hid (n ≤ w3.heap.size) := hidden (Nat.le_trans S2.out b3.size); clear b3 k3 B2 S2)
    | (go_at_call 45; refine (HTR.out _).mono ?_; rintro e w4 ⟨rfl, hww⟩; rw [hww]; clear hww w4)
    | (refine wpList_loadTaI rfl _ rfl n k rfl K3.out ?_)
    | (go_at_call 46; refine (HA.out _ B3.out).mono ?_; rintro e w5 ⟨rfl, b5⟩; obtain ⟨k5, tc⟩ := task_later K3.out HO.out.len b5; clear c0 c1 c2 c3 c4 c5 c6 c7 K3; obtain ⟨c0, c1, c2, c3, c4, c5, c6, c7⟩ := tc; have B5 := hidden (B3.out.trans (b5.mono S3.out)); clear b5 k5 B3 S3))
          go_ret2
          exact ⟨rfl, by first | exact B5.out | (rw [hn]; exact B5.out)⟩
        · rw [if_neg hf]
          have ef : (fk == 0) = false := beq_eq_false_iff_ne.2 hf
          have ef2 : (fk != 0) = true := bne_t ef
          clear hf
          go_enter Try.func27, Try.ntmps27
          go_wp2_with (first
    | (refine wpList_boxG rfl 64 _ rfl C rfl ?_; rintro w1 k1 s1 b1; rw [hn] at k1 s1 b1 ⊢; have K1 : Hid (Blk w1 n k.c 64) := hidden (by rw [HC.out]; exact k1); have B1 := hidden b1; have S1 : Hid (n ≤ w1.heap.size) := hidden (by omega); obtain ⟨c0, c1, c2, c3, c4, c5, c6, c7⟩ := TC.of K1.out HO.out.len; clear k1 s1 b1)
    | (go_at_call 43; refine (HK.out _).mono ?_; rintro e w2 ⟨rfl, b2⟩; obtain ⟨k2, tc⟩ := task_later K1.out HO.out.len b2; have K2 := hidden k2; clear c0 c1 c2 c3 c4 c5 c6 c7 K1; obtain ⟨c0, c1, c2, c3, c4, c5, c6, c7⟩ := tc; have B2 := hidden (B1.out.trans (b2.mono S1.out)); have S2 : Hid (n ≤ w2.heap.size) := hidden (Nat.le_trans S1.out b2.size); clear b2 k2 B1 S1)
    | (refine wpList_loadTaI rfl _ rfl n k rfl K2.out ?_)
    | (go_at_call 44; refine (HT.out _).mono ?_; rintro e w3 ⟨rfl, b3⟩; obtain ⟨k3, tc⟩ := task_later K2.out HO.out.len b3; have K3 := hidden k3; clear c0 c1 c2 c3 c4 c5 c6 c7 K2; obtain ⟨c0, c1, c2, c3, c4, c5, c6, c7⟩ := tc; have B3 := hidden (B2.out.trans (b3.mono S2.out)); have S3 : Hid (n ≤ w3.heap.size) := hidden (Nat.le_trans S2.out b3.size); clear b3 k3 B2 S2)
    | (go_at_call 45; refine (HTR.out _).mono ?_; rintro e w4 ⟨rfl, hww⟩; rw [hww]; clear hww w4)
    | (refine wpList_loadTaI rfl _ rfl n k rfl K3.out ?_)
    | (go_at_call 46; refine (HA.out _ B3.out).mono ?_; rintro e w5 ⟨rfl, b5⟩; obtain ⟨k5, tc⟩ := task_later K3.out HO.out.len b5; clear c0 c1 c2 c3 c4 c5 c6 c7 K3; obtain ⟨c0, c1, c2, c3, c4, c5, c6, c7⟩ := tc; have B5 := hidden (B3.out.trans (b5.mono S3.out)); clear b5 k5 B3 S3))
          go_quiet (fail)
          go_wp2
          go_ret2
          exact ⟨rfl, by first | exact below_drewN B5.out _ | (rw [hn]; exact below_drewN B5.out _)⟩
  have e2 : (z == 2) = false := beq_eq_false_iff_ne.2 hz2
  rw [if_neg (by rintro (h | h); exact hz0 h; exact hz2 h.1)]
  by_cases h36 : (k.i.op : Int) = 36
  · rw [if_pos h36]
    have e36 : ((k.i.op : Int) == 36) = true := beq_iff_eq.2 h36
    clear h36
    go_enter Try.func27, Try.ntmps27
    go_wp2_with (first
    | (refine wpList_boxG rfl 64 _ rfl C rfl ?_; rintro w1 k1 s1 b1; rw [hn] at k1 s1 b1 ⊢; have K1 : Hid (Blk w1 n k.c 64) := hidden (by rw [HC.out]; exact k1); have B1 := hidden b1; have S1 : Hid (n ≤ w1.heap.size) := hidden (by omega); obtain ⟨c0, c1, c2, c3, c4, c5, c6, c7⟩ := TC.of K1.out HO.out.len; clear k1 s1 b1)
    | (go_at_call 43; refine (HK.out _).mono ?_; rintro e w2 ⟨rfl, b2⟩; obtain ⟨k2, tc⟩ := task_later K1.out HO.out.len b2; have K2 := hidden k2; clear c0 c1 c2 c3 c4 c5 c6 c7 K1; obtain ⟨c0, c1, c2, c3, c4, c5, c6, c7⟩ := tc; have B2 := hidden (B1.out.trans (b2.mono S1.out)); have S2 : Hid (n ≤ w2.heap.size) := hidden (Nat.le_trans S1.out b2.size); clear b2 k2 B1 S1)
    | (refine wpList_loadTaI rfl _ rfl n k rfl K2.out ?_)
    | (go_at_call 44; refine (HT.out _).mono ?_; rintro e w3 ⟨rfl, b3⟩; obtain ⟨k3, tc⟩ := task_later K2.out HO.out.len b3; have K3 := hidden k3; clear c0 c1 c2 c3 c4 c5 c6 c7 K2; obtain ⟨c0, c1, c2, c3, c4, c5, c6, c7⟩ := tc; have B3 := hidden (B2.out.trans (b3.mono S2.out)); have S3 : Hid (n ≤ w3.heap.size) := hidden (Nat.le_trans S2.out b3.size); clear b3 k3 B2 S2)
    | (go_at_call 45; refine (HTR.out _).mono ?_; rintro e w4 ⟨rfl, hww⟩; rw [hww]; clear hww w4)
    | (refine wpList_loadTaI rfl _ rfl n k rfl K3.out ?_)
    | (go_at_call 46; refine (HA.out _ B3.out).mono ?_; rintro e w5 ⟨rfl, b5⟩; obtain ⟨k5, tc⟩ := task_later K3.out HO.out.len b5; clear c0 c1 c2 c3 c4 c5 c6 c7 K3; obtain ⟨c0, c1, c2, c3, c4, c5, c6, c7⟩ := tc; have B5 := hidden (B3.out.trans (b5.mono S3.out)); clear b5 k5 B3 S3))
    go_ret2
    exact ⟨rfl, by first | exact B2.out | (rw [hn]; exact B2.out)⟩
  rw [if_neg h36]
  have e36 : ((k.i.op : Int) == 36) = false := beq_eq_false_iff_ne.2 h36
  clear h36
  cases tb with
  | true =>
    rw [if_pos rfl]
    go_enter Try.func27, Try.ntmps27
    go_wp2_with (first
    | (refine wpList_boxG rfl 64 _ rfl C rfl ?_; rintro w1 k1 s1 b1; rw [hn] at k1 s1 b1 ⊢; have K1 : Hid (Blk w1 n k.c 64) := hidden (by rw [HC.out]; exact k1); have B1 := hidden b1; have S1 : Hid (n ≤ w1.heap.size) := hidden (by omega); obtain ⟨c0, c1, c2, c3, c4, c5, c6, c7⟩ := TC.of K1.out HO.out.len; clear k1 s1 b1)
    | (go_at_call 43; refine (HK.out _).mono ?_; rintro e w2 ⟨rfl, b2⟩; obtain ⟨k2, tc⟩ := task_later K1.out HO.out.len b2; have K2 := hidden k2; clear c0 c1 c2 c3 c4 c5 c6 c7 K1; obtain ⟨c0, c1, c2, c3, c4, c5, c6, c7⟩ := tc; have B2 := hidden (B1.out.trans (b2.mono S1.out)); have S2 : Hid (n ≤ w2.heap.size) := hidden (Nat.le_trans S1.out b2.size); clear b2 k2 B1 S1)
    | (refine wpList_loadTaI rfl _ rfl n k rfl K2.out ?_)
    | (go_at_call 44; refine (HT.out _).mono ?_; rintro e w3 ⟨rfl, b3⟩; obtain ⟨k3, tc⟩ := task_later K2.out HO.out.len b3; have K3 := hidden k3; clear c0 c1 c2 c3 c4 c5 c6 c7 K2; obtain ⟨c0, c1, c2, c3, c4, c5, c6, c7⟩ := tc; have B3 := hidden (B2.out.trans (b3.mono S2.out)); have S3 : Hid (n ≤ w3.heap.size) := hidden (Nat.le_trans S2.out b3.size); clear b3 k3 B2 S2)
    | (go_at_call 45; refine (HTR.out _).mono ?_; rintro e w4 ⟨rfl, hww⟩; rw [hww]; clear hww w4)
    | (refine wpList_loadTaI rfl _ rfl n k rfl K3.out ?_)
    | (go_at_call 46; refine (HA.out _ B3.out).mono ?_; rintro e w5 ⟨rfl, b5⟩; obtain ⟨k5, tc⟩ := task_later K3.out HO.out.len b5; clear c0 c1 c2 c3 c4 c5 c6 c7 K3; obtain ⟨c0, c1, c2, c3, c4, c5, c6, c7⟩ := tc; have B5 := hidden (B3.out.trans (b5.mono S3.out)); clear b5 k5 B3 S3))
    go_ret2
    exact ⟨rfl, by first | exact B3.out | (rw [hn]; exact B3.out)⟩
  | false =>
    rw [if_neg (by decide)]
    by_cases hf : fk = 0
    · rw [if_pos hf]
      have ef : (fk == 0) = true := beq_iff_eq.2 hf
      have ef2 : (fk != 0) = false := bne_f ef
      clear hf
      go_enter Try.func27, Try.ntmps27
      go_wp2_with (first
    | (refine wpList_boxG rfl 64 _ rfl C rfl ?_; rintro w1 k1 s1 b1; rw [hn] at k1 s1 b1 ⊢; have K1 : Hid (Blk w1 n k.c 64) := hidden (by rw [HC.out]; exact k1); have B1 := hidden b1; have S1 : Hid (n ≤ w1.heap.size) := hidden (by omega); obtain ⟨c0, c1, c2, c3, c4, c5, c6, c7⟩ := TC.of K1.out HO.out.len; clear k1 s1 b1)
    | (go_at_call 43; refine (HK.out _).mono ?_; rintro e w2 ⟨rfl, b2⟩; obtain ⟨k2, tc⟩ := task_later K1.out HO.out.len b2; have K2 := hidden k2; clear c0 c1 c2 c3 c4 c5 c6 c7 K1; obtain ⟨c0, c1, c2, c3, c4, c5, c6, c7⟩ := tc; have B2 := hidden (B1.out.trans (b2.mono S1.out)); have S2 : Hid (n ≤ w2.heap.size) := hidden (Nat.le_trans S1.out b2.size); clear b2 k2 B1 S1)
    | (refine wpList_loadTaI rfl _ rfl n k rfl K2.out ?_)
    | (go_at_call 44; refine (HT.out _).mono ?_; rintro e w3 ⟨rfl, b3⟩; obtain ⟨k3, tc⟩ := task_later K2.out HO.out.len b3; have K3 := hidden k3; clear c0 c1 c2 c3 c4 c5 c6 c7 K2; obtain ⟨c0, c1, c2, c3, c4, c5, c6, c7⟩ := tc; have B3 := hidden (B2.out.trans (b3.mono S2.out)); have S3 : Hid (n ≤ w3.heap.size) := hidden (Nat.le_trans S2.out b3.size); clear b3 k3 B2 S2)
    | (go_at_call 45; refine (HTR.out _).mono ?_; rintro e w4 ⟨rfl, hww⟩; rw [hww]; clear hww w4)
    | (refine wpList_loadTaI rfl _ rfl n k rfl K3.out ?_)
    | (go_at_call 46; refine (HA.out _ B3.out).mono ?_; rintro e w5 ⟨rfl, b5⟩; obtain ⟨k5, tc⟩ := task_later K3.out HO.out.len b5; clear c0 c1 c2 c3 c4 c5 c6 c7 K3; obtain ⟨c0, c1, c2, c3, c4, c5, c6, c7⟩ := tc; have B5 := hidden (B3.out.trans (b5.mono S3.out)); clear b5 k5 B3 S3))
      go_ret2
      exact ⟨rfl, by first | exact B5.out | (rw [hn]; exact B5.out)⟩
    · rw [if_neg hf]
      have ef : (fk == 0) = false := beq_eq_false_iff_ne.2 hf
      have ef2 : (fk != 0) = true := bne_t ef
      clear hf
      go_enter Try.func27, Try.ntmps27
      go_wp2_with (first
    | (refine wpList_boxG rfl 64 _ rfl C rfl ?_; rintro w1 k1 s1 b1; rw [hn] at k1 s1 b1 ⊢; have K1 : Hid (Blk w1 n k.c 64) := hidden (by rw [HC.out]; exact k1); have B1 := hidden b1; have S1 : Hid (n ≤ w1.heap.size) := hidden (by omega); obtain ⟨c0, c1, c2, c3, c4, c5, c6, c7⟩ := TC.of K1.out HO.out.len; clear k1 s1 b1)
    | (go_at_call 43; refine (HK.out _).mono ?_; rintro e w2 ⟨rfl, b2⟩; obtain ⟨k2, tc⟩ := task_later K1.out HO.out.len b2; have K2 := hidden k2; clear c0 c1 c2 c3 c4 c5 c6 c7 K1; obtain ⟨c0, c1, c2, c3, c4, c5, c6, c7⟩ := tc; have B2 := hidden (B1.out.trans (b2.mono S1.out)); have S2 : Hid (n ≤ w2.heap.size) := hidden (Nat.le_trans S1.out b2.size); clear b2 k2 B1 S1)
    | (refine wpList_loadTaI rfl _ rfl n k rfl K2.out ?_)
    | (go_at_call 44; refine (HT.out _).mono ?_; rintro e w3 ⟨rfl, b3⟩; obtain ⟨k3, tc⟩ := task_later K2.out HO.out.len b3; have K3 := hidden k3; clear c0 c1 c2 c3 c4 c5 c6 c7 K2; obtain ⟨c0, c1, c2, c3, c4, c5, c6, c7⟩ := tc; have B3 := hidden (B2.out.trans (b3.mono S2.out)); have S3 : Hid (n ≤ w3.heap.size) := hidden (Nat.le_trans S2.out b3.size); clear b3 k3 B2 S2)
    | (go_at_call 45; refine (HTR.out _).mono ?_; rintro e w4 ⟨rfl, hww⟩; rw [hww]; clear hww w4)
    | (refine wpList_loadTaI rfl _ rfl n k rfl K3.out ?_)
    | (go_at_call 46; refine (HA.out _ B3.out).mono ?_; rintro e w5 ⟨rfl, b5⟩; obtain ⟨k5, tc⟩ := task_later K3.out HO.out.len b5; clear c0 c1 c2 c3 c4 c5 c6 c7 K3; obtain ⟨c0, c1, c2, c3, c4, c5, c6, c7⟩ := tc; have B5 := hidden (B3.out.trans (b5.mono S3.out)); clear b5 k5 B3 S3))
      go_quiet (fail)
      go_wp2
      go_ret2
      exact ⟨rfl, by first | exact below_drewN B5.out _ | (rw [hn]; exact below_drewN B5.out _)⟩
end Go.Proofs.Ytobnocioefchlaa
namespace Go.Proofs.Ytobnocioefchlaa
open Go Go.RowKit
set_option linter.unusedVariables false
section
variable {P : Program}
def headOkB (ops : Array Oper) (n : Nat) : Bool :=
  decide (n < ops.size) && Region.sinkB .any ops n && Region.chainB .any ops n && edgesB .any ops && Region.seqB .any ops (ops.size - n) n (headDone n (ops.size - n))
end
end Go.Proofs.Ytobnocioefchlaa
