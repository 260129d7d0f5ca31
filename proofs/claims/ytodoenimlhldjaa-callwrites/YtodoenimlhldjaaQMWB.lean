/- A state behind a call, walked. -/
import Derived.Test.YtodoenimlhldjaaQMBA
import Derived.Test.YtodoenimlhldjaaQMAF
namespace Go.Proofs.Ytodoenimlhldjaa
open Go.ChangeShapes Go.WideShapes Go.ChangeAt Go.RowKit
set_option linter.unusedVariables false
/-- A state behind a call. -/
def ansV (v : SV) (a b : Int) : SV := { v.on with R := (v.on.R.set 2 a).set 7 b }
theorem SV.on_len {v : SV} (h : v.R.length = 32) : v.on.R.length = 32 := by show (v.R.set 0 0).length = 32; rw [List.length_set]; exact h
theorem ansV_len {v : SV} (h : v.R.length = 32) (a b : Int) : (ansV v a b).R.length = 32 := by show ((v.on.R.set 2 a).set 7 b).length = 32; rw [List.length_set, List.length_set]; exact SV.on_len h
theorem lt32_2 : 2 < 32 := by decide
theorem lt32_7 : 7 < 32 := by decide
set_option maxRecDepth 20000 in
set_option maxHeartbeats 1000000 in
theorem answer_any (v : SV) (hv : v.R.length = 32) (a b : Int) (w : World) : Calls Try.prog 67 #[.agg v.c, .int .u32 a, .int .u32 b] w fun e w' => e = .returned (.agg (ansV v a b).c) ∧ Below w.heap.size w w' := by
  obtain ⟨n, hn⟩ : ∃ n, w.heap.size = n := ⟨_, rfl⟩
  have HV := hidden hv
  have hi2 : ∀ u, (Instr.indexAt 24 (.pointer (some ⟨n, 0, none⟩)) (.int .i64 2)).run Try.prog u = .ok (.pointer (some ⟨n, 2, none⟩)) u := fun u => index_reg n 2 (by omega) u
  have hi7 : ∀ u, (Instr.indexAt 24 (.pointer (some ⟨n, 0, none⟩)) (.int .i64 7)).run Try.prog u = .ok (.pointer (some ⟨n, 7, none⟩)) u := fun u => index_reg n 7 (by omega) u
  have HON := hidden (fun u => on_any v hv u)
  have L1 := hidden (SV.on_len hv)
  have L2 : Hid ((v.on.R.set 2 a).length = 32) := hidden (by rw [List.length_set]; exact SV.on_len hv)
  have L3 := hidden (ansV_len hv a b)
  obtain ⟨C, hC⟩ : ∃ C, v.c = C := ⟨_, rfl⟩
  rw [hC]
  have HC := hidden hC
  clear hC hv
  go_enter Try.func67, Try.ntmps67
  go_wp2_with (first
    | (refine wpList_boxG rfl 26 _ rfl C rfl ?_; rintro w1 k1 s1 b1; rw [hn] at k1 s1 b1 ⊢; have K1 : Hid (Blk w1 n v.c 26) := hidden (by rw [HC.out]; exact k1); have S1 := hidden s1; have B1 := hidden b1; clear k1 s1 b1)
    | (refine wpList_allocV rfl rfl ?_; rintro w2 k2 s2 b2; rw [S1.out] at k2 s2 b2 ⊢; have K2 := hidden (K1.out.later (by rw [S1.out]; exact b2)); have R2 := hidden k2; have B2 := hidden (B1.out.trans (b2.mono (by omega))); have S2 := hidden s2; clear k2 s2 b2 K1 B1)
    | (refine wpList_loadV rfl _ rfl n v rfl K2.out HV.out ?_)
    | (go_at_call 35; refine (HON.out _).mono ?_; rintro e w3 ⟨rfl, b3⟩; have K3 := hidden (K2.out.later b3); have R3 := hidden (R2.out.later b3); have B3 := hidden (B2.out.trans (b3.mono (by have := S2.out; omega))); clear b3 K2 R2 B2 HON)
    | (refine wpList_storeV rfl rfl _ _ rfl n v v.on rfl rfl K3.out HV.out L1.out ?_; rintro w4 k4 o4; have K4 := hidden k4; have R4 := hidden (R3.out.only o4 (by omega)); have B4 := hidden (Below.only B3.out o4 (Nat.le_refl n)); clear k4 o4 K3 R3 B3)
    | (refine wpList_setR rfl rfl _ _ rfl n 2 v.on a rfl rfl K4.out L1.out lt32_2 ?_; rintro w5 k5 o5; have K5 := hidden k5; have R5 := hidden (R4.out.only o5 (by omega)); have B5 := hidden (Below.only B4.out o5 (Nat.le_refl n)); clear k5 o5)
    | (refine wpList_setR rfl rfl _ _ rfl n 7 { v.on with R := v.on.R.set 2 a } b rfl rfl K5.out L2.out lt32_7 ?_; rintro w6 k6 o6; have K6 : Hid (Blk w6 n (ansV v a b).c 26) := hidden k6; have R6 := hidden (R5.out.only o6 (by omega)); have B6 := hidden (Below.only B5.out o6 (Nat.le_refl n)); clear k6 o6)
    | (refine wpList_loadV rfl _ rfl n (ansV v a b) rfl K6.out L3.out ?_)
    | (refine wpList_storeV rfl rfl _ _ rfl (n + 1) SV.zero (ansV v a b) rfl rfl R6.out rfl L3.out ?_; rintro w7 k7 o7; have K7 := hidden k7; have B7 := hidden (Below.only B6.out o7 (by omega)); clear k7 o7))
  exact bodyPost_ret (results_cell_row rfl _ _ (n + 1) 26 (ansV v a b).c (0, 0) _ rfl K7.out Try.underlying26 rfl (by rw [SV.size L3.out]; exact sizeSV)) rfl ⟨rfl, (by first | exact B7.out | (rw [hn]; exact B7.out))⟩
set_option maxRecDepth 20000 in
set_option maxHeartbeats 1000000 in
theorem right_any (v : SV) (hv : v.R.length = 32) (a : Int) (w : World) : Calls Try.prog 65 #[.agg v.c, .int .u32 a] w fun e w' => e = .returned (.agg (ansV v a 0).c) ∧ Below w.heap.size w w' := by
  obtain ⟨n, hn⟩ : ∃ n, w.heap.size = n := ⟨_, rfl⟩
  have HV := hidden hv
  have HAN := hidden (fun u => answer_any v hv a 0 u)
  have L3 := hidden (ansV_len hv a 0)
  obtain ⟨C, hC⟩ : ∃ C, v.c = C := ⟨_, rfl⟩
  rw [hC]
  have HC := hidden hC
  generalize ansV v a 0 = V at HAN L3 ⊢
  clear hC hv
  go_enter Try.func65, Try.ntmps65
  go_wp2_with (first
    | (refine wpList_boxG rfl 26 _ rfl C rfl ?_; rintro w1 k1 s1 b1; rw [hn] at k1 s1 b1 ⊢; have K1 : Hid (Blk w1 n v.c 26) := hidden (by rw [HC.out]; exact k1); have S1 := hidden s1; have B1 := hidden b1; clear k1 s1 b1)
    | (refine wpList_allocV rfl rfl ?_; rintro w2 k2 s2 b2; rw [S1.out] at k2 s2 b2 ⊢; have K2 := hidden (K1.out.later (by rw [S1.out]; exact b2)); have R2 := hidden k2; have B2 := hidden (B1.out.trans (b2.mono (by omega))); have S2 := hidden s2; clear k2 s2 b2 K1 B1)
    | (refine wpList_loadV rfl _ rfl n v rfl K2.out HV.out ?_)
    | (go_at_call 67; refine (HAN.out _).mono ?_; rintro e w3 ⟨rfl, b3⟩; have R3 := hidden (R2.out.later b3); have B3 := hidden (B2.out.trans (b3.mono (by have := S2.out; omega))); clear b3 K2 R2 B2 HAN)
    | (refine wpList_storeV rfl rfl _ _ rfl (n + 1) SV.zero V rfl rfl R3.out rfl L3.out ?_; rintro w4 k4 o4; have K4 := hidden k4; have B4 := hidden (Below.only B3.out o4 (by omega)); clear k4 o4))
  exact bodyPost_ret (results_cell_row rfl _ _ (n + 1) 26 V.c (0, 0) _ rfl K4.out Try.underlying26 rfl (by rw [SV.size L3.out]; exact sizeSV)) rfl ⟨rfl, (by first | exact B4.out | (rw [hn]; exact B4.out))⟩
set_option maxRecDepth 20000 in
set_option maxHeartbeats 1000000 in
theorem wrong_any (v : SV) (hv : v.R.length = 32) (a : Int) (w : World) : Calls Try.prog 39 #[.agg v.c, .int .u32 a] w fun e w' => e = .returned (.agg (ansV v a 1).c) ∧ Below w.heap.size w w' := by
  obtain ⟨n, hn⟩ : ∃ n, w.heap.size = n := ⟨_, rfl⟩
  have HV := hidden hv
  have HAN := hidden (fun u => answer_any v hv a 1 u)
  have L3 := hidden (ansV_len hv a 1)
  obtain ⟨C, hC⟩ : ∃ C, v.c = C := ⟨_, rfl⟩
  rw [hC]
  have HC := hidden hC
  generalize ansV v a 1 = V at HAN L3 ⊢
  clear hC hv
  go_enter Try.func39, Try.ntmps39
  go_wp2_with (first
    | (refine wpList_boxG rfl 26 _ rfl C rfl ?_; rintro w1 k1 s1 b1; rw [hn] at k1 s1 b1 ⊢; have K1 : Hid (Blk w1 n v.c 26) := hidden (by rw [HC.out]; exact k1); have S1 := hidden s1; have B1 := hidden b1; clear k1 s1 b1)
    | (refine wpList_allocV rfl rfl ?_; rintro w2 k2 s2 b2; rw [S1.out] at k2 s2 b2 ⊢; have K2 := hidden (K1.out.later (by rw [S1.out]; exact b2)); have R2 := hidden k2; have B2 := hidden (B1.out.trans (b2.mono (by omega))); have S2 := hidden s2; clear k2 s2 b2 K1 B1)
    | (refine wpList_loadV rfl _ rfl n v rfl K2.out HV.out ?_)
    | (go_at_call 67; refine (HAN.out _).mono ?_; rintro e w3 ⟨rfl, b3⟩; have R3 := hidden (R2.out.later b3); have B3 := hidden (B2.out.trans (b3.mono (by have := S2.out; omega))); clear b3 K2 R2 B2 HAN)
    | (refine wpList_storeV rfl rfl _ _ rfl (n + 1) SV.zero V rfl rfl R3.out rfl L3.out ?_; rintro w4 k4 o4; have K4 := hidden k4; have B4 := hidden (Below.only B3.out o4 (by omega)); clear k4 o4))
  exact bodyPost_ret (results_cell_row rfl _ _ (n + 1) 26 V.c (0, 0) _ rfl K4.out Try.underlying26 rfl (by rw [SV.size L3.out]; exact sizeSV)) rfl ⟨rfl, (by first | exact B4.out | (rw [hn]; exact B4.out))⟩
end Go.Proofs.Ytodoenimlhldjaa
namespace Go.Proofs.Ytodoenimlhldjaa
open Go.ChangeShapes Go.WideShapes Go.ChangeAt Go.RowKit
set_option linter.unusedVariables false
/-- Whether all of so many places are on pages with p. -/
def mayB (s : MS) (a n : Nat) (p : Int) : Bool := (List.range n).all fun j => bits .and .i64 (s.perm (wrapAt a j)) p != 0
theorem mayB_no {s : MS} {a n j : Nat} {p : Int} (hj : j < n) (h : bits .and .i64 (s.perm (wrapAt a j)) p = 0) : mayB s a n p = false := by
  cases hm : mayB s a n p with
  | false => rfl
  | true =>
    have := List.all_eq_true.1 hm j (List.mem_range.2 hj)
    rw [h] at this
    exact absurd this (by decide)
theorem mayB_yes {s : MS} {a n : Nat} {p : Int} (h : ∀ j, j < n → bits .and .i64 (s.perm (wrapAt a j)) p ≠ 0) : mayB s a n p = true := List.all_eq_true.2 fun j hj => bne_iff_ne.2 (h j (List.mem_range.1 hj))
theorem perm_page (s : MS) {a b : Nat} (h : pageOf a = pageOf b) : s.perm a = s.perm b := by unfold MS.perm; rw [h]
theorem exec_andI {ρ : Operand → Value} {o : Oper} {x y : Operand} {a b : Int} (hop : o.op = .binOp .and 3 x y 3) (hx : ρ x = .int .i64 a) (hy : ρ y = .int .i64 b) (w : World) : (execOp ρ o).run Try.prog w = .ok (.value (.int .i64 (bits .and .i64 a b))) w := by
  unfold execOp
  rw [hop]
  simp [hx, hy, go_sem]
theorem wpList_andI {ops : Array Oper} {rest : List Oper} {o : Oper} {a : Act} {w : World} {Q : Exit → Act → World → Prop} (hgd : o.guard = none) (x y : Operand) (ho : o.op = .binOp .and 3 x y 3) (m p z : Int) (hx : a.eval x = .int .i64 m) (hy : a.eval y = .int .i64 p) (hz : bits .and .i64 m p = z)
    (h : wpList Try.prog ops Q rest (a.put o.dst (.int .i64 z)) w) : wpList Try.prog ops Q (o :: rest) a w := by
  subst hz
  exact Great.wpList_runTo hgd o.dst rfl (.int .i64 (bits .and .i64 m p)) w (exec_andI ho hx hy w) h
set_option maxRecDepth 20000 in
set_option maxHeartbeats 400000 in
theorem may_any (w : World) (s : MS) (a n : Nat) (p : Int) (h : MemW w s) (ha : a < 4294967296) (hn : n ≤ 16384) : Calls Try.prog 78 #[.pointer (some ⟨s.mb, 0, none⟩), .int .u32 (a : Int), .int .u32 (n : Int), .int .i64 p] w fun e w' => e = .returned (.bool (mayB s a n p)) ∧ ∃ k, w' = w.drewN k := by
  obtain ⟨mb, hmb⟩ : ∃ mb, s.mb = mb := ⟨_, rfl⟩
  have HP : Hid (∀ (k : Nat) (b : Nat), b < 4294967296 → Calls Try.prog 25 #[.pointer (some ⟨mb, 0, none⟩), .int .u32 (b : Int)] (w.drewN k) fun e w' => e = .returned (.int .i64 (s.perm b)) ∧ ∃ m, w' = w.drewN m) := hidden (fun k b hb => by
    have h2 := permOf_any (w.drewN k) s b (h.later (below_drewN (Below.refl _ _) k)) hb
    rw [hmb] at h2
    refine h2.mono ?_
    rintro e w' ⟨he, m, hm⟩
    exact ⟨he, k + m, by rw [hm, World.drewN_drewN]⟩)
  rw [hmb]
  clear h hmb
  go_enter Try.func78, Try.ntmps78
  go_wp2
  go_loopw [9] (fun x9 wr => ∃ (k : Nat) (m : Nat), k ≤ 16640 ∧ x9 = .int .u32 (k : Int) ∧ wr = w.drewN m ∧ ∀ j, j < k → j < n → bits .and .i64 (s.perm (wrapAt a j)) p ≠ 0) (fun x9 _ => 16640 - (intOf x9).toNat)
  case atStart => exact ⟨0, 0, by omega, rfl, (World.drewN_zero w).symm, fun j hj => by omega⟩
  case round =>
    obtain ⟨k, m, hk, rfl, rfl, hall⟩ := hrel
    have HALL := hidden hall
    clear hall
    by_cases hlt : k < n
    · have hl : (k : Int) < (n : Int) := by omega
      obtain ⟨b, hb⟩ : ∃ b : Nat, ((a : Int) + (k : Int)) % 4294967296 = (b : Int) := ⟨(a + k) % 4294967296, by omega⟩
      have HB : Hid (wrapAt a k = b) := hidden (by unfold wrapAt; omega)
      have HPC := hidden (HP.out m b (by omega))
      obtain ⟨z, hz⟩ : ∃ z, bits .and .i64 (s.perm b) p = z := ⟨_, rfl⟩
      have HZ := hidden hz
      clear hz
      by_cases hz0 : z = 0
      · have e0 : (z == 0) = true := beq_iff_eq.2 hz0
        have HN : Hid (mayB s a n p = false) := hidden (mayB_no hlt (by rw [HB.out, HZ.out, hz0]))
        clear hz0
        go_wp2_with (first
          | (go_at_call 25; refine HPC.out.mono ?_; rintro e w2 ⟨rfl, m2, hww⟩; have HM := hidden hww; clear hww)
          | (refine wpList_andI rfl _ _ rfl (s.perm b) p z rfl rfl HZ.out ?_))
        go_ret
        exact ⟨by rw [HN.out]; rfl, m2, HM.out⟩
      · have e0 : (z == 0) = false := beq_eq_false_iff_ne.2 hz0
        obtain ⟨k2, hk2⟩ : ∃ k2 : Nat, (k : Int) + (256 - (b : Int) % 256) = (k2 : Int) := ⟨k + (256 - b % 256), by omega⟩
        have HN : Hid (∀ j, j < k2 → j < n → bits .and .i64 (s.perm (wrapAt a j)) p ≠ 0) := hidden (fun j hj hjn => by
          by_cases hjk : j < k
          · exact HALL.out j hjk hjn
          · have e := HB.out
            rw [perm_page s (show pageOf (wrapAt a j) = pageOf b by unfold wrapAt at e; unfold pageOf wrapAt; omega), HZ.out]
            exact hz0)
        have HK : Hid (k2 ≤ 16640 ∧ k < k2) := hidden (by omega)
        clear hz0
        go_wp2_with (first
          | (go_at_call 25; refine HPC.out.mono ?_; rintro e w2 ⟨rfl, m2, hww⟩; have HM := hidden hww; clear hww)
          | (refine wpList_andI rfl _ _ rfl (s.perm b) p z rfl rfl HZ.out ?_))
        go_roundw
        case rel => first | exact ⟨k2, m2, HK.out.1, by first | rfl | (simp; done) | (simp; omega), HM.out, HN.out⟩ | ((repeat apply Exists.intro); exact ⟨⟨k2, m2, HK.out.1, by first | rfl | (simp; done) | (simp; omega), HM.out, HN.out⟩, rfl⟩)
        case measure => have := HK.out; simp [intOf]; omega
    · have hl : ¬ (k : Int) < (n : Int) := by omega
      have HN : Hid (mayB s a n p = true) := hidden (mayB_yes fun j hj => HALL.out j (by omega) hj)
      go_wp2
      go_ret
      exact ⟨by rw [HN.out]; rfl, m, rfl⟩
end Go.Proofs.Ytodoenimlhldjaa
