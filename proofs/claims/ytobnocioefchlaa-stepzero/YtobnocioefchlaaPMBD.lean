/- Chapter 11's smaller calls, walked: On, Target, the kind of a trap, a stop, a task. -/
import Derived.Test.YtobnocioefchlaaPMBB
import Derived.Test.YtobnocioefchlaaPMBC
import Derived.Deep.CutBlock
import Derived.Test.YtobnocioefchlaaPMAX
import Derived.Test.YtobnocioefchlaaPMAT
import Derived.Great.Walk
import Derived.Test.YtobnocioefchlaaPMAM
import Derived.Test.YtobnocioefchlaaPMAQ
import Derived.Test.YtobnocioefchlaaPMAU
namespace Go.Proofs.Ytobnocioefchlaa
open Go.ChangeShapes Go.WideShapes Go.ChangeAt Go.RowKit
set_option linter.unusedVariables false
theorem sizeU1 : (Try.prog.info? 23).map (·.size) = some 1 := by kernel_rfl
theorem sizeB1 : (Try.prog.info? 4).map (·.size) = some 1 := by kernel_rfl
theorem SV.set0 {v : SV} (h : v.R.length = 32) : v.c.setIfInBounds 0 (.int .u32 0) = SV.c { v with R := v.R.set 0 0 } := SV.setR h (by omega) 0
/-- A register's place. -/
theorem index_reg (g k : Nat) (hk : k < 32) (u : World) : (Instr.indexAt 24 (.pointer (some ⟨g, 0, none⟩)) (.int .i64 (k : Int))).run Try.prog u = .ok (.pointer (some ⟨g, k, none⟩)) u := by
  have h1 : (k : Int) < ((32 : Nat) : Int) := by omega
  have hz : (sizeOf (Try.prog.elem 24)).run Try.prog u = .ok 1 u := by kernel_rfl
  have ha : Try.prog.arrayLen 24 = 32 := by kernel_rfl
  simp [Instr.indexAt, Sem.run_bind, run_underlying Try.underlying24, asIntOf, hk, go_sem, Addr.add]
  try (intro e; exact e.symm)
theorem wpList_setR {ops : Array Oper} {rest : List Oper} {o : Oper} {a : Act} {w : World} {Q : Exit → Act → World → Prop} (hgd : o.guard = none) (hd : o.dst = none) (x y : Operand) (ho : o.op = .store 23 x y)
    (g k : Nat) (v : SV) (z : Int) (hx : a.eval x = .pointer (some ⟨g, k, none⟩)) (hy : a.eval y = .int .u32 z) (hg : Blk w g v.c 26) (hv : v.R.length = 32) (hk : k < 32)
    (h : ∀ w1, Blk w1 g (SV.c { v with R := v.R.set k z }) 26 → Only g w w1 → wpList Try.prog ops Q rest a w1) : wpList Try.prog ops Q (o :: rest) a w :=
  wpList_storeC hgd hd 23 x y ho g k v.c 26 (.int .u32 z) hx hy rfl sizeU1 hg (by rw [SV.size hv]; omega) (fun w1 k1 o1 => h w1 (by rw [SV.setR hv hk] at k1; exact k1) o1)
theorem wpList_set_hi {ops : Array Oper} {rest : List Oper} {o : Oper} {a : Act} {w : World} {Q : Exit → Act → World → Prop} (hgd : o.guard = none) (hd : o.dst = none) (x y : Operand) (ho : o.op = .store 23 x y)
    (g : Nat) (v : SV) (z : Int) (hx : a.eval x = .pointer (some ⟨g, 32, none⟩)) (hy : a.eval y = .int .u32 z) (hg : Blk w g v.c 26) (hv : v.R.length = 32)
    (h : ∀ w1, Blk w1 g (SV.c { v with hi := z }) 26 → Only g w w1 → wpList Try.prog ops Q rest a w1) : wpList Try.prog ops Q (o :: rest) a w :=
  wpList_storeC hgd hd 23 x y ho g 32 v.c 26 (.int .u32 z) hx hy rfl sizeU1 hg (by rw [SV.size hv]; omega) (fun w1 k1 o1 => h w1 (by rw [SV.set_hi hv] at k1; exact k1) o1)
theorem wpList_set_lo {ops : Array Oper} {rest : List Oper} {o : Oper} {a : Act} {w : World} {Q : Exit → Act → World → Prop} (hgd : o.guard = none) (hd : o.dst = none) (x y : Operand) (ho : o.op = .store 23 x y)
    (g : Nat) (v : SV) (z : Int) (hx : a.eval x = .pointer (some ⟨g, 33, none⟩)) (hy : a.eval y = .int .u32 z) (hg : Blk w g v.c 26) (hv : v.R.length = 32)
    (h : ∀ w1, Blk w1 g (SV.c { v with lo := z }) 26 → Only g w w1 → wpList Try.prog ops Q rest a w1) : wpList Try.prog ops Q (o :: rest) a w :=
  wpList_storeC hgd hd 23 x y ho g 33 v.c 26 (.int .u32 z) hx hy rfl sizeU1 hg (by rw [SV.size hv]; omega) (fun w1 k1 o1 => h w1 (by rw [SV.set_lo hv] at k1; exact k1) o1)
theorem wpList_set_pc {ops : Array Oper} {rest : List Oper} {o : Oper} {a : Act} {w : World} {Q : Exit → Act → World → Prop} (hgd : o.guard = none) (hd : o.dst = none) (x y : Operand) (ho : o.op = .store 23 x y)
    (g : Nat) (v : SV) (z : Int) (hx : a.eval x = .pointer (some ⟨g, 34, none⟩)) (hy : a.eval y = .int .u32 z) (hg : Blk w g v.c 26) (hv : v.R.length = 32)
    (h : ∀ w1, Blk w1 g (SV.c { v with pc := z }) 26 → Only g w w1 → wpList Try.prog ops Q rest a w1) : wpList Try.prog ops Q (o :: rest) a w :=
  wpList_storeC hgd hd 23 x y ho g 34 v.c 26 (.int .u32 z) hx hy rfl sizeU1 hg (by rw [SV.size hv]; omega) (fun w1 k1 o1 => h w1 (by rw [SV.set_pc hv] at k1; exact k1) o1)
theorem wpList_set_nx {ops : Array Oper} {rest : List Oper} {o : Oper} {a : Act} {w : World} {Q : Exit → Act → World → Prop} (hgd : o.guard = none) (hd : o.dst = none) (x y : Operand) (ho : o.op = .store 23 x y)
    (g : Nat) (v : SV) (z : Int) (hx : a.eval x = .pointer (some ⟨g, 35, none⟩)) (hy : a.eval y = .int .u32 z) (hg : Blk w g v.c 26) (hv : v.R.length = 32)
    (h : ∀ w1, Blk w1 g (SV.c { v with nx := z }) 26 → Only g w w1 → wpList Try.prog ops Q rest a w1) : wpList Try.prog ops Q (o :: rest) a w :=
  wpList_storeC hgd hd 23 x y ho g 35 v.c 26 (.int .u32 z) hx hy rfl sizeU1 hg (by rw [SV.size hv]; omega) (fun w1 k1 o1 => h w1 (by rw [SV.set_nx hv] at k1; exact k1) o1)
theorem wpList_set_sl {ops : Array Oper} {rest : List Oper} {o : Oper} {a : Act} {w : World} {Q : Exit → Act → World → Prop} (hgd : o.guard = none) (hd : o.dst = none) (x y : Operand) (ho : o.op = .store 4 x y)
    (g : Nat) (v : SV) (z : Bool) (hx : a.eval x = .pointer (some ⟨g, 36, none⟩)) (hy : a.eval y = .bool z) (hg : Blk w g v.c 26) (hv : v.R.length = 32)
    (h : ∀ w1, Blk w1 g (SV.c { v with sl := z }) 26 → Only g w w1 → wpList Try.prog ops Q rest a w1) : wpList Try.prog ops Q (o :: rest) a w :=
  wpList_storeC hgd hd 4 x y ho g 36 v.c 26 (.bool z) hx hy rfl sizeB1 hg (by rw [SV.size hv]; omega) (fun w1 k1 o1 => h w1 (by rw [SV.set_sl hv] at k1; exact k1) o1)
theorem SV.ok_set {v : SV} (h : v.ok) (k : Nat) (z : Int) (h0 : 0 ≤ z) (h1 : z < 4294967296) : SV.ok { v with R := v.R.set k z } := by
  refine ⟨by simpa using h.1, fun j hj => ?_, h.2.2⟩
  show 0 ≤ (v.R.set k z).getD j 0 ∧ (v.R.set k z).getD j 0 < 4294967296
  rw [List.getD_eq_getElem?_getD, List.getElem?_set]
  have hl := h.1
  by_cases e : k = j
  · rw [if_pos e]
    split
    · exact ⟨h0, h1⟩
    · omega
  · rw [if_neg e, ← List.getD_eq_getElem?_getD]
    exact h.2.1 j hj
theorem SV.ok_on {v : SV} (h : v.ok) : v.on.ok := by
  have h2 := SV.ok_set h 0 0 (by omega) (by omega)
  exact ⟨h2.1, h2.2.1, h.2.2.1, h.2.2.2.1, h.2.2.2.2.2, by show 0 ≤ (v.nx + 4) % 4294967296 ∧ (v.nx + 4) % 4294967296 < 4294967296; omega⟩
set_option maxRecDepth 20000 in
set_option maxHeartbeats 1000000 in
theorem on_any (v : SV) (hv : v.R.length = 32) (w : World) : Calls Try.prog 47 #[.agg v.c] w fun e w' => e = .returned (.agg v.on.c) ∧ Below w.heap.size w w' := by
  obtain ⟨n, hn⟩ : ∃ n, w.heap.size = n := ⟨_, rfl⟩
  have HV := hidden hv
  have hix : ∀ u, (Instr.indexAt 24 (.pointer (some ⟨n, 0, none⟩)) (.int .i64 0)).run Try.prog u = .ok (.pointer (some ⟨n, 0, none⟩)) u := fun u => index_reg n 0 (by omega) u
  obtain ⟨C, hC⟩ : ∃ C, v.c = C := ⟨_, rfl⟩
  rw [hC]
  have HC := hidden hC
  clear hC hv
  go_enter Try.func47, Try.ntmps47
  go_wp2_with (first
    | (refine wpList_boxG rfl 26 _ rfl C rfl ?_; rintro w1 k1 s1 b1; rw [hn] at k1 s1 b1 ⊢; have K1 : Hid (Blk w1 n v.c 26) := hidden (by rw [HC.out]; exact k1); have S1 := hidden s1; have B1 := hidden b1; clear k1 s1 b1)
    | (refine wpList_allocV rfl rfl ?_; rintro w2 k2 s2 b2; rw [S1.out] at k2 s2 b2 ⊢; have K2 := hidden (K1.out.later (by rw [S1.out]; exact b2)); have R2 := hidden k2; have B2 := hidden (B1.out.trans (b2.mono (by omega))); clear k2 s2 b2)
    | (refine wpList_setR rfl rfl _ _ rfl n 0 v 0 rfl rfl K2.out HV.out (by omega) ?_; rintro w3 k3 o3; have K3 := hidden k3; have R3 := hidden (R2.out.only o3 (by omega)); have B3 := hidden (Below.only B2.out o3 (Nat.le_refl n)); have L3 : Hid ((v.R.set 0 0).length = 32) := hidden (by rw [List.length_set]; exact HV.out); have c3 : w3.cell? ⟨n, 35, none⟩ = some (.int .u32 v.nx) := k3.cell (SV.get_nx (s := { v with R := v.R.set 0 0 }) L3.out); clear k3 o3)
    | (refine wpList_set_pc rfl rfl _ _ rfl n { v with R := v.R.set 0 0 } v.nx rfl rfl K3.out L3.out ?_; rintro w4 k4 o4; have K4 := hidden k4; have R4 := hidden (R3.out.only o4 (by omega)); have B4 := hidden (Below.only B3.out o4 (Nat.le_refl n)); clear k4 o4 c3)
    | (refine wpList_set_nx rfl rfl _ _ rfl n { v with R := v.R.set 0 0, pc := v.nx } ((v.nx + 4) % 4294967296) rfl rfl K4.out L3.out ?_; rintro w5 k5 o5; have K5 := hidden k5; have R5 := hidden (R4.out.only o5 (by omega)); have B5 := hidden (Below.only B4.out o5 (Nat.le_refl n)); clear k5 o5)
    | (refine wpList_set_sl rfl rfl _ _ rfl n { v with R := v.R.set 0 0, pc := v.nx, nx := (v.nx + 4) % 4294967296 } false rfl rfl K5.out L3.out ?_; rintro w6 k6 o6; have K6 := hidden k6; have R6 := hidden (R5.out.only o6 (by omega)); have B6 := hidden (Below.only B5.out o6 (Nat.le_refl n)); clear k6 o6)
    | (refine wpList_loadV rfl _ rfl n v.on rfl K6.out L3.out ?_)
    | (refine wpList_storeV rfl rfl _ _ rfl (n + 1) SV.zero v.on rfl rfl R6.out rfl L3.out ?_; rintro w7 k7 o7; have K7 := hidden k7; have B7 := hidden (Below.only B6.out o7 (by omega)); clear k7 o7))
  exact bodyPost_ret (results_cell_row rfl _ _ (n + 1) 26 v.on.c (0, 0) _ rfl K7.out Try.underlying26 rfl (by rw [SV.size L3.out]; exact sizeSV)) rfl ⟨rfl, (by first | exact B7.out | (rw [hn]; exact B7.out))⟩
end Go.Proofs.Ytobnocioefchlaa
namespace Go.Proofs.Ytobnocioefchlaa
open Go.ChangeShapes Go.WideShapes Go.ChangeAt Go.RowKit
set_option linter.unusedVariables false
theorem fieldO_any (v : Nat) (hv : v < 4294967296) (u : World) : Calls Try.prog 89 #[.int .u32 (v : Int), .int .i64 26, .int .i64 6] u fun e w' => e = .returned (.int .u32 (fO v : Int)) ∧ w' = u := by
  have h := field_any (v : Int) 26 6 (by omega) (by omega) u
  have e : field32 (v : Int) 26 6 = (fO v : Int) := by
    rw [show ((26 : Int)) = ((26 : Nat) : Int) from rfl, show ((6 : Int)) = ((6 : Nat) : Int) from rfl, field_nat v 26 6 (by omega) (by omega)]
    unfold fO
    rw [show (2 : Nat) ^ 26 = 67108864 by decide, show (2 : Nat) ^ 6 = 64 by decide]
    omega
  rw [e] at h
  exact h
theorem fieldF_any (v : Nat) (hv : v < 4294967296) (u : World) : Calls Try.prog 89 #[.int .u32 (v : Int), .int .i64 0, .int .i64 6] u fun e w' => e = .returned (.int .u32 (fF v : Int)) ∧ w' = u := by
  have h := field_any (v : Int) 0 6 (by omega) (by omega) u
  have e : field32 (v : Int) 0 6 = (fF v : Int) := by
    rw [show ((0 : Int)) = ((0 : Nat) : Int) from rfl, show ((6 : Int)) = ((6 : Nat) : Int) from rfl, field_nat v 0 6 (by omega) (by omega)]
    unfold fF
    rw [show (2 : Nat) ^ 0 = 1 by decide, show (2 : Nat) ^ 6 = 64 by decide, Nat.div_one]
  rw [e] at h
  exact h
theorem fieldT_any (v : Nat) (hv : v < 4294967296) (u : World) : Calls Try.prog 89 #[.int .u32 (v : Int), .int .i64 16, .int .i64 5] u fun e w' => e = .returned (.int .u32 (fT v : Int)) ∧ w' = u := by
  have h := field_any (v : Int) 16 5 (by omega) (by omega) u
  have e : field32 (v : Int) 16 5 = (fT v : Int) := by
    rw [show ((16 : Int)) = ((16 : Nat) : Int) from rfl, show ((5 : Int)) = ((5 : Nat) : Int) from rfl, field_nat v 16 5 (by omega) (by omega)]
    unfold fT
    rw [show (2 : Nat) ^ 16 = 65536 by decide, show (2 : Nat) ^ 5 = 32 by decide]
  rw [e] at h
  exact h
theorem beq_nat_int (a b : Nat) : (((a : Nat) : Int) == ((b : Nat) : Int)) = decide (a = b) := by
  by_cases h : a = b
  · subst h; simp
  · rw [decide_eq_false h]
    exact beq_eq_false_iff_ne.2 (fun e => h (by omega))
set_option maxRecDepth 20000 in
theorem ownNumber_any (v : Nat) (hv : v < 4294967296) (w : World) : Calls Try.prog 65 #[.int .u32 (v : Int)] w fun e w' => e = .returned (.int .u32 (ownN v : Int)) ∧ w' = w := by
  have HO := hidden (fun u => fieldO_any v hv u)
  have HF := hidden (fun u => fieldF_any v hv u)
  have HT := hidden (fun u => fieldT_any v hv u)
  unfold ownN
  obtain ⟨o, ho⟩ : ∃ o, fO v = o := ⟨_, rfl⟩
  obtain ⟨f, hf⟩ : ∃ f, fF v = f := ⟨_, rfl⟩
  obtain ⟨t, ht⟩ : ∃ t, fT v = t := ⟨_, rfl⟩
  rw [ho] at HO
  rw [hf] at HF
  rw [ht] at HT
  rw [ho, hf, ht]
  clear ho hf ht
  have e0 := beq_nat_int o 0
  have e28 := beq_nat_int o 28
  have e1 := beq_nat_int o 1
  by_cases h0 : o = 0
  · rw [decide_eq_true h0] at e0
    rw [if_pos (Or.inl h0)]
    clear e28 e1
    go_enter Try.func65, Try.ntmps65
    go_wp2_with (first | (go_at_call 89; refine (HO.out _).mono ?_; rintro e w1 ⟨rfl, hww⟩; rw [hww]; clear hww w1 HO) | (go_at_call 89; refine (HF.out _).mono ?_; rintro e w1 ⟨rfl, hww⟩; rw [hww]; clear hww w1))
    go_ret
    exact ⟨rfl, rfl⟩
  · rw [decide_eq_false h0] at e0
    by_cases h28 : o = 28
    · rw [decide_eq_true h28] at e28
      rw [if_pos (Or.inr h28)]
      clear e1
      go_enter Try.func65, Try.ntmps65
      go_wp2_with (first | (go_at_call 89; refine (HO.out _).mono ?_; rintro e w1 ⟨rfl, hww⟩; rw [hww]; clear hww w1 HO) | (go_at_call 89; refine (HF.out _).mono ?_; rintro e w1 ⟨rfl, hww⟩; rw [hww]; clear hww w1))
      go_ret
      exact ⟨rfl, rfl⟩
    · rw [decide_eq_false h28] at e28
      rw [if_neg (by omega)]
      by_cases h1 : o = 1
      · rw [decide_eq_true h1] at e1
        rw [if_pos h1]
        go_enter Try.func65, Try.ntmps65
        go_wp2_with (first | (go_at_call 89; refine (HO.out _).mono ?_; rintro e w1 ⟨rfl, hww⟩; rw [hww]; clear hww w1 HO) | (go_at_call 89; refine (HT.out _).mono ?_; rintro e w1 ⟨rfl, hww⟩; rw [hww]; clear hww w1))
        go_ret
        exact ⟨rfl, rfl⟩
      · rw [decide_eq_false h1] at e1
        rw [if_neg h1]
        go_enter Try.func65, Try.ntmps65
        go_wp2_with (first | (go_at_call 89; refine (HO.out _).mono ?_; rintro e w1 ⟨rfl, hww⟩; rw [hww]; clear hww w1 HO))
        go_ret
        exact ⟨rfl, rfl⟩
theorem register_any (x at_ : Int) (h1 : 0 ≤ x) (h2 : x < 4294967296) (w : World) : Calls Try.prog 68 #[.int .u32 x, .int .i64 at_] w fun e w' => e = .returned (.int .i64 (field32 x at_ 5)) ∧ w' = w := by
  have HF := hidden (fun u => field_any x at_ 5 h1 h2 u)
  have hr := field32_range x at_ 5
  obtain ⟨y, hy⟩ : ∃ y, field32 x at_ 5 = y := ⟨_, rfl⟩
  rw [hy] at HF hr ⊢
  clear hy
  go_enter Try.func68, Try.ntmps68
  go_wp2_with (first | (go_at_call 89; refine (HF.out _).mono ?_; rintro e w1 ⟨rfl, hww⟩; rw [hww]; clear hww w1))
  go_ret
  exact ⟨ret_int (by omega), rfl⟩
end Go.Proofs.Ytobnocioefchlaa
namespace Go.Proofs.Ytobnocioefchlaa
open Go.ChangeShapes Go.WideShapes Go.ChangeAt Go.RowKit
set_option linter.unusedVariables false
theorem ntake_any (s : Sh) (v : Nat) (hv : v < 4294967296) (hs : 0 ≤ s.nsh) (w : World) : Calls Try.prog 69 #[.agg (numC s), .int .u32 (v : Int)] w fun e w' => e = .returned (.int .u32 (immI s v)) ∧ Below w.heap.size w w' := by
  obtain ⟨opc, rowAt, regs, a, b, g, h, same⟩ := s
  show Calls Try.prog 69 #[.agg (numV a b g h), .int .u32 (v : Int)] w _
  have hs : 0 ≤ h := hs
  have hB := hidden (below_new w (.cells (numV a b g h) 95))
  have HF := hidden (fun u => field_any (v : Int) a b (by omega) (by omega) u)
  have hr := field32_range (v : Int) a b (by omega) (by omega)
  unfold immI
  show Calls _ _ _ _ fun e w' => e = .returned (.int .u32 ((if g = true then sext32 (field32 (v : Int) a b) b else field32 (v : Int) a b) * 2 ^ min h.toNat 32 % 4294967296)) ∧ Below w.heap.size w w'
  obtain ⟨y, hy⟩ : ∃ y, field32 (v : Int) a b = y := ⟨_, rfl⟩
  rw [hy] at HF hr ⊢
  clear hy
  cases g with
  | false =>
    rw [if_neg (by decide)]
    go_enter Try.func69, Try.ntmps69
    go_wp2_with (first | (go_at_call 89; refine (HF.out _).mono ?_; rintro e w1 ⟨rfl, hww⟩; rw [hww]; clear hww w1))
    go_ret
    exact ⟨rfl, hB.out⟩
  | true =>
    have HX := hidden (fun u => sext_any y b hr.1 hr.2 u)
    rw [if_pos rfl]
    obtain ⟨z, hz⟩ : ∃ z, sext32 y b = z := ⟨_, rfl⟩
    rw [hz] at HX ⊢
    clear hz
    go_enter Try.func69, Try.ntmps69
    go_wp2_with (first | (go_at_call 89; refine (HF.out _).mono ?_; rintro e w1 ⟨rfl, hww⟩; rw [hww]; clear hww w1) | (go_at_call 92; refine (HX.out _).mono ?_; rintro e w1 ⟨rfl, hww⟩; rw [hww]; clear hww w1))
    go_ret
    exact ⟨rfl, hB.out⟩
theorem registerB_any (x at_ : Int) (h1 : 0 ≤ x) (h2 : x < 4294967296) (w : World) : Calls Try.prog 68 #[.int .u32 x, .int .i64 at_] w fun e w' => e = .returned (.int .i64 (field32 x at_ 5)) ∧ Below w.heap.size w w' :=
  (register_any x at_ h1 h2 w).mono fun e w' ⟨he, hw⟩ => ⟨he, by rw [hw]; exact Below.refl _ _⟩
theorem buildIns (S T D A m : Int) (w : World) : (Instr.build 62 #[(1, .int .i64 S), (2, .int .i64 T), (3, .int .i64 D), (4, .int .i64 A), (5, .int .u32 m)]).run Try.prog w = .ok (.agg (insC 0 S T D A m)) w := by kernel_rfl
/-- What the slots of the region hold, whatever the order. -/
def phiTk (qb : Nat) (s : Sh) (v : Nat) (h : Int) : Nat → Value → World → Prop
  | 0, x, _ => x = .int .u32 h
  | 1, x, _ => x = .int .i64 (field32 h 21 5)
  | 2, x, _ => x = .int .u32 h
  | 3, x, _ => x = .int .i64 (field32 h 16 5)
  | 4, x, _ => x = .int .u32 h
  | 5, x, _ => x = .int .i64 (field32 h 11 5)
  | 6, x, _ => x = .int .u32 h
  | 7, x, _ => x = .int .i64 (field32 h 6 5)
  | 8, x, _ => x = .pointer (some ⟨qb, 3, none⟩)
  | 9, x, _ => x = .agg (numC s)
  | 10, x, _ => x = .int .u32 (v : Int)
  | 11, x, _ => x = .int .u32 (immI s v)
  | 12, x, _ => x = .agg (insC 0 (field32 h 21 5) (field32 h 16 5) (field32 h 11 5) (field32 h 6 5) (immI s v))
  | _ + 13, _, _ => True
theorem phiTk_mono (qb : Nat) (s : Sh) (v : Nat) (h : Int) : ∀ i x w w', phiTk qb s v h i x w → Below w.heap.size w w' → phiTk qb s v h i x w'
  | 0, _, _, _, h, _ => h
  | 1, _, _, _, h, _ => h
  | 2, _, _, _, h, _ => h
  | 3, _, _, _, h, _ => h
  | 4, _, _, _, h, _ => h
  | 5, _, _, _, h, _ => h
  | 6, _, _, _, h, _ => h
  | 7, _, _, _, h, _ => h
  | 8, _, _, _, h, _ => h
  | 9, _, _, _, h, _ => h
  | 10, _, _, _, h, _ => h
  | 11, _, _, _, h, _ => h
  | 12, _, _, _, h, _ => h
  | _ + 13, _, _, _, _, _ => trivial
theorem insT_any (s : Sh) (v : Nat) (hv : v < 4294967296) (hn : 0 ≤ s.nsh) (h : Int) (hh : bits .and .u32 (v : Int) s.regs = h) (h1 : 0 ≤ h) (h2 : h < 4294967296) (w : World) : Calls Try.prog 42 #[.agg (shC s), .int .u32 (v : Int)] w fun e w' => e = .returned (.agg (insC 0 (field32 h 21 5) (field32 h 16 5) (field32 h 11 5) (field32 h 6 5) (immI s v))) ∧ Below w.heap.size w w' := by
  obtain ⟨qn, hqn⟩ : ∃ qn, w.heap.size = qn := ⟨_, rfl⟩
  obtain ⟨wa, hwa⟩ : ∃ wa, w.alloc (.cells (shC s) 97) = wa := ⟨_, rfl⟩
  have hQa : Blk wa qn (shC s) 97 := by rw [← hwa, ← hqn]; exact Blk.new w _ _
  have hBa : Below qn w wa := by rw [← hwa, ← hqn]; exact below_new w _
  have hsa : wa.heap.size = qn + 1 := by rw [← hwa, ← hqn]; simp
  obtain ⟨wb, hwb⟩ : ∃ wb, wa.alloc (.cells #[.int .i64 0, .int .i64 0, .int .i64 0, .int .i64 0, .int .i64 0, .int .u32 0] 62) = wb := ⟨_, rfl⟩
  have hIb : Blk wb (qn + 1) (insC 0 0 0 0 0 0) 62 := by rw [← hwb, ← hsa]; exact Blk.new wa _ _
  have hQb : Blk wb qn (shC s) 97 := by rw [← hwb]; exact hQa.later (below_new wa _)
  have hBb : Below qn w wb := by rw [← hwb]; exact hBa.trans ((below_new wa _).mono (by omega))
  have hc2 : wb.cell? ⟨qn, 2, none⟩ = some (.int .u32 s.regs) := hQb.cell (j := 2) rfl
  have HQ := hidden hQb
  have HI := hidden hIb
  have HB := hidden hBb
  clear hQa hBa hQb hIb hBb
  go_enter Try.func42, Try.ntmps42
  go_upto_region 2 with fail
  refine wp_region_head later_below 13 [10, 11, 12, 13, 14, 15, 16, 17, 18, 19, 20, 21, 22] (phiTk qn s v h) (by kernel_rfl) (by kernel_rfl) rfl (phiTk_mono qn s v h) ?_ ?_
  · intro j hj xs w3 hxs hR hpre
    obtain ⟨x0, x1, x2, x3, x4, x5, x6, x7, x8, x9, x10, x11, x12, rfl⟩ := list13 xs hxs
    have hQ : Blk w3 qn (shC s) 97 := HQ.out.later hR
    rcases (show j = 0 ∨ j = 1 ∨ j = 2 ∨ j = 3 ∨ j = 4 ∨ j = 5 ∨ j = 6 ∨ j = 7 ∨ j = 8 ∨ j = 9 ∨ j = 10 ∨ j = 11 ∨ j = 12 by omega) with rfl | rfl | rfl | rfl | rfl | rfl | rfl | rfl | rfl | rfl | rfl | rfl | rfl
    · exact wpOp_run (.int .u32 h) rfl (by kernel_rfl) (exec_move rfl (by kernel_rfl) w3) ⟨_, by kernel_rfl, rfl, Below.refl _ _⟩
    · have e0 : x0 = .int .u32 h := hpre 0 (by kernel_rfl)
      subst e0
      refine wpOp_callR (R := fun u w4 => u = .int .i64 (field32 h 21 5) ∧ Below w3.heap.size w3 w4) 68 #[.int .u32 h, .int .i64 21] rfl (by kernel_rfl) (by kernel_rfl) ((registerB_any h 21 h1 h2 w3).mono fun e w4 ⟨he, hb⟩ => ⟨_, he, rfl, hb⟩) ?_
      rintro _ w4 ⟨rfl, hb⟩
      exact ⟨_, by kernel_rfl, rfl, hb⟩
    · exact wpOp_run (.int .u32 h) rfl (by kernel_rfl) (exec_move rfl (by kernel_rfl) w3) ⟨_, by kernel_rfl, rfl, Below.refl _ _⟩
    · have e2 : x2 = .int .u32 h := hpre 2 (by kernel_rfl)
      subst e2
      refine wpOp_callR (R := fun u w4 => u = .int .i64 (field32 h 16 5) ∧ Below w3.heap.size w3 w4) 68 #[.int .u32 h, .int .i64 16] rfl (by kernel_rfl) (by kernel_rfl) ((registerB_any h 16 h1 h2 w3).mono fun e w4 ⟨he, hb⟩ => ⟨_, he, rfl, hb⟩) ?_
      rintro _ w4 ⟨rfl, hb⟩
      exact ⟨_, by kernel_rfl, rfl, hb⟩
    · exact wpOp_run (.int .u32 h) rfl (by kernel_rfl) (exec_move rfl (by kernel_rfl) w3) ⟨_, by kernel_rfl, rfl, Below.refl _ _⟩
    · have e4 : x4 = .int .u32 h := hpre 4 (by kernel_rfl)
      subst e4
      refine wpOp_callR (R := fun u w4 => u = .int .i64 (field32 h 11 5) ∧ Below w3.heap.size w3 w4) 68 #[.int .u32 h, .int .i64 11] rfl (by kernel_rfl) (by kernel_rfl) ((registerB_any h 11 h1 h2 w3).mono fun e w4 ⟨he, hb⟩ => ⟨_, he, rfl, hb⟩) ?_
      rintro _ w4 ⟨rfl, hb⟩
      exact ⟨_, by kernel_rfl, rfl, hb⟩
    · exact wpOp_run (.int .u32 h) rfl (by kernel_rfl) (exec_move rfl (by kernel_rfl) w3) ⟨_, by kernel_rfl, rfl, Below.refl _ _⟩
    · have e6 : x6 = .int .u32 h := hpre 6 (by kernel_rfl)
      subst e6
      refine wpOp_callR (R := fun u w4 => u = .int .i64 (field32 h 6 5) ∧ Below w3.heap.size w3 w4) 68 #[.int .u32 h, .int .i64 6] rfl (by kernel_rfl) (by kernel_rfl) ((registerB_any h 6 h1 h2 w3).mono fun e w4 ⟨he, hb⟩ => ⟨_, he, rfl, hb⟩) ?_
      rintro _ w4 ⟨rfl, hb⟩
      exact ⟨_, by kernel_rfl, rfl, hb⟩
    · exact wpOp_run (.pointer (some ⟨qn, 3, none⟩)) rfl (by kernel_rfl) (by kernel_rfl) ⟨_, by kernel_rfl, rfl, Below.refl _ _⟩
    · have e8 : x8 = .pointer (some ⟨qn, 3, none⟩) := hpre 8 (by kernel_rfl)
      subst e8
      exact wpOp_run (.agg (numC s)) rfl (by kernel_rfl) (exec_load 95 rfl (by kernel_rfl) w3 (loadNm hQ)) ⟨_, by kernel_rfl, rfl, Below.refl _ _⟩
    · exact wpOp_run (.int .u32 (v : Int)) rfl (by kernel_rfl) (exec_move rfl (by kernel_rfl) w3) ⟨_, by kernel_rfl, rfl, Below.refl _ _⟩
    · have e9 : x9 = .agg (numC s) := hpre 9 (by kernel_rfl)
      subst e9
      have e10 : x10 = .int .u32 (v : Int) := hpre 10 (by kernel_rfl)
      subst e10
      refine wpOp_callR (R := fun u w4 => u = .int .u32 (immI s v) ∧ Below w3.heap.size w3 w4) 69 #[.agg (numC s), .int .u32 (v : Int)] rfl (by kernel_rfl) (by kernel_rfl) ((ntake_any s v hv hn w3).mono fun e w4 ⟨he, hb⟩ => ⟨_, he, rfl, hb⟩) ?_
      rintro _ w4 ⟨rfl, hb⟩
      exact ⟨_, by kernel_rfl, rfl, hb⟩
    · have e1 : x1 = .int .i64 (field32 h 21 5) := hpre 1 (by kernel_rfl)
      subst e1
      have e3 : x3 = .int .i64 (field32 h 16 5) := hpre 3 (by kernel_rfl)
      subst e3
      have e5 : x5 = .int .i64 (field32 h 11 5) := hpre 5 (by kernel_rfl)
      subst e5
      have e7 : x7 = .int .i64 (field32 h 6 5) := hpre 7 (by kernel_rfl)
      subst e7
      have e11 : x11 = .int .u32 (immI s v) := hpre 11 (by kernel_rfl)
      subst e11
      exact wpOp_run (.agg (insC 0 (field32 h 21 5) (field32 h 16 5) (field32 h 11 5) (field32 h 6 5) (immI s v))) rfl (by kernel_rfl) (exec_build 62 rfl (by kernel_rfl) w3 (buildIns _ _ _ _ _ w3)) ⟨_, by kernel_rfl, rfl, Below.refl _ _⟩
  · intro xs w3 hxs hR hall
    obtain ⟨x0, x1, x2, x3, x4, x5, x6, x7, x8, x9, x10, x11, x12, rfl⟩ := list13 xs hxs
    have e12 : x12 = .agg (insC 0 (field32 h 21 5) (field32 h 16 5) (field32 h 11 5) (field32 h 6 5) (immI s v)) := hall 12 (by omega)
    subst e12
    have HR := hidden hR
    clear hall hR hxs
    simp only [slotsOn, putAll, List.set_cons_succ, List.set_cons_zero, List.drop_succ_cons, List.drop_zero]
    refine wpList_storeI rfl rfl (qn + 1) 0 (field32 h 21 5) (field32 h 16 5) (field32 h 11 5) (field32 h 6 5) (immI s v) 0 0 0 0 0 0 (by kernel_rfl) (by kernel_rfl) (HI.out.later HR.out) ?_
    rintro w5 hk5 hb5
    have HK5 := hidden hk5
    have HB5 := hidden (hb5 qn w (HB.out.trans (HR.out.mono (by have := HB.out.size; omega))) (by omega))
    clear hk5 hb5
    go_wp2
    exact bodyPost_ret (results_cell_row rfl _ _ (qn + 1) 62 (insC 0 (field32 h 21 5) (field32 h 16 5) (field32 h 11 5) (field32 h 6 5) (immI s v)) (0, 0) _ rfl HK5.out Try.underlying62 rfl size24) rfl ⟨rfl, by rw [hqn]; exact HB5.out⟩
/-- A row's fields of a word. -/
theorem takeForm_any {f : Nat} (hf : f < 18) (v : Nat) (hv : v < 4294967296) (w : World) : Calls Try.prog 42 #[.agg (shC (shOf (f : Int))), .int .u32 (v : Int)] w fun e w' => e = .returned (.agg (insT 0 (tkC (f : Int) v))) ∧ Below w.heap.size w w' := by
  have hsn : 0 ≤ (shOf (f : Int)).nsh := by
    have : ∀ f : Nat, f < 18 → decide (0 ≤ (shOf (f : Int)).nsh) = true := by decide
    exact of_decide_eq_true (this f hf)
  have hr0 : 0 ≤ (shOf (f : Int)).regs ∧ (shOf (f : Int)).regs < 4294967296 := by
    have : ∀ f : Nat, f < 18 → decide (0 ≤ (shOf (f : Int)).regs ∧ (shOf (f : Int)).regs < 4294967296) = true := by decide
    exact of_decide_eq_true (this f hf)
  have hrg := u32_and_range (v : Int) (shOf (f : Int)).regs (by omega) (by omega) hr0.1 hr0.2
  have hh := held_form hf v hv
  have hi := imm_form hf v
  unfold heldI at hh
  have h := insT_any (shOf (f : Int)) v hv hsn _ rfl hrg.1 hrg.2 w
  rw [hh.1, hh.2.1, hh.2.2.1, hh.2.2.2, hi] at h
  exact h
end Go.Proofs.Ytobnocioefchlaa
