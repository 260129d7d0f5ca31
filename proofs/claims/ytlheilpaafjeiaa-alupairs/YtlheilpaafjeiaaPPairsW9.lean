/- AluPairs, walked. -/
import Derived.Test.YtlheilpaafjeiaaPNumW9
import Derived.Test.YtlheilpaafjeiaaPAluTk
import Derived.Deep.CutBlock
namespace Go.Proofs.Ytlheilpaafjeiaa
open Go.ChangeShapes Go.WideShapes Go.ChangeAt Go.RowKit
set_option linter.unusedVariables false
def trpP : List (Int × Int) := [(29, 31), (30, 32), (33, 34)]
def tkpP : List (Int × Int) := [(60, 61), (62, 63), (64, 65), (66, 67)]
theorem trp_pairs (k : Nat) (hk : k < 3) (s t : Int) : ∃ b, trapB (trpP.getD k (0, 0)).1 s t 0 = b ∧ trapB (trpP.getD k (0, 0)).2 s t 0 = !b := by
  rcases (show k = 0 ∨ k = 1 ∨ k = 2 by omega) with rfl | rfl | rfl
  · exact ⟨_, rfl, (Bool.not_not (lt32 s t)).symm⟩
  · refine ⟨_, rfl, ?_⟩
    show decide (s < t) = !decide (t ≤ s)
    by_cases h : s < t
    · rw [decide_eq_true h, decide_eq_false (by omega)]; rfl
    · rw [decide_eq_false h, decide_eq_true (by omega)]; rfl
  · exact ⟨_, rfl, rfl⟩
theorem tkp_pairs (k : Nat) (hk : k < 4) (s t : Int) : ∃ b, takeB (tkpP.getD k (0, 0)).1 s t 0 = b ∧ takeB (tkpP.getD k (0, 0)).2 s t 0 = !b := by
  rcases (show k = 0 ∨ k = 1 ∨ k = 2 ∨ k = 3 by omega) with rfl | rfl | rfl | rfl
  · exact ⟨_, rfl, rfl⟩
  · exact ⟨_, rfl, (Bool.not_not (lt32 0 s)).symm⟩
  · exact ⟨_, rfl, rfl⟩
  · exact ⟨_, rfl, rfl⟩
theorem traps_to (op s t : Int) (b : Bool) (h1 : 0 ≤ s) (h2 : s < 4294967296) (h3 : 0 ≤ t) (h4 : t < 4294967296) (e : trapB op s t 0 = b) (w : World) :
    Calls Try.prog 12 #[.agg (insC op 0 0 0 0 0), .int .u32 s, .int .u32 t] w fun e w' => e = .returned (.bool b) ∧ Below w.heap.size w w' := by
  have h := traps_any op 0 0 0 0 0 s t h1 h2 h3 h4 (by omega) (by omega) w
  rw [e] at h
  exact h
theorem takes_to (op s t : Int) (b : Bool) (h1 : 0 ≤ s) (h2 : s < 4294967296) (h3 : 0 ≤ t) (h4 : t < 4294967296) (e : takeB op s t 0 = b) (w : World) :
    Calls Try.prog 14 #[.agg (insC op 0 0 0 0 0), .int .u32 s, .int .u32 t] w fun e w' => e = .returned (.bool b) ∧ Below w.heap.size w w' := by
  have h := takes_any op 0 0 0 0 0 s t h1 h2 h3 h4 (by omega) (by omega) w
  rw [e] at h
  exact h
theorem tr33 (s : Int) : trapB 33 s s 0 = true := by
  show (s == s) = true
  simp
theorem tk60 (s : Int) : takeB 60 s s 0 = true := by
  show (s == s) = true
  simp
theorem tr1 (s t : Int) : trapB 1 s t 0 = false := rfl
section
variable {ρ : Operand → Value} {o : Oper}
theorem exec_build {parts : Array (Nat × Operand)} {ps : Array (Nat × Value)} {v : Value} (t : TypeId) (hop : o.op = .build t parts) (hp : (parts.map fun (i, x) => (i, ρ x)) = ps) (w : World) (hr : (Instr.build t ps).run Try.prog w = .ok v w) : (execOp ρ o).run Try.prog w = .ok (.value v) w := by
  unfold execOp
  simp only [hop, hp, Sem.run_bind, Sem.run_pure, Result.andThen_ok, hr]
theorem exec_eqlN {x y : Operand} {b : Bool} (hop : o.op = .binOp .eql 4 x y 4) (hx : ρ x = .bool b) (hy : ρ y = .bool (!b)) (w : World) : (execOp ρ o).run Try.prog w = .ok (.value (.bool false)) w := by
  unfold execOp
  rw [hop]
  cases b <;> simp [hx, hy, go_sem]
theorem build24 (x : Int) (w : World) : (Instr.build 24 #[(0, .int .i64 x)]).run Try.prog w = .ok (.agg (insC x 0 0 0 0 0)) w := by kernel_rfl
end
/-- What the slots of the region hold, whatever the order. -/
def phiP1 (qb : Nat) (p1 p2 s t : Int) (b : Bool) : Nat → Value → World → Prop
  | 0, x, _ => x = .pointer (some ⟨qb, 0, none⟩)
  | 1, x, _ => x = .int .i64 p1
  | 2, x, _ => x = .agg (insC p1 0 0 0 0 0)
  | 3, x, _ => x = .int .u32 s
  | 4, x, _ => x = .int .u32 t
  | 5, x, _ => x = .bool b
  | 6, x, _ => x = .pointer (some ⟨qb, 1, none⟩)
  | 7, x, _ => x = .int .i64 p2
  | 8, x, _ => x = .agg (insC p2 0 0 0 0 0)
  | 9, x, _ => x = .int .u32 s
  | 10, x, _ => x = .int .u32 t
  | 11, x, _ => x = .bool (!b)
  | 12, x, _ => x = .bool false
  | _ + 13, _, _ => True
theorem phiP1_mono (qb : Nat) (p1 p2 s t : Int) (b : Bool) : ∀ i x w w', phiP1 qb p1 p2 s t b i x w → Below w.heap.size w w' → phiP1 qb p1 p2 s t b i x w'
  | 0, _, _, _, h, _ => h
  | 1, _, _, _, h, _ => h
  | 2, _, _, _, h, _ => h
  | 3, _, _, _, h, _ => h
  | 4, _, _, _, h, _ => h
  | 5, _, _, _, h, _ => h
  | 6, _, _, _, h, _ => h
  | 7, _, _, _, h, _ => h
  | 8, _, _, _, h, _ => h
  | 9, _, _, _, h, _ => h
  | 10, _, _, _, h, _ => h
  | 11, _, _, _, h, _ => h
  | 12, _, _, _, h, _ => h
  | _ + 13, _, _, _, _, _ => trivial
/-- What the slots of the region hold, whatever the order. -/
def phiP2 (qb : Nat) (p1 p2 s t : Int) (b : Bool) : Nat → Value → World → Prop
  | 0, x, _ => x = .pointer (some ⟨qb, 0, none⟩)
  | 1, x, _ => x = .int .i64 p1
  | 2, x, _ => x = .agg (insC p1 0 0 0 0 0)
  | 3, x, _ => x = .int .u32 s
  | 4, x, _ => x = .int .u32 t
  | 5, x, _ => x = .bool b
  | 6, x, _ => x = .pointer (some ⟨qb, 1, none⟩)
  | 7, x, _ => x = .int .i64 p2
  | 8, x, _ => x = .agg (insC p2 0 0 0 0 0)
  | 9, x, _ => x = .int .u32 s
  | 10, x, _ => x = .int .u32 t
  | 11, x, _ => x = .bool (!b)
  | 12, x, _ => x = .bool false
  | _ + 13, _, _ => True
theorem phiP2_mono (qb : Nat) (p1 p2 s t : Int) (b : Bool) : ∀ i x w w', phiP2 qb p1 p2 s t b i x w → Below w.heap.size w w' → phiP2 qb p1 p2 s t b i x w'
  | 0, _, _, _, h, _ => h
  | 1, _, _, _, h, _ => h
  | 2, _, _, _, h, _ => h
  | 3, _, _, _, h, _ => h
  | 4, _, _, _, h, _ => h
  | 5, _, _, _, h, _ => h
  | 6, _, _, _, h, _ => h
  | 7, _, _, _, h, _ => h
  | 8, _, _, _, h, _ => h
  | 9, _, _, _, h, _ => h
  | 10, _, _, _, h, _ => h
  | 11, _, _, _, h, _ => h
  | 12, _, _, _, h, _ => h
  | _ + 13, _, _, _, _, _ => trivial
theorem list13 : ∀ xs : List Value, xs.length = 13 → ∃ x0 x1 x2 x3 x4 x5 x6 x7 x8 x9 x10 x11 x12, xs = [x0, x1, x2, x3, x4, x5, x6, x7, x8, x9, x10, x11, x12]
  | [x0, x1, x2, x3, x4, x5, x6, x7, x8, x9, x10, x11, x12], _ => ⟨_, _, _, _, _, _, _, _, _, _, _, _, _, rfl⟩
set_option maxRecDepth 20000 in
set_option maxHeartbeats 4000000 in
theorem pairs_walk (s t : Int) (h1 : 0 ≤ s) (h2 : s < 4294967296) (h3 : 0 ≤ t) (h4 : t < 4294967296) (w : World) :
    Calls Try.prog 5 #[.int .u32 s, .int .u32 t] w fun e w' => e = .returned (.bool true) ∧ Below w.heap.size w w' := by
  have q0 : Blk (w.alloc (.cells (pairC trpP).toArray 35)) w.heap.size (pairC trpP).toArray 35 := Blk.new w _ _
  have qb := below_new w (.cells (pairC trpP).toArray 35)
  have Q0 := hidden q0
  have QB := hidden qb
  clear q0 qb
  go_enter Try.func5, Try.ntmps5
  go_wp2
  go_loopw [14] (fun x14 wr => ∃ (k : Nat), k ≤ 3 ∧ x14 = .int .i64 (k : Int) ∧ Blk wr w.heap.size (pairC trpP).toArray 35 ∧ Below w.heap.size w wr) (fun x14 _ => 3 - (intOf x14).toNat)
  case atStart => exact ⟨0, by omega, rfl, Q0.out, QB.out⟩
  case round =>
    clear Q0 QB
    obtain ⟨k, hk, rfl, hB, hW⟩ := hrel
    by_cases hlt : k < 3
    · obtain ⟨c0, c1⟩ := pair_cells hB rfl (l := trpP) (k := k) hlt
      have hlt2 : (k : Int) < 3 := by omega
      have hge : (0 : Int) ≤ (k : Int) := by omega
      have hba := below_new wr (.cells #[.int .i64 (trpP.getD k (0, 0)).1, .int .i64 (trpP.getD k (0, 0)).2] 35)
      have hq := Blk.new wr #[.int .i64 (trpP.getD k (0, 0)).1, .int .i64 (trpP.getD k (0, 0)).2] 35
      have hB2 := hB.later hba
      have hW2 := hidden (hW.trans (hba.mono hW.size))
      obtain ⟨b, e1, e2⟩ := trp_pairs k hlt s t
      have E1 := hidden e1
      have E2 := hidden e2
      generalize (trpP.getD k (0, 0)).1 = p1 at *
      generalize (trpP.getD k (0, 0)).2 = p2 at *
      have HB2 := hidden hB2
      clear hba hB2 e1 e2 hB hW
      go_upto_region 4 with fail
      obtain ⟨qn, hqn⟩ : ∃ qn, qn = wr.heap.size := ⟨_, rfl⟩
      rw [← hqn] at hq ⊢
      have HQ := hidden hq
      clear hq
      refine wp_region_on later_below [18, 19, 20, 21, 22, 23, 24, 25, 26, 27, 28, 29, 30] 13 (phiP1 qn p1 p2 s t b) (by kernel_rfl) (by kernel_rfl) rfl rfl (phiP1_mono qn p1 p2 s t b) ?_ ?_
      · intro j hj xs w3 hxs hR hpre
        obtain ⟨x0, x1, x2, x3, x4, x5, x6, x7, x8, x9, x10, x11, x12, rfl⟩ := list13 xs hxs
        have hQ : Blk w3 qn #[.int .i64 p1, .int .i64 p2] 35 := HQ.out.later hR
        rcases (show j = 0 ∨ j = 1 ∨ j = 2 ∨ j = 3 ∨ j = 4 ∨ j = 5 ∨ j = 6 ∨ j = 7 ∨ j = 8 ∨ j = 9 ∨ j = 10 ∨ j = 11 ∨ j = 12 by omega) with rfl | rfl | rfl | rfl | rfl | rfl | rfl | rfl | rfl | rfl | rfl | rfl | rfl
        · exact wpOp_run (.pointer (some ⟨qn, 0, none⟩)) rfl (by kernel_rfl) (by kernel_rfl) ⟨_, by kernel_rfl, rfl, Below.refl _ _⟩
        · have e0 : x0 = .pointer (some ⟨qn, 0, none⟩) := hpre 0 (by kernel_rfl)
          subst e0
          exact wpOp_run (.int .i64 p1) rfl (by kernel_rfl) (exec_load 3 rfl (by kernel_rfl) w3 (load3 (hQ.cell (j := 0) rfl))) ⟨_, by kernel_rfl, rfl, Below.refl _ _⟩
        · have e1 : x1 = .int .i64 p1 := hpre 1 (by kernel_rfl)
          subst e1
          exact wpOp_run (.agg (insC p1 0 0 0 0 0)) rfl (by kernel_rfl) (exec_build 24 rfl (by kernel_rfl) w3 (build24 p1 w3)) ⟨_, by kernel_rfl, rfl, Below.refl _ _⟩
        · exact wpOp_run (.int .u32 s) rfl (by kernel_rfl) (exec_move rfl (by kernel_rfl) w3) ⟨_, by kernel_rfl, rfl, Below.refl _ _⟩
        · exact wpOp_run (.int .u32 t) rfl (by kernel_rfl) (exec_move rfl (by kernel_rfl) w3) ⟨_, by kernel_rfl, rfl, Below.refl _ _⟩
        · have e2 : x2 = .agg (insC p1 0 0 0 0 0) := hpre 2 (by kernel_rfl)
          subst e2
          have e3 : x3 = .int .u32 s := hpre 3 (by kernel_rfl)
          subst e3
          have e4 : x4 = .int .u32 t := hpre 4 (by kernel_rfl)
          subst e4
          refine wpOp_callR (R := fun u w4 => u = .bool b ∧ Below w3.heap.size w3 w4) 12 #[.agg (insC p1 0 0 0 0 0), .int .u32 s, .int .u32 t] rfl (by kernel_rfl) (by kernel_rfl) ((traps_to p1 s t b h1 h2 h3 h4 E1.out w3).mono fun e w4 ⟨he, hb⟩ => ⟨_, he, rfl, hb⟩) ?_
          rintro _ w4 ⟨rfl, hb⟩
          exact ⟨_, by kernel_rfl, rfl, hb⟩
        · exact wpOp_run (.pointer (some ⟨qn, 1, none⟩)) rfl (by kernel_rfl) (by kernel_rfl) ⟨_, by kernel_rfl, rfl, Below.refl _ _⟩
        · have e6 : x6 = .pointer (some ⟨qn, 1, none⟩) := hpre 6 (by kernel_rfl)
          subst e6
          exact wpOp_run (.int .i64 p2) rfl (by kernel_rfl) (exec_load 3 rfl (by kernel_rfl) w3 (load3 (hQ.cell (j := 1) rfl))) ⟨_, by kernel_rfl, rfl, Below.refl _ _⟩
        · have e7 : x7 = .int .i64 p2 := hpre 7 (by kernel_rfl)
          subst e7
          exact wpOp_run (.agg (insC p2 0 0 0 0 0)) rfl (by kernel_rfl) (exec_build 24 rfl (by kernel_rfl) w3 (build24 p2 w3)) ⟨_, by kernel_rfl, rfl, Below.refl _ _⟩
        · exact wpOp_run (.int .u32 s) rfl (by kernel_rfl) (exec_move rfl (by kernel_rfl) w3) ⟨_, by kernel_rfl, rfl, Below.refl _ _⟩
        · exact wpOp_run (.int .u32 t) rfl (by kernel_rfl) (exec_move rfl (by kernel_rfl) w3) ⟨_, by kernel_rfl, rfl, Below.refl _ _⟩
        · have e8 : x8 = .agg (insC p2 0 0 0 0 0) := hpre 8 (by kernel_rfl)
          subst e8
          have e9 : x9 = .int .u32 s := hpre 9 (by kernel_rfl)
          subst e9
          have e10 : x10 = .int .u32 t := hpre 10 (by kernel_rfl)
          subst e10
          refine wpOp_callR (R := fun u w4 => u = .bool (!b) ∧ Below w3.heap.size w3 w4) 12 #[.agg (insC p2 0 0 0 0 0), .int .u32 s, .int .u32 t] rfl (by kernel_rfl) (by kernel_rfl) ((traps_to p2 s t (!b) h1 h2 h3 h4 E2.out w3).mono fun e w4 ⟨he, hb⟩ => ⟨_, he, rfl, hb⟩) ?_
          rintro _ w4 ⟨rfl, hb⟩
          exact ⟨_, by kernel_rfl, rfl, hb⟩
        · have e5 : x5 = .bool b := hpre 5 (by kernel_rfl)
          subst e5
          have e11 : x11 = .bool (!b) := hpre 11 (by kernel_rfl)
          subst e11
          exact wpOp_run (.bool false) rfl (by kernel_rfl) (exec_eqlN (b := b) rfl (by kernel_rfl) (by kernel_rfl) w3) ⟨_, by kernel_rfl, rfl, Below.refl _ _⟩
      · intro xs w3 hxs hR hall
        obtain ⟨x0, x1, x2, x3, x4, x5, x6, x7, x8, x9, x10, x11, x12, rfl⟩ := list13 xs hxs
        have e12 : x12 = .bool false := hall 12 (by omega)
        subst e12
        have HR := hidden hR
        clear hall hR hxs
        simp only [slotsOn, putAll, List.set_cons_succ, List.set_cons_zero]
        go_wp2
        have HB4 := hidden (HB2.out.later HR.out)
        have HW4 := hidden (hW2.out.trans (HR.out.mono hW2.out.size))
        go_roundw
        case rel => first | exact ⟨k + 1, by omega, by simp, HB4.out, HW4.out⟩ | ((repeat apply Exists.intro); exact ⟨⟨k + 1, by omega, by simp, HB4.out, HW4.out⟩, rfl⟩)
        case measure => simp [intOf]; omega
    · have hnl : ¬ (k : Int) < 3 := by omega
      have q0 : Blk (wr.alloc (.cells (pairC tkpP).toArray 35)) wr.heap.size (pairC tkpP).toArray 35 := Blk.new wr _ _
      have qb := hW.trans ((below_new wr (.cells (pairC tkpP).toArray 35)).mono hW.size)
      obtain ⟨nb, hnb⟩ : ∃ nb, nb = wr.heap.size := ⟨_, rfl⟩
      rw [← hnb] at q0
      have HNB := hidden hnb
      have Q0 := hidden q0
      have QB := hidden qb
      clear q0 qb hB hW hnb
      go_wp2
      rw [← HNB.out]
      go_loopw [38] (fun x38 wr => ∃ (k : Nat), k ≤ 4 ∧ x38 = .int .i64 (k : Int) ∧ Blk wr nb (pairC tkpP).toArray 35 ∧ Below w.heap.size w wr) (fun x38 _ => 4 - (intOf x38).toNat)
      case atStart => exact ⟨0, by omega, rfl, Q0.out, QB.out⟩
      case round =>
        clear Q0 QB HNB
        clear hlt hnl hk
        rename_i wq
        obtain ⟨k, hk, rfl, hB, hW⟩ := hrel
        by_cases hlt : k < 4
        · obtain ⟨c0, c1⟩ := pair_cells hB rfl (l := tkpP) (k := k) hlt
          have hlt2 : (k : Int) < 4 := by omega
          have hge : (0 : Int) ≤ (k : Int) := by omega
          have hba := below_new wr (.cells #[.int .i64 (tkpP.getD k (0, 0)).1, .int .i64 (tkpP.getD k (0, 0)).2] 35)
          have hq := Blk.new wr #[.int .i64 (tkpP.getD k (0, 0)).1, .int .i64 (tkpP.getD k (0, 0)).2] 35
          have hB2 := hB.later hba
          have hW2 := hidden (hW.trans (hba.mono hW.size))
          obtain ⟨b, e1, e2⟩ := tkp_pairs k hlt s t
          have E1 := hidden e1
          have E2 := hidden e2
          generalize (tkpP.getD k (0, 0)).1 = p1 at *
          generalize (tkpP.getD k (0, 0)).2 = p2 at *
          have HB2 := hidden hB2
          clear hba hB2 e1 e2 hB hW
          go_upto_region 10 with fail
          obtain ⟨qn, hqn⟩ : ∃ qn, qn = wr.heap.size := ⟨_, rfl⟩
          rw [← hqn] at hq ⊢
          have HQ := hidden hq
          clear hq
          refine wp_region_on later_below [42, 43, 44, 45, 46, 47, 48, 49, 50, 51, 52, 53, 54] 13 (phiP2 qn p1 p2 s t b) (by kernel_rfl) (by kernel_rfl) rfl rfl (phiP2_mono qn p1 p2 s t b) ?_ ?_
          · intro j hj xs w3 hxs hR hpre
            obtain ⟨x0, x1, x2, x3, x4, x5, x6, x7, x8, x9, x10, x11, x12, rfl⟩ := list13 xs hxs
            have hQ : Blk w3 qn #[.int .i64 p1, .int .i64 p2] 35 := HQ.out.later hR
            rcases (show j = 0 ∨ j = 1 ∨ j = 2 ∨ j = 3 ∨ j = 4 ∨ j = 5 ∨ j = 6 ∨ j = 7 ∨ j = 8 ∨ j = 9 ∨ j = 10 ∨ j = 11 ∨ j = 12 by omega) with rfl | rfl | rfl | rfl | rfl | rfl | rfl | rfl | rfl | rfl | rfl | rfl | rfl
            · exact wpOp_run (.pointer (some ⟨qn, 0, none⟩)) rfl (by kernel_rfl) (by kernel_rfl) ⟨_, by kernel_rfl, rfl, Below.refl _ _⟩
            · have e0 : x0 = .pointer (some ⟨qn, 0, none⟩) := hpre 0 (by kernel_rfl)
              subst e0
              exact wpOp_run (.int .i64 p1) rfl (by kernel_rfl) (exec_load 3 rfl (by kernel_rfl) w3 (load3 (hQ.cell (j := 0) rfl))) ⟨_, by kernel_rfl, rfl, Below.refl _ _⟩
            · have e1 : x1 = .int .i64 p1 := hpre 1 (by kernel_rfl)
              subst e1
              exact wpOp_run (.agg (insC p1 0 0 0 0 0)) rfl (by kernel_rfl) (exec_build 24 rfl (by kernel_rfl) w3 (build24 p1 w3)) ⟨_, by kernel_rfl, rfl, Below.refl _ _⟩
            · exact wpOp_run (.int .u32 s) rfl (by kernel_rfl) (exec_move rfl (by kernel_rfl) w3) ⟨_, by kernel_rfl, rfl, Below.refl _ _⟩
            · exact wpOp_run (.int .u32 t) rfl (by kernel_rfl) (exec_move rfl (by kernel_rfl) w3) ⟨_, by kernel_rfl, rfl, Below.refl _ _⟩
            · have e2 : x2 = .agg (insC p1 0 0 0 0 0) := hpre 2 (by kernel_rfl)
              subst e2
              have e3 : x3 = .int .u32 s := hpre 3 (by kernel_rfl)
              subst e3
              have e4 : x4 = .int .u32 t := hpre 4 (by kernel_rfl)
              subst e4
              refine wpOp_callR (R := fun u w4 => u = .bool b ∧ Below w3.heap.size w3 w4) 14 #[.agg (insC p1 0 0 0 0 0), .int .u32 s, .int .u32 t] rfl (by kernel_rfl) (by kernel_rfl) ((takes_to p1 s t b h1 h2 h3 h4 E1.out w3).mono fun e w4 ⟨he, hb⟩ => ⟨_, he, rfl, hb⟩) ?_
              rintro _ w4 ⟨rfl, hb⟩
              exact ⟨_, by kernel_rfl, rfl, hb⟩
            · exact wpOp_run (.pointer (some ⟨qn, 1, none⟩)) rfl (by kernel_rfl) (by kernel_rfl) ⟨_, by kernel_rfl, rfl, Below.refl _ _⟩
            · have e6 : x6 = .pointer (some ⟨qn, 1, none⟩) := hpre 6 (by kernel_rfl)
              subst e6
              exact wpOp_run (.int .i64 p2) rfl (by kernel_rfl) (exec_load 3 rfl (by kernel_rfl) w3 (load3 (hQ.cell (j := 1) rfl))) ⟨_, by kernel_rfl, rfl, Below.refl _ _⟩
            · have e7 : x7 = .int .i64 p2 := hpre 7 (by kernel_rfl)
              subst e7
              exact wpOp_run (.agg (insC p2 0 0 0 0 0)) rfl (by kernel_rfl) (exec_build 24 rfl (by kernel_rfl) w3 (build24 p2 w3)) ⟨_, by kernel_rfl, rfl, Below.refl _ _⟩
            · exact wpOp_run (.int .u32 s) rfl (by kernel_rfl) (exec_move rfl (by kernel_rfl) w3) ⟨_, by kernel_rfl, rfl, Below.refl _ _⟩
            · exact wpOp_run (.int .u32 t) rfl (by kernel_rfl) (exec_move rfl (by kernel_rfl) w3) ⟨_, by kernel_rfl, rfl, Below.refl _ _⟩
            · have e8 : x8 = .agg (insC p2 0 0 0 0 0) := hpre 8 (by kernel_rfl)
              subst e8
              have e9 : x9 = .int .u32 s := hpre 9 (by kernel_rfl)
              subst e9
              have e10 : x10 = .int .u32 t := hpre 10 (by kernel_rfl)
              subst e10
              refine wpOp_callR (R := fun u w4 => u = .bool (!b) ∧ Below w3.heap.size w3 w4) 14 #[.agg (insC p2 0 0 0 0 0), .int .u32 s, .int .u32 t] rfl (by kernel_rfl) (by kernel_rfl) ((takes_to p2 s t (!b) h1 h2 h3 h4 E2.out w3).mono fun e w4 ⟨he, hb⟩ => ⟨_, he, rfl, hb⟩) ?_
              rintro _ w4 ⟨rfl, hb⟩
              exact ⟨_, by kernel_rfl, rfl, hb⟩
            · have e5 : x5 = .bool b := hpre 5 (by kernel_rfl)
              subst e5
              have e11 : x11 = .bool (!b) := hpre 11 (by kernel_rfl)
              subst e11
              exact wpOp_run (.bool false) rfl (by kernel_rfl) (exec_eqlN (b := b) rfl (by kernel_rfl) (by kernel_rfl) w3) ⟨_, by kernel_rfl, rfl, Below.refl _ _⟩
          · intro xs w3 hxs hR hall
            obtain ⟨x0, x1, x2, x3, x4, x5, x6, x7, x8, x9, x10, x11, x12, rfl⟩ := list13 xs hxs
            have e12 : x12 = .bool false := hall 12 (by omega)
            subst e12
            have HR := hidden hR
            clear hall hR hxs
            simp only [slotsOn, putAll, List.set_cons_succ, List.set_cons_zero]
            go_wp2
            have HB4 := hidden (HB2.out.later HR.out)
            have HW4 := hidden (hW2.out.trans (HR.out.mono hW2.out.size))
            go_roundw
            case rel => first | exact ⟨k + 1, by omega, by simp, HB4.out, HW4.out⟩ | ((repeat apply Exists.intro); exact ⟨⟨k + 1, by omega, by simp, HB4.out, HW4.out⟩, rfl⟩)
            case measure => simp [intOf]; omega
        · have hnl : ¬ (k : Int) < 4 := by omega
          have HW := hidden hW
          clear hB hW
          have z0 : (0 : Int) ≤ 0 := by omega
          go_wp2_with (first
            | (go_at_call 12; (with_reducible refine (traps_to 33 s s true h1 h2 h1 h2 (tr33 s) _).mono ?_); rintro e w1 ⟨rfl, b1⟩)
            | (go_at_call 14; (with_reducible refine (takes_to 60 t t true h3 h4 h3 h4 (tk60 t) _).mono ?_); rintro e w2 ⟨rfl, b2⟩)
            | (go_at_call 12; (with_reducible refine (traps_to 1 s t false h1 h2 h3 h4 (tr1 s t) _).mono ?_); rintro e w3 ⟨rfl, b3⟩)
            | (go_at_call 18; refine (awake9_any _).mono ?_; rintro e w4 ⟨rfl, b4⟩))
          go_ret
          exact ⟨rfl, bthen (bthen (bthen (HW.out.trans (b1.mono HW.out.size)) b2) b3) b4⟩
end Go.Proofs.Ytlheilpaafjeiaa
