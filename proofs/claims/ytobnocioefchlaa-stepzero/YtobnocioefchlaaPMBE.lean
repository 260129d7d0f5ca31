/- The code's own Decode, walked: the first row that a word is of, and the word's instruction. -/
import Derived.Test.YtobnocioefchlaaPMBD
import Derived.Test.YtobnocioefchlaaPMAY
import Derived.WalkMore
namespace Go.Proofs.Ytobnocioefchlaa
open Go.ChangeShapes Go.WideShapes Go.ChangeAt Go.RowKit
set_option linter.unusedVariables false
def findO (v : Nat) : Int := match findP (cfit v) with
  | none => 0
  | some k => (k : Int) + 1
def findC (v : Nat) : Array Value := match findP (cfit v) with
  | none => row0
  | some k => rowL (linL.getD k noLn)
theorem find_hit {v k : Nat} (hk : k < 69) (h : cfit v k = true) (hj : ∀ j, j < k → cfit v j = false) : findO v = (k : Int) + 1 ∧ findC v = rowL (linL.getD k noLn) := by
  unfold findO findC
  rw [findP_some.2 ⟨h, hk, hj⟩]
  exact ⟨rfl, rfl⟩
theorem find_none {v : Nat} (hj : ∀ j, j < 69 → cfit v j = false) : findO v = 0 ∧ findC v = row0 := by
  unfold findO findC
  rw [findP_none.2 hj]
  exact ⟨rfl, rfl⟩
theorem row_cells {u : World} {g : Nat} {l : Ln} (h : Blk u g (rowL l) 99) : u.cell? ⟨g, 2, none⟩ = some (.int .u32 (bits .xor .u32 IntKind.u32.max (freeV (shOf l.form)))) ∧ u.cell? ⟨g, 3, none⟩ = some (.int .u32 (wordV (shOf l.form) l.num)) := ⟨h.cell rfl, h.cell rfl⟩
theorem line_cells {u : World} {g k : Nat} (h : Blk u g (lineA k) 130) : u.cell? ⟨g, 2, none⟩ = some (.int .u32 (linL.getD k noLn).num) := h.cell rfl
theorem lineA_one (k : Nat) : (lineA k).all (·.oneCell') = true := by kernel_rfl
theorem rowL_size (l : Ln) : (rowL l).size = 12 := rfl
theorem rowL_one (l : Ln) : (rowL l).all (·.oneCell') = true := rowV_one l _
theorem dmask_all : (List.range 69).all (fun k => decide (dmask (dgL (linL.getD k noLn)) < 4294967296)) = true := by kernel_rfl
theorem dmask_lt {k : Nat} (hk : k < 69) : dmask (dgL (linL.getD k noLn)) < 4294967296 := of_decide_eq_true (List.all_eq_true.1 dmask_all k (List.mem_range.2 hk))
theorem bne_nat {a b : Int} : (a != b) = !(a == b) := rfl
/-- The world in find's loop: the result's block stays empty. -/
structure FW (w : World) (n : Nat) (wr : World) : Prop where
  bel : Below n w wr
  res : Blk wr n row0 99
theorem FW.later {w : World} {n : Nat} {wr w' : World} (h : FW w n wr) (hn : n ≤ wr.heap.size) (hb : Below wr.heap.size wr w') : FW w n w' := ⟨h.bel.trans (hb.mono hn), h.res.later hb⟩
theorem FW.le {w : World} {n : Nat} {wr : World} (h : FW w n wr) : n < wr.heap.size := h.res.lt
theorem FW.only {w : World} {n g : Nat} {wr w' : World} (h : FW w n wr) (hn : n < g) (ho : Only g wr w') : FW w n w' := ⟨Below.only h.bel ho (by omega), h.res.only ho (by omega)⟩
theorem loadRw {w : World} {b : Nat} {n : Ln} (h : Blk w b (rowL n) 99) : (loadVar 99 ⟨b, 0, none⟩).run Try.prog w = .ok (.agg (rowL n)) w := run_loadVar_row w b 99 99 (rowL n) (0, 0) _ h Try.underlying99 rfl sizeRw'
theorem loadRw0 {w : World} {b : Nat} (h : Blk w b row0 99) : (loadVar 99 ⟨b, 0, none⟩).run Try.prog w = .ok (.agg row0) w := run_loadVar_row w b 99 99 row0 (0, 0) _ h Try.underlying99 rfl sizeRw'
theorem row0_one : row0.all (·.oneCell') = true := by kernel_rfl
theorem below_next {p : Nat → Bool} {k : Nat} (h : p k = false) (hj : ∀ j, j < k → p j = false) : ∀ j, j < k + 1 → p j = false := fun j h2 => by
  rcases Nat.lt_or_ge j k with h3 | h3
  · exact hj j h3
  · rw [show j = k by omega]; exact h
section
variable {ρ : Operand → Value} {o : Oper}
theorem exec_addI {x : Operand} {k : Nat} (hk : k < 100) (hop : o.op = .binOp .add 3 x (.const (.int .i64 1)) 3) (hx : ρ x = .int .i64 (k : Int)) (hc : ρ (.const (.int .i64 1)) = .int .i64 1) (w : World) : (execOp ρ o).run Try.prog w = .ok (.value (.int .i64 ((k : Int) + 1))) w := by
  have hw : IntKind.i64.wrap ((k : Int) + 1) = (k : Int) + 1 := by rw [IntKind.wrap_i64]; omega
  unfold execOp
  rw [hop]
  simp [hx, hc, go_sem, hw]
end
theorem results_tc {fn : Func} {t p : Tmp} {ty : TypeId} (h : fn.results = #[.tmp t, .cell p ty]) (tmps : Array Value) (w : World) (g : Nat) (v : Value)
    (hp : tmps.getD p undef = .pointer (some ⟨g, 0, none⟩)) (hl : (loadVar ty ⟨g, 0, none⟩).run Try.prog w = .ok v w) :
    (results fn tmps).run Try.prog w = .ok (.tuple #[tmps.getD t undef, v]) w := by
  have hp' : tmps[p]?.getD undef = .pointer (some ⟨g, 0, none⟩) := by simpa using hp
  simp [results, h, hp', asAddr, hl]
/-- What the slots of the region hold, whatever the order. -/
def phiFd (r : Nat) (k : Nat) (L : Ln) : Nat → Value → World → Prop
  | 0, x, _ => x = .int .i64 (k : Int)
  | 1, x, _ => x = .int .i64 ((k : Int) + 1)
  | 2, x, _ => x = .agg (rowL L)
  | 3, x, _ => x = .int .i64 ((k : Int) + 1)
  | _ + 4, _, _ => True
theorem phiFd_mono (r : Nat) (k : Nat) (L : Ln) : ∀ i x w w', phiFd r k L i x w → Below w.heap.size w w' → phiFd r k L i x w'
  | 0, _, _, _, h, _ => h
  | 1, _, _, _, h, _ => h
  | 2, _, _, _, h, _ => h
  | 3, _, _, _, h, _ => h
  | _ + 4, _, _, _, _, _ => trivial
theorem lstFd : ∀ xs : List Value, xs.length = 4 → ∃ x0 x1 x2 x3, xs = [x0, x1, x2, x3]
  | [x0, x1, x2, x3], _ => ⟨_, _, _, _, rfl⟩
set_option maxRecDepth 20000 in
set_option maxHeartbeats 4000000 in
theorem find_any (v : Nat) (hv : v < 4294967296) (w : World) : Calls Try.prog 41 #[.int .u32 (v : Int)] w fun e w' => e = .returned (.tuple #[.int .i64 (findO v), .agg (findC v)]) ∧ Below w.heap.size w w' := by
  obtain ⟨n, hn⟩ : ∃ n, w.heap.size = n := ⟨_, rfl⟩
  have HO := hidden (fun u => ownNumber_any v hv u)
  have HL := hidden (fun u => lines_any u)
  obtain ⟨own, hown⟩ : ∃ own : Int, (ownN v : Int) = own := ⟨_, rfl⟩
  rw [hown] at HO
  go_enter Try.func41, Try.ntmps41
  go_wp2_with (first
    | (refine wpList_allocRw rfl rfl ?_; rintro w1 k1 s1 b1; rw [hn] at k1 s1 b1 ⊢; have P1 := hidden (FW.mk b1 k1); clear k1 s1 b1)
    | (go_at_call 65; refine (HO.out _).mono ?_; rintro e w2 ⟨rfl, hww⟩; rw [hww]; clear hww w2)
    | (go_at_call 66; refine (HL.out _).mono ?_; rintro e w3 ⟨rfl, hb⟩; have P3 := hidden (P1.out.later (Nat.le_of_lt P1.out.le) hb); clear hb P1))
  go_loopw [11] (fun x11 wr => ∃ (k : Nat), k ≤ 69 ∧ x11 = .int .i64 (k : Int) ∧ Hid (∀ j, j < k → cfit v j = false) ∧ FW w n wr) (fun x11 _ => 69 - (intOf x11).toNat)
  case atStart => exact ⟨0, by omega, rfl, hidden (fun j hj => absurd hj (Nat.not_lt_zero j)), P3.out⟩
  case round =>
    clear P3
    obtain ⟨k, hk, rfl, hJ, hP⟩ := hrel
    have HP := hidden hP
    clear hP
    by_cases hlt : k < 69
    · have hlt2 : (k : Int) < 69 := by omega
      have hge : (0 : Int) ≤ (k : Int) := by omega
      have hix := fun u => index_line hlt u
      have HR := hidden (fun u => lineRow_at hlt u)
      have HD := hidden (line_dg hlt)
      obtain ⟨g, hg⟩ : ∃ g, wr.heap.size = g := ⟨_, rfl⟩
      by_cases hnum : (linL.getD k noLn).num = own
      · have hne : ((linL.getD k noLn).num == own) = true := beq_iff_eq.2 hnum
        have hne2 : ((linL.getD k noLn).num != own) = false := by rw [bne_nat, hne]; rfl
        obtain ⟨nm, hnm⟩ : ∃ nm, (linL.getD k noLn).num = nm := ⟨_, rfl⟩
        rw [hnm] at hne hne2
        obtain ⟨dm, hdm⟩ : ∃ dm, dmask (dgL (linL.getD k noLn)) = dm := ⟨_, rfl⟩
        obtain ⟨dw, hdw⟩ : ∃ dw, dword (dgL (linL.getD k noLn)) = dw := ⟨_, rfl⟩
        have hdml : dm < 4294967296 := by rw [← hdm]; exact dmask_lt hlt
        have hand : bits .and .u32 (v : Int) (dm : Int) = ((v &&& dm : Nat) : Int) := u32_and_nat v dm hv hdml
        have hfit : (((v &&& dm : Nat) : Int) == (dw : Int)) = cfit v k := by
          rw [beq_nat_int, ← hdm, ← hdw]
          unfold cfit dgC
          rw [← dfit_eq _ HD.out.1 v]
          by_cases h : v &&& dmask (dgL (linL.getD k noLn)) = dword (dgL (linL.getD k noLn))
          · rw [decide_eq_true h, beq_iff_eq.2 h]
          · rw [decide_eq_false h, beq_eq_false_iff_ne.2 h]
        have HC := hidden (fun u b (h : Blk u b (rowL (linL.getD k noLn)) 99) => (show u.cell? ⟨b, 2, none⟩ = some (.int .u32 (dm : Int)) ∧ u.cell? ⟨b, 3, none⟩ = some (.int .u32 (dw : Int)) from by
          have hc := row_cells h
          rw [HD.out.2.1, HD.out.2.2, hdm, hdw] at hc
          exact hc))
        have HLC := hidden (fun u b (h : Blk u b (lineA k) 130) => (show u.cell? ⟨b, 2, none⟩ = some (.int .u32 nm) from by
          have hc := line_cells h
          rw [hnm] at hc
          exact hc))
        obtain ⟨L, hL⟩ : ∃ L, linL.getD k noLn = L := ⟨_, rfl⟩
        cases hb : cfit v k with
        | true =>
          rw [hb] at hfit
          have HH := hidden (find_hit hlt hb hJ.out)
          rw [hL] at HH HC HR
          clear hb HD hnum hnm hdm hdw
          go_wp2_with (first
            | (refine wpList_allocLn rfl rfl ?_; rintro w4 k4 s4 b4; rw [hg] at k4 s4 b4 ⊢; have P4 := hidden (HP.out.later (Nat.le_of_lt HP.out.le) (by rw [hg]; exact b4)); have K4 := hidden k4; have S4 := hidden s4; clear k4 s4 b4)
            | (refine wpList_storeLn rfl rfl _ _ rfl g zLn (lineA k) rfl rfl K4.out rfl rfl (lineA_one k) ?_; rintro w5 k5 o5; have P5 := hidden (P4.out.only (by have := HP.out.le; omega) o5); have K5 := hidden k5; have h5 := HLC.out w5 g k5; have S5 : Hid (w5.heap.size = g + 1) := hidden (by rw [o5.size]; exact S4.out); clear k5 o5 K4 P4)
            | (refine wpList_loadLn rfl _ rfl g (lineA k) rfl K5.out rfl ?_)
            | (go_at_call 67; refine (HR.out _).mono ?_; rintro e w6 ⟨rfl, b6⟩; have P6 := hidden (P5.out.later (Nat.le_of_lt P5.out.le) b6); have S6 : Hid (g + 1 ≤ w6.heap.size) := hidden (by have := b6.size; rw [S5.out] at this; exact this); clear b6 h5 P5)
            | (refine wpList_allocRw rfl rfl ?_; rintro w7 k7 s7 b7; obtain ⟨r, hr⟩ : ∃ r, w6.heap.size = r := ⟨_, rfl⟩; rw [hr] at k7 s7 b7 S6 ⊢; have P7 := hidden (P6.out.later (Nat.le_of_lt P6.out.le) (by rw [hr]; exact b7)); have K7 := hidden k7; clear k7 s7 b7 P6)
            | (refine wpList_storeRw rfl rfl _ _ rfl r zRw (rowL L) rfl rfl K7.out rfl rfl (rowL_one L) ?_; rintro w8 k8 o8; have P8 := hidden (P7.out.only (by have := HP.out.le; have := S6.out; omega) o8); have K8 := hidden k8; have h8 := HC.out w8 r k8; clear k8 o8 K7 P7; obtain ⟨h8a, h8b⟩ := h8))
          have hk2 : k < 100 := by omega
          refine wp_region_head later_below 4 [28, 29, 30, 2] (phiFd r k L) (by kernel_rfl) (by kernel_rfl) rfl (phiFd_mono r k L) ?_ ?_
          · intro j hj xs w3 hxs hR hpre
            obtain ⟨x0, x1, x2, x3, rfl⟩ := lstFd xs hxs
            have hQ : Blk w3 r (rowL L) 99 := K8.out.later hR
            rcases (show j = 0 ∨ j = 1 ∨ j = 2 ∨ j = 3 by omega) with rfl | rfl | rfl | rfl
            · exact wpOp_run (.int .i64 (k : Int)) rfl (by kernel_rfl) (exec_move rfl (by kernel_rfl) w3) ⟨_, by kernel_rfl, rfl, Below.refl _ _⟩
            · have e0 : x0 = .int .i64 (k : Int) := hpre 0 (by kernel_rfl)
              subst e0
              exact wpOp_run (.int .i64 ((k : Int) + 1)) rfl (by kernel_rfl) (exec_addI hk2 rfl (by kernel_rfl) (by kernel_rfl) w3) ⟨_, by kernel_rfl, rfl, Below.refl _ _⟩
            · exact wpOp_run (.agg (rowL L)) rfl (by kernel_rfl) (exec_load 99 rfl (by kernel_rfl) w3 (loadRw hQ)) ⟨_, by kernel_rfl, rfl, Below.refl _ _⟩
            · have e1 : x1 = .int .i64 ((k : Int) + 1) := hpre 1 (by kernel_rfl)
              subst e1
              exact wpOp_run (.int .i64 ((k : Int) + 1)) rfl (by kernel_rfl) (by kernel_rfl) ⟨_, by kernel_rfl, rfl, Below.refl _ _⟩
          · intro xs w3 hxs hR hall
            obtain ⟨x0, x1, x2, x3, rfl⟩ := lstFd xs hxs
            have e0 : x0 = .int .i64 (k : Int) := hall 0 (by omega)
            subst e0
            have e1 : x1 = .int .i64 ((k : Int) + 1) := hall 1 (by omega)
            subst e1
            have e2 : x2 = .agg (rowL L) := hall 2 (by omega)
            subst e2
            have e3 : x3 = .int .i64 ((k : Int) + 1) := hall 3 (by omega)
            subst e3
            have HR := hidden hR
            clear hall hR hxs
            simp only [slotsOn, putAll, List.set_cons_succ, List.set_cons_zero, List.drop_succ_cons, List.drop_zero]
            go_wp2_with (first | (refine wpList_storeRw rfl rfl _ _ rfl n row0 (rowL L) rfl rfl (P8.out.later (Nat.le_of_lt P8.out.le) HR.out).res rfl rfl (rowL_one L) ?_; rintro w9 k9 o9; have K9 := hidden k9; have B9 := hidden (Below.only (P8.out.later (Nat.le_of_lt P8.out.le) HR.out).bel o9 (Nat.le_refl n)); clear k9 o9))
            refine bodyPost_ret (results_tc rfl _ _ n _ rfl (loadRw (n := L) K9.out)) rfl ⟨?_, (by first | exact B9.out | (rw [hn]; exact B9.out))⟩
            rw [HH.out.1, HH.out.2]
            rfl
        | false =>
          rw [hb] at hfit
          have HN := hidden (below_next hb hJ.out)
          rw [hL] at HC HR
          clear hb HD hnum hnm hdm hdw hJ
          go_wp2_with (first
            | (refine wpList_allocLn rfl rfl ?_; rintro w4 k4 s4 b4; rw [hg] at k4 s4 b4 ⊢; have P4 := hidden (HP.out.later (Nat.le_of_lt HP.out.le) (by rw [hg]; exact b4)); have K4 := hidden k4; have S4 := hidden s4; clear k4 s4 b4)
            | (refine wpList_storeLn rfl rfl _ _ rfl g zLn (lineA k) rfl rfl K4.out rfl rfl (lineA_one k) ?_; rintro w5 k5 o5; have P5 := hidden (P4.out.only (by have := HP.out.le; omega) o5); have K5 := hidden k5; have h5 := HLC.out w5 g k5; have S5 : Hid (w5.heap.size = g + 1) := hidden (by rw [o5.size]; exact S4.out); clear k5 o5 K4 P4)
            | (refine wpList_loadLn rfl _ rfl g (lineA k) rfl K5.out rfl ?_)
            | (go_at_call 67; refine (HR.out _).mono ?_; rintro e w6 ⟨rfl, b6⟩; have P6 := hidden (P5.out.later (Nat.le_of_lt P5.out.le) b6); have S6 : Hid (g + 1 ≤ w6.heap.size) := hidden (by have := b6.size; rw [S5.out] at this; exact this); clear b6 h5 P5)
            | (refine wpList_allocRw rfl rfl ?_; rintro w7 k7 s7 b7; obtain ⟨r, hr⟩ : ∃ r, w6.heap.size = r := ⟨_, rfl⟩; rw [hr] at k7 s7 b7 S6 ⊢; have P7 := hidden (P6.out.later (Nat.le_of_lt P6.out.le) (by rw [hr]; exact b7)); have K7 := hidden k7; clear k7 s7 b7 P6)
            | (refine wpList_storeRw rfl rfl _ _ rfl r zRw (rowL L) rfl rfl K7.out rfl rfl (rowL_one L) ?_; rintro w8 k8 o8; have P8 := hidden (P7.out.only (by have := HP.out.le; have := S6.out; omega) o8); have K8 := hidden k8; have h8 := HC.out w8 r k8; clear k8 o8 K7 P7; obtain ⟨h8a, h8b⟩ := h8))
          go_roundw
          case rel => first | exact ⟨k + 1, by omega, by simp, HN, P8.out⟩ | ((repeat apply Exists.intro); exact ⟨⟨k + 1, by omega, by simp, HN, P8.out⟩, rfl⟩)
          case measure => simp [intOf]; omega
      · have hne : ((linL.getD k noLn).num == own) = false := beq_eq_false_iff_ne.2 hnum
        have hne2 : ((linL.getD k noLn).num != own) = true := by rw [bne_nat, hne]; rfl
        obtain ⟨nm, hnm⟩ : ∃ nm, (linL.getD k noLn).num = nm := ⟨_, rfl⟩
        rw [hnm] at hne hne2
        have hcf : cfit v k = false := by
          cases hb : cfit v k with
          | false => rfl
          | true => exact absurd ((own_fit hv hlt hb).trans hown) hnum
        have HN := hidden (below_next hcf hJ.out)
        have HLC := hidden (fun u b (h : Blk u b (lineA k) 130) => (show u.cell? ⟨b, 2, none⟩ = some (.int .u32 nm) from by
          have hc := line_cells h
          rw [hnm] at hc
          exact hc))
        clear HD hnum hnm hJ hcf
        go_wp2_with (first
          | (refine wpList_allocLn rfl rfl ?_; rintro w4 k4 s4 b4; rw [hg] at k4 s4 b4 ⊢; have P4 := hidden (HP.out.later (Nat.le_of_lt HP.out.le) (by rw [hg]; exact b4)); have K4 := hidden k4; have S4 := hidden s4; clear k4 s4 b4)
          | (refine wpList_storeLn rfl rfl _ _ rfl g zLn (lineA k) rfl rfl K4.out rfl rfl (lineA_one k) ?_; rintro w5 k5 o5; have P5 := hidden (P4.out.only (by have := HP.out.le; omega) o5); have K5 := hidden k5; have h5 := HLC.out w5 g k5; have S5 : Hid (w5.heap.size = g + 1) := hidden (by rw [o5.size]; exact S4.out); clear k5 o5 K4 P4))
        go_roundw
        case rel => first | exact ⟨k + 1, by omega, by simp, HN, P5.out⟩ | ((repeat apply Exists.intro); exact ⟨⟨k + 1, by omega, by simp, HN, P5.out⟩, rfl⟩)
        case measure => simp [intOf]; omega
    · have hnl : ¬ (k : Int) < 69 := by omega
      have HH := hidden (find_none (v := v) (fun j hj => hJ.out j (by omega)))
      have HP2 := hidden HP.out.bel
      have HP3 := hidden HP.out.res
      clear HP hJ
      have hrb := fun u => row0_build u
      go_wp2_with (first
        | (refine wpList_storeRw rfl rfl _ _ rfl n row0 row0 rfl rfl HP3.out rfl rfl row0_one ?_; rintro w8 k8 o8; have K8 := hidden k8; have B8 := hidden (Below.only HP2.out o8 (Nat.le_refl n)); clear k8 o8 HP3 HP2))
      refine bodyPost_ret (results_tc rfl _ _ n _ rfl (loadRw0 K8.out)) rfl ⟨?_, (by first | exact B8.out | (rw [hn]; exact B8.out))⟩
      rw [HH.out.1, HH.out.2]
      rfl
end Go.Proofs.Ytobnocioefchlaa
namespace Go.Proofs.Ytobnocioefchlaa
open Go.ChangeShapes Go.WideShapes Go.ChangeAt Go.RowKit
set_option linter.unusedVariables false
theorem same_all : (List.range 69).all (fun k => (shOf (linL.getD k noLn).form).same == decide (k = 37 ∨ k = 38)) = true := by kernel_rfl
theorem same_at {k : Nat} (hk : k < 69) : (shOf (linL.getD k noLn).form).same = decide (k = 37 ∨ k = 38) := by
  have h := List.all_eq_true.1 same_all k (List.mem_range.2 hk)
  exact eq_of_beq h
theorem wpList_loadShAt {ops : Array Oper} {rest : List Oper} {o : Oper} {a : Act} {w : World} {Q : Exit → Act → World → Prop} (hgd : o.guard = none) (x : Operand) (ho : o.op = .load 97 x)
    (g : Nat) (L : Ln) (hx : a.eval x = .pointer (some ⟨g, 4, none⟩)) (hg : Blk w g (rowL L) 99)
    (h : wpList Try.prog ops Q rest (a.put o.dst (.agg (shC (shOf L.form)))) w) : wpList Try.prog ops Q (o :: rest) a w := by
  refine wpList_load_mid hgd 97 x ho g 4 hx (shC (shOf L.form)).toList _ (fun j v hv => ?_) Try.underlying97 rfl sizeSh h
  rcases j with _ | _ | _ | _ | _ | _ | _ | _ | j
  all_goals first | exact hg.cell hv | cases hv
theorem insR_of {v : Nat} (hv : v < 4294967296) : insR v = match decP v with
  | none => ⟨0, ⟨0, 0, 0, 0, 0⟩⟩
  | some k => ⟨(rowR k).1, tkR (rowR k).2.1 v⟩ := by
  unfold insR
  rw [find_same v hv]
  rfl
theorem ins_oneT (op : Int) (t : Tk) : (insT op t).all (·.oneCell') = true := by kernel_rfl
/-- The two blocks of Decode: its answer's, the row's. -/
structure DW (w : World) (n r : Nat) (C : Array Value) (wr : World) : Prop where
  bel : Below n w wr
  res : Blk wr n zIn 62
  row : Blk wr r C 99
  ne : n < r
theorem DW.later {w : World} {n r : Nat} {C : Array Value} {wr w' : World} (h : DW w n r C wr) (hb : Below wr.heap.size wr w') : DW w n r C w' := ⟨h.bel.trans (hb.mono (Nat.le_of_lt h.res.lt)), h.res.later hb, h.row.later hb, h.ne⟩
theorem DW.only {w : World} {n r g : Nat} {C : Array Value} {wr w' : World} (h : DW w n r C wr) (ho : Only g wr w') (hg : r < g) : DW w n r C w' := ⟨Below.only h.bel ho (by have := h.ne; omega), h.res.only ho (by have := h.ne; omega), h.row.only ho (by omega), h.ne⟩
theorem ins_cells {w : World} {g : Nat} {t : Tk} {op : Int} (h : Blk w g (insT op t) 62) : w.cell? ⟨g, 2, none⟩ = some (.int .i64 (t.t : Int)) ∧ w.cell? ⟨g, 3, none⟩ = some (.int .i64 (t.d : Int)) := ⟨h.cell rfl, h.cell rfl⟩
theorem ins_set {w : World} {g : Nat} {t : Tk} {op : Int} (h : Blk w g (insT 0 t) 62) : Blk (w.setCell ⟨g, 0, none⟩ (.int .i64 op)) g (insT op t) 62 := by
  have h2 := heap_setCell_same w g 0 (insT 0 t) 62 (.int .i64 op) h
  exact h2
theorem ins_there {w : World} {g : Nat} {t : Tk} {op : Int} (h : Blk w g (insT op t) 62) : w.cell? ⟨g, 0, none⟩ = some (.int .i64 op) := h.cell rfl
set_option maxRecDepth 20000 in
set_option maxHeartbeats 4000000 in
theorem decode_any (v : Nat) (hv : v < 4294967296) (w : World) : Calls Try.prog 26 #[.int .u32 (v : Int)] w fun e w' => e = .returned (.agg (insT ((insR v).op : Int) (insR v).tk)) ∧ Below w.heap.size w w' := by
  obtain ⟨n, hn⟩ : ∃ n, w.heap.size = n := ⟨_, rfl⟩
  have HF := hidden (fun u => find_any v hv u)
  rw [insR_of hv]
  cases hp : findP (cfit v) with
  | none =>
    have hd : decP v = none := by unfold decP; rw [hp]
    rw [hd]
    have hfo : findO v = 0 := by unfold findO; rw [hp]
    have hfc : findC v = row0 := by unfold findC; rw [hp]
    rw [hfo, hfc] at HF
    clear hp hd hfo hfc
    go_enter Try.func26, Try.ntmps26
    go_wp2_with (first
      | (refine wpList_allocIn rfl rfl ?_; rintro w1 k1 s1 b1; rw [hn] at k1 s1 b1 ⊢; have K1 := hidden k1; have S1 := hidden s1; have B1 := hidden b1; clear k1 s1 b1)
      | (go_at_call 41; refine (HF.out _).mono ?_; rintro e w2 ⟨rfl, b2⟩; have K2 := hidden (K1.out.later b2); have B2 := hidden (B1.out.trans (b2.mono (by have := S1.out; omega))); have S2 : Hid (n + 1 ≤ w2.heap.size) := hidden (by have := b2.size; have := S1.out; omega); clear b2 K1 B1)
      | (refine wpList_allocRw rfl rfl ?_; rintro w3 k3 s3 b3; obtain ⟨r, hr⟩ : ∃ r, w2.heap.size = r := ⟨_, rfl⟩; have K3 := hidden (K2.out.later b3); have B3 := hidden (B2.out.trans (b3.mono (by have := S2.out; omega))); rw [hr] at k3 s3 S2 ⊢; have R3 := hidden k3; clear k3 s3 b3 K2 B2)
      | (refine wpList_storeRw rfl rfl _ _ rfl r zRw row0 rfl rfl R3.out rfl rfl row0_one ?_; rintro w4 k4 o4; have K4 := hidden (K3.out.only o4 (by have := S2.out; omega)); have B4 := hidden (Below.only B3.out o4 (by have := S2.out; omega)); clear k4 o4 K3 B3)
      | (refine wpList_storeIn rfl rfl _ _ rfl n zIn zIn rfl rfl K4.out rfl rfl (by kernel_rfl) ?_; rintro w5 k5 o5; have K5 := hidden k5; have B5 := hidden (Below.only B4.out o5 (Nat.le_refl n)); clear k5 o5 K4 B4))
    exact bodyPost_ret (results_cell_row rfl _ _ n 62 zIn (0, 0) _ rfl K5.out Try.underlying62 rfl sizeIn') rfl ⟨rfl, (by first | exact B5.out | (rw [hn]; exact B5.out))⟩
  | some k =>
    obtain ⟨_, hk, _⟩ := findP_some.1 hp
    have hfo : findO v = (k : Int) + 1 := by unfold findO; rw [hp]
    have hfc : findC v = rowL (linL.getD k noLn) := by unfold findC; rw [hp]
    rw [hfo, hfc] at HF
    have hl := linL_at hk
    obtain ⟨f, hf⟩ : ∃ f : Nat, (linL.getD k noLn).form = (f : Int) := ⟨_, (Int.toNat_of_nonneg hl.1).symm⟩
    have hf18 : f < 18 := by omega
    have HT := hidden (fun u => takeForm_any hf18 v hv u)
    rw [← hf] at HT
    have htk : tkC (f : Int) v = tkR (rowR k).2.1 v := by rw [← hf]; exact tk_same hk v
    have hsm : (shOf (linL.getD k noLn).form).same = decide (k = 37 ∨ k = 38) := same_at hk
    have hk0 : ((k : Int) + 1 == 0) = false := beq_eq_false_iff_ne.2 (by omega)
    have hr1 := (rows_at hk).2.1
    have hr2 := (rows_at hk).2.2
    have HY : Hid (k = 37 ∨ k = 38 → (tkC (f : Int) v).t = fT v ∧ (tkC (f : Int) v).d = fD v) := hidden (fun h => by
      rw [htk, hr2.2 h]
      exact ⟨rfl, rfl⟩)
    have hd : decP v = if (k = 37 ∨ k = 38) ∧ fT v ≠ fD v then none else some k := by unfold decP; rw [hp]
    rw [hd]
    obtain ⟨tk, htk2⟩ : ∃ tk, tkC (f : Int) v = tk := ⟨_, rfl⟩
    rw [htk2] at htk HY
    rw [hf, htk2, ← hf] at HT
    have hc11 : ∀ u r, Blk u r (rowL (linL.getD k noLn)) 99 → u.cell? ⟨r, 11, none⟩ = some (.bool (decide (k = 37 ∨ k = 38))) := fun u r h => by rw [← hsm]; exact h.cell rfl
    have H11 := hidden hc11
    obtain ⟨L, hL⟩ : ∃ L, linL.getD k noLn = L := ⟨_, rfl⟩
    rw [hL] at HT HF H11
    have HTK := hidden htk
    clear hc11 hp hfo hfc hl hf hsm hd htk2 hL htk
    by_cases hY : k = 37 ∨ k = 38
    · rw [decide_eq_true hY] at H11
      have hyt := HY.out hY
      by_cases hne : fT v = fD v
      · rw [if_neg (by intro h; exact h.2 hne)]
        have e1 : ((tk.t : Int) == (tk.d : Int)) = true := by rw [hyt.1, hyt.2, hne]; exact beq_self_eq_true _
        have e2 : ((tk.t : Int) != (tk.d : Int)) = false := by rw [bne_nat, e1]; rfl
        clear HY hyt hne hY
        go_enter Try.func26, Try.ntmps26
        go_wp2_with (first
          | (refine wpList_allocIn rfl rfl ?_; rintro w1 k1 s1 b1; first | (rw [hn] at k1 s1 b1 ⊢; have K1 := hidden k1; have S1 := hidden s1; have B1 := hidden b1; clear k1 s1 b1; have T1 : Hid True := trivial) | (clear T1; obtain ⟨q, hq⟩ : ∃ q, w5.heap.size = q := ⟨_, rfl⟩; have P6 := hidden (P5.out.later b1); have Q6 := hidden k1; have hrq := P5.out.row.lt; rw [hq] at Q6 hrq ⊢; have RQ := hidden hrq; clear k1 s1 b1 P5 hrq; have T2 : Hid True := trivial))
          | (go_at_call 41; refine (HF.out _).mono ?_; rintro e w2 ⟨rfl, b2⟩; have K2 := hidden (K1.out.later b2); have B2 := hidden (B1.out.trans (b2.mono (by have := S1.out; omega))); have S2 : Hid (n + 1 ≤ w2.heap.size) := hidden (by have := b2.size; have := S1.out; omega); clear b2 K1 B1)
          | (refine wpList_allocRw rfl rfl ?_; rintro w3 k3 s3 b3; obtain ⟨r, hr⟩ : ∃ r, w2.heap.size = r := ⟨_, rfl⟩; have K3 := hidden (K2.out.later b3); have B3 := hidden (B2.out.trans (b3.mono (by have := S2.out; omega))); rw [hr] at k3 s3 S2 ⊢; have R3 := hidden k3; clear k3 s3 b3 K2 B2)
          | (refine wpList_storeRw rfl rfl _ _ rfl r zRw (rowL L) rfl rfl R3.out rfl rfl (rowL_one L) ?_; rintro w4 k4 o4; have P4 := hidden (DW.mk (Below.only B3.out o4 (by have := S2.out; omega)) (K3.out.only o4 (by have := S2.out; omega)) k4 (by have := S2.out; omega)); clear k4 o4 K3 B3)
          | (refine wpList_loadShAt rfl _ rfl r L rfl P4.out.row ?_)
          | (go_at_call 42; refine (HT.out _).mono ?_; rintro e w5 ⟨rfl, b5⟩; have P5 := hidden (P4.out.later b5); clear b5 P4)
          | (refine wpList_storeIn rfl rfl _ _ rfl q zIn (insT 0 tk) rfl rfl Q6.out rfl rfl (ins_oneT 0 tk) ?_; rintro w7 k7 o7; have P7 := hidden (P6.out.only o7 RQ.out); have Q7 := hidden k7; have h7 := H11.out w7 r P7.out.row; obtain ⟨h7a, h7b⟩ := ins_cells k7; have h7c := ins_there k7; have h7d := k7.frozen 0; clear k7 o7 P6 Q6)
          | (refine wpList_loadIn rfl _ rfl q (insT ((k : Int) + 1) tk) rfl (ins_set Q7.out) rfl ?_)
          | (refine wpList_storeIn rfl rfl _ _ rfl n zIn (insT ((k : Int) + 1) tk) rfl rfl ((P7.out.only (Only.setCells 0 _) RQ.out).res) rfl rfl (ins_oneT _ tk) ?_; rintro w8 k8 o8; have K8 := hidden k8; have B8 := hidden (Below.only (P7.out.only (Only.setCells 0 _) RQ.out).bel o8 (Nat.le_refl n)); clear k8 o8))
        refine bodyPost_ret (results_cell_row rfl _ _ n 62 (insT ((k : Int) + 1) tk) (0, 0) _ rfl K8.out Try.underlying62 rfl sizeIn') rfl ⟨?_, (by first | exact B8.out | (rw [hn]; exact B8.out))⟩
        rw [HTK.out]
        show Ending.returned (.agg (insT ((k : Int) + 1) _)) = Ending.returned (.agg (insT (((rowR k).1 : Nat) : Int) _))
        rw [hr1]
        rfl
      · rw [if_pos ⟨hY, hne⟩]
        have e1 : ((tk.t : Int) == (tk.d : Int)) = false := by rw [hyt.1, hyt.2]; exact beq_eq_false_iff_ne.2 (fun h => hne (by omega))
        have e2 : ((tk.t : Int) != (tk.d : Int)) = true := by rw [bne_nat, e1]; rfl
        clear HY hyt hne hY
        go_enter Try.func26, Try.ntmps26
        go_wp2_with (first
          | (refine wpList_allocIn rfl rfl ?_; rintro w1 k1 s1 b1; first | (rw [hn] at k1 s1 b1 ⊢; have K1 := hidden k1; have S1 := hidden s1; have B1 := hidden b1; clear k1 s1 b1; have T1 : Hid True := trivial) | (clear T1; obtain ⟨q, hq⟩ : ∃ q, w5.heap.size = q := ⟨_, rfl⟩; have P6 := hidden (P5.out.later b1); have Q6 := hidden k1; have hrq := P5.out.row.lt; rw [hq] at Q6 hrq ⊢; have RQ := hidden hrq; clear k1 s1 b1 P5 hrq; have T2 : Hid True := trivial))
          | (go_at_call 41; refine (HF.out _).mono ?_; rintro e w2 ⟨rfl, b2⟩; have K2 := hidden (K1.out.later b2); have B2 := hidden (B1.out.trans (b2.mono (by have := S1.out; omega))); have S2 : Hid (n + 1 ≤ w2.heap.size) := hidden (by have := b2.size; have := S1.out; omega); clear b2 K1 B1)
          | (refine wpList_allocRw rfl rfl ?_; rintro w3 k3 s3 b3; obtain ⟨r, hr⟩ : ∃ r, w2.heap.size = r := ⟨_, rfl⟩; have K3 := hidden (K2.out.later b3); have B3 := hidden (B2.out.trans (b3.mono (by have := S2.out; omega))); rw [hr] at k3 s3 S2 ⊢; have R3 := hidden k3; clear k3 s3 b3 K2 B2)
          | (refine wpList_storeRw rfl rfl _ _ rfl r zRw (rowL L) rfl rfl R3.out rfl rfl (rowL_one L) ?_; rintro w4 k4 o4; have P4 := hidden (DW.mk (Below.only B3.out o4 (by have := S2.out; omega)) (K3.out.only o4 (by have := S2.out; omega)) k4 (by have := S2.out; omega)); clear k4 o4 K3 B3)
          | (refine wpList_loadShAt rfl _ rfl r L rfl P4.out.row ?_)
          | (go_at_call 42; refine (HT.out _).mono ?_; rintro e w5 ⟨rfl, b5⟩; have P5 := hidden (P4.out.later b5); clear b5 P4)
          | (refine wpList_storeIn rfl rfl _ _ rfl q zIn (insT 0 tk) rfl rfl Q6.out rfl rfl (ins_oneT 0 tk) ?_; rintro w7 k7 o7; have P7 := hidden (P6.out.only o7 RQ.out); have Q7 := hidden k7; have h7 := H11.out w7 r P7.out.row; obtain ⟨h7a, h7b⟩ := ins_cells k7; have h7c := ins_there k7; have h7d := k7.frozen 0; clear k7 o7 P6 Q6)
          | (refine wpList_storeIn rfl rfl _ _ rfl n zIn zIn rfl rfl P7.out.res rfl rfl (by kernel_rfl) ?_; rintro w8 k8 o8; have K8 := hidden k8; have B8 := hidden (Below.only P7.out.bel o8 (Nat.le_refl n)); clear k8 o8))
        exact bodyPost_ret (results_cell_row rfl _ _ n 62 zIn (0, 0) _ rfl K8.out Try.underlying62 rfl sizeIn') rfl ⟨rfl, (by first | exact B8.out | (rw [hn]; exact B8.out))⟩
    · rw [decide_eq_false hY] at H11
      rw [if_neg (fun h => hY h.1)]
      clear HY hY
      go_enter Try.func26, Try.ntmps26
      go_wp2_with (first
        | (refine wpList_allocIn rfl rfl ?_; rintro w1 k1 s1 b1; first | (rw [hn] at k1 s1 b1 ⊢; have K1 := hidden k1; have S1 := hidden s1; have B1 := hidden b1; clear k1 s1 b1; have T1 : Hid True := trivial) | (clear T1; obtain ⟨q, hq⟩ : ∃ q, w5.heap.size = q := ⟨_, rfl⟩; have P6 := hidden (P5.out.later b1); have Q6 := hidden k1; have hrq := P5.out.row.lt; rw [hq] at Q6 hrq ⊢; have RQ := hidden hrq; clear k1 s1 b1 P5 hrq; have T2 : Hid True := trivial))
        | (go_at_call 41; refine (HF.out _).mono ?_; rintro e w2 ⟨rfl, b2⟩; have K2 := hidden (K1.out.later b2); have B2 := hidden (B1.out.trans (b2.mono (by have := S1.out; omega))); have S2 : Hid (n + 1 ≤ w2.heap.size) := hidden (by have := b2.size; have := S1.out; omega); clear b2 K1 B1)
        | (refine wpList_allocRw rfl rfl ?_; rintro w3 k3 s3 b3; obtain ⟨r, hr⟩ : ∃ r, w2.heap.size = r := ⟨_, rfl⟩; have K3 := hidden (K2.out.later b3); have B3 := hidden (B2.out.trans (b3.mono (by have := S2.out; omega))); rw [hr] at k3 s3 S2 ⊢; have R3 := hidden k3; clear k3 s3 b3 K2 B2)
        | (refine wpList_storeRw rfl rfl _ _ rfl r zRw (rowL L) rfl rfl R3.out rfl rfl (rowL_one L) ?_; rintro w4 k4 o4; have P4 := hidden (DW.mk (Below.only B3.out o4 (by have := S2.out; omega)) (K3.out.only o4 (by have := S2.out; omega)) k4 (by have := S2.out; omega)); clear k4 o4 K3 B3)
        | (refine wpList_loadShAt rfl _ rfl r L rfl P4.out.row ?_)
        | (go_at_call 42; refine (HT.out _).mono ?_; rintro e w5 ⟨rfl, b5⟩; have P5 := hidden (P4.out.later b5); clear b5 P4)
        | (refine wpList_storeIn rfl rfl _ _ rfl q zIn (insT 0 tk) rfl rfl Q6.out rfl rfl (ins_oneT 0 tk) ?_; rintro w7 k7 o7; have P7 := hidden (P6.out.only o7 RQ.out); have Q7 := hidden k7; have h7 := H11.out w7 r P7.out.row; obtain ⟨h7a, h7b⟩ := ins_cells k7; have h7c := ins_there k7; have h7d := k7.frozen 0; clear k7 o7 P6 Q6)
        | (refine wpList_loadIn rfl _ rfl q (insT ((k : Int) + 1) tk) rfl (ins_set Q7.out) rfl ?_)
        | (refine wpList_storeIn rfl rfl _ _ rfl n zIn (insT ((k : Int) + 1) tk) rfl rfl ((P7.out.only (Only.setCells 0 _) RQ.out).res) rfl rfl (ins_oneT _ tk) ?_; rintro w8 k8 o8; have K8 := hidden k8; have B8 := hidden (Below.only (P7.out.only (Only.setCells 0 _) RQ.out).bel o8 (Nat.le_refl n)); clear k8 o8))
      refine bodyPost_ret (results_cell_row rfl _ _ n 62 (insT ((k : Int) + 1) tk) (0, 0) _ rfl K8.out Try.underlying62 rfl sizeIn') rfl ⟨?_, (by first | exact B8.out | (rw [hn]; exact B8.out))⟩
      rw [HTK.out]
      show Ending.returned (.agg (insT ((k : Int) + 1) _)) = Ending.returned (.agg (insT (((rowR k).1 : Nat) : Int) _))
      rw [hr1]
      rfl
end Go.Proofs.Ytobnocioefchlaa
namespace Go.Proofs.Ytobnocioefchlaa
open Go.ChangeShapes Go.WideShapes Go.ChangeAt Go.RowKit
set_option linter.unusedVariables false
theorem list32 : ∀ l : List Int, l.length = 32 → ∃ a0 a1 a2 a3 a4 a5 a6 a7 a8 a9 a10 a11 a12 a13 a14 a15 a16 a17 a18 a19 a20 a21 a22 a23 a24 a25 a26 a27 a28 a29 a30 a31, l = [a0, a1, a2, a3, a4, a5, a6, a7, a8, a9, a10, a11, a12, a13, a14, a15, a16, a17, a18, a19, a20, a21, a22, a23, a24, a25, a26, a27, a28, a29, a30, a31]
  | [a0, a1, a2, a3, a4, a5, a6, a7, a8, a9, a10, a11, a12, a13, a14, a15, a16, a17, a18, a19, a20, a21, a22, a23, a24, a25, a26, a27, a28, a29, a30, a31], _ => ⟨_, _, _, _, _, _, _, _, _, _, _, _, _, _, _, _, _, _, _, _, _, _, _, _, _, _, _, _, _, _, _, _, rfl⟩
/-- A task. -/
structure TV where
  i : Fl
  v : SV
  x : Int
  t : Int
  a : Nat
def TV.l (k : TV) : List Value := .int .i64 (k.i.op : Int) :: .int .i64 (k.i.tk.s : Int) :: .int .i64 (k.i.tk.t : Int) :: .int .i64 (k.i.tk.d : Int) :: .int .i64 (k.i.tk.a : Int) :: .int .u32 (k.i.tk.imm : Int) :: (k.v.l ++ [.int .u32 k.x, .int .u32 k.t, .int .u32 (k.a : Int)])
def TV.c (k : TV) : Array Value := k.l.toArray
theorem TV.len {k : TV} (h : k.v.R.length = 32) : k.l.length = 46 := by
  unfold TV.l
  simp [SV.len h]
theorem TV.size {k : TV} (h : k.v.R.length = 32) : k.c.size = 46 := by
  unfold TV.c
  rw [List.size_toArray]
  exact TV.len h
theorem TV.one (k : TV) : k.c.all (·.oneCell') = true := by
  have h := SV.one k.v
  unfold SV.c at h
  rw [List.all_toArray] at h
  unfold TV.c TV.l
  rw [List.all_toArray]
  simp only [List.all_cons, List.all_append, h]
  rfl
theorem TV.get (k : TV) (j : Nat) : k.c[j]? = k.l[j]? := by
  unfold TV.c
  simp
theorem TV.getS (k : TV) (h : k.v.R.length = 32) {j : Nat} (hj : j < 37) : k.c[6 + j]? = k.v.c[j]? := by
  rw [TV.get, SV.get, show 6 + j = j + 1 + 1 + 1 + 1 + 1 + 1 by omega]
  unfold TV.l
  simp only [List.getElem?_cons_succ]
  rw [List.getElem?_append_left (by rw [SV.len h]; exact hj)]
theorem TV.getE (k : TV) (h : k.v.R.length = 32) (j : Nat) : k.c[43 + j]? = ([.int .u32 k.x, .int .u32 k.t, .int .u32 (k.a : Int)] : List Value)[j]? := by
  rw [TV.get, show 43 + j = 37 + j + 1 + 1 + 1 + 1 + 1 + 1 by omega]
  unfold TV.l
  simp only [List.getElem?_cons_succ]
  rw [List.getElem?_append_right (by rw [SV.len h]; omega), SV.len h, show 37 + j - 37 = j by omega]
/-- A task's cells in memory. -/
structure TC (w : World) (b : Nat) (k : TV) : Prop where
  op : w.cell? ⟨b, 0, none⟩ = some (.int .i64 (k.i.op : Int))
  hi : w.cell? ⟨b, 38, none⟩ = some (.int .u32 k.v.hi)
  lo : w.cell? ⟨b, 39, none⟩ = some (.int .u32 k.v.lo)
  nx : w.cell? ⟨b, 41, none⟩ = some (.int .u32 k.v.nx)
  sl : w.cell? ⟨b, 42, none⟩ = some (.bool k.v.sl)
  x : w.cell? ⟨b, 43, none⟩ = some (.int .u32 k.x)
  t : w.cell? ⟨b, 44, none⟩ = some (.int .u32 k.t)
  a : w.cell? ⟨b, 45, none⟩ = some (.int .u32 (k.a : Int))
theorem TC.of {w : World} {b : Nat} {k : TV} (h : Blk w b k.c 64) (hv : k.v.R.length = 32) : TC w b k :=
  ⟨h.cell rfl, h.cell ((TV.getS k hv (j := 32) (by omega)).trans (SV.get_hi hv)), h.cell ((TV.getS k hv (j := 33) (by omega)).trans (SV.get_lo hv)), h.cell ((TV.getS k hv (j := 35) (by omega)).trans (SV.get_nx hv)),
    h.cell ((TV.getS k hv (j := 36) (by omega)).trans (SV.get_sl hv)), h.cell (TV.getE k hv 0), h.cell (TV.getE k hv 1), h.cell (TV.getE k hv 2)⟩
theorem loadTaI {w : World} {b : Nat} {k : TV} (h : Blk w b k.c 64) : (loadVar 62 ⟨b, 0, none⟩).run Try.prog w = .ok (.agg (insT (k.i.op : Int) k.i.tk)) w := by
  have := run_loadVar_mid (P := Try.prog) w b 0 62 (insT (k.i.op : Int) k.i.tk).toList _ (fun j v hv => by
    rw [Nat.zero_add]
    refine h.cell ?_
    rcases j with _ | _ | _ | _ | _ | _ | j
    all_goals first | exact hv | cases hv) Try.underlying62 rfl sizeIn'
  exact this
theorem loadTaS {w : World} {b : Nat} {k : TV} (h : Blk w b k.c 64) (hv : k.v.R.length = 32) : (loadVar 26 ⟨b, 6, none⟩).run Try.prog w = .ok (.agg k.v.c) w := by
  have := run_loadVar_mid (P := Try.prog) w b 6 26 k.v.l _ (fun j u hu => by
    have hj : j < 37 := by
      have := (List.getElem?_eq_some_iff.1 hu).1
      rw [SV.len hv] at this
      exact this
    exact h.cell ((TV.getS k hv hj).trans ((SV.get _ _).trans hu))) Try.underlying26 rfl (by rw [SV.len hv]; exact sizeSV)
  exact this
theorem wpList_loadTaI {ops : Array Oper} {rest : List Oper} {o : Oper} {a : Act} {w : World} {Q : Exit → Act → World → Prop} (hgd : o.guard = none) (x : Operand) (ho : o.op = .load 62 x)
    (g : Nat) (k : TV) (hx : a.eval x = .pointer (some ⟨g, 0, none⟩)) (hg : Blk w g k.c 64)
    (h : wpList Try.prog ops Q rest (a.put o.dst (.agg (insT (k.i.op : Int) k.i.tk))) w) : wpList Try.prog ops Q (o :: rest) a w := by
  refine wpList_plain hgd fun _ hK => ?_
  have h2 := hK _ _ h
  unfold Oper.wp execOp
  simp only [ho, hx, Instr.loadAt, Instr.sureAddr, Sem.run_bind, Sem.run_pure, Result.andThen_ok, loadTaI hg]
  exact h2
theorem wpList_loadTaS {ops : Array Oper} {rest : List Oper} {o : Oper} {a : Act} {w : World} {Q : Exit → Act → World → Prop} (hgd : o.guard = none) (x : Operand) (ho : o.op = .load 26 x)
    (g : Nat) (k : TV) (hx : a.eval x = .pointer (some ⟨g, 6, none⟩)) (hg : Blk w g k.c 64) (hv : k.v.R.length = 32)
    (h : wpList Try.prog ops Q rest (a.put o.dst (.agg k.v.c)) w) : wpList Try.prog ops Q (o :: rest) a w := by
  refine wpList_plain hgd fun _ hK => ?_
  have h2 := hK _ _ h
  unfold Oper.wp execOp
  simp only [ho, hx, Instr.loadAt, Instr.sureAddr, Sem.run_bind, Sem.run_pure, Result.andThen_ok, loadTaS hg hv]
  exact h2
set_option maxRecDepth 20000 in
theorem buildTa (k : TV) (hv : k.v.R.length = 32) (w : World) : (Instr.build 64 #[(0, .agg (insT (k.i.op : Int) k.i.tk)), (1, .agg k.v.c), (2, .int .u32 k.x), (3, .int .u32 k.t), (4, .int .u32 (k.a : Int))]).run Try.prog w = .ok (.agg k.c) w := by
  obtain ⟨i, ⟨R, hi, lo, pc, nx, sl⟩, x, t, a⟩ := k
  obtain ⟨a0, a1, a2, a3, a4, a5, a6, a7, a8, a9, a10, a11, a12, a13, a14, a15, a16, a17, a18, a19, a20, a21, a22, a23, a24, a25, a26, a27, a28, a29, a30, a31, rfl⟩ := list32 R hv
  exact run_build w 64 _ _ (by kernel_rfl)
end Go.Proofs.Ytobnocioefchlaa
