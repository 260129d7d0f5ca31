/- What a row makes of a word, exactly. -/
import Derived.Test.YtobnocioefchlaaPMAU
import Derived.Test.YtobnocioefchlaaPMAT
namespace Go.Proofs.Ytobnocioefchlaa
open Go.ChangeShapes Go.WideShapes Go.ChangeAt Go.RowKit
set_option linter.unusedVariables false
set_option maxRecDepth 20000 in
set_option maxHeartbeats 1000000 in
theorem cutx_80 (op : Int) (o n : Nat) (nm : ByteArray) (v : Nat) (hv : v < 4294967296) (w : World) : Calls Try.prog 86 #[.agg (rwC op 80 (o : Int) (n : Int) nm), .int .u32 (v : Int)] w fun e w' => e = .returned (.agg (insT op (tkR 80 v))) ∧ Below w.heap.size w w' := by
  obtain ⟨g1, g2, g3, g4, g5⟩ := w64s v hv
  have ha := and_half v hv
  have hs := hidden (sxw_lt v)
  go_enter Try.func86, Try.ntmps86
  go_wp2_with (first | (go_at_call 99; (first | (with_reducible refine (fldS v hv _).mono ?_) | (with_reducible refine (fldT v hv _).mono ?_) | (with_reducible refine (fldD v hv _).mono ?_) | (with_reducible refine (fldA v hv _).mono ?_) | (with_reducible refine (fldF v hv _).mono ?_) | (with_reducible refine (fldI v hv _).mono ?_) | (with_reducible refine (fldC v hv _).mono ?_) | (with_reducible refine (fldJ v hv _).mono ?_)); rintro e w4 ⟨rfl, rfl⟩) | (go_at_call 100; refine (sextX v hv _).mono ?_; rintro e w4 ⟨rfl, rfl⟩))
  refine bodyPost_ret (results_cell_row rfl _ _ (w.heap.size + 1) 62 (insC _ _ _ _ _ _) (0, 0) _ rfl (cut_end w _ _ _ _ _ _ _).1 Try.underlying62 rfl size24) rfl ⟨ret_ins ?_ ?_ ?_ ?_ ?_, (cut_end w _ _ _ _ _ _ _).2⟩
  all_goals (first | rfl | (have e : (tkR 80 v).imm = sxw v := rfl; rw [e]; have hs2 := hs.out; omega))
set_option maxRecDepth 20000 in
set_option maxHeartbeats 1000000 in
theorem cutx_86 (op : Int) (o n : Nat) (nm : ByteArray) (v : Nat) (hv : v < 4294967296) (w : World) : Calls Try.prog 86 #[.agg (rwC op 86 (o : Int) (n : Int) nm), .int .u32 (v : Int)] w fun e w' => e = .returned (.agg (insT op (tkR 86 v))) ∧ Below w.heap.size w w' := by
  obtain ⟨g1, g2, g3, g4, g5⟩ := w64s v hv
  have ha := and_half v hv
  have hs := hidden (sxw_lt v)
  go_enter Try.func86, Try.ntmps86
  go_wp2_with (first | (go_at_call 99; (first | (with_reducible refine (fldS v hv _).mono ?_) | (with_reducible refine (fldT v hv _).mono ?_) | (with_reducible refine (fldD v hv _).mono ?_) | (with_reducible refine (fldA v hv _).mono ?_) | (with_reducible refine (fldF v hv _).mono ?_) | (with_reducible refine (fldI v hv _).mono ?_) | (with_reducible refine (fldC v hv _).mono ?_) | (with_reducible refine (fldJ v hv _).mono ?_)); rintro e w4 ⟨rfl, rfl⟩) | (go_at_call 100; refine (sextX v hv _).mono ?_; rintro e w4 ⟨rfl, rfl⟩))
  refine bodyPost_ret (results_cell_row rfl _ _ (w.heap.size + 1) 62 (insC _ _ _ _ _ _) (0, 0) _ rfl (cut_end w _ _ _ _ _ _ _).1 Try.underlying62 rfl size24) rfl ⟨ret_ins ?_ ?_ ?_ ?_ ?_, (cut_end w _ _ _ _ _ _ _).2⟩
  all_goals (first | rfl | (have e : (tkR 86 v).imm = v % 65536 := rfl; rw [e]; have hs2 := hs.out; omega))
set_option maxRecDepth 20000 in
set_option maxHeartbeats 1000000 in
theorem cutx_90 (op : Int) (o n : Nat) (nm : ByteArray) (v : Nat) (hv : v < 4294967296) (w : World) : Calls Try.prog 86 #[.agg (rwC op 90 (o : Int) (n : Int) nm), .int .u32 (v : Int)] w fun e w' => e = .returned (.agg (insT op (tkR 90 v))) ∧ Below w.heap.size w w' := by
  obtain ⟨g1, g2, g3, g4, g5⟩ := w64s v hv
  have ha := and_half v hv
  have hs := hidden (sxw_lt v)
  go_enter Try.func86, Try.ntmps86
  go_wp2_with (first | (go_at_call 99; (first | (with_reducible refine (fldS v hv _).mono ?_) | (with_reducible refine (fldT v hv _).mono ?_) | (with_reducible refine (fldD v hv _).mono ?_) | (with_reducible refine (fldA v hv _).mono ?_) | (with_reducible refine (fldF v hv _).mono ?_) | (with_reducible refine (fldI v hv _).mono ?_) | (with_reducible refine (fldC v hv _).mono ?_) | (with_reducible refine (fldJ v hv _).mono ?_)); rintro e w4 ⟨rfl, rfl⟩) | (go_at_call 100; refine (sextX v hv _).mono ?_; rintro e w4 ⟨rfl, rfl⟩))
  refine bodyPost_ret (results_cell_row rfl _ _ (w.heap.size + 1) 62 (insC _ _ _ _ _ _) (0, 0) _ rfl (cut_end w _ _ _ _ _ _ _).1 Try.underlying62 rfl size24) rfl ⟨ret_ins ?_ ?_ ?_ ?_ ?_, (cut_end w _ _ _ _ _ _ _).2⟩
  all_goals (first | rfl | (have e : (tkR 90 v).imm = sxw v * 4 % 4294967296 := rfl; rw [e]; have hs2 := hs.out; omega))
set_option maxRecDepth 20000 in
set_option maxHeartbeats 1000000 in
theorem cutx_82 (op : Int) (o n : Nat) (nm : ByteArray) (v : Nat) (hv : v < 4294967296) (w : World) : Calls Try.prog 86 #[.agg (rwC op 82 (o : Int) (n : Int) nm), .int .u32 (v : Int)] w fun e w' => e = .returned (.agg (insT op (tkR 82 v))) ∧ Below w.heap.size w w' := by
  obtain ⟨g1, g2, g3, g4, g5⟩ := w64s v hv
  have ha := and_half v hv
  have hs := hidden (sxw_lt v)
  go_enter Try.func86, Try.ntmps86
  go_wp2_with (first | (go_at_call 99; (first | (with_reducible refine (fldS v hv _).mono ?_) | (with_reducible refine (fldT v hv _).mono ?_) | (with_reducible refine (fldD v hv _).mono ?_) | (with_reducible refine (fldA v hv _).mono ?_) | (with_reducible refine (fldF v hv _).mono ?_) | (with_reducible refine (fldI v hv _).mono ?_) | (with_reducible refine (fldC v hv _).mono ?_) | (with_reducible refine (fldJ v hv _).mono ?_)); rintro e w4 ⟨rfl, rfl⟩) | (go_at_call 100; refine (sextX v hv _).mono ?_; rintro e w4 ⟨rfl, rfl⟩))
  refine bodyPost_ret (results_cell_row rfl _ _ (w.heap.size + 1) 62 (insC _ _ _ _ _ _) (0, 0) _ rfl (cut_end w _ _ _ _ _ _ _).1 Try.underlying62 rfl size24) rfl ⟨ret_ins ?_ ?_ ?_ ?_ ?_, (cut_end w _ _ _ _ _ _ _).2⟩
  all_goals (first | rfl | (have e : (tkR 82 v).imm = sxw v * 4 % 4294967296 := rfl; rw [e]; have hs2 := hs.out; omega))
end Go.Proofs.Ytobnocioefchlaa
namespace Go.Proofs.Ytobnocioefchlaa
open Go.ChangeShapes Go.WideShapes Go.ChangeAt Go.RowKit
set_option linter.unusedVariables false
theorem cutx_any {c : Nat} (hc : c ∈ formsL) (op : Int) (o n : Nat) (nm : ByteArray) (v : Nat) (hv : v < 4294967296) (w : World) : Calls Try.prog 86 #[.agg (rwC op (c : Int) (o : Int) (n : Int) nm), .int .u32 (v : Int)] w fun e w' => e = .returned (.agg (insT op (tkR c v))) ∧ Below w.heap.size w w' := by
  simp only [formsL, List.mem_cons, List.not_mem_nil, or_false] at hc
  rcases hc with rfl | rfl | rfl | rfl | rfl | rfl | rfl | rfl | rfl | rfl | rfl | rfl | rfl | rfl | rfl | rfl | rfl | rfl
  · exact cutx_68 op o n nm v hv w
  · exact cutx_88 op o n nm v hv w
  · exact cutx_89 op o n nm v hv w
  · exact cutx_72 op o n nm v hv w
  · exact cutx_77 op o n nm v hv w
  · exact cutx_70 op o n nm v hv w
  · exact cutx_76 op o n nm v hv w
  · exact cutx_71 op o n nm v hv w
  · exact cutx_84 op o n nm v hv w
  · exact cutx_67 op o n nm v hv w
  · exact cutx_73 op o n nm v hv w
  · exact cutx_80 op o n nm v hv w
  · exact cutx_85 op o n nm v hv w
  · exact cutx_86 op o n nm v hv w
  · exact cutx_66 op o n nm v hv w
  · exact cutx_90 op o n nm v hv w
  · exact cutx_82 op o n nm v hv w
  · exact cutx_74 op o n nm v hv w
end Go.Proofs.Ytobnocioefchlaa
namespace Go.Proofs.Ytobnocioefchlaa
open Go.ChangeShapes Go.WideShapes Go.ChangeAt Go.RowKit
set_option linter.unusedVariables false
theorem rows_tab : (List.range 69).all (fun k => decide ((tabL.getD k noRw).op = ((rowR k).1 : Int)) && (decide ((tabL.getD k noRw).form = ((rowR k).2.1 : Int)) && (decide ((tabL.getD k noRw).o = ((rowR k).2.2.1 : Int)) && (decide ((tabL.getD k noRw).f = ((rowR k).2.2.2 : Int)) && formsL.contains (rowR k).2.1)))) = true := by kernel_rfl
theorem rfit_X (k v : Nat) (hv : v < 4294967296) : rfit v k = fitX (rowR k).2.1 (rowR k).2.2.1 (rowR k).2.2.2 v := (fitX_eq _ _ _ v hv).symm
theorem row_tab {k : Nat} (hk : k < 69) (v g : Nat) (hv : v < 4294967296) : ∃ p c o f : Nat, ∃ nm : ByteArray, c ∈ formsL ∧ p = (rowR k).1 ∧ c = (rowR k).2.1 ∧ rfit v k = fitX c o f v ∧ ∀ u : World, Blk u g tabC 120 → u.cell? ⟨g, k * 5, none⟩ = some (.int .i64 (p : Int)) ∧ u.cell? ⟨g, k * 5 + 1, none⟩ = some (.int .u8 (c : Int)) ∧ u.cell? ⟨g, k * 5 + 2, none⟩ = some (.int .i64 (o : Int)) ∧ u.cell? ⟨g, k * 5 + 3, none⟩ = some (.int .i64 (f : Int)) ∧ u.cell? ⟨g, k * 5 + 4, none⟩ = some (.string nm) := by
  have h := List.all_eq_true.1 rows_tab k (List.mem_range.2 hk)
  simp only [Bool.and_eq_true, decide_eq_true_eq, List.contains_iff_mem] at h
  obtain ⟨h1, h2, h3, h4, h5⟩ := h
  refine ⟨_, _, _, _, (tabL.getD k noRw).name, h5, rfl, rfl, rfit_X k v hv, fun u hu => ?_⟩
  have t := tab_cells hu hk
  rw [h1, h2, h3, h4] at t
  exact t
theorem insR_hit {w k : Nat} (hk : k < 69) (h : rfit w k = true) (hj : ∀ j, j < k → rfit w j = false) : insR w = ⟨(rowR k).1, tkR (rowR k).2.1 w⟩ := by
  unfold insR
  rw [findP_some.2 ⟨h, hk, hj⟩]
theorem insR_none {w : Nat} (hj : ∀ j, j < 69 → rfit w j = false) : insR w = ⟨0, ⟨0, 0, 0, 0, 0⟩⟩ := by
  unfold insR
  rw [findP_none.2 hj]
set_option maxRecDepth 20000 in
set_option maxHeartbeats 2000000 in
theorem decx_any (v : Nat) (hv : v < 4294967296) (w : World) : Calls Try.prog 61 #[.int .u32 (v : Int)] w fun e w' => e = .returned (.agg (insT ((insR v).op : Int) (insR v).tk)) ∧ Below w.heap.size w w' := by
  obtain ⟨n, hn⟩ : ∃ n, w.heap.size = n := ⟨_, rfl⟩
  have q0 := Blk.new w (insC 0 0 0 0 0 0) 62
  have b0 := below_new w (.cells (insC 0 0 0 0 0 0) 62)
  have z0 : (w.alloc (.cells (insC 0 0 0 0 0 0) 62)).heap.size = n + 1 := by simp [hn]
  rw [hn] at q0 b0
  have Q0 := hidden q0
  have B0 := hidden b0
  have Z0 := hidden z0
  clear q0 b0 z0
  go_enter Try.func61, Try.ntmps61
  rw [hn]
  go_wp2_with (first
    | (go_at_call 59; refine (table_any _).mono ?_; rintro e w1 ⟨rfl, b1⟩; have P1 := dec_one Z0.out B0.out Q0.out b1; have H1 := hidden P1; clear b1 P1)
    | (refine wpList_allocT rfl rfl ?_; rintro w2 k2 b2; obtain ⟨g, hg⟩ : ∃ g, w1.heap.size = g := ⟨_, rfl⟩; have P2 := dec_two H1.out.1 H1.out.2.1 H1.out.2.2 b2; have S2 := H1.out.2.2; rw [hg] at S2 k2 ⊢; have H2 := hidden P2; have K2 := hidden k2; have G2 := hidden S2; clear b2 k2 hg P2 S2)
    | (refine wpList_storeT rfl rfl g rfl rfl K2.out ?_; rintro w3 k3 b3; have P3 := dec_three H2.out.1 H2.out.2 G2.out b3; have K3 := hidden k3; have H3 := hidden P3; clear k3 b3 P3))
  go_loopw [4] (fun x4 wr => ∃ (k : Nat), k ≤ 69 ∧ x4 = .int .i64 (k : Int) ∧ Hid (∀ j, j < k → rfit v j = false) ∧ Blk wr g tabC 120 ∧ Below n w wr ∧ Blk wr n (insC 0 0 0 0 0 0) 62) (fun x4 _ => 69 - (intOf x4).toNat)
  case atStart => exact ⟨0, by omega, rfl, hidden (fun j hj => absurd hj (Nat.not_lt_zero j)), K3.out, H3.out⟩
  case round =>
    clear H1 H2 H3 K2 K3
    obtain ⟨k, hk, rfl, hJ, hT, hW, hI⟩ := hrel
    by_cases hlt : k < 69
    · have hlt2 : (k : Int) < 69 := by omega
      have hge : (0 : Int) ≤ (k : Int) := by omega
      obtain ⟨p, c, o, f, nm, hc, hp, hcc, hfit, hrow⟩ := row_tab hlt v g hv
      obtain ⟨c0, c1, c2, c3, c4⟩ := hrow wr hT
      have HC := hidden hrow
      have HP := hidden hp
      have HCC := hidden hcc
      have HM := hidden hc
      have HF := hidden hfit
      clear hrow hp hcc hc hfit
      have HT := hidden hT
      have HW := hidden hW
      have HI := hidden hI
      clear hT hW hI
      cases hb : fitX c o f v with
      | true =>
        have HH := hidden (insR_hit hlt (HF.out.trans hb) hJ.out)
        have HB := hidden hb
        clear hb
        go_wp2_with (first
          | (go_at_call 85; refine (fitx_any HM.out (p : Int) o f nm v hv _).mono ?_; rintro e w4 ⟨he, b4⟩; rw [HB.out] at he; subst he; have P4 := hidden (And.intro (HT.out.later b4) (And.intro (HW.out.trans (b4.mono (Nat.le_trans (Nat.le_of_eq hn.symm) HW.out.size))) (HI.out.later b4))); clear b4; obtain ⟨d0, d1, d2, d3, d4⟩ := HC.out _ P4.out.1)
          | (go_at_call 86; refine (cutx_any HM.out (p : Int) o f nm v hv _).mono ?_; rintro e w5 ⟨rfl, b5⟩; have P5 := hidden (And.intro (P4.out.2.1.trans (b5.mono (Nat.le_trans (Nat.le_of_eq hn.symm) P4.out.2.1.size))) (P4.out.2.2.later b5)); clear b5)
          | (refine wpList_storeI rfl rfl n (p : Int) ((tkR c v).s : Int) ((tkR c v).t : Int) ((tkR c v).d : Int) ((tkR c v).a : Int) ((tkR c v).imm : Int) 0 0 0 0 0 0 rfl rfl P5.out.2 ?_; rintro w6 k6 b6; have K6 := hidden k6; have B6 := hidden (b6 n w P5.out.1 (Nat.le_refl n)); clear k6 b6))
        refine bodyPost_ret (results_cell_row rfl _ _ n 62 (insT (p : Int) (tkR c v)) (0, 0) _ rfl K6.out Try.underlying62 rfl size24) rfl ⟨?_, B6.out⟩
        rw [HH.out, ← HP.out, ← HCC.out]
      | false =>
        have HN : ∀ j, j < k + 1 → rfit v j = false := fun j hj => by
          rcases Nat.lt_or_ge j k with h | h
          · exact hJ.out j h
          · rw [show j = k by omega]; exact HF.out.trans hb
        have HN2 := hidden HN
        have HB := hidden hb
        clear hb HN
        go_wp2_with (first
          | (go_at_call 85; refine (fitx_any HM.out (p : Int) o f nm v hv _).mono ?_; rintro e w4 ⟨he, b4⟩; rw [HB.out] at he; subst he; have P4 := hidden (And.intro (HT.out.later b4) (And.intro (HW.out.trans (b4.mono (Nat.le_trans (Nat.le_of_eq hn.symm) HW.out.size))) (HI.out.later b4))); clear b4; obtain ⟨d0, d1, d2, d3, d4⟩ := HC.out _ P4.out.1))
        go_roundw
        case rel => first | exact ⟨k + 1, by omega, by simp, HN2, P4.out⟩ | ((repeat apply Exists.intro); exact ⟨⟨k + 1, by omega, by simp, HN2, P4.out⟩, rfl⟩)
        case measure => simp [intOf]; omega
    · have hnl : ¬ (k : Int) < 69 := by omega
      have HR := hidden (insR_none (w := v) (fun j hj => hJ.out j (by omega)))
      have HW := hidden hW
      have HI := hidden hI
      clear hT hW hI
      go_wp2_with (first
        | (refine wpList_storeI rfl rfl n 0 0 0 0 0 0 0 0 0 0 0 0 rfl rfl HI.out ?_; rintro w6 k6 b6; have K6 := hidden k6; have B6 := hidden (b6 n w HW.out (Nat.le_refl n)); clear k6 b6))
      refine bodyPost_ret (results_cell_row rfl _ _ n 62 (insC 0 0 0 0 0 0) (0, 0) _ rfl K6.out Try.underlying62 rfl size24) rfl ⟨?_, B6.out⟩
      rw [HR.out]
      rfl
end Go.Proofs.Ytobnocioefchlaa
