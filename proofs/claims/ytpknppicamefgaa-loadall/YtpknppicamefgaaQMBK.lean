/- Chapter 6's own Bytes, walked. -/
import Derived.Test.YtpknppicamefgaaQMBJ
import Derived.Test.YtpknppicamefgaaQMBI
namespace Go.Proofs.Ytpknppicamefgaa
open Go.ChangeShapes Go.WideShapes Go.ChangeAt Go.RowKit
set_option linter.unusedVariables false
set_option maxRecDepth 20000 in
set_option maxHeartbeats 8000000 in
theorem rbytes_any (w : World) (ao : Option Addr) (cap ent : Nat) (l : List Sg) (h : Segs w ao l) (hcap : l.length ≤ cap) (hmax : cap ≤ 9223372036854775807) (he : ent < 4294967296) (h8 : l.length ≤ 8) (hok : l.all okB = true) : Calls Try.prog 41 #[.agg #[.int .u32 (ent : Int), .slice ao l.length cap]] w fun e w' => ∃ v', e = .returned v' ∧ Out w' w.heap.size v' (fileB ent l) ∧ Below w.heap.size w w' := by
  obtain ⟨w0, hw0⟩ : ∃ w0, w0 = w.alloc (.cells #[.int .u32 (ent : Int), .slice ao l.length cap] 25) := ⟨_, rfl⟩
  have hb0 : Below w.heap.size w w0 := by rw [hw0]; exact below_new w _
  have hF0 : Blk w0 w.heap.size #[.int .u32 (ent : Int), .slice ao l.length cap] 25 := by rw [hw0]; exact Blk.new w _ _
  have hs0 : w.heap.size ≤ w0.heap.size := Nat.le_of_lt hF0.lt
  have hs1 : w0.heap.size = w.heap.size + 1 := by rw [hw0, World.size_alloc]
  obtain ⟨w1, hw1⟩ : ∃ w1, w1 = w0.alloc (.cells #[.int .u8 127, .int .u8 69, .int .u8 76, .int .u8 70, .int .u8 1, .int .u8 2, .int .u8 1] 5) := ⟨_, rfl⟩
  have hlits : (cellsU (magicB ++ classB)).toArray = #[.int .u8 127, .int .u8 69, .int .u8 76, .int .u8 70, .int .u8 1, .int .u8 2, .int .u8 1] := rfl
  have hc1 : ∀ j u, (cellsU (magicB ++ classB))[j]? = some u → w1.cell? ((⟨w0.heap.size, 0, none⟩ : Addr).add j) = some u := by
    intro j u hu
    rw [hw1, Addr.add_lit, Nat.zero_add, ← hlits]
    exact (Blk.new w0 _ 5).cell (by simpa using hu)
  have hb1 : Below w0.heap.size w0 w1 := by rw [hw1]; exact below_new w0 _
  have hap := run_app9 w1 w0.heap.size hc1
  have ho2 := out_16 w1 w.heap.size (Nat.le_trans hs0 hb1.size)
  have hg2 : Grew w.heap.size w0 (w1.drew.alloc (.cells ((cellsU (magicB ++ classB ++ padB)).toArray ++ Builtin.zeroCells #[.int .u8 0] (grownCap w1 16 7 5 - 16)) 5)) := Grew.of (bthen hb1 ((Below.refl _ _).drew.alloc (by simp) _)) hs0
  generalize w1.drew.alloc (.cells ((cellsU (magicB ++ classB ++ padB)).toArray ++ Builtin.zeroCells #[.int .u8 0] (grownCap w1 16 7 5 - 16)) 5) = w2 at hap ho2 hg2
  generalize Value.slice (some ⟨w1.heap.size, 0, none⟩) 16 (grownCap w1 16 7 5) = v2 at hap ho2
  rw [hs1, hw1, hw0] at hap
  have HAP : Hid _ := hidden hap
  have HB00 := hidden hb0
  have HG0 := hidden (show BO w.heap.size w0 w2 v2 (magicB ++ classB ++ padB) #[.int .u32 (ent : Int), .slice ao l.length cap] from ⟨ho2, hg2, Nat.le_trans hs0 hg2.size, hg2.keep _ _ _ (by decide) hF0⟩)
  have H := hidden h
  have HOK := hidden hok
  have h82 : (l.length : Int) ≤ 8 := by omega
  clear hap ho2 hg2 hc1 hb1 hb0 hF0 hs0 h hok hw1 hlits hs1 hw0
  have HC0 : Hid (∀ v w', BO w.heap.size w0 w' v (magicB ++ classB ++ padB) #[.int .u32 (ent : Int), .slice ao l.length cap] → Calls Try.prog 66 #[v, .int .i64 2] w' fun e w'' => ∃ v', e = .returned v' ∧ BO w.heap.size w0 w'' v' (magicB ++ classB ++ padB ++ put16 2) #[.int .u32 (ent : Int), .slice ao l.length cap]) := fun v w' hh => hh.put16 2 2 rfl (by first | decide | (simp only [List.length_append, put16_len, put32_len]; decide)) (by first | omega | decide)
  have HC1 : Hid (∀ v w', BO w.heap.size w0 w' v (magicB ++ classB ++ padB ++ put16 2) #[.int .u32 (ent : Int), .slice ao l.length cap] → Calls Try.prog 66 #[v, .int .i64 8] w' fun e w'' => ∃ v', e = .returned v' ∧ BO w.heap.size w0 w'' v' (magicB ++ classB ++ padB ++ put16 2 ++ put16 8) #[.int .u32 (ent : Int), .slice ao l.length cap]) := fun v w' hh => hh.put16 8 8 rfl (by first | decide | (simp only [List.length_append, put16_len, put32_len]; decide)) (by first | omega | decide)
  have HC2 : Hid (∀ v w', BO w.heap.size w0 w' v (magicB ++ classB ++ padB ++ put16 2 ++ put16 8) #[.int .u32 (ent : Int), .slice ao l.length cap] → Calls Try.prog 65 #[v, .int .i64 1] w' fun e w'' => ∃ v', e = .returned v' ∧ BO w.heap.size w0 w'' v' (magicB ++ classB ++ padB ++ put16 2 ++ put16 8 ++ put32 1) #[.int .u32 (ent : Int), .slice ao l.length cap]) := fun v w' hh => hh.put32 1 1 rfl (by first | decide | (simp only [List.length_append, put16_len, put32_len]; decide)) (by first | omega | decide)
  have HC3 : Hid (∀ v w', BO w.heap.size w0 w' v (magicB ++ classB ++ padB ++ put16 2 ++ put16 8 ++ put32 1) #[.int .u32 (ent : Int), .slice ao l.length cap] → Calls Try.prog 65 #[v, .int .i64 (ent : Int)] w' fun e w'' => ∃ v', e = .returned v' ∧ BO w.heap.size w0 w'' v' (magicB ++ classB ++ padB ++ put16 2 ++ put16 8 ++ put32 1 ++ put32 ent) #[.int .u32 (ent : Int), .slice ao l.length cap]) := fun v w' hh => hh.put32 (ent : Int) ent rfl (by first | decide | (simp only [List.length_append, put16_len, put32_len]; decide)) (by first | omega | decide)
  have HC4 : Hid (∀ v w', BO w.heap.size w0 w' v (magicB ++ classB ++ padB ++ put16 2 ++ put16 8 ++ put32 1 ++ put32 ent) #[.int .u32 (ent : Int), .slice ao l.length cap] → Calls Try.prog 65 #[v, .int .i64 52] w' fun e w'' => ∃ v', e = .returned v' ∧ BO w.heap.size w0 w'' v' (magicB ++ classB ++ padB ++ put16 2 ++ put16 8 ++ put32 1 ++ put32 ent ++ put32 52) #[.int .u32 (ent : Int), .slice ao l.length cap]) := fun v w' hh => hh.put32 52 52 rfl (by first | decide | (simp only [List.length_append, put16_len, put32_len]; decide)) (by first | omega | decide)
  have HC5 : Hid (∀ v w', BO w.heap.size w0 w' v (magicB ++ classB ++ padB ++ put16 2 ++ put16 8 ++ put32 1 ++ put32 ent ++ put32 52) #[.int .u32 (ent : Int), .slice ao l.length cap] → Calls Try.prog 65 #[v, .int .i64 0] w' fun e w'' => ∃ v', e = .returned v' ∧ BO w.heap.size w0 w'' v' (magicB ++ classB ++ padB ++ put16 2 ++ put16 8 ++ put32 1 ++ put32 ent ++ put32 52 ++ put32 0) #[.int .u32 (ent : Int), .slice ao l.length cap]) := fun v w' hh => hh.put32 0 0 rfl (by first | decide | (simp only [List.length_append, put16_len, put32_len]; decide)) (by first | omega | decide)
  have HC6 : Hid (∀ v w', BO w.heap.size w0 w' v (magicB ++ classB ++ padB ++ put16 2 ++ put16 8 ++ put32 1 ++ put32 ent ++ put32 52 ++ put32 0) #[.int .u32 (ent : Int), .slice ao l.length cap] → Calls Try.prog 65 #[v, .int .i64 0] w' fun e w'' => ∃ v', e = .returned v' ∧ BO w.heap.size w0 w'' v' (magicB ++ classB ++ padB ++ put16 2 ++ put16 8 ++ put32 1 ++ put32 ent ++ put32 52 ++ put32 0 ++ put32 0) #[.int .u32 (ent : Int), .slice ao l.length cap]) := fun v w' hh => hh.put32 0 0 rfl (by first | decide | (simp only [List.length_append, put16_len, put32_len]; decide)) (by first | omega | decide)
  go_enter Try.func41, Try.ntmps41
  go_wp2_with (first | (at_builtin; refine wpList_append_run rfl _ _ 51 3 rfl rfl rfl (Hid.out HAP) ?_) | (go_at_call 66; with_reducible refine (Hid.out HC0 _ _ (Hid.out HG0)).mono ?_; rintro e w0q ⟨v0q, rfl, hbo0⟩; have HG1 := hidden hbo0; clear hbo0 HG0 HC0) | (go_at_call 66; with_reducible refine (Hid.out HC1 _ _ (Hid.out HG1)).mono ?_; rintro e w1q ⟨v1q, rfl, hbo1⟩; have HG2 := hidden hbo1; clear hbo1 HG1 HC1) | (go_at_call 65; with_reducible refine (Hid.out HC2 _ _ (Hid.out HG2)).mono ?_; rintro e w2q ⟨v2q, rfl, hbo2⟩; have HG3 := hidden hbo2; have f0 := BO.ent hbo2; have f1 := BO.lt hbo2; clear hbo2 HG2 HC2) | (go_at_call 65; with_reducible refine (Hid.out HC3 _ _ (Hid.out HG3)).mono ?_; rintro e w3q ⟨v3q, rfl, hbo3⟩; have HG4 := hidden hbo3; clear hbo3 HG3 HC3) | (go_at_call 65; with_reducible refine (Hid.out HC4 _ _ (Hid.out HG4)).mono ?_; rintro e w4q ⟨v4q, rfl, hbo4⟩; have HG5 := hidden hbo4; clear hbo4 HG4 HC4) | (go_at_call 65; with_reducible refine (Hid.out HC5 _ _ (Hid.out HG5)).mono ?_; rintro e w5q ⟨v5q, rfl, hbo5⟩; have HG6 := hidden hbo5; clear hbo5 HG5 HC5) | (go_at_call 65; with_reducible refine (Hid.out HC6 _ _ (Hid.out HG6)).mono ?_; rintro e w6q ⟨v6q, rfl, hbo6⟩; have HG7 := hidden hbo6; clear hbo6 HG6 HC6))
  obtain ⟨base, hbase⟩ : ∃ base, base = w.heap.size := ⟨_, rfl⟩
  have HSZ : Hid (w.heap.size = base) := hbase.symm
  rw [← hbase] at HG7 HB00 ⊢
  clear hbase f0 f1
  have HB0 := hidden (Hid.out HG7).size
  have HO0 := hidden (Hid.out HG7).out
  have HF := hidden (Hid.out HG7).file
  generalize hpreq : (magicB ++ classB ++ padB ++ put16 2 ++ put16 8 ++ put32 1 ++ put32 ent ++ put32 52 ++ put32 0 ++ put32 0) = pre at HG7 HO0
  have hpl : pre.length ≤ 800000 := by rw [← hpreq]; simp only [List.length_append, put16_len, put32_len]; decide
  have HPRE := hidden hpreq
  clear hpreq
  refine wp_region_chain (R := RG base) (Rq := fun u x => Below u.heap.size u x) (later_rg base) (rg_of base) (fun u => (Below.refl _ u).drew) 7 [22, 23, 24, 25, 26, 27, 28] [1, 2, 6] (v6q) (fun t x u => base ≤ u.heap.size ∧ Out u base x (lsP pre ([put16 52, put16 32, put16 l.length]) t)) (phiRa base l.length cap ao v6q) (by kernel_rfl) (by kernel_rfl) rfl (by kernel_rfl) ⟨Hid.out HB0, (Hid.out HO0).cast (lsP_zero pre _)⟩ (phiRa_mono base l.length cap ao v6q _) (psi_mono base pre _) ?_ ?_ ?_ (by decide)
  · intro j hj hjc xs w3 hxs hR hpre
    obtain ⟨x0, x1, x2, x3, x4, x5, x6, rfl⟩ := listC7 xs hxs
    have hg3 := hR (Hid.out HB0)
    have hc3 : w3.cell? ⟨base, 1, none⟩ = some (.slice ao l.length cap) := (hg3.keep _ _ _ (by decide) (Hid.out HF)).cell rfl
    rcases (show j = 0 ∨ j = 1 ∨ j = 2 ∨ j = 3 ∨ j = 4 ∨ j = 5 ∨ j = 6 by omega) with rfl | rfl | rfl | rfl | rfl | rfl | rfl
    · exact wpOp_run (v6q) rfl (by kernel_rfl) (exec_move rfl (by kernel_rfl) w3) ⟨_, by kernel_rfl, rfl, Below.refl _ _⟩
    · exact absurd (by decide) hjc
    · exact absurd (by decide) hjc
    · exact wpOp_run (.pointer (some ⟨base, 1, none⟩)) rfl (by kernel_rfl) (by kernel_rfl) ⟨_, by kernel_rfl, rfl, Below.refl _ _⟩
    · have e3 : x3 = .pointer (some ⟨base, 1, none⟩) := hpre 3 (by kernel_rfl) (by decide)
      subst e3
      exact wpOp_run (.slice ao l.length cap) rfl (by kernel_rfl) (exec_load 23 rfl (by kernel_rfl) w3 (load23s hc3)) ⟨_, by kernel_rfl, rfl, Below.refl _ _⟩
    · have e4 : x4 = .slice ao l.length cap := hpre 4 (by kernel_rfl) (by decide)
      subst e4
      exact wpOp_run (.int .i64 (l.length : Int)) rfl (by kernel_rfl) (exec_len24 (ao := ao) (c := cap) rfl (by kernel_rfl) w3) ⟨_, by kernel_rfl, rfl, Below.refl _ _⟩
    · exact absurd (by decide) hjc
  · intro t c ht hc xs w3 hxs hR hpre hpsi
    obtain ⟨x0, x1, x2, x3, x4, x5, x6, rfl⟩ := listC7 xs hxs
    have hg3 := hR (Hid.out HB0)
    have hc3 : w3.cell? ⟨base, 1, none⟩ = some (.slice ao l.length cap) := (hg3.keep _ _ _ (by decide) (Hid.out HF)).cell rfl
    rcases (show t = 0 ∨ t = 1 ∨ t = 2 by simp only [List.length_cons, List.length_nil] at ht; omega) with rfl | rfl | rfl
    · obtain rfl : c = 1 := hc.symm
      have e0 : v6q = x0 := (show x0 = v6q from hpre 0 (by kernel_rfl) (by decide)).symm
      subst e0
      have hb := hpsi.1
      have ho : Out w3 base v6q (lsP pre ([put16 52, put16 32, put16 l.length]) 0) := hpsi.2
      refine wpOp_callR (R := fun u w4 => Out w4 base u (lsP pre ([put16 52, put16 32, put16 l.length]) 1) ∧ Grew base w3 w4) 66 #[v6q, .int .i64 52] rfl (by kernel_rfl) (by kernel_rfl) ((r16z w3 base _ _ 52 52 rfl ho hb (lsP_len hpl (Nat.le_of_ble_eq_true (by kernel_rfl))) (by omega)).mono fun e w4 ⟨v4, he, ho4, hg4⟩ => ⟨v4, he, ho4.cast (lsP_step pre ([put16 52, put16 32, put16 l.length]) 0 _ rfl), hg4⟩) ?_
      rintro u w4 ⟨hu, hg4⟩
      exact ⟨_, by kernel_rfl, ⟨Nat.le_trans hb hg4.size, hu⟩, fun _ => hg4⟩
    · obtain rfl : c = 2 := hc.symm
      have hb := hpsi.1
      have ho : Out w3 base x1 (lsP pre ([put16 52, put16 32, put16 l.length]) 1) := hpsi.2
      refine wpOp_callR (R := fun u w4 => Out w4 base u (lsP pre ([put16 52, put16 32, put16 l.length]) 2) ∧ Grew base w3 w4) 66 #[x1, .int .i64 32] rfl (by kernel_rfl) (by kernel_rfl) ((r16z w3 base _ _ 32 32 rfl ho hb (lsP_len hpl (Nat.le_of_ble_eq_true (by kernel_rfl))) (by omega)).mono fun e w4 ⟨v4, he, ho4, hg4⟩ => ⟨v4, he, ho4.cast (lsP_step pre ([put16 52, put16 32, put16 l.length]) 1 _ rfl), hg4⟩) ?_
      rintro u w4 ⟨hu, hg4⟩
      exact ⟨_, by kernel_rfl, ⟨Nat.le_trans hb hg4.size, hu⟩, fun _ => hg4⟩
    · obtain rfl : c = 6 := hc.symm
      have e5 : x5 = .int .i64 (l.length : Int) := hpre 5 (by kernel_rfl) (by decide)
      subst e5
      have hb := hpsi.1
      have ho : Out w3 base x2 (lsP pre ([put16 52, put16 32, put16 l.length]) 2) := hpsi.2
      refine wpOp_callR (R := fun u w4 => Out w4 base u (lsP pre ([put16 52, put16 32, put16 l.length]) 3) ∧ Grew base w3 w4) 66 #[x2, .int .i64 (l.length : Int)] rfl (by kernel_rfl) (by kernel_rfl) ((r16z w3 base _ _ (l.length : Int) l.length rfl ho hb (lsP_len hpl (Nat.le_of_ble_eq_true (by kernel_rfl))) (by omega)).mono fun e w4 ⟨v4, he, ho4, hg4⟩ => ⟨v4, he, ho4.cast (lsP_step pre ([put16 52, put16 32, put16 l.length]) 2 _ rfl), hg4⟩) ?_
      rintro u w4 ⟨hu, hg4⟩
      exact ⟨_, by kernel_rfl, ⟨Nat.le_trans hb hg4.size, hu⟩, fun _ => hg4⟩
  · intro xs w3 hxs hR hall hpsi
    obtain ⟨x0, x1, x2, x3, x4, x5, x6, rfl⟩ := listC7 xs hxs
    have e0 : v6q = x0 := (show x0 = v6q from hall 0 (by omega) (by decide)).symm
    subst e0
    have e3 : x3 = .pointer (some ⟨base, 1, none⟩) := hall 3 (by omega) (by decide)
    subst e3
    have e4 : x4 = .slice ao l.length cap := hall 4 (by omega) (by decide)
    subst e4
    have e5 : x5 = .int .i64 (l.length : Int) := hall 5 (by omega) (by decide)
    subst e5
    have hg3 := hR (Hid.out HB0)
    have hx : Out w3 base x6 (lsP pre [put16 52, put16 32, put16 l.length] 3) := hpsi.2
    have HG20 := hidden ((Hid.out HG7).step hx hg3)
    clear hx
    clear hpsi hg3 hR hall hxs
    simp only [slotsOn, putAll, List.set_cons_succ, List.set_cons_zero, List.drop_succ_cons, List.drop_zero]
    have HC20 : Hid (∀ v w', BO base w0 w' v (lsP pre [put16 52, put16 32, put16 l.length] 3) #[.int .u32 (ent : Int), .slice ao l.length cap] → Calls Try.prog 66 #[v, .int .i64 0] w' fun e w'' => ∃ v', e = .returned v' ∧ BO base w0 w'' v' (lsP pre [put16 52, put16 32, put16 l.length] 3 ++ put16 0) #[.int .u32 (ent : Int), .slice ao l.length cap]) := fun v w' hh => hh.put16 0 0 rfl (by simp only [lsP, List.take_succ_cons, List.take_zero, List.flatten_cons, List.flatten_nil, List.length_nil, List.length_append, put16_len]; omega) (by first | omega | decide)
    have HC21 : Hid (∀ v w', BO base w0 w' v (lsP pre [put16 52, put16 32, put16 l.length] 3 ++ put16 0) #[.int .u32 (ent : Int), .slice ao l.length cap] → Calls Try.prog 66 #[v, .int .i64 0] w' fun e w'' => ∃ v', e = .returned v' ∧ BO base w0 w'' v' (lsP pre [put16 52, put16 32, put16 l.length] 3 ++ put16 0 ++ put16 0) #[.int .u32 (ent : Int), .slice ao l.length cap]) := fun v w' hh => hh.put16 0 0 rfl (by simp only [lsP, List.take_succ_cons, List.take_zero, List.flatten_cons, List.flatten_nil, List.length_nil, List.length_append, put16_len]; omega) (by first | omega | decide)
    have HC22 : Hid (∀ v w', BO base w0 w' v (lsP pre [put16 52, put16 32, put16 l.length] 3 ++ put16 0 ++ put16 0) #[.int .u32 (ent : Int), .slice ao l.length cap] → Calls Try.prog 66 #[v, .int .i64 0] w' fun e w'' => ∃ v', e = .returned v' ∧ BO base w0 w'' v' (lsP pre [put16 52, put16 32, put16 l.length] 3 ++ put16 0 ++ put16 0 ++ put16 0) #[.int .u32 (ent : Int), .slice ao l.length cap]) := fun v w' hh => hh.put16 0 0 rfl (by simp only [lsP, List.take_succ_cons, List.take_zero, List.flatten_cons, List.flatten_nil, List.length_nil, List.length_append, put16_len]; omega) (by first | omega | decide)
    go_wp2_with (first | (go_at_call 66; with_reducible refine (Hid.out HC20 _ _ (Hid.out HG20)).mono ?_; rintro e w20q ⟨v20q, rfl, hbo20⟩; have HG21 := hidden hbo20; clear hbo20 HG20 HC20) | (go_at_call 66; with_reducible refine (Hid.out HC21 _ _ (Hid.out HG21)).mono ?_; rintro e w21q ⟨v21q, rfl, hbo21⟩; have HG22 := hidden hbo21; clear hbo21 HG21 HC21) | (go_at_call 66; with_reducible refine (Hid.out HC22 _ _ (Hid.out HG22)).mono ?_; rintro e w22q ⟨v22q, rfl, hbo22⟩; have HG23 := hidden hbo22; have hfile := BO.seg hbo22; have hflt := BO.lt hbo22; clear hbo22 HG22 HC22))
    have HHEAD : Hid (BO base w0 w22q v22q (headB ent l.length) #[.int .u32 (ent : Int), .slice ao l.length cap]) := by
      have := Hid.out HG23
      rw [← Hid.out HPRE] at this
      unfold lsP at this
      have e1 : magicB ++ classB ++ padB ++ put16 2 ++ put16 8 ++ put32 1 ++ put32 ent ++ put32 52 ++ put32 0 ++ put32 0 ++ (List.take 3 [put16 52, put16 32, put16 l.length]).flatten ++ put16 0 ++ put16 0 ++ put16 0 = headB ent l.length := by
        simp only [List.take_succ_cons, List.take_zero, List.flatten_cons, List.flatten_nil, headB, List.append_assoc, List.append_nil]
      rw [e1] at this
      exact this
    clear HG23 HPRE hpl HB0 HO0 HF
    clear hfile hflt
    go_loopw [3, 4, 5] (fun x3 x4 x5 wr => ∃ k : Nat, k ≤ l.length ∧ x5 = .int .i64 (k : Int) ∧ x4 = .int .i64 ((52 + 32 * l.length + (datasB (l.take k)).length : Nat) : Int) ∧ BO base w0 wr x3 (headB ent l.length ++ rowsB (52 + 32 * l.length) (l.take k)) #[.int .u32 (ent : Int), .slice ao l.length cap]) (fun x3 x4 x5 _ => l.length - (intOf x5).toNat)
    case atStart => exact ⟨0, by omega, rfl, by first | (simp [datasB]; done) | (simp [datasB]; congr 1; omega) | (congr 1; simp [datasB, wrap64]; omega), by simpa [rowsB] using Hid.out HHEAD⟩
    case round =>
      obtain ⟨k, hk, rfl, rfl, hbo⟩ := hrel
      have hfile : wr.cell? ⟨base, 1, none⟩ = some (.slice ao l.length cap) := hbo.file.cell rfl
      have hdk := datas_len (Hid.out HOK) k hk
      have hbw : Below w.heap.size w wr := by rw [Hid.out HSZ]; exact (Hid.out HB00).trans hbo.grew.below
      have HBW := hidden hbw
      by_cases hkl : k < l.length
      · obtain ⟨b, off, rfl, hlt, hcs⟩ := ((Hid.out H).later hbw).at hkl
        have hts := take_one l k hkl
        have hsok := ok_size (all_get (Hid.out HOK) hkl)
        have hat1 := hcs k hkl
        generalize l.getD k nosg = s at hts hsok hat1
        obtain ⟨at_, data, size, perm⟩ := s
        obtain ⟨z1, z2, z3, z4, z5, z6⟩ := hsok
        obtain ⟨c0, c1, c2, c3, _⟩ := hat1
        simp only at z1 z2 z3 z4 z5 z6 c0 c1 c2 c3
        obtain ⟨p, rfl⟩ := Int.eq_ofNat_of_zero_le z5
        have hkl2 : (k : Int) < (l.length : Int) := by omega
        obtain ⟨E, hE⟩ : ∃ E, E = 52 + 32 * l.length + (datasB (l.take k)).length := ⟨_, rfl⟩
        have hE2 : E ≤ 200000 := by omega
        have hds : (ByteArray.mk data.toArray).size = data.length := by simp [ByteArray.size]
        have hat : at_ < 4294967296 := by omega
        have hsz : size < 4294967296 := by omega
        have HEN : Hid ((datasB (l.take (k + 1))).length = (datasB (l.take k)).length + data.length) := by
          show _ = _
          rw [hts, datasB_snoc, List.length_append]
        have HEE := hidden hE
        have HTS := hidden hts
        rw [← hE]
        have hnew := below_new wr (.cells #[.int .u32 (at_ : Int), .string ⟨data.toArray⟩, .int .u32 (size : Int), .int .i64 (p : Int)] 44)
        have hbo1 := hbo.step (hbo.out.later hnew) (Grew.of hnew hbo.size)
        have HS := hidden (Blk.new wr #[.int .u32 (at_ : Int), .string ⟨data.toArray⟩, .int .u32 (size : Int), .int .i64 (p : Int)] 44)
        have HBO := hidden hbo1
        have HB0 := hidden hbo1.size
        have HO0 := hidden hbo1.out
        generalize hpreq : headB ent l.length ++ rowsB (52 + 32 * l.length) (l.take k) = pre at HBO HO0
        have hpl : pre.length ≤ 800000 := by rw [← hpreq, List.length_append, headB_len, rowsB_len, List.length_take]; omega
        have HPRE := hidden hpreq
        obtain ⟨sb, hsb⟩ : ∃ sb, sb = wr.heap.size := ⟨_, rfl⟩
        clear hbo hbo1 hnew hts hcs hbw hE hdk hpreq
        go_wp2
        refine wp_region_chain (R := RG base) (Rq := fun u x => Below u.heap.size u x) (later_rg base) (rg_of base) (fun u => (Below.refl _ u).drew) 12 [50, 51, 52, 53, 54, 55, 56, 57, 58, 59, 60, 61] [1, 3, 7, 11] (u3) (fun t x u => base ≤ u.heap.size ∧ Out u base x (lsP pre ([put32 1, put32 E, put32 at_, put32 at_]) t)) (phiRb wr.heap.size E at_ u3) (by kernel_rfl) (by kernel_rfl) rfl (by kernel_rfl) ⟨Hid.out HB0, (Hid.out HO0).cast (lsP_zero pre _)⟩ (phiRb_mono wr.heap.size E at_ u3 _) (psi_mono base pre _) ?_ ?_ ?_ (by decide)
        · intro j hj hjc xs w3 hxs hR hpre
          obtain ⟨x0, x1, x2, x3, x4, x5, x6, x7, x8, x9, x10, x11, rfl⟩ := listC12 xs hxs
          have hg3 := hR (Hid.out HB0)
          have hS3 := hg3.keep _ _ _ (by decide) (Hid.out HS)
          have s0 : w3.cell? ⟨wr.heap.size, 0, none⟩ = some (.int .u32 (at_ : Int)) := hS3.cell rfl
          have s1 : w3.cell? ⟨wr.heap.size, 1, none⟩ = some (.string ⟨data.toArray⟩) := hS3.cell rfl
          have s2 : w3.cell? ⟨wr.heap.size, 2, none⟩ = some (.int .u32 (size : Int)) := hS3.cell rfl
          have s3 : w3.cell? ⟨wr.heap.size, 3, none⟩ = some (.int .i64 (p : Int)) := hS3.cell rfl
          rcases (show j = 0 ∨ j = 1 ∨ j = 2 ∨ j = 3 ∨ j = 4 ∨ j = 5 ∨ j = 6 ∨ j = 7 ∨ j = 8 ∨ j = 9 ∨ j = 10 ∨ j = 11 by omega) with rfl | rfl | rfl | rfl | rfl | rfl | rfl | rfl | rfl | rfl | rfl | rfl
          · exact wpOp_run (u3) rfl (by kernel_rfl) (exec_move rfl (by kernel_rfl) w3) ⟨_, by kernel_rfl, rfl, Below.refl _ _⟩
          · exact absurd (by decide) hjc
          · exact wpOp_run (.int .i64 (E : Int)) rfl (by kernel_rfl) (exec_move rfl (by kernel_rfl) w3) ⟨_, by kernel_rfl, rfl, Below.refl _ _⟩
          · exact absurd (by decide) hjc
          · exact wpOp_run (.pointer (some ⟨wr.heap.size, 0, none⟩)) rfl (by kernel_rfl) (by kernel_rfl) ⟨_, by kernel_rfl, rfl, Below.refl _ _⟩
          · have e4 : x4 = .pointer (some ⟨wr.heap.size, 0, none⟩) := hpre 4 (by kernel_rfl) (by decide)
            subst e4
            exact wpOp_run (.int .u32 (at_ : Int)) rfl (by kernel_rfl) (exec_load 22 rfl (by kernel_rfl) w3 (load23 s0)) ⟨_, by kernel_rfl, rfl, Below.refl _ _⟩
          · have e5 : x5 = .int .u32 (at_ : Int) := hpre 5 (by kernel_rfl) (by decide)
            subst e5
            exact wpOp_run (.int .i64 (at_ : Int)) rfl (by kernel_rfl) (exec_conv rfl (by kernel_rfl) hat w3) ⟨_, by kernel_rfl, rfl, Below.refl _ _⟩
          · exact absurd (by decide) hjc
          · exact wpOp_run (.pointer (some ⟨wr.heap.size, 0, none⟩)) rfl (by kernel_rfl) (by kernel_rfl) ⟨_, by kernel_rfl, rfl, Below.refl _ _⟩
          · have e8 : x8 = .pointer (some ⟨wr.heap.size, 0, none⟩) := hpre 8 (by kernel_rfl) (by decide)
            subst e8
            exact wpOp_run (.int .u32 (at_ : Int)) rfl (by kernel_rfl) (exec_load 22 rfl (by kernel_rfl) w3 (load23 s0)) ⟨_, by kernel_rfl, rfl, Below.refl _ _⟩
          · have e9 : x9 = .int .u32 (at_ : Int) := hpre 9 (by kernel_rfl) (by decide)
            subst e9
            exact wpOp_run (.int .i64 (at_ : Int)) rfl (by kernel_rfl) (exec_conv rfl (by kernel_rfl) hat w3) ⟨_, by kernel_rfl, rfl, Below.refl _ _⟩
          · exact absurd (by decide) hjc
        · intro t c ht hc xs w3 hxs hR hpre hpsi
          obtain ⟨x0, x1, x2, x3, x4, x5, x6, x7, x8, x9, x10, x11, rfl⟩ := listC12 xs hxs
          have hg3 := hR (Hid.out HB0)
          have hS3 := hg3.keep _ _ _ (by decide) (Hid.out HS)
          have s0 : w3.cell? ⟨wr.heap.size, 0, none⟩ = some (.int .u32 (at_ : Int)) := hS3.cell rfl
          have s1 : w3.cell? ⟨wr.heap.size, 1, none⟩ = some (.string ⟨data.toArray⟩) := hS3.cell rfl
          have s2 : w3.cell? ⟨wr.heap.size, 2, none⟩ = some (.int .u32 (size : Int)) := hS3.cell rfl
          have s3 : w3.cell? ⟨wr.heap.size, 3, none⟩ = some (.int .i64 (p : Int)) := hS3.cell rfl
          rcases (show t = 0 ∨ t = 1 ∨ t = 2 ∨ t = 3 by simp only [List.length_cons, List.length_nil] at ht; omega) with rfl | rfl | rfl | rfl
          · obtain rfl : c = 1 := hc.symm
            have e0 : u3 = x0 := (show x0 = u3 from hpre 0 (by kernel_rfl) (by decide)).symm
            subst e0
            have hb := hpsi.1
            have ho : Out w3 base u3 (lsP pre ([put32 1, put32 E, put32 at_, put32 at_]) 0) := hpsi.2
            refine wpOp_callR (R := fun u w4 => Out w4 base u (lsP pre ([put32 1, put32 E, put32 at_, put32 at_]) 1) ∧ Grew base w3 w4) 65 #[u3, .int .i64 1] rfl (by kernel_rfl) (by kernel_rfl) ((r32z w3 base _ _ 1 1 rfl ho hb (lsP_len hpl (Nat.le_of_ble_eq_true (by kernel_rfl))) (by omega)).mono fun e w4 ⟨v4, he, ho4, hg4⟩ => ⟨v4, he, ho4.cast (lsP_step pre ([put32 1, put32 E, put32 at_, put32 at_]) 0 _ rfl), hg4⟩) ?_
            rintro u w4 ⟨hu, hg4⟩
            exact ⟨_, by kernel_rfl, ⟨Nat.le_trans hb hg4.size, hu⟩, fun _ => hg4⟩
          · obtain rfl : c = 3 := hc.symm
            have e2 : x2 = .int .i64 (E : Int) := hpre 2 (by kernel_rfl) (by decide)
            subst e2
            have hb := hpsi.1
            have ho : Out w3 base x1 (lsP pre ([put32 1, put32 E, put32 at_, put32 at_]) 1) := hpsi.2
            refine wpOp_callR (R := fun u w4 => Out w4 base u (lsP pre ([put32 1, put32 E, put32 at_, put32 at_]) 2) ∧ Grew base w3 w4) 65 #[x1, .int .i64 (E : Int)] rfl (by kernel_rfl) (by kernel_rfl) ((r32z w3 base _ _ (E : Int) E rfl ho hb (lsP_len hpl (Nat.le_of_ble_eq_true (by kernel_rfl))) (by omega)).mono fun e w4 ⟨v4, he, ho4, hg4⟩ => ⟨v4, he, ho4.cast (lsP_step pre ([put32 1, put32 E, put32 at_, put32 at_]) 1 _ rfl), hg4⟩) ?_
            rintro u w4 ⟨hu, hg4⟩
            exact ⟨_, by kernel_rfl, ⟨Nat.le_trans hb hg4.size, hu⟩, fun _ => hg4⟩
          · obtain rfl : c = 7 := hc.symm
            have e6 : x6 = .int .i64 (at_ : Int) := hpre 6 (by kernel_rfl) (by decide)
            subst e6
            have hb := hpsi.1
            have ho : Out w3 base x3 (lsP pre ([put32 1, put32 E, put32 at_, put32 at_]) 2) := hpsi.2
            refine wpOp_callR (R := fun u w4 => Out w4 base u (lsP pre ([put32 1, put32 E, put32 at_, put32 at_]) 3) ∧ Grew base w3 w4) 65 #[x3, .int .i64 (at_ : Int)] rfl (by kernel_rfl) (by kernel_rfl) ((r32z w3 base _ _ (at_ : Int) at_ rfl ho hb (lsP_len hpl (Nat.le_of_ble_eq_true (by kernel_rfl))) (by omega)).mono fun e w4 ⟨v4, he, ho4, hg4⟩ => ⟨v4, he, ho4.cast (lsP_step pre ([put32 1, put32 E, put32 at_, put32 at_]) 2 _ rfl), hg4⟩) ?_
            rintro u w4 ⟨hu, hg4⟩
            exact ⟨_, by kernel_rfl, ⟨Nat.le_trans hb hg4.size, hu⟩, fun _ => hg4⟩
          · obtain rfl : c = 11 := hc.symm
            have e10 : x10 = .int .i64 (at_ : Int) := hpre 10 (by kernel_rfl) (by decide)
            subst e10
            have hb := hpsi.1
            have ho : Out w3 base x7 (lsP pre ([put32 1, put32 E, put32 at_, put32 at_]) 3) := hpsi.2
            refine wpOp_callR (R := fun u w4 => Out w4 base u (lsP pre ([put32 1, put32 E, put32 at_, put32 at_]) 4) ∧ Grew base w3 w4) 65 #[x7, .int .i64 (at_ : Int)] rfl (by kernel_rfl) (by kernel_rfl) ((r32z w3 base _ _ (at_ : Int) at_ rfl ho hb (lsP_len hpl (Nat.le_of_ble_eq_true (by kernel_rfl))) (by omega)).mono fun e w4 ⟨v4, he, ho4, hg4⟩ => ⟨v4, he, ho4.cast (lsP_step pre ([put32 1, put32 E, put32 at_, put32 at_]) 3 _ rfl), hg4⟩) ?_
            rintro u w4 ⟨hu, hg4⟩
            exact ⟨_, by kernel_rfl, ⟨Nat.le_trans hb hg4.size, hu⟩, fun _ => hg4⟩
        · intro xs w3 hxs hR hall hpsi
          obtain ⟨x0, x1, x2, x3, x4, x5, x6, x7, x8, x9, x10, x11, rfl⟩ := listC12 xs hxs
          have e0 : u3 = x0 := (show x0 = u3 from hall 0 (by omega) (by decide)).symm
          subst e0
          have e2 : x2 = .int .i64 (E : Int) := hall 2 (by omega) (by decide)
          subst e2
          have e4 : x4 = .pointer (some ⟨wr.heap.size, 0, none⟩) := hall 4 (by omega) (by decide)
          subst e4
          have e5 : x5 = .int .u32 (at_ : Int) := hall 5 (by omega) (by decide)
          subst e5
          have e6 : x6 = .int .i64 (at_ : Int) := hall 6 (by omega) (by decide)
          subst e6
          have e8 : x8 = .pointer (some ⟨wr.heap.size, 0, none⟩) := hall 8 (by omega) (by decide)
          subst e8
          have e9 : x9 = .int .u32 (at_ : Int) := hall 9 (by omega) (by decide)
          subst e9
          have e10 : x10 = .int .i64 (at_ : Int) := hall 10 (by omega) (by decide)
          subst e10
          have hg3 := hR (Hid.out HB0)
          have hx : Out w3 base x11 (lsP pre [put32 1, put32 E, put32 at_, put32 at_] 4) := hpsi.2
          have HBO2 := hidden ((Hid.out HBO).step hx hg3)
          clear hx
          have HS2 := hidden (hg3.keep _ _ _ (by decide) (Hid.out HS))
          clear HBO HS HB0 HO0
          clear hpsi hg3 hR hall hxs
          simp only [slotsOn, putAll, List.set_cons_succ, List.set_cons_zero, List.drop_succ_cons, List.drop_zero]
          have HB0 := hidden (Hid.out HBO2).size
          have HO0 := hidden (Hid.out HBO2).out
          have HS := HS2
          generalize hpreq2 : lsP pre [put32 1, put32 E, put32 at_, put32 at_] 4 = pre2 at HBO2 HO0
          have HPRE2 := hidden hpreq2
          have hpl2 : pre2.length ≤ 800000 := by
            rw [← hpreq2, ← Hid.out HPRE]
            unfold lsP
            simp only [List.take_succ_cons, List.take_zero, List.flatten_cons, List.flatten_nil, List.length_append, put32_len, headB_len, rowsB_len, List.length_take, List.length_nil]
            omega
          clear hpreq2 hpl HS2
          go_wp2
          refine wp_region_chain (R := RG base) (Rq := fun u x => Below u.heap.size u x) (later_rg base) (rg_of base) (fun u => (Below.refl _ u).drew) 13 [62, 63, 64, 65, 66, 67, 68, 69, 70, 71, 72, 73, 74] [4, 8, 11, 12] (x11) (fun t x u => base ≤ u.heap.size ∧ Out u base x (lsP pre2 ([put32 data.length, put32 size, put32 p, put32 4]) t)) (phiRc wr.heap.size size p data x11) (by kernel_rfl) (by kernel_rfl) rfl (by kernel_rfl) ⟨Hid.out HB0, (Hid.out HO0).cast (lsP_zero pre2 _)⟩ (phiRc_mono wr.heap.size size p data x11 _) (psi_mono base pre2 _) ?_ ?_ ?_ (by decide)
          · intro j hj hjc xs w3 hxs hR hpre
            obtain ⟨y0, y1, y2, y3, y4, y5, y6, y7, y8, y9, y10, y11, y12, rfl⟩ := listC13 xs hxs
            have hg3 := hR (Hid.out HB0)
            have hS3 := hg3.keep _ _ _ (by decide) (Hid.out HS)
            have s0 : w3.cell? ⟨wr.heap.size, 0, none⟩ = some (.int .u32 (at_ : Int)) := hS3.cell rfl
            have s1 : w3.cell? ⟨wr.heap.size, 1, none⟩ = some (.string ⟨data.toArray⟩) := hS3.cell rfl
            have s2 : w3.cell? ⟨wr.heap.size, 2, none⟩ = some (.int .u32 (size : Int)) := hS3.cell rfl
            have s3 : w3.cell? ⟨wr.heap.size, 3, none⟩ = some (.int .i64 (p : Int)) := hS3.cell rfl
            rcases (show j = 0 ∨ j = 1 ∨ j = 2 ∨ j = 3 ∨ j = 4 ∨ j = 5 ∨ j = 6 ∨ j = 7 ∨ j = 8 ∨ j = 9 ∨ j = 10 ∨ j = 11 ∨ j = 12 by omega) with rfl | rfl | rfl | rfl | rfl | rfl | rfl | rfl | rfl | rfl | rfl | rfl | rfl
            · exact wpOp_run (x11) rfl (by kernel_rfl) (exec_move rfl (by kernel_rfl) w3) ⟨_, by kernel_rfl, rfl, Below.refl _ _⟩
            · exact wpOp_run (.pointer (some ⟨wr.heap.size, 1, none⟩)) rfl (by kernel_rfl) (by kernel_rfl) ⟨_, by kernel_rfl, rfl, Below.refl _ _⟩
            · have e1 : y1 = .pointer (some ⟨wr.heap.size, 1, none⟩) := hpre 1 (by kernel_rfl) (by decide)
              subst e1
              exact wpOp_run (.string ⟨data.toArray⟩) rfl (by kernel_rfl) (exec_load 9 rfl (by kernel_rfl) w3 (load9 s1)) ⟨_, by kernel_rfl, rfl, Below.refl _ _⟩
            · have e2 : y2 = .string ⟨data.toArray⟩ := hpre 2 (by kernel_rfl) (by decide)
              subst e2
              exact wpOp_run (.int .i64 (data.length : Int)) rfl (by kernel_rfl) (exec_lenS (d := data) rfl (by kernel_rfl) w3) ⟨_, by kernel_rfl, rfl, Below.refl _ _⟩
            · exact absurd (by decide) hjc
            · exact wpOp_run (.pointer (some ⟨wr.heap.size, 2, none⟩)) rfl (by kernel_rfl) (by kernel_rfl) ⟨_, by kernel_rfl, rfl, Below.refl _ _⟩
            · have e5 : y5 = .pointer (some ⟨wr.heap.size, 2, none⟩) := hpre 5 (by kernel_rfl) (by decide)
              subst e5
              exact wpOp_run (.int .u32 (size : Int)) rfl (by kernel_rfl) (exec_load 22 rfl (by kernel_rfl) w3 (load23 s2)) ⟨_, by kernel_rfl, rfl, Below.refl _ _⟩
            · have e6 : y6 = .int .u32 (size : Int) := hpre 6 (by kernel_rfl) (by decide)
              subst e6
              exact wpOp_run (.int .i64 (size : Int)) rfl (by kernel_rfl) (exec_conv rfl (by kernel_rfl) hsz w3) ⟨_, by kernel_rfl, rfl, Below.refl _ _⟩
            · exact absurd (by decide) hjc
            · exact wpOp_run (.pointer (some ⟨wr.heap.size, 3, none⟩)) rfl (by kernel_rfl) (by kernel_rfl) ⟨_, by kernel_rfl, rfl, Below.refl _ _⟩
            · have e9 : y9 = .pointer (some ⟨wr.heap.size, 3, none⟩) := hpre 9 (by kernel_rfl) (by decide)
              subst e9
              exact wpOp_run (.int .i64 (p : Int)) rfl (by kernel_rfl) (exec_load 3 rfl (by kernel_rfl) w3 (load3 s3)) ⟨_, by kernel_rfl, rfl, Below.refl _ _⟩
            · exact absurd (by decide) hjc
            · exact absurd (by decide) hjc
          · intro t c ht hc xs w3 hxs hR hpre hpsi
            obtain ⟨y0, y1, y2, y3, y4, y5, y6, y7, y8, y9, y10, y11, y12, rfl⟩ := listC13 xs hxs
            have hg3 := hR (Hid.out HB0)
            have hS3 := hg3.keep _ _ _ (by decide) (Hid.out HS)
            have s0 : w3.cell? ⟨wr.heap.size, 0, none⟩ = some (.int .u32 (at_ : Int)) := hS3.cell rfl
            have s1 : w3.cell? ⟨wr.heap.size, 1, none⟩ = some (.string ⟨data.toArray⟩) := hS3.cell rfl
            have s2 : w3.cell? ⟨wr.heap.size, 2, none⟩ = some (.int .u32 (size : Int)) := hS3.cell rfl
            have s3 : w3.cell? ⟨wr.heap.size, 3, none⟩ = some (.int .i64 (p : Int)) := hS3.cell rfl
            rcases (show t = 0 ∨ t = 1 ∨ t = 2 ∨ t = 3 by simp only [List.length_cons, List.length_nil] at ht; omega) with rfl | rfl | rfl | rfl
            · obtain rfl : c = 4 := hc.symm
              have e0 : x11 = y0 := (show y0 = x11 from hpre 0 (by kernel_rfl) (by decide)).symm
              subst e0
              have e3 : y3 = .int .i64 (data.length : Int) := hpre 3 (by kernel_rfl) (by decide)
              subst e3
              have hb := hpsi.1
              have ho : Out w3 base x11 (lsP pre2 ([put32 data.length, put32 size, put32 p, put32 4]) 0) := hpsi.2
              refine wpOp_callR (R := fun u w4 => Out w4 base u (lsP pre2 ([put32 data.length, put32 size, put32 p, put32 4]) 1) ∧ Grew base w3 w4) 65 #[x11, .int .i64 (data.length : Int)] rfl (by kernel_rfl) (by kernel_rfl) ((r32z w3 base _ _ (data.length : Int) data.length rfl ho hb (lsP_len hpl2 (Nat.le_of_ble_eq_true (by kernel_rfl))) (by omega)).mono fun e w4 ⟨v4, he, ho4, hg4⟩ => ⟨v4, he, ho4.cast (lsP_step pre2 ([put32 data.length, put32 size, put32 p, put32 4]) 0 _ rfl), hg4⟩) ?_
              rintro u w4 ⟨hu, hg4⟩
              exact ⟨_, by kernel_rfl, ⟨Nat.le_trans hb hg4.size, hu⟩, fun _ => hg4⟩
            · obtain rfl : c = 8 := hc.symm
              have e7 : y7 = .int .i64 (size : Int) := hpre 7 (by kernel_rfl) (by decide)
              subst e7
              have hb := hpsi.1
              have ho : Out w3 base y4 (lsP pre2 ([put32 data.length, put32 size, put32 p, put32 4]) 1) := hpsi.2
              refine wpOp_callR (R := fun u w4 => Out w4 base u (lsP pre2 ([put32 data.length, put32 size, put32 p, put32 4]) 2) ∧ Grew base w3 w4) 65 #[y4, .int .i64 (size : Int)] rfl (by kernel_rfl) (by kernel_rfl) ((r32z w3 base _ _ (size : Int) size rfl ho hb (lsP_len hpl2 (Nat.le_of_ble_eq_true (by kernel_rfl))) (by omega)).mono fun e w4 ⟨v4, he, ho4, hg4⟩ => ⟨v4, he, ho4.cast (lsP_step pre2 ([put32 data.length, put32 size, put32 p, put32 4]) 1 _ rfl), hg4⟩) ?_
              rintro u w4 ⟨hu, hg4⟩
              exact ⟨_, by kernel_rfl, ⟨Nat.le_trans hb hg4.size, hu⟩, fun _ => hg4⟩
            · obtain rfl : c = 11 := hc.symm
              have e10 : y10 = .int .i64 (p : Int) := hpre 10 (by kernel_rfl) (by decide)
              subst e10
              have hb := hpsi.1
              have ho : Out w3 base y8 (lsP pre2 ([put32 data.length, put32 size, put32 p, put32 4]) 2) := hpsi.2
              refine wpOp_callR (R := fun u w4 => Out w4 base u (lsP pre2 ([put32 data.length, put32 size, put32 p, put32 4]) 3) ∧ Grew base w3 w4) 65 #[y8, .int .i64 (p : Int)] rfl (by kernel_rfl) (by kernel_rfl) ((r32z w3 base _ _ (p : Int) p rfl ho hb (lsP_len hpl2 (Nat.le_of_ble_eq_true (by kernel_rfl))) (by omega)).mono fun e w4 ⟨v4, he, ho4, hg4⟩ => ⟨v4, he, ho4.cast (lsP_step pre2 ([put32 data.length, put32 size, put32 p, put32 4]) 2 _ rfl), hg4⟩) ?_
              rintro u w4 ⟨hu, hg4⟩
              exact ⟨_, by kernel_rfl, ⟨Nat.le_trans hb hg4.size, hu⟩, fun _ => hg4⟩
            · obtain rfl : c = 12 := hc.symm
              have hb := hpsi.1
              have ho : Out w3 base y11 (lsP pre2 ([put32 data.length, put32 size, put32 p, put32 4]) 3) := hpsi.2
              refine wpOp_callR (R := fun u w4 => Out w4 base u (lsP pre2 ([put32 data.length, put32 size, put32 p, put32 4]) 4) ∧ Grew base w3 w4) 65 #[y11, .int .i64 4] rfl (by kernel_rfl) (by kernel_rfl) ((r32z w3 base _ _ 4 4 rfl ho hb (lsP_len hpl2 (Nat.le_of_ble_eq_true (by kernel_rfl))) (by omega)).mono fun e w4 ⟨v4, he, ho4, hg4⟩ => ⟨v4, he, ho4.cast (lsP_step pre2 ([put32 data.length, put32 size, put32 p, put32 4]) 3 _ rfl), hg4⟩) ?_
              rintro u w4 ⟨hu, hg4⟩
              exact ⟨_, by kernel_rfl, ⟨Nat.le_trans hb hg4.size, hu⟩, fun _ => hg4⟩
          · intro xs w3 hxs hR hall hpsi
            obtain ⟨y0, y1, y2, y3, y4, y5, y6, y7, y8, y9, y10, y11, y12, rfl⟩ := listC13 xs hxs
            have e0 : x11 = y0 := (show y0 = x11 from hall 0 (by omega) (by decide)).symm
            subst e0
            have e1 : y1 = .pointer (some ⟨wr.heap.size, 1, none⟩) := hall 1 (by omega) (by decide)
            subst e1
            have e2 : y2 = .string ⟨data.toArray⟩ := hall 2 (by omega) (by decide)
            subst e2
            have e3 : y3 = .int .i64 (data.length : Int) := hall 3 (by omega) (by decide)
            subst e3
            have e5 : y5 = .pointer (some ⟨wr.heap.size, 2, none⟩) := hall 5 (by omega) (by decide)
            subst e5
            have e6 : y6 = .int .u32 (size : Int) := hall 6 (by omega) (by decide)
            subst e6
            have e7 : y7 = .int .i64 (size : Int) := hall 7 (by omega) (by decide)
            subst e7
            have e9 : y9 = .pointer (some ⟨wr.heap.size, 3, none⟩) := hall 9 (by omega) (by decide)
            subst e9
            have e10 : y10 = .int .i64 (p : Int) := hall 10 (by omega) (by decide)
            subst e10
            have hg3 := hR (Hid.out HB0)
            have hx : Out w3 base y12 (lsP pre2 [put32 data.length, put32 size, put32 p, put32 4] 4) := hpsi.2
            have HBO3 := hidden ((Hid.out HBO2).step hx hg3)
            clear hx
            have hS3 := hg3.keep _ _ _ (by decide) (Hid.out HS)
            have hsd : w3.cell? ⟨wr.heap.size, 1, none⟩ = some (.string ⟨data.toArray⟩) := hS3.cell rfl
            have hsl3 := hS3.lt
            clear HBO2 HS HB0 HO0 hS3
            clear hpsi hg3 hR hall hxs
            simp only [slotsOn, putAll, List.set_cons_succ, List.set_cons_zero, List.drop_succ_cons, List.drop_zero]
            have HNX : Hid (BO base w0 w3 y12 (headB ent l.length ++ rowsB (52 + 32 * l.length) (l.take (k + 1))) #[.int .u32 (ent : Int), .slice (some ⟨b, off, none⟩) l.length cap]) := by
              have := Hid.out HBO3
              rw [← Hid.out HPRE2, ← Hid.out HPRE] at this
              unfold lsP at this
              simp only [List.take_succ_cons, List.take_zero, List.flatten_cons, List.flatten_nil, List.append_nil] at this
              have e1 : headB ent l.length ++ rowsB (52 + 32 * l.length) (l.take k) ++ (put32 1 ++ (put32 E ++ (put32 at_ ++ put32 at_))) ++ (put32 data.length ++ (put32 size ++ (put32 p ++ put32 4))) = headB ent l.length ++ rowsB (52 + 32 * l.length) (l.take (k + 1)) := by
                rw [Hid.out HTS, rowsB_snoc, ← Hid.out HEE]
                simp only [rowB, List.append_assoc, Int.toNat_natCast]
              rw [e1] at this
              exact this
            clear HBO3
            go_wp2
            go_roundw
            case rel => first | exact ⟨k + 1, by omega, by simp, by rw [Hid.out HEN, Hid.out HEE]; congr 1; omega, Hid.out HNX⟩ | ((repeat apply Exists.intro); first | exact ⟨⟨k + 1, by omega, by simp, by rw [Hid.out HEN, Hid.out HEE]; congr 1; omega, Hid.out HNX⟩, rfl⟩ | exact ⟨⟨k + 1, by omega, by simp, by rw [Hid.out HEN, Hid.out HEE]; congr 1; omega, Hid.out HNX⟩, rfl, rfl⟩ | exact ⟨⟨k + 1, by omega, by simp, by rw [Hid.out HEN, Hid.out HEE]; congr 1; omega, Hid.out HNX⟩, rfl, rfl, rfl⟩)
            case measure => simp [intOf]; omega
      · have hkl2 : ¬ (k : Int) < (l.length : Int) := by omega
        obtain rfl : k = l.length := by omega
        rw [List.take_length] at hbo hdk
        have HT : Hid (BO base w0 wr u3 (tableB ent l) #[.int .u32 (ent : Int), .slice ao l.length cap]) := hbo
        clear hbo hdk hbw
        go_wp2
        clear hfile
        go_loopw [3, 7] (fun x3 x7 wr2 => ∃ k : Nat, k ≤ l.length ∧ x7 = .int .i64 (k : Int) ∧ BO base w0 wr2 x3 (tableB ent l ++ datasB (l.take k)) #[.int .u32 (ent : Int), .slice ao l.length cap]) (fun x3 x7 _ => l.length - (intOf x7).toNat)
        case atStart => exact ⟨0, by omega, rfl, by simpa [datasB] using Hid.out HT⟩
        case round =>
          obtain ⟨k, hk, rfl, hbo⟩ := hrel
          have hfile : wr.cell? ⟨base, 1, none⟩ = some (.slice ao l.length cap) := hbo.file.cell rfl
          have hdk := datas_len (Hid.out HOK) k hk
          have hbw : Below w.heap.size w wr := by rw [Hid.out HSZ]; exact (Hid.out HB00).trans hbo.grew.below
          by_cases hkl : k < l.length
          · obtain ⟨b, off, rfl, hlt, hcs⟩ := ((Hid.out H).later hbw).at hkl
            have hts := take_one l k hkl
            have hat1 := hcs k hkl
            generalize l.getD k nosg = s at hts hat1
            obtain ⟨at_, data, size, perm⟩ := s
            obtain ⟨c0, c1, c2, c3, hfit⟩ := hat1
            simp only at c0 c1 c2 c3
            have hkl3 : (k : Int) < (l.length : Int) := by omega
            have hdl2 := datas_len (Hid.out HOK) (k + 1) hkl
            rw [hts, datasB_snoc, List.length_append] at hdl2
            simp only at hdl2
            obtain ⟨v', w', hr, ho', hg'⟩ := run_more_str hbo.out hbo.size data (by rw [List.length_append, tableB_len]; omega)
            have HR := hidden hr
            have HNX : Hid (BO base w0 w' v' (tableB ent l ++ datasB (l.take (k + 1))) #[.int .u32 (ent : Int), .slice (some ⟨b, off, none⟩) l.length cap]) := by
              have := hbo.step ho' hg'
              rw [hts, datasB_snoc, ← List.append_assoc]
              exact this
            clear hr ho' hg' hbo hts hcs hbw hdk hdl2 hfit
            go_wp2_with (at_builtin; refine wpList_append_run rfl _ _ 51 9 rfl rfl rfl (Hid.out HR) ?_)
            go_roundw
            case rel => first | exact ⟨k + 1, by omega, by simp, Hid.out HNX⟩ | ((repeat apply Exists.intro); first | exact ⟨⟨k + 1, by omega, by simp, Hid.out HNX⟩, rfl⟩ | exact ⟨⟨k + 1, by omega, by simp, Hid.out HNX⟩, rfl, rfl⟩)
            case measure => simp [intOf]; omega
          · have hkl3 : ¬ (k : Int) < (l.length : Int) := by omega
            obtain rfl : k = l.length := by omega
            rw [List.take_length] at hbo
            have HBO := hidden hbo
            have HBW : Hid (Below base w wr) := by rw [← Hid.out HSZ]; exact hbw
            clear hbo hbw hdk
            go_wp2
            go_ret
            exact ⟨_, rfl, by rw [Hid.out HSZ]; exact (Hid.out HBO).out, by rw [Hid.out HSZ]; exact Hid.out HBW⟩
end Go.Proofs.Ytpknppicamefgaa
namespace Go.Proofs.Ytpknppicamefgaa
open Go.ChangeShapes Go.WideShapes Go.ChangeAt Go.RowKit
set_option linter.unusedVariables false
/-- A file's digest. -/
def digE (ent : Nat) (l : List Sg) : Nat := if checkE ent l ≠ 0 then 0 else sumB 0 (fileB ent l)
set_option maxRecDepth 20000 in
set_option maxHeartbeats 1000000 in
theorem rdigest_any (w : World) (ao : Option Addr) (cap ent : Nat) (l : List Sg) (h : Segs w ao l) (hcap : l.length ≤ cap) (hmax : cap ≤ 9223372036854775807) (he : ent < 4294967296) : Calls Try.prog 14 #[.agg #[.int .u32 (ent : Int), .slice ao l.length cap]] w fun e w' => e = .returned (.int .u32 (digE ent l : Int)) ∧ Below w.heap.size w w' := by
  have hb0 : Below w.heap.size w (w.alloc (.cells #[.int .u32 (ent : Int), .slice ao l.length cap] 25)) := below_new w _
  have hg0 := Blk.new w #[.int .u32 (ent : Int), .slice ao l.length cap] 25
  have H17 : Hid (Calls Try.prog 23 #[.agg #[.int .u32 (ent : Int), .slice ao l.length cap]] (w.alloc (.cells #[.int .u32 (ent : Int), .slice ao l.length cap] 25)) fun e w' => e = .returned (.int .i64 (checkE ent l : Int)) ∧ Below w.heap.size w w' ∧ Blk w' w.heap.size #[.int .u32 (ent : Int), .slice ao l.length cap] 25) := by
    refine (rcheck_any _ ao cap ent l (h.later hb0) hcap hmax he).mono ?_
    rintro e w' ⟨h1, h2⟩
    exact ⟨h1, bthen hb0 h2, hg0.later h2⟩
  have H := hidden h
  clear h hb0 hg0
  by_cases hc : checkE ent l = 0
  case neg =>
    have HE : Hid (digE ent l = 0) := by show digE ent l = _; unfold digE; rw [if_pos hc]
    rw [Hid.out HE]
    have hc2 : ¬ ((checkE ent l : Nat) : Int) = 0 := by omega
    generalize checkE ent l = c at H17 hc2
    go_enter Try.func14, Try.ntmps14
    go_wp2_with (go_at_call 23; with_reducible refine (Hid.out H17).mono ?_; rintro e w1 ⟨rfl, hb1, hg1⟩; have HB1 := hidden hb1; clear hb1 hg1)
    go_ret
    exact ⟨rfl, Hid.out HB1⟩
  rw [hc] at H17
  obtain ⟨h8, hok, _, _⟩ := check_zero hc
  have HM : Hid (digE ent l = sumB 0 (fileB ent l)) := by show digE ent l = _; unfold digE; rw [if_neg (by omega)]
  have hfl := fileB_len ent l
  have hdl := datas_len hok l.length (Nat.le_refl _)
  rw [List.take_length] at hdl
  have H31 : Hid (∀ w1, Below w.heap.size w w1 → Calls Try.prog 41 #[.agg #[.int .u32 (ent : Int), .slice ao l.length cap]] w1 fun e w' => ∃ ao' c', e = .returned (.slice ao' (fileB ent l).length c') ∧ Row w' ao' (fileB ent l) c' ∧ Below w.heap.size w w') := by
    intro w1 hb1
    refine (rbytes_any w1 ao cap ent l ((Hid.out H).later hb1) hcap hmax he h8 hok).mono ?_
    rintro e w' ⟨v', h1, h2, h3⟩
    obtain ⟨ao', c', rfl, hr⟩ := h2.row
    exact ⟨ao', c', h1, hr, bthen hb1 h3⟩
  have H22 : Hid (∀ w1 ao' c', Row w1 ao' (fileB ent l) c' → Calls Try.prog 22 #[.int .u32 0, .slice ao' (fileB ent l).length c'] w1 fun e w' => e = .returned (.int .u32 (sumB 0 (fileB ent l) : Int)) ∧ w' = w1) := fun w1 ao' c' hr => rmore8 0 (by omega) w1 ao' _ c' hr (by omega)
  rw [Hid.out HM]
  clear hok hfl hdl
  generalize fileB ent l = F at H31 H22
  go_enter Try.func14, Try.ntmps14
  go_wp2_with (first | (go_at_call 23; with_reducible refine (Hid.out H17).mono ?_; rintro e w1 ⟨rfl, hb1, hg1⟩; have hlt1 := Blk.lt hg1; have f0 : w1.cell? ⟨w.heap.size, 0, none⟩ = some (.int .u32 (ent : Int)) := Blk.cell hg1 rfl; have f1 : w1.cell? ⟨w.heap.size, 1, none⟩ = some (.slice ao l.length cap) := Blk.cell hg1 rfl; have HC := hidden (Hid.out H31 w1 hb1); clear hb1 hg1) | (go_at_call 41; with_reducible refine (Hid.out HC).mono ?_; rintro e w2 ⟨ao', c', rfl, hr2, hb2⟩; have HB2 := hidden hb2; have HS := hidden (Hid.out H22 w2 ao' c' hr2); clear hr2 hb2) | (go_at_call 22; with_reducible refine (Hid.out HS).mono ?_; rintro e w3 ⟨rfl, hww⟩; rw [hww]; clear hww w3))
  go_ret
  exact ⟨rfl, Hid.out HB2⟩
end Go.Proofs.Ytpknppicamefgaa
namespace Go.Proofs.Ytpknppicamefgaa
open Go.ChangeShapes Go.WideShapes Go.ChangeAt Go.RowKit
set_option linter.unusedVariables false
theorem sum_take (t0 : Nat) (ht : t0 < 4294967296) (l : List Sg) {k : Nat} (hk : k < l.length) : sumB t0 (datasB (l.take (k + 1))) = sumB (sumB t0 (datasB (l.take k))) (l.getD k nosg).data := by
  rw [take_one l k hk, datasB_snoc, sumB_append _ _ _ ht]
set_option maxRecDepth 20000 in
set_option maxHeartbeats 1000000 in
theorem digestN_ok (w : World) (b off cap ent : Nat) (l : List Sg) (hl : 0 < l.length) (hbl : b < w.heap.size) (h : ∀ j, j < l.length → SegAt w b (off + j * 4) (l.getD j nosg)) (hc1 : l.length ≤ cap) (hc2 : cap ≤ 9223372036854775807) (hok : checkE ent l = 0) (he : ent < 4294967296) : Calls Try.prog 13 #[.agg #[.int .u32 (ent : Int), .slice (some ⟨b, off, none⟩) l.length cap]] w fun e w' => e = .returned (.int .u32 (sumB 0 (fileB ent l) : Int)) ∧ Below w.heap.size w w' := by
  obtain ⟨n, hn⟩ : ∃ n, w.heap.size = n := ⟨_, rfl⟩
  obtain ⟨wa, hwa⟩ : ∃ wa, w.alloc (.cells #[.int .u32 (ent : Int), .slice (some ⟨b, off, none⟩) l.length cap] 25) = wa := ⟨_, rfl⟩
  have hba : Below n w wa := by rw [← hwa, ← hn]; exact below_new w _
  have k0 : Blk wa n #[.int .u32 (ent : Int), .slice (some ⟨b, off, none⟩) l.length cap] 25 := by rw [← hwa, ← hn]; exact Blk.new w _ _
  have q0 : wa.cell? ⟨n, 0, none⟩ = some (.int .u32 (ent : Int)) := k0.cell rfl
  have q1 : wa.cell? ⟨n, 1, none⟩ = some (.slice (some ⟨b, off, none⟩) l.length cap) := k0.cell rfl
  obtain ⟨hl8, ho, _, _⟩ := check_facts hok
  have HDS : Hid (∀ k, k < l.length → (l.getD k nosg).data.length ≤ 16384) := fun k hk => by have := ok_size (ho k hk); omega
  obtain ⟨N, hN⟩ : ∃ N, 52 + 32 * l.length = N := ⟨_, rfl⟩
  have hsum : sumB 0 (fileB ent l) = sumB (sumB 0 (tableB ent l)) (datasB (l.take l.length)) := by
    rw [← sumB_append 0 _ _ (by omega), List.take_length]
    rfl
  have H15 : Hid (Calls Try.prog 15 #[.agg #[.int .u32 (ent : Int), .slice (some ⟨b, off, none⟩) l.length cap]] wa fun e w1 => e = .returned (.int .i64 0) ∧ w1.cell? ⟨n, 0, none⟩ = some (.int .u32 (ent : Int)) ∧ w1.cell? ⟨n, 1, none⟩ = some (.slice (some ⟨b, off, none⟩) l.length cap) ∧ Calls Try.prog 39 #[.agg #[.int .u32 (ent : Int), .slice (some ⟨b, off, none⟩) l.length cap]] w1 fun e w2 => ∃ g c, e = .returned (.slice (some ⟨g, 0, none⟩) N c) ∧ Calls Try.prog 38 #[.slice (some ⟨g, 0, none⟩) N c] w2 fun e w3 => e = .returned (.int .u32 (sumB 0 (tableB ent l) : Int)) ∧ w3.cell? ⟨n, 1, none⟩ = some (.slice (some ⟨b, off, none⟩) l.length cap) ∧ Below n w w3) := by
    refine (check_any wa (some ⟨b, off, none⟩) cap ent l (.inr ⟨b, off, rfl, Nat.lt_of_lt_of_le hbl (by rw [hn]; exact (by have := hba.size; omega)), fun j hj => (h j hj).later hbl (by rw [hn]; exact hba)⟩) hc1 hc2 he).mono ?_
    rintro e w1 ⟨h1, h2⟩
    rw [hok] at h1
    have b1 : Below n w w1 := hba.trans (h2.mono (by have := k0.lt; omega))
    have k1 : Blk w1 n #[.int .u32 (ent : Int), .slice (some ⟨b, off, none⟩) l.length cap] 25 := k0.later h2
    refine ⟨h1, k1.cell rfl, k1.cell rfl, (frontN_any w1 b off cap ent l hl hl8 (Nat.lt_of_lt_of_le hbl b1.size) (fun j hj => (h j hj).later hbl (by rw [hn]; exact b1)) hok he).mono ?_⟩
    rintro e w2 ⟨g, c, h3, h4, h5, h6, h7⟩
    have hTL : (tableB ent l).length = N := by rw [tableB_len]; exact hN
    have hof := of8 w2 _ _ c h6 (by omega)
    rw [hTL] at hof
    rw [hN] at h3
    refine ⟨g, c, h3, hof.mono ?_⟩
    rintro e w3 ⟨h8, rfl⟩
    exact ⟨h8, (k1.later h7).cell rfl, b1.trans (h7.mono (by have := k1.lt; omega))⟩
  have HSG := hidden h
  have HSUM := hidden hsum
  have hlt := sumB_lt 0 (tableB ent l)
  have HNL : Hid (sumB (sumB 0 (tableB ent l)) [] = sumB 0 (tableB ent l)) := by
    show sumB _ _ = _
    rw [← sumB_append 0 _ _ (by omega), List.append_nil]
  generalize sumB 0 (tableB ent l) = t0 at H15 HSUM HNL hlt
  have hl82 : (l.length : Int) ≤ 8 := by omega
  clear hba k0 hsum hok ho h hN
  go_enter Try.func13, Try.ntmps13
  go_wp2_with (first
    | (go_at_call 15; with_reducible refine (Hid.out H15).mono ?_; rintro e w1 ⟨rfl, p0, p1, h39⟩; have H39 := hidden h39; clear h39)
    | (go_at_call 39; with_reducible refine (Hid.out H39).mono ?_; rintro e w2 ⟨g, c, rfl, h38⟩; have H38 := hidden h38; clear h38)
    | (go_at_call 38; with_reducible refine (Hid.out H38).mono ?_; rintro e w3 ⟨rfl, r1, hb3⟩; have HB3 := hidden hb3; clear hb3))
  go_loopw [3, 15] (fun x3 x15 wr => ∃ (k t : Nat), k ≤ l.length ∧ x15 = .int .i64 (k : Int) ∧ x3 = .int .u32 (t : Int) ∧ t = sumB t0 (datasB (l.take k)) ∧ t < 4294967296 ∧ Below n w wr) (fun _ x15 _ => l.length - (intOf x15).toNat)
  case atStart => exact ⟨0, t0, by omega, rfl, rfl, by rw [List.take_zero]; exact (Hid.out HNL).symm, hlt, Hid.out HB3⟩
  case round =>
    obtain ⟨k, t, hk, rfl, rfl, ht, htl, hb⟩ := hrel
    by_cases hkl : k < l.length
    · have hk2 : (k : Int) < (l.length : Int) := by omega
      have hsk := (Hid.out HSG) k hkl
      have hst := sum_take t0 hlt l hkl
      have hs0 := (Hid.out HDS) k hkl
      rw [← ht] at hst
      generalize l.getD k nosg = s at hsk hst hs0
      obtain ⟨c0, c1, c2, c3, fit⟩ := hsk.later hbl (by rw [hn]; exact hb)
      obtain ⟨wo, hwo⟩ : ∃ wo, wr.alloc (.cells #[.int .u32 (s.at_ : Int), .string ⟨s.data.toArray⟩, .int .u32 (s.size : Int), .int .i64 s.perm] 44) = wo := ⟨_, rfl⟩
      have hbo := below_new wr (.cells #[.int .u32 (s.at_ : Int), .string ⟨s.data.toArray⟩, .int .u32 (s.size : Int), .int .i64 s.perm] 44)
      rw [hwo] at hbo
      have hqo : Blk wo wr.heap.size #[.int .u32 (s.at_ : Int), .string ⟨s.data.toArray⟩, .int .u32 (s.size : Int), .int .i64 s.perm] 44 := by rw [← hwo]; exact Blk.new wr _ _
      have s1 : wo.cell? ⟨wr.heap.size, 1, none⟩ = some (.string ⟨s.data.toArray⟩) := hqo.cell rfl
      have hsz := hb.size
      have hbw : Below n w wo := hb.trans (hbo.mono (by omega))
      obtain ⟨gb, cb, w5, hcv, hly, hb5⟩ := run_bytes wo s.data
      have hbw5 : Below n w w5 := hbw.trans (hb5.mono (by have := hbw.size; omega))
      have hl5 := sumB_lt t s.data
      have H40 : Hid (Calls Try.prog 40 #[.int .u32 (t : Int), .slice (some ⟨gb, 0, none⟩) s.data.length cb] w5 fun e w6 => e = .returned (.int .u32 (sumB t s.data : Int)) ∧ w6 = w5) := more8L t htl w5 _ s.data cb hly (by omega)
      have HB5 := hidden hbw5
      have HST := hidden hst
      have HTL := hidden hl5
      clear hb hbo hqo hbw hly hb5 hbw5 fit hst hl5 ht hsk
      generalize sumB t s.data = t1 at H40 HST HTL
      go_wp2_with (go_at_call 40; with_reducible refine (Hid.out H40).mono ?_; rintro e w6 ⟨rfl, hww⟩; rw [hww]; clear hww w6)
      go_roundw
      case rel => exact ⟨k + 1, t1, by omega, by simp, rfl, (Hid.out HST).symm, Hid.out HTL, Hid.out HB5⟩
      case measure => simp [intOf]; omega
    · have hk2 : ¬ (k : Int) < (l.length : Int) := by omega
      obtain rfl : k = l.length := by omega
      rw [← Hid.out HSUM] at ht
      have HB := hidden hb
      have HT := hidden ht
      clear hb ht
      go_wp2
      go_ret
      exact ⟨by rw [Hid.out HT]; rfl, by first | exact Hid.out HB | (rw [hn]; exact Hid.out HB)⟩
set_option maxRecDepth 20000 in
theorem digestN_no (w : World) (ao : Option Addr) (cap ent : Nat) (l : List Sg) (h : Segs w ao l) (hcap : l.length ≤ cap) (hmax : cap ≤ 9223372036854775807) (he : ent < 4294967296) (hc : ¬ checkE ent l = 0) : Calls Try.prog 13 #[.agg #[.int .u32 (ent : Int), .slice ao l.length cap]] w fun e w' => e = .returned (.int .u32 0) ∧ Below w.heap.size w w' := by
  have hb0 : Below w.heap.size w (w.alloc (.cells #[.int .u32 (ent : Int), .slice ao l.length cap] 25)) := below_new w _
  have H15 : Hid (Calls Try.prog 15 #[.agg #[.int .u32 (ent : Int), .slice ao l.length cap]] (w.alloc (.cells #[.int .u32 (ent : Int), .slice ao l.length cap] 25)) fun e w' => e = .returned (.int .i64 (checkE ent l : Int)) ∧ Below w.heap.size w w') := by
    refine (check_any _ ao cap ent l (h.later hb0) hcap hmax he).mono ?_
    rintro e w' ⟨h1, h2⟩
    exact ⟨h1, bthen hb0 h2⟩
  have hc2 : ¬ ((checkE ent l : Nat) : Int) = 0 := by omega
  clear h hb0
  generalize checkE ent l = c at H15 hc2
  go_enter Try.func13, Try.ntmps13
  go_wp2_with (go_at_call 15; with_reducible refine (Hid.out H15).mono ?_; rintro e w1 ⟨rfl, hb1⟩; have HB1 := hidden hb1; clear hb1)
  go_ret
  exact ⟨rfl, Hid.out HB1⟩
/-- The code's own Digest: the same plain function as chapter 7's own. -/
theorem digest_any (w : World) (ao : Option Addr) (cap ent : Nat) (l : List Sg) (h : Segs w ao l) (hcap : l.length ≤ cap) (hmax : cap ≤ 9223372036854775807) (he : ent < 4294967296) : Calls Try.prog 13 #[.agg #[.int .u32 (ent : Int), .slice ao l.length cap]] w fun e w' => e = .returned (.int .u32 (digE ent l : Int)) ∧ Below w.heap.size w w' := by
  by_cases hc : checkE ent l = 0
  · have e1 : digE ent l = sumB 0 (fileB ent l) := by unfold digE; rw [if_neg (by omega)]
    rw [e1]
    rcases h with h0 | ⟨b, off, rfl, hbl, h⟩
    · subst h0
      exact absurd hc (by unfold checkE enterB; simp [overB])
    · by_cases hl : 0 < l.length
      · exact digestN_ok w b off cap ent l hl hbl h hcap hmax hc he
      · obtain rfl : l = [] := List.eq_nil_of_length_eq_zero (by omega)
        exact absurd hc (by unfold checkE enterB; simp [overB])
  · have e1 : digE ent l = 0 := by unfold digE; rw [if_pos hc]
    rw [e1]
    exact digestN_no w ao cap ent l h hcap hmax he hc
end Go.Proofs.Ytpknppicamefgaa
