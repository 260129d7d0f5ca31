/- Chapter 8's own Decode of any word: some instruction. -/
import Derived.Test.YtlheilpaafjeiaaPFitsW
import Derived.Test.YtlheilpaafjeiaaPCutW
namespace Go.Proofs.Ytlheilpaafjeiaa
open Go.ChangeShapes Go.WideShapes Go.ChangeAt Go.RowKit
set_option linter.unusedVariables false
theorem ins_one (op S T D A m : Int) : (insC op S T D A m).all (·.oneCell') = true := by kernel_rfl
theorem wpList_storeI {ops : Array Oper} {rest : List Oper} {o : Oper} {a : Act} {w : World} {Q : Exit → Act → World → Prop} (hgd : o.guard = none) {x y : Operand} (ho : o.op = .store 24 x y)
    (g : Nat) (op S T D A m p1 p2 p3 p4 p5 p6 : Int) (hx : a.eval x = .pointer (some ⟨g, 0, none⟩)) (hy : a.eval y = .agg (insC op S T D A m)) (hg : Blk w g (insC p1 p2 p3 p4 p5 p6) 24)
    (h : ∀ w1, Blk w1 g (insC op S T D A m) 24 → (∀ B u, Below B u w → B ≤ g → Below B u w1) → wpList Try.prog ops Q rest (a.put o.dst undef) w1) : wpList Try.prog ops Q (o :: rest) a w :=
  wpList_store_row hgd 24 x y ho g (insC op S T D A m) hx hy 24 _ hg size24 rfl (ins_one _ _ _ _ _ _) (h _ (setRow_heap w g _ _ 24 (0, 0) hg) (fun B u hb hB => below_setRow hb hB _))
theorem dec_one {n : Nat} {w w0 w1 : World} (hz : w0.heap.size = n + 1) (b0 : Below n w w0) (q0 : Blk w0 n (insC 0 0 0 0 0 0) 24) (b1 : Below w0.heap.size w0 w1) : Below n w w1 ∧ Blk w1 n (insC 0 0 0 0 0 0) 24 ∧ n + 1 ≤ w1.heap.size :=
  ⟨b0.trans (b1.mono (by omega)), q0.later b1, by have := b1.size; omega⟩
theorem dec_two {n : Nat} {w w1 w2 : World} (b : Below n w w1) (q : Blk w1 n (insC 0 0 0 0 0 0) 24) (hs : n + 1 ≤ w1.heap.size) (b2 : Below w1.heap.size w1 w2) : Below n w w2 ∧ Blk w2 n (insC 0 0 0 0 0 0) 24 :=
  ⟨b.trans (b2.mono (by omega)), q.later b2⟩
theorem dec_three {n g : Nat} {w w2 w3 : World} (b : Below n w w2) (q : Blk w2 n (insC 0 0 0 0 0 0) 24) (hs : n + 1 ≤ g) (b3 : ∀ B u, Below B u w2 → B ≤ g → Below B u w3) : Below n w w3 ∧ Blk w3 n (insC 0 0 0 0 0 0) 24 :=
  ⟨b3 n w b (by omega), ((b3 g w2 (Below.refl _ _) (Nat.le_refl _)).block n (by omega)).trans q⟩
set_option maxRecDepth 20000 in
set_option maxHeartbeats 2000000 in
theorem dec_any (v : Int) (h1 : 0 ≤ v) (h2 : v < 4294967296) (w : World) : Calls Try.prog 19 #[.int .u32 v] w fun e w' => (∃ p S T D A m, e = .returned (.agg (insC p S T D A m)) ∧ 0 ≤ m ∧ m < 4294967296) ∧ Below w.heap.size w w' := by
  obtain ⟨n, hn⟩ : ∃ n, w.heap.size = n := ⟨_, rfl⟩
  have q0 := Blk.new w (insC 0 0 0 0 0 0) 24
  have b0 := below_new w (.cells (insC 0 0 0 0 0 0) 24)
  have z0 : (w.alloc (.cells (insC 0 0 0 0 0 0) 24)).heap.size = n + 1 := by simp [hn]
  rw [hn] at q0 b0
  have Q0 := hidden q0
  have B0 := hidden b0
  have Z0 := hidden z0
  clear q0 b0 z0
  go_enter Try.func19, Try.ntmps19
  rw [hn]
  go_wp2_with (first
    | (go_at_call 40; refine (table_any _).mono ?_; rintro e w1 ⟨rfl, b1⟩; have P1 := dec_one Z0.out B0.out Q0.out b1; have H1 := hidden P1; clear b1 P1)
    | (refine wpList_allocT rfl rfl ?_; rintro w2 k2 b2; obtain ⟨g, hg⟩ : ∃ g, w1.heap.size = g := ⟨_, rfl⟩; have P2 := dec_two H1.out.1 H1.out.2.1 H1.out.2.2 b2; have S2 := H1.out.2.2; rw [hg] at S2 k2 ⊢; have H2 := hidden P2; have K2 := hidden k2; have G2 := hidden S2; clear b2 k2 hg P2 S2)
    | (refine wpList_storeT rfl rfl g rfl rfl K2.out ?_; rintro w3 k3 b3; have P3 := dec_three H2.out.1 H2.out.2 G2.out b3; have K3 := hidden k3; have H3 := hidden P3; clear k3 b3 P3))
  go_loopw [4] (fun x4 wr => ∃ (k : Nat), k ≤ 69 ∧ x4 = .int .i64 (k : Int) ∧ Blk wr g tabC 49 ∧ Below n w wr ∧ Blk wr n (insC 0 0 0 0 0 0) 24) (fun x4 _ => 69 - (intOf x4).toNat)
  case atStart => exact ⟨0, by omega, rfl, K3.out, H3.out⟩
  case round =>
    clear H1 H2 H3 K2 K3
    obtain ⟨k, hk, rfl, hT, hW, hI⟩ := hrel
    by_cases hlt : k < 69
    · have hlt2 : (k : Int) < 69 := by omega
      have hge : (0 : Int) ≤ (k : Int) := by omega
      obtain ⟨rop, rf, ro, rn, rnm, hrow⟩ : ∃ rop rf ro rn rnm, ∀ u : World, Blk u g tabC 49 → u.cell? ⟨g, k * 5, none⟩ = some (.int .i64 rop) ∧ u.cell? ⟨g, k * 5 + 1, none⟩ = some (.int .u8 rf) ∧ u.cell? ⟨g, k * 5 + 2, none⟩ = some (.int .i64 ro) ∧ u.cell? ⟨g, k * 5 + 3, none⟩ = some (.int .i64 rn) ∧ u.cell? ⟨g, k * 5 + 4, none⟩ = some (.string rnm) :=
        ⟨_, _, _, _, _, fun u hu => tab_cells hu hlt⟩
      obtain ⟨c0, c1, c2, c3, c4⟩ := hrow wr hT
      have HC := hidden hrow
      clear hrow
      have HT := hidden hT
      have HW := hidden hW
      have HI := hidden hI
      clear hT hW hI
      go_wp2_with (first
        | (go_at_call 41; refine (fits_any rop rf ro rn rnm v h1 h2 _).mono ?_; rintro e w4 ⟨⟨b, rfl⟩, b4⟩; have P4 := hidden (And.intro (HT.out.later b4) (And.intro (HW.out.trans (b4.mono (Nat.le_trans (Nat.le_of_eq hn.symm) HW.out.size))) (HI.out.later b4))); clear b4; obtain ⟨d0, d1, d2, d3, d4⟩ := HC.out _ P4.out.1; cases b)
        | (go_at_call 42; refine (cut_any rop rf ro rn rnm v h1 h2 _).mono ?_; rintro e w5 ⟨⟨p, S, T, D, A, m, rfl, hm0, hm1⟩, b5⟩; have P5 := hidden (And.intro (P4.out.2.1.trans (b5.mono (Nat.le_trans (Nat.le_of_eq hn.symm) P4.out.2.1.size))) (P4.out.2.2.later b5)); clear b5)
        | (refine wpList_storeI rfl rfl n p S T D A m 0 0 0 0 0 0 rfl rfl P5.out.2 ?_; rintro w6 k6 b6; have K6 := hidden k6; have B6 := hidden (b6 n w P5.out.1 (Nat.le_refl n)); clear k6 b6))
      · go_roundw
        case rel => first | exact ⟨k + 1, by omega, by simp, P4.out⟩ | ((repeat apply Exists.intro); exact ⟨⟨k + 1, by omega, by simp, P4.out⟩, rfl⟩)
        case measure => simp [intOf]; omega
      · refine bodyPost_ret (results_cell_row rfl _ _ n 24 (insC p S T D A m) (0, 0) _ rfl K6.out Try.underlying24 rfl size24) rfl ⟨⟨_, _, _, _, _, _, rfl, hm0, hm1⟩, ?_⟩
        exact B6.out
    · have hnl : ¬ (k : Int) < 69 := by omega
      have HW := hidden hW
      have HI := hidden hI
      clear hT hW hI
      go_wp2_with (first
        | (refine wpList_storeI rfl rfl n 0 0 0 0 0 0 0 0 0 0 0 0 rfl rfl HI.out ?_; rintro w6 k6 b6; have K6 := hidden k6; have B6 := hidden (b6 n w HW.out (Nat.le_refl n)); clear k6 b6))
      refine bodyPost_ret (results_cell_row rfl _ _ n 24 (insC 0 0 0 0 0 0) (0, 0) _ rfl K6.out Try.underlying24 rfl size24) rfl ⟨⟨_, _, _, _, _, _, rfl, by omega, by omega⟩, ?_⟩
      exact B6.out
end Go.Proofs.Ytlheilpaafjeiaa
