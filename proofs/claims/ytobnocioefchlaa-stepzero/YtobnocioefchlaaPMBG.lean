/- A region that draws its order, where what an operation has done hangs on the slots of those that it waits for. -/
import Derived.Test.YtobnocioefchlaaPMBF
import Derived.Test.YtobnocioefchlaaPMBA
namespace Go.Proofs.Ytobnocioefchlaa
open Go Go.RowKit
set_option linter.unusedVariables false
section
variable {P : Program}
theorem wp_region_tie {R : World → World → Prop} (hR : Later R) {id : Nat} {Q : Exit → Act → World → Prop} {a : Act} {w : World} {l : List Oper} (n : Nat) (ds : List Nat) (Φ : Nat → List Value → World → Prop) (hm : P.follows .mixedOrders = true) (hB : headOkB l.toArray n = true) (hd : ds.length = n)
    (hmono : ∀ i j v xs w w', waitsB .any l.toArray i j = false → i ≠ j → Φ i xs w → R w w' → Φ i (xs.set j v) w')
    (hstep : ∀ j, j < n → ∀ xs w', xs.length = n → R w w' → (∀ i, waitsB .any l.toArray j i = true → Φ i xs w') →
      Runs P l.toArray Q j (fun a' w'' => ∃ v, a' = slotsOn a ds (xs.set j v) ∧ Φ j (xs.set j v) w'' ∧ R w' w'') (slotsOn a ds xs) w')
    (hfin : ∀ xs w', xs.length = n → R w w' → (∀ i, i < n → Φ i xs w') → wpList P l.toArray Q (l.drop n) (slotsOn a ds xs) w') :
    (Code.region id l.toArray true).wp P Q a w := by
  simp only [headOkB, Bool.and_eq_true, decide_eq_true_eq] at hB
  obtain ⟨⟨⟨⟨hn, hs⟩, hc⟩, hb⟩, hq⟩ := hB
  have key : ∀ (c : Nat) (L : Array Bool) (xs : List Value) (w' : World), HeadInv .any l.toArray n L → xs.length = n → R w w' → (∀ i, i < n → L.getD i false = true → Φ i xs w') → (L.toList.take n).count false = c →
      wpAny P .any l.toArray Q (c + (l.toArray.size - n)) L (slotsOn a ds xs) w' := by
    intro c
    induction c with
    | zero =>
      intro L xs w' inv hx hR' hΦ h0
      have hall : ∀ i, i < n → L.getD i false = true := by
        intro i hi
        cases h : L.getD i false with
        | true => rfl
        | false =>
          exfalso
          have hlt : i < L.size := by rw [inv.size]; omega
          have : false ∈ L.toList.take n := by
            rw [List.mem_iff_getElem?]
            refine ⟨i, ?_⟩
            rw [List.getElem?_take_of_lt hi]
            simp [hlt] at h ⊢
            exact h
          have := List.count_pos_iff.2 this
          omega
      have e := headDone_eq (L := L) (n := n) (g := l.toArray.size - n) (by rw [inv.size]; omega) hall (fun i h1 h2 => inv.tail i h1 (by omega))
      have hdl : (l.drop n).length = l.toArray.size - n := by simp
      have := wpAny_of_seq (P := P) (md := .any) (Q' := Q) (l.drop n) n L (slotsOn a ds xs) w' (fun j => by simp [List.getElem?_drop]) (by rw [hdl, e]; exact hq) (hfin xs w' hx hR' fun i hi => hΦ i hi (hall i hi))
      rw [hdl] at this
      rw [Nat.zero_add]
      exact this
    | succ c ih =>
      intro L xs w' inv hx hR' hΦ h0
      obtain ⟨q, hq1, hq2⟩ : ∃ q, q < n ∧ L.getD q true = false := by
        have : false ∈ L.toList.take n := List.count_pos_iff.1 (by omega)
        obtain ⟨i, hi⟩ := List.mem_iff_getElem?.1 this
        have hin : i < n := by
          have := (List.getElem?_eq_some_iff.1 hi).1
          simp at this
          omega
        rw [List.getElem?_take_of_lt hin] at hi
        have hlt : i < L.size := by rw [inv.size]; omega
        refine ⟨i, hin, ?_⟩
        simp [hlt] at hi ⊢
        exact hi
      have hlow : ∀ j ∈ Region.ready .any l.toArray L, j < n := fun j hj => Nat.lt_of_not_le fun h => tail_waits hs hc hn inv _ q rfl hq1 hq2 j h hj
      rw [show c + 1 + (l.toArray.size - n) = (c + (l.toArray.size - n)) + 1 by omega]
      refine ⟨fun hno => ?_, fun i hi => ?_⟩
      · exfalso
        have := all_up hb inv.size hno q (by omega)
        rw [getD_both hq2] at this
        cases this
      · have hin := hlow i hi
        obtain ⟨hl, o, ho, hall⟩ := mem_ready.1 hi
        have hr := hstep i hin xs w' hx hR' (fun j hj => by
          simp only [waitsB, ho] at hj
          obtain ⟨e, he, hbb⟩ := Array.any_eq_true'.1 hj
          simp only [Bool.and_eq_true, beq_iff_eq] at hbb
          have hlt := edge_back hb ho he hbb.1
          rw [← hbb.2]
          exact hΦ e.on (by omega) (hall e he hbb.1))
        refine wpOp_mono ?_ hr.out
        rintro a' w'' ⟨v, rfl, hv, hR''⟩
        have hlt : i < L.size := by rw [inv.size]; omega
        refine ih (L.setIfInBounds i true) (xs.set i v) w'' (inv.set hi hin) (by simpa using hx) (hR.trans _ _ _ hR' hR'') ?_ ?_
        · intro k hk hLk
          by_cases hik : i = k
          · subst hik
            exact hv
          · rw [getD_set_ne false hik] at hLk
            refine hmono k i v xs w' w'' ?_ (fun e => hik e.symm) (hΦ k hk hLk) hR''
            cases hwt : waitsB .any l.toArray k i with
            | false => rfl
            | true =>
              exfalso
              unfold waitsB at hwt
              cases hok : l.toArray[k]? with
              | none => rw [hok] at hwt; simp at hwt
              | some ok =>
                rw [hok] at hwt
                obtain ⟨e, he, hbb⟩ := Array.any_eq_true'.1 hwt
                simp only [Bool.and_eq_true, beq_iff_eq] at hbb
                have := inv.closed k ok hok hLk e he hbb.1
                rw [hbb.2, getD_both hl] at this
                cases this
        · rw [Array.toList_setIfInBounds]
          have hf : L.toList[i]? = some false := by
            simp [hlt] at hl ⊢
            exact hl
          have := count_head L.toList n i hf hin
          omega
  have inv0 : HeadInv .any l.toArray n (Array.replicate l.toArray.size false) :=
    ⟨by simp, fun j oj _ hl => (by rw [getD_replicate_false] at hl; cases hl), fun t _ ht => getD_in (by simpa using ht) (getD_replicate_false _ _)⟩
  refine wp_region_any hm ?_
  have hsz : n < l.length := by simpa using hn
  have h := key n (Array.replicate l.toArray.size false) (ds.map fun d => a.tmps.toList.getD d undef) _ inv0 (by simpa using hd) (hR.drew w) (fun i _ h => by rw [getD_replicate_false] at h; cases h) (by
    simp only [Array.toList_replicate, List.take_replicate, List.count_replicate_self]
    simp
    omega)
  rw [show n + (l.toArray.size - n) = l.toArray.size by omega, slotsOn_self] at h
  exact h
end
end Go.Proofs.Ytobnocioefchlaa
namespace Go.Proofs.Ytobnocioefchlaa
open Go.ChangeShapes Go.WideShapes Go.ChangeAt Go.RowKit
set_option linter.unusedVariables false
set_option maxRecDepth 20000 in
theorem takes_27 (S T D A m s t : Int) (h1 : 0 ≤ s) (h2 : s < 4294967296) (h3 : 0 ≤ t) (h4 : t < 4294967296) (h5 : 0 ≤ m) (h6 : m < 4294967296) (w : World) :
    Calls Try.prog 49 #[.agg (insC 27 S T D A m), .int .u32 s, .int .u32 t] w fun e w' => e = .returned (.bool (true)) ∧ Below w.heap.size w w' := by
  have hB := hidden (below_new w (.cells (insC 27 S T D A m) 62))
  go_enter Try.func49, Try.ntmps49
  go_wp2
  go_ret
  exact ⟨ret_bool rfl, hB.out⟩
set_option maxRecDepth 20000 in
theorem takes_28 (S T D A m s t : Int) (h1 : 0 ≤ s) (h2 : s < 4294967296) (h3 : 0 ≤ t) (h4 : t < 4294967296) (h5 : 0 ≤ m) (h6 : m < 4294967296) (w : World) :
    Calls Try.prog 49 #[.agg (insC 28 S T D A m), .int .u32 s, .int .u32 t] w fun e w' => e = .returned (.bool (true)) ∧ Below w.heap.size w w' := by
  have hB := hidden (below_new w (.cells (insC 28 S T D A m) 62))
  go_enter Try.func49, Try.ntmps49
  go_wp2
  go_ret
  exact ⟨ret_bool rfl, hB.out⟩
set_option maxRecDepth 20000 in
theorem takes_60 (S T D A m s t : Int) (h1 : 0 ≤ s) (h2 : s < 4294967296) (h3 : 0 ≤ t) (h4 : t < 4294967296) (h5 : 0 ≤ m) (h6 : m < 4294967296) (w : World) :
    Calls Try.prog 49 #[.agg (insC 60 S T D A m), .int .u32 s, .int .u32 t] w fun e w' => e = .returned (.bool (s == t)) ∧ Below w.heap.size w w' := by
  have hB := hidden (below_new w (.cells (insC 60 S T D A m) 62))
  go_enter Try.func49, Try.ntmps49
  go_wp2
  go_ret
  exact ⟨ret_bool rfl, hB.out⟩
set_option maxRecDepth 20000 in
theorem takes_61 (S T D A m s t : Int) (h1 : 0 ≤ s) (h2 : s < 4294967296) (h3 : 0 ≤ t) (h4 : t < 4294967296) (h5 : 0 ≤ m) (h6 : m < 4294967296) (w : World) :
    Calls Try.prog 49 #[.agg (insC 61 S T D A m), .int .u32 s, .int .u32 t] w fun e w' => e = .returned (.bool (s != t)) ∧ Below w.heap.size w w' := by
  have hB := hidden (below_new w (.cells (insC 61 S T D A m) 62))
  go_enter Try.func49, Try.ntmps49
  go_wp2
  go_ret
  exact ⟨ret_bool rfl, hB.out⟩
set_option maxRecDepth 20000 in
theorem takes_62 (S T D A m s t : Int) (h1 : 0 ≤ s) (h2 : s < 4294967296) (h3 : 0 ≤ t) (h4 : t < 4294967296) (h5 : 0 ≤ m) (h6 : m < 4294967296) (w : World) :
    Calls Try.prog 49 #[.agg (insC 62 S T D A m), .int .u32 s, .int .u32 t] w fun e w' => e = .returned (.bool (!lt32 0 s)) ∧ Below w.heap.size w w' := by
  have hB := hidden (below_new w (.cells (insC 62 S T D A m) 62))
  have hz : (0 : Int) < 4294967296 := by omega
  go_enter Try.func49, Try.ntmps49
  go_wp2_with (first | (go_at_call 73; refine (below_any _ _ (Int.le_refl 0) hz h1 h2 _).mono ?_; rintro e w' ⟨rfl, rfl⟩))
  go_ret
  exact ⟨ret_bool rfl, hB.out⟩
set_option maxRecDepth 20000 in
theorem takes_63 (S T D A m s t : Int) (h1 : 0 ≤ s) (h2 : s < 4294967296) (h3 : 0 ≤ t) (h4 : t < 4294967296) (h5 : 0 ≤ m) (h6 : m < 4294967296) (w : World) :
    Calls Try.prog 49 #[.agg (insC 63 S T D A m), .int .u32 s, .int .u32 t] w fun e w' => e = .returned (.bool (lt32 0 s)) ∧ Below w.heap.size w w' := by
  have hB := hidden (below_new w (.cells (insC 63 S T D A m) 62))
  have hz : (0 : Int) < 4294967296 := by omega
  go_enter Try.func49, Try.ntmps49
  go_wp2_with (first | (go_at_call 73; refine (below_any _ _ (Int.le_refl 0) hz h1 h2 _).mono ?_; rintro e w' ⟨rfl, rfl⟩))
  go_ret
  exact ⟨ret_bool rfl, hB.out⟩
set_option maxRecDepth 20000 in
theorem takes_64 (S T D A m s t : Int) (h1 : 0 ≤ s) (h2 : s < 4294967296) (h3 : 0 ≤ t) (h4 : t < 4294967296) (h5 : 0 ≤ m) (h6 : m < 4294967296) (w : World) :
    Calls Try.prog 49 #[.agg (insC 64 S T D A m), .int .u32 s, .int .u32 t] w fun e w' => e = .returned (.bool (lt32 s 0)) ∧ Below w.heap.size w w' := by
  have hB := hidden (below_new w (.cells (insC 64 S T D A m) 62))
  have hz : (0 : Int) < 4294967296 := by omega
  go_enter Try.func49, Try.ntmps49
  go_wp2_with (first | (go_at_call 73; refine (below_any _ _ h1 h2 (Int.le_refl 0) hz _).mono ?_; rintro e w' ⟨rfl, rfl⟩))
  go_ret
  exact ⟨ret_bool rfl, hB.out⟩
set_option maxRecDepth 20000 in
theorem takes_65 (S T D A m s t : Int) (h1 : 0 ≤ s) (h2 : s < 4294967296) (h3 : 0 ≤ t) (h4 : t < 4294967296) (h5 : 0 ≤ m) (h6 : m < 4294967296) (w : World) :
    Calls Try.prog 49 #[.agg (insC 65 S T D A m), .int .u32 s, .int .u32 t] w fun e w' => e = .returned (.bool (!lt32 s 0)) ∧ Below w.heap.size w w' := by
  have hB := hidden (below_new w (.cells (insC 65 S T D A m) 62))
  have hz : (0 : Int) < 4294967296 := by omega
  go_enter Try.func49, Try.ntmps49
  go_wp2_with (first | (go_at_call 73; refine (below_any _ _ h1 h2 (Int.le_refl 0) hz _).mono ?_; rintro e w' ⟨rfl, rfl⟩))
  go_ret
  exact ⟨ret_bool rfl, hB.out⟩
set_option maxRecDepth 20000 in
theorem takes_66 (S T D A m s t : Int) (h1 : 0 ≤ s) (h2 : s < 4294967296) (h3 : 0 ≤ t) (h4 : t < 4294967296) (h5 : 0 ≤ m) (h6 : m < 4294967296) (w : World) :
    Calls Try.prog 49 #[.agg (insC 66 S T D A m), .int .u32 s, .int .u32 t] w fun e w' => e = .returned (.bool (lt32 s 0)) ∧ Below w.heap.size w w' := by
  have hB := hidden (below_new w (.cells (insC 66 S T D A m) 62))
  have hz : (0 : Int) < 4294967296 := by omega
  go_enter Try.func49, Try.ntmps49
  go_wp2_with (first | (go_at_call 73; refine (below_any _ _ h1 h2 (Int.le_refl 0) hz _).mono ?_; rintro e w' ⟨rfl, rfl⟩))
  go_ret
  exact ⟨ret_bool rfl, hB.out⟩
set_option maxRecDepth 20000 in
theorem takes_67 (S T D A m s t : Int) (h1 : 0 ≤ s) (h2 : s < 4294967296) (h3 : 0 ≤ t) (h4 : t < 4294967296) (h5 : 0 ≤ m) (h6 : m < 4294967296) (w : World) :
    Calls Try.prog 49 #[.agg (insC 67 S T D A m), .int .u32 s, .int .u32 t] w fun e w' => e = .returned (.bool (!lt32 s 0)) ∧ Below w.heap.size w w' := by
  have hB := hidden (below_new w (.cells (insC 67 S T D A m) 62))
  have hz : (0 : Int) < 4294967296 := by omega
  go_enter Try.func49, Try.ntmps49
  go_wp2_with (first | (go_at_call 73; refine (below_any _ _ h1 h2 (Int.le_refl 0) hz _).mono ?_; rintro e w' ⟨rfl, rfl⟩))
  go_ret
  exact ⟨ret_bool rfl, hB.out⟩
set_option maxRecDepth 20000 in
theorem takes_68 (S T D A m s t : Int) (h1 : 0 ≤ s) (h2 : s < 4294967296) (h3 : 0 ≤ t) (h4 : t < 4294967296) (h5 : 0 ≤ m) (h6 : m < 4294967296) (w : World) :
    Calls Try.prog 49 #[.agg (insC 68 S T D A m), .int .u32 s, .int .u32 t] w fun e w' => e = .returned (.bool (true)) ∧ Below w.heap.size w w' := by
  have hB := hidden (below_new w (.cells (insC 68 S T D A m) 62))
  go_enter Try.func49, Try.ntmps49
  go_wp2
  go_ret
  exact ⟨ret_bool rfl, hB.out⟩
set_option maxRecDepth 20000 in
theorem takes_69 (S T D A m s t : Int) (h1 : 0 ≤ s) (h2 : s < 4294967296) (h3 : 0 ≤ t) (h4 : t < 4294967296) (h5 : 0 ≤ m) (h6 : m < 4294967296) (w : World) :
    Calls Try.prog 49 #[.agg (insC 69 S T D A m), .int .u32 s, .int .u32 t] w fun e w' => e = .returned (.bool (true)) ∧ Below w.heap.size w w' := by
  have hB := hidden (below_new w (.cells (insC 69 S T D A m) 62))
  go_enter Try.func49, Try.ntmps49
  go_wp2
  go_ret
  exact ⟨ret_bool rfl, hB.out⟩
set_option maxRecDepth 20000 in
theorem takes_none (op S T D A m s t : Int) (h1 : 0 ≤ s) (h2 : s < 4294967296) (h3 : 0 ≤ t) (h4 : t < 4294967296) (h5 : 0 ≤ m) (h6 : m < 4294967296) (k27 : (op == 27) = false) (k28 : (op == 28) = false) (k60 : (op == 60) = false) (k61 : (op == 61) = false) (k62 : (op == 62) = false) (k63 : (op == 63) = false) (k64 : (op == 64) = false) (k65 : (op == 65) = false) (k66 : (op == 66) = false) (k67 : (op == 67) = false) (k68 : (op == 68) = false) (k69 : (op == 69) = false) (w : World) :
    Calls Try.prog 49 #[.agg (insC op S T D A m), .int .u32 s, .int .u32 t] w fun e w' => e = .returned (.bool (false)) ∧ Below w.heap.size w w' := by
  have hB := hidden (below_new w (.cells (insC op S T D A m) 62))
  go_enter Try.func49, Try.ntmps49
  go_wp2
  go_ret
  exact ⟨ret_bool rfl, hB.out⟩
theorem takes_any (op S T D A m s t : Int) (h1 : 0 ≤ s) (h2 : s < 4294967296) (h3 : 0 ≤ t) (h4 : t < 4294967296) (h5 : 0 ≤ m) (h6 : m < 4294967296) (w : World) :
    Calls Try.prog 49 #[.agg (insC op S T D A m), .int .u32 s, .int .u32 t] w fun e w' => e = .returned (.bool (takeB op s t m)) ∧ Below w.heap.size w w' := by
  by_cases k27 : op = 27
  · subst k27
    exact takes_27 S T D A m s t h1 h2 h3 h4 h5 h6 w
  by_cases k28 : op = 28
  · subst k28
    exact takes_28 S T D A m s t h1 h2 h3 h4 h5 h6 w
  by_cases k60 : op = 60
  · subst k60
    exact takes_60 S T D A m s t h1 h2 h3 h4 h5 h6 w
  by_cases k61 : op = 61
  · subst k61
    exact takes_61 S T D A m s t h1 h2 h3 h4 h5 h6 w
  by_cases k62 : op = 62
  · subst k62
    exact takes_62 S T D A m s t h1 h2 h3 h4 h5 h6 w
  by_cases k63 : op = 63
  · subst k63
    exact takes_63 S T D A m s t h1 h2 h3 h4 h5 h6 w
  by_cases k64 : op = 64
  · subst k64
    exact takes_64 S T D A m s t h1 h2 h3 h4 h5 h6 w
  by_cases k65 : op = 65
  · subst k65
    exact takes_65 S T D A m s t h1 h2 h3 h4 h5 h6 w
  by_cases k66 : op = 66
  · subst k66
    exact takes_66 S T D A m s t h1 h2 h3 h4 h5 h6 w
  by_cases k67 : op = 67
  · subst k67
    exact takes_67 S T D A m s t h1 h2 h3 h4 h5 h6 w
  by_cases k68 : op = 68
  · subst k68
    exact takes_68 S T D A m s t h1 h2 h3 h4 h5 h6 w
  by_cases k69 : op = 69
  · subst k69
    exact takes_69 S T D A m s t h1 h2 h3 h4 h5 h6 w
  have e : takeB op s t m = false := by simp only [takeB, k27, k28, k60, k61, k62, k63, k64, k65, k66, k67, k68, k69, if_false]
  rw [e]
  exact takes_none op S T D A m s t h1 h2 h3 h4 h5 h6 (beq_eq_false_iff_ne.2 k27) (beq_eq_false_iff_ne.2 k28) (beq_eq_false_iff_ne.2 k60) (beq_eq_false_iff_ne.2 k61) (beq_eq_false_iff_ne.2 k62) (beq_eq_false_iff_ne.2 k63) (beq_eq_false_iff_ne.2 k64) (beq_eq_false_iff_ne.2 k65) (beq_eq_false_iff_ne.2 k66) (beq_eq_false_iff_ne.2 k67) (beq_eq_false_iff_ne.2 k68) (beq_eq_false_iff_ne.2 k69) w
end Go.Proofs.Ytobnocioefchlaa
namespace Go.Proofs.Ytobnocioefchlaa
open Go.ChangeShapes Go.WideShapes Go.ChangeAt Go.RowKit
set_option linter.unusedVariables false
set_option maxRecDepth 20000 in
theorem writes_a (op S T D A m : Int) (a1 : decide (1 ≤ op) = true) (a2 : decide (op ≤ 18) = true) (w : World) :
    Calls Try.prog 48 #[.agg (insC op S T D A m)] w fun e w' => e = .returned (.int .i64 D) ∧ Below w.heap.size w w' := by
  have hB := hidden (below_new w (.cells (insC op S T D A m) 62))
  go_enter Try.func48, Try.ntmps48
  go_wp2
  go_ret
  exact ⟨rfl, hB.out⟩
set_option maxRecDepth 20000 in
theorem writes_low (op S T D A m : Int) (a1 : decide (1 ≤ op) = false) (k23 : (op == 23) = false) (k24 : (op == 24) = false) (k28 : (op == 28) = false) (c1 : decide (37 ≤ op) = false) (d1 : decide (40 ≤ op) = false) (k66 : (op == 66) = false) (k67 : (op == 67) = false) (k69 : (op == 69) = false) (w : World) :
    Calls Try.prog 48 #[.agg (insC op S T D A m)] w fun e w' => e = .returned (.int .i64 0) ∧ Below w.heap.size w w' := by
  have hB := hidden (below_new w (.cells (insC op S T D A m) 62))
  go_enter Try.func48, Try.ntmps48
  go_wp2
  go_ret
  exact ⟨rfl, hB.out⟩
set_option maxRecDepth 20000 in
theorem writes_b23 (op S T D A m : Int) (a1 : decide (1 ≤ op) = true) (a2 : decide (op ≤ 18) = false) (k23 : (op == 23) = true) (w : World) :
    Calls Try.prog 48 #[.agg (insC op S T D A m)] w fun e w' => e = .returned (.int .i64 D) ∧ Below w.heap.size w w' := by
  have hB := hidden (below_new w (.cells (insC op S T D A m) 62))
  go_enter Try.func48, Try.ntmps48
  go_wp2
  go_ret
  exact ⟨rfl, hB.out⟩
set_option maxRecDepth 20000 in
theorem writes_b24 (op S T D A m : Int) (a1 : decide (1 ≤ op) = true) (a2 : decide (op ≤ 18) = false) (k23 : (op == 23) = false) (k24 : (op == 24) = true) (w : World) :
    Calls Try.prog 48 #[.agg (insC op S T D A m)] w fun e w' => e = .returned (.int .i64 D) ∧ Below w.heap.size w w' := by
  have hB := hidden (below_new w (.cells (insC op S T D A m) 62))
  go_enter Try.func48, Try.ntmps48
  go_wp2
  go_ret
  exact ⟨rfl, hB.out⟩
set_option maxRecDepth 20000 in
theorem writes_b28 (op S T D A m : Int) (a1 : decide (1 ≤ op) = true) (a2 : decide (op ≤ 18) = false) (k23 : (op == 23) = false) (k24 : (op == 24) = false) (k28 : (op == 28) = true) (w : World) :
    Calls Try.prog 48 #[.agg (insC op S T D A m)] w fun e w' => e = .returned (.int .i64 D) ∧ Below w.heap.size w w' := by
  have hB := hidden (below_new w (.cells (insC op S T D A m) 62))
  go_enter Try.func48, Try.ntmps48
  go_wp2
  go_ret
  exact ⟨rfl, hB.out⟩
set_option maxRecDepth 20000 in
theorem writes_c (op S T D A m : Int) (a1 : decide (1 ≤ op) = true) (a2 : decide (op ≤ 18) = false) (k23 : (op == 23) = false) (k24 : (op == 24) = false) (k28 : (op == 28) = false) (c1 : decide (37 ≤ op) = true) (c2 : decide (op ≤ 39) = true) (w : World) :
    Calls Try.prog 48 #[.agg (insC op S T D A m)] w fun e w' => e = .returned (.int .i64 D) ∧ Below w.heap.size w w' := by
  have hB := hidden (below_new w (.cells (insC op S T D A m) 62))
  go_enter Try.func48, Try.ntmps48
  go_wp2
  go_ret
  exact ⟨rfl, hB.out⟩
set_option maxRecDepth 20000 in
theorem writes_mid (op S T D A m : Int) (a1 : decide (1 ≤ op) = true) (a2 : decide (op ≤ 18) = false) (k23 : (op == 23) = false) (k24 : (op == 24) = false) (k28 : (op == 28) = false) (c1 : decide (37 ≤ op) = false) (d1 : decide (40 ≤ op) = false) (k66 : (op == 66) = false) (k67 : (op == 67) = false) (k69 : (op == 69) = false) (w : World) :
    Calls Try.prog 48 #[.agg (insC op S T D A m)] w fun e w' => e = .returned (.int .i64 0) ∧ Below w.heap.size w w' := by
  have hB := hidden (below_new w (.cells (insC op S T D A m) 62))
  go_enter Try.func48, Try.ntmps48
  go_wp2
  go_ret
  exact ⟨rfl, hB.out⟩
set_option maxRecDepth 20000 in
theorem writes_d (op S T D A m : Int) (a1 : decide (1 ≤ op) = true) (a2 : decide (op ≤ 18) = false) (k23 : (op == 23) = false) (k24 : (op == 24) = false) (k28 : (op == 28) = false) (c1 : decide (37 ≤ op) = true) (c2 : decide (op ≤ 39) = false) (d1 : decide (40 ≤ op) = true) (d2 : decide (op ≤ 54) = true) (w : World) :
    Calls Try.prog 48 #[.agg (insC op S T D A m)] w fun e w' => e = .returned (.int .i64 T) ∧ Below w.heap.size w w' := by
  have hB := hidden (below_new w (.cells (insC op S T D A m) 62))
  go_enter Try.func48, Try.ntmps48
  go_wp2
  go_ret
  exact ⟨rfl, hB.out⟩
set_option maxRecDepth 20000 in
theorem writes_e66 (op S T D A m : Int) (a1 : decide (1 ≤ op) = true) (a2 : decide (op ≤ 18) = false) (k23 : (op == 23) = false) (k24 : (op == 24) = false) (k28 : (op == 28) = false) (c1 : decide (37 ≤ op) = true) (c2 : decide (op ≤ 39) = false) (d1 : decide (40 ≤ op) = true) (d2 : decide (op ≤ 54) = false) (k66 : (op == 66) = true) (w : World) :
    Calls Try.prog 48 #[.agg (insC op S T D A m)] w fun e w' => e = .returned (.int .i64 31) ∧ Below w.heap.size w w' := by
  have hB := hidden (below_new w (.cells (insC op S T D A m) 62))
  go_enter Try.func48, Try.ntmps48
  go_wp2
  go_ret
  exact ⟨rfl, hB.out⟩
set_option maxRecDepth 20000 in
theorem writes_e67 (op S T D A m : Int) (a1 : decide (1 ≤ op) = true) (a2 : decide (op ≤ 18) = false) (k23 : (op == 23) = false) (k24 : (op == 24) = false) (k28 : (op == 28) = false) (c1 : decide (37 ≤ op) = true) (c2 : decide (op ≤ 39) = false) (d1 : decide (40 ≤ op) = true) (d2 : decide (op ≤ 54) = false) (k66 : (op == 66) = false) (k67 : (op == 67) = true) (w : World) :
    Calls Try.prog 48 #[.agg (insC op S T D A m)] w fun e w' => e = .returned (.int .i64 31) ∧ Below w.heap.size w w' := by
  have hB := hidden (below_new w (.cells (insC op S T D A m) 62))
  go_enter Try.func48, Try.ntmps48
  go_wp2
  go_ret
  exact ⟨rfl, hB.out⟩
set_option maxRecDepth 20000 in
theorem writes_e69 (op S T D A m : Int) (a1 : decide (1 ≤ op) = true) (a2 : decide (op ≤ 18) = false) (k23 : (op == 23) = false) (k24 : (op == 24) = false) (k28 : (op == 28) = false) (c1 : decide (37 ≤ op) = true) (c2 : decide (op ≤ 39) = false) (d1 : decide (40 ≤ op) = true) (d2 : decide (op ≤ 54) = false) (k66 : (op == 66) = false) (k67 : (op == 67) = false) (k69 : (op == 69) = true) (w : World) :
    Calls Try.prog 48 #[.agg (insC op S T D A m)] w fun e w' => e = .returned (.int .i64 31) ∧ Below w.heap.size w w' := by
  have hB := hidden (below_new w (.cells (insC op S T D A m) 62))
  go_enter Try.func48, Try.ntmps48
  go_wp2
  go_ret
  exact ⟨rfl, hB.out⟩
set_option maxRecDepth 20000 in
theorem writes_up (op S T D A m : Int) (a1 : decide (1 ≤ op) = true) (a2 : decide (op ≤ 18) = false) (k23 : (op == 23) = false) (k24 : (op == 24) = false) (k28 : (op == 28) = false) (c1 : decide (37 ≤ op) = true) (c2 : decide (op ≤ 39) = false) (d1 : decide (40 ≤ op) = true) (d2 : decide (op ≤ 54) = false) (k66 : (op == 66) = false) (k67 : (op == 67) = false) (k69 : (op == 69) = false) (w : World) :
    Calls Try.prog 48 #[.agg (insC op S T D A m)] w fun e w' => e = .returned (.int .i64 0) ∧ Below w.heap.size w w' := by
  have hB := hidden (below_new w (.cells (insC op S T D A m) 62))
  go_enter Try.func48, Try.ntmps48
  go_wp2
  go_ret
  exact ⟨rfl, hB.out⟩
theorem writes_any (op S T D A m : Int) (w : World) :
    Calls Try.prog 48 #[.agg (insC op S T D A m)] w fun e w' => e = .returned (.int .i64 (writeV op T D)) ∧ Below w.heap.size w w' := by
  by_cases c_a : 1 ≤ op ∧ op ≤ 18
  · have e : writeV op T D = D := by unfold writeV; (repeat (first | rw [if_pos (by omega)] | rw [if_neg (by omega)])); try rfl
    rw [e]
    exact writes_a op S T D A m (decide_eq_true (by omega)) (decide_eq_true (by omega)) w
  by_cases c_low : op < 1
  · have e : writeV op T D = 0 := by unfold writeV; (repeat (first | rw [if_pos (by omega)] | rw [if_neg (by omega)])); try rfl
    rw [e]
    exact writes_low op S T D A m (decide_eq_false (by omega)) (beq_eq_false_iff_ne.2 (by omega)) (beq_eq_false_iff_ne.2 (by omega)) (beq_eq_false_iff_ne.2 (by omega)) (decide_eq_false (by omega)) (decide_eq_false (by omega)) (beq_eq_false_iff_ne.2 (by omega)) (beq_eq_false_iff_ne.2 (by omega)) (beq_eq_false_iff_ne.2 (by omega)) w
  by_cases c_b23 : op = 23
  · have e : writeV op T D = D := by unfold writeV; (repeat (first | rw [if_pos (by omega)] | rw [if_neg (by omega)])); try rfl
    rw [e]
    exact writes_b23 op S T D A m (decide_eq_true (by omega)) (decide_eq_false (by omega)) (beq_iff_eq.2 (by omega)) w
  by_cases c_b24 : op = 24
  · have e : writeV op T D = D := by unfold writeV; (repeat (first | rw [if_pos (by omega)] | rw [if_neg (by omega)])); try rfl
    rw [e]
    exact writes_b24 op S T D A m (decide_eq_true (by omega)) (decide_eq_false (by omega)) (beq_eq_false_iff_ne.2 (by omega)) (beq_iff_eq.2 (by omega)) w
  by_cases c_b28 : op = 28
  · have e : writeV op T D = D := by unfold writeV; (repeat (first | rw [if_pos (by omega)] | rw [if_neg (by omega)])); try rfl
    rw [e]
    exact writes_b28 op S T D A m (decide_eq_true (by omega)) (decide_eq_false (by omega)) (beq_eq_false_iff_ne.2 (by omega)) (beq_eq_false_iff_ne.2 (by omega)) (beq_iff_eq.2 (by omega)) w
  by_cases c_c : 37 ≤ op ∧ op ≤ 39
  · have e : writeV op T D = D := by unfold writeV; (repeat (first | rw [if_pos (by omega)] | rw [if_neg (by omega)])); try rfl
    rw [e]
    exact writes_c op S T D A m (decide_eq_true (by omega)) (decide_eq_false (by omega)) (beq_eq_false_iff_ne.2 (by omega)) (beq_eq_false_iff_ne.2 (by omega)) (beq_eq_false_iff_ne.2 (by omega)) (decide_eq_true (by omega)) (decide_eq_true (by omega)) w
  by_cases c_mid : op < 37
  · have e : writeV op T D = 0 := by unfold writeV; (repeat (first | rw [if_pos (by omega)] | rw [if_neg (by omega)])); try rfl
    rw [e]
    exact writes_mid op S T D A m (decide_eq_true (by omega)) (decide_eq_false (by omega)) (beq_eq_false_iff_ne.2 (by omega)) (beq_eq_false_iff_ne.2 (by omega)) (beq_eq_false_iff_ne.2 (by omega)) (decide_eq_false (by omega)) (decide_eq_false (by omega)) (beq_eq_false_iff_ne.2 (by omega)) (beq_eq_false_iff_ne.2 (by omega)) (beq_eq_false_iff_ne.2 (by omega)) w
  by_cases c_d : op ≤ 54
  · have e : writeV op T D = T := by unfold writeV; (repeat (first | rw [if_pos (by omega)] | rw [if_neg (by omega)])); try rfl
    rw [e]
    exact writes_d op S T D A m (decide_eq_true (by omega)) (decide_eq_false (by omega)) (beq_eq_false_iff_ne.2 (by omega)) (beq_eq_false_iff_ne.2 (by omega)) (beq_eq_false_iff_ne.2 (by omega)) (decide_eq_true (by omega)) (decide_eq_false (by omega)) (decide_eq_true (by omega)) (decide_eq_true (by omega)) w
  by_cases c_e66 : op = 66
  · have e : writeV op T D = 31 := by unfold writeV; (repeat (first | rw [if_pos (by omega)] | rw [if_neg (by omega)])); try rfl
    rw [e]
    exact writes_e66 op S T D A m (decide_eq_true (by omega)) (decide_eq_false (by omega)) (beq_eq_false_iff_ne.2 (by omega)) (beq_eq_false_iff_ne.2 (by omega)) (beq_eq_false_iff_ne.2 (by omega)) (decide_eq_true (by omega)) (decide_eq_false (by omega)) (decide_eq_true (by omega)) (decide_eq_false (by omega)) (beq_iff_eq.2 (by omega)) w
  by_cases c_e67 : op = 67
  · have e : writeV op T D = 31 := by unfold writeV; (repeat (first | rw [if_pos (by omega)] | rw [if_neg (by omega)])); try rfl
    rw [e]
    exact writes_e67 op S T D A m (decide_eq_true (by omega)) (decide_eq_false (by omega)) (beq_eq_false_iff_ne.2 (by omega)) (beq_eq_false_iff_ne.2 (by omega)) (beq_eq_false_iff_ne.2 (by omega)) (decide_eq_true (by omega)) (decide_eq_false (by omega)) (decide_eq_true (by omega)) (decide_eq_false (by omega)) (beq_eq_false_iff_ne.2 (by omega)) (beq_iff_eq.2 (by omega)) w
  by_cases c_e69 : op = 69
  · have e : writeV op T D = 31 := by unfold writeV; (repeat (first | rw [if_pos (by omega)] | rw [if_neg (by omega)])); try rfl
    rw [e]
    exact writes_e69 op S T D A m (decide_eq_true (by omega)) (decide_eq_false (by omega)) (beq_eq_false_iff_ne.2 (by omega)) (beq_eq_false_iff_ne.2 (by omega)) (beq_eq_false_iff_ne.2 (by omega)) (decide_eq_true (by omega)) (decide_eq_false (by omega)) (decide_eq_true (by omega)) (decide_eq_false (by omega)) (beq_eq_false_iff_ne.2 (by omega)) (beq_eq_false_iff_ne.2 (by omega)) (beq_iff_eq.2 (by omega)) w
  have e : writeV op T D = 0 := by unfold writeV; (repeat (first | rw [if_pos (by omega)] | rw [if_neg (by omega)])); try rfl
  rw [e]
  exact writes_up op S T D A m (decide_eq_true (by omega)) (decide_eq_false (by omega)) (beq_eq_false_iff_ne.2 (by omega)) (beq_eq_false_iff_ne.2 (by omega)) (beq_eq_false_iff_ne.2 (by omega)) (decide_eq_true (by omega)) (decide_eq_false (by omega)) (decide_eq_true (by omega)) (decide_eq_false (by omega)) (beq_eq_false_iff_ne.2 (by omega)) (beq_eq_false_iff_ne.2 (by omega)) (beq_eq_false_iff_ne.2 (by omega)) w
end Go.Proofs.Ytobnocioefchlaa
