/- A region that draws its order, where one of its operations, s, turns what others have read: those that s waits for come ahead of it. -/
import Derived.Test.YtodoenimlhldjaaQMNewA
namespace Go.Proofs.Ytodoenimlhldjaa
open Go Go.RowKit
set_option linter.unusedVariables false
section
variable {P : Program}
theorem wp_region_two {R0 R : World → World → Prop} (hR0 : Later R0) (hR : Later R) (h01 : ∀ u v, R0 u v → R u v) (s : Nat) (Rj : Nat → World → World → Prop) (hRj : ∀ j u v, j ≠ s → Rj j u v → R0 u v) (hRs : ∀ u v, Rj s u v → R u v) {id : Nat} {Q : Exit → Act → World → Prop} {a : Act} {w : World} {l : List Oper} (n : Nat) (ds : List Nat) (Φ : Nat → List Value → World → Prop) (hm : P.follows .mixedOrders = true) (hB : headOkB l.toArray n = true) (hd : ds.length = n)
    (hmono : ∀ i j v xs w w', waitsB .any l.toArray i j = false → i ≠ j → Φ i xs w → Rj j w w' → Φ i (xs.set j v) w')
    (hstep : ∀ j, j < n → ∀ xs w', xs.length = n → R w w' → (j = s ∨ waitsB .any l.toArray s j = true → R0 w w') → (∀ i, waitsB .any l.toArray j i = true → Φ i xs w') →
      Runs P l.toArray Q j (fun a' w'' => ∃ v, a' = slotsOn a ds (xs.set j v) ∧ Φ j (xs.set j v) w'' ∧ Rj j w' w'') (slotsOn a ds xs) w')
    (hfin : ∀ xs w', xs.length = n → R w w' → (∀ i, i < n → Φ i xs w') → wpList P l.toArray Q (l.drop n) (slotsOn a ds xs) w') :
    (Code.region id l.toArray true).wp P Q a w := by
  simp only [headOkB, Bool.and_eq_true, decide_eq_true_eq] at hB
  obtain ⟨⟨⟨⟨hn, hs⟩, hc⟩, hb⟩, hq⟩ := hB
  have key : ∀ (c : Nat) (L : Array Bool) (xs : List Value) (w' : World), HeadInv .any l.toArray n L → xs.length = n → R w w' → (L.getD s false = false → R0 w w') → (∀ i, i < n → L.getD i false = true → Φ i xs w') → (L.toList.take n).count false = c →
      wpAny P .any l.toArray Q (c + (l.toArray.size - n)) L (slotsOn a ds xs) w' := by
    intro c
    induction c with
    | zero =>
      intro L xs w' inv hx hR' hS' hΦ h0
      have hall : ∀ i, i < n → L.getD i false = true := by
        intro i hi
        cases h : L.getD i false with
        | true => rfl
        | false =>
          exfalso
          have hlt : i < L.size := by rw [inv.size]; omega
          have : false ∈ L.toList.take n := by
            rw [List.mem_iff_getElem?]
            refine ⟨i, ?_⟩
            rw [List.getElem?_take_of_lt hi]
            simp [hlt] at h ⊢
            exact h
          have := List.count_pos_iff.2 this
          omega
      have e := headDone_eq (L := L) (n := n) (g := l.toArray.size - n) (by rw [inv.size]; omega) hall (fun i h1 h2 => inv.tail i h1 (by omega))
      have hdl : (l.drop n).length = l.toArray.size - n := by simp
      have := wpAny_of_seq (P := P) (md := .any) (Q' := Q) (l.drop n) n L (slotsOn a ds xs) w' (fun j => by simp [List.getElem?_drop]) (by rw [hdl, e]; exact hq) (hfin xs w' hx hR' fun i hi => hΦ i hi (hall i hi))
      rw [hdl] at this
      rw [Nat.zero_add]
      exact this
    | succ c ih =>
      intro L xs w' inv hx hR' hS' hΦ h0
      obtain ⟨q, hq1, hq2⟩ : ∃ q, q < n ∧ L.getD q true = false := by
        have : false ∈ L.toList.take n := List.count_pos_iff.1 (by omega)
        obtain ⟨i, hi⟩ := List.mem_iff_getElem?.1 this
        have hin : i < n := by
          have := (List.getElem?_eq_some_iff.1 hi).1
          simp at this
          omega
        rw [List.getElem?_take_of_lt hin] at hi
        have hlt : i < L.size := by rw [inv.size]; omega
        refine ⟨i, hin, ?_⟩
        simp [hlt] at hi ⊢
        exact hi
      have hlow : ∀ j ∈ Region.ready .any l.toArray L, j < n := fun j hj => Nat.lt_of_not_le fun h => tail_waits hs hc hn inv _ q rfl hq1 hq2 j h hj
      rw [show c + 1 + (l.toArray.size - n) = (c + (l.toArray.size - n)) + 1 by omega]
      refine ⟨fun hno => ?_, fun i hi => ?_⟩
      · exfalso
        have := all_up hb inv.size hno q (by omega)
        rw [getD_both hq2] at this
        cases this
      · have hin := hlow i hi
        obtain ⟨hl, o, ho, hall⟩ := mem_ready.1 hi
        have hback : ∀ k, L.getD k false = true → waitsB .any l.toArray k i = false := by
          intro k hLk
          cases hwt : waitsB .any l.toArray k i with
          | false => rfl
          | true =>
            exfalso
            unfold waitsB at hwt
            cases hok : l.toArray[k]? with
            | none => rw [hok] at hwt; simp at hwt
            | some ok =>
              rw [hok] at hwt
              obtain ⟨e, he, hbb⟩ := Array.any_eq_true'.1 hwt
              simp only [Bool.and_eq_true, beq_iff_eq] at hbb
              have := inv.closed k ok hok hLk e he hbb.1
              rw [hbb.2, getD_both hl] at this
              cases this
        have hr := hstep i hin xs w' hx hR' (fun hw => by
          refine hS' ?_
          rcases hw with rfl | hw
          · exact getD_both hl
          cases h : L.getD s false with
          | false => rfl
          | true =>
            have := hback s h
            rw [hw] at this
            cases this) (fun j hj => by
          simp only [waitsB, ho] at hj
          obtain ⟨e, he, hbb⟩ := Array.any_eq_true'.1 hj
          simp only [Bool.and_eq_true, beq_iff_eq] at hbb
          have hlt := edge_back hb ho he hbb.1
          rw [← hbb.2]
          exact hΦ e.on (by omega) (hall e he hbb.1))
        refine wpOp_mono ?_ hr.out
        rintro a' w'' ⟨v, rfl, hv, hR''⟩
        have hlt : i < L.size := by rw [inv.size]; omega
        have hRR : R w' w'' := by
          by_cases his : i = s
          · subst his; exact hRs _ _ hR''
          · exact h01 _ _ (hRj _ _ _ his hR'')
        refine ih (L.setIfInBounds i true) (xs.set i v) w'' (inv.set hi hin) (by simpa using hx) (hR.trans _ _ _ hR' hRR) ?_ ?_ ?_
        · intro hLs
          by_cases his : i = s
          · subst his
            exfalso
            simp [hlt] at hLs
          · rw [getD_set_ne false his] at hLs
            exact hR0.trans _ _ _ (hS' hLs) (hRj _ _ _ his hR'')
        · intro k hk hLk
          by_cases hik : i = k
          · subst hik
            exact hv
          · rw [getD_set_ne false hik] at hLk
            exact hmono k i v xs w' w'' (hback k hLk) (fun e => hik e.symm) (hΦ k hk hLk) hR''
        · rw [Array.toList_setIfInBounds]
          have hf : L.toList[i]? = some false := by
            simp [hlt] at hl ⊢
            exact hl
          have := count_head L.toList n i hf hin
          omega
  have inv0 : HeadInv .any l.toArray n (Array.replicate l.toArray.size false) :=
    ⟨by simp, fun j oj _ hl => (by rw [getD_replicate_false] at hl; cases hl), fun t _ ht => getD_in (by simpa using ht) (getD_replicate_false _ _)⟩
  refine wp_region_any hm ?_
  have hsz : n < l.length := by simpa using hn
  have h := key n (Array.replicate l.toArray.size false) (ds.map fun d => a.tmps.toList.getD d undef) _ inv0 (by simpa using hd) (hR.drew w) (fun _ => hR0.drew w) (fun i _ h => by rw [getD_replicate_false] at h; cases h) (by
    simp only [Array.toList_replicate, List.take_replicate, List.count_replicate_self]
    simp
    omega)
  rw [show n + (l.toArray.size - n) = l.toArray.size by omega, slotsOn_self] at h
  exact h
end
end Go.Proofs.Ytodoenimlhldjaa
