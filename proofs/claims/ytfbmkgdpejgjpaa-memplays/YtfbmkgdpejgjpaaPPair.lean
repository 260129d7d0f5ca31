/- A region that draws its order: two operations that each turn a thing of their own; the others read, in any order. -/
import Derived.Test.YtfbmkgdpejgjpaaPBy
namespace Go.Proofs.Ytfbmkgdpejgjpaa
open Go Go.RowKit
set_option linter.unusedVariables false
section
variable {P : Program}
/-- Whatever the order: what holds of those that are done. -/
theorem wp_region_done {id : Nat} {Q : Exit → Act → World → Prop} {a : Act} {w : World} {l : List Oper} (n : Nat) (ds : List Nat) (Φ : (Nat → Bool) → List Value → World → Prop) (hm : P.follows .mixedOrders = true) (hB : headOkB l.toArray n = true) (hd : ds.length = n)
    (h0 : Φ (fun _ => false) (ds.map fun d => a.tmps.toList.getD d undef) w.drew)
    (hstep : ∀ (D : Nat → Bool) j, j < n → D j = false → (∀ i k, D i = true → waitsB .any l.toArray i k = true → D k = true) → (∀ i, waitsB .any l.toArray j i = true → i < n ∧ D i = true) → ∀ xs w', xs.length = n → Φ D xs w' →
      Runs P l.toArray Q j (fun a' w'' => ∃ v, a' = slotsOn a ds (xs.set j v) ∧ Φ (fun i => if i = j then true else D i) (xs.set j v) w'') (slotsOn a ds xs) w')
    (hfin : ∀ (D : Nat → Bool) xs w', xs.length = n → (∀ i, i < n → D i = true) → Φ D xs w' → wpList P l.toArray Q (l.drop n) (slotsOn a ds xs) w') :
    (Code.region id l.toArray true).wp P Q a w := by
  simp only [headOkB, Bool.and_eq_true, decide_eq_true_eq] at hB
  obtain ⟨⟨⟨⟨hn, hs⟩, hc⟩, hb⟩, hq⟩ := hB
  have key : ∀ (c : Nat) (L : Array Bool) (D : Nat → Bool) (xs : List Value) (w' : World), HeadInv .any l.toArray n L → (∀ i, D i = L.getD i false) → xs.length = n → Φ D xs w' → (L.toList.take n).count false = c →
      wpAny P .any l.toArray Q (c + (l.toArray.size - n)) L (slotsOn a ds xs) w' := by
    intro c
    induction c with
    | zero =>
      intro L D xs w' inv hD hx hΦ h0
      have hall : ∀ i, i < n → L.getD i false = true := by
        intro i hi
        cases h : L.getD i false with
        | true => rfl
        | false =>
          exfalso
          have hlt : i < L.size := by rw [inv.size]; omega
          have : false ∈ L.toList.take n := by
            rw [List.mem_iff_getElem?]
            refine ⟨i, ?_⟩
            rw [List.getElem?_take_of_lt hi]
            simp [hlt] at h ⊢
            exact h
          have := List.count_pos_iff.2 this
          omega
      have e := headDone_eq (L := L) (n := n) (g := l.toArray.size - n) (by rw [inv.size]; omega) hall (fun i h1 h2 => inv.tail i h1 (by omega))
      have hdl : (l.drop n).length = l.toArray.size - n := by simp
      have := wpAny_of_seq (P := P) (md := .any) (Q' := Q) (l.drop n) n L (slotsOn a ds xs) w' (fun j => by simp [List.getElem?_drop]) (by rw [hdl, e]; exact hq) (hfin D xs w' hx (fun i hi => by rw [hD]; exact hall i hi) hΦ)
      rw [hdl] at this
      rw [Nat.zero_add]
      exact this
    | succ c ih =>
      intro L D xs w' inv hD hx hΦ h0
      obtain ⟨q, hq1, hq2⟩ : ∃ q, q < n ∧ L.getD q true = false := by
        have : false ∈ L.toList.take n := List.count_pos_iff.1 (by omega)
        obtain ⟨i, hi⟩ := List.mem_iff_getElem?.1 this
        have hin : i < n := by
          have := (List.getElem?_eq_some_iff.1 hi).1
          simp at this
          omega
        rw [List.getElem?_take_of_lt hin] at hi
        have hlt : i < L.size := by rw [inv.size]; omega
        refine ⟨i, hin, ?_⟩
        simp [hlt] at hi ⊢
        exact hi
      have hlow : ∀ j ∈ Region.ready .any l.toArray L, j < n := fun j hj => Nat.lt_of_not_le fun h => tail_waits hs hc hn inv _ q rfl hq1 hq2 j h hj
      rw [show c + 1 + (l.toArray.size - n) = (c + (l.toArray.size - n)) + 1 by omega]
      refine ⟨fun hno => ?_, fun i hi => ?_⟩
      · exfalso
        have := all_up hb inv.size hno q (by omega)
        rw [getD_both hq2] at this
        cases this
      · have hin := hlow i hi
        obtain ⟨hl, o, ho, hall⟩ := mem_ready.1 hi
        have hr := hstep D i hin (by rw [hD]; exact getD_both hl) (fun k1 k2 h1 h2 => by
          rw [hD] at h1 ⊢
          unfold waitsB at h2
          cases hok : l.toArray[k1]? with
          | none => rw [hok] at h2; simp at h2
          | some ok =>
            rw [hok] at h2
            obtain ⟨e, he, hbb⟩ := Array.any_eq_true'.1 h2
            simp only [Bool.and_eq_true, beq_iff_eq] at hbb
            have := inv.closed k1 ok hok h1 e he hbb.1
            rw [hbb.2] at this
            exact this) (fun j hj => by
          simp only [waitsB, ho] at hj
          obtain ⟨e, he, hbb⟩ := Array.any_eq_true'.1 hj
          simp only [Bool.and_eq_true, beq_iff_eq] at hbb
          have hlt := edge_back hb ho he hbb.1
          rw [← hbb.2]
          exact ⟨by omega, by rw [hD]; exact hall e he hbb.1⟩) xs w' hx hΦ
        refine wpOp_mono ?_ hr.out
        rintro a' w'' ⟨v, rfl, hv⟩
        have hlt : i < L.size := by rw [inv.size]; omega
        refine ih (L.setIfInBounds i true) _ (xs.set i v) w'' (inv.set hi hin) ?_ (by simpa using hx) hv ?_
        · intro k
          by_cases hik : k = i
          · subst hik
            simp [hlt]
          · simp only [if_neg hik]
            rw [getD_set_ne false (fun e => hik e.symm)]
            exact hD k
        · rw [Array.toList_setIfInBounds]
          have hf : L.toList[i]? = some false := by
            simp [hlt] at hl ⊢
            exact hl
          have := count_head L.toList n i hf hin
          omega
  have inv0 : HeadInv .any l.toArray n (Array.replicate l.toArray.size false) :=
    ⟨by simp, fun j oj _ hl => (by rw [getD_replicate_false] at hl; cases hl), fun t _ ht => getD_in (by simpa using ht) (getD_replicate_false _ _)⟩
  refine wp_region_any hm ?_
  have hsz : n < l.length := by simpa using hn
  have h := key n (Array.replicate l.toArray.size false) (fun _ => false) (ds.map fun d => a.tmps.toList.getD d undef) _ inv0 (fun i => (getD_replicate_false _ _).symm) (by simpa using hd) h0 (by
    simp only [Array.toList_replicate, List.take_replicate, List.count_replicate_self]
    simp
    omega)
  rw [show n + (l.toArray.size - n) = l.toArray.size by omega, slotsOn_self] at h
  exact h
theorem wp_region_pair {α β : Type} {id : Nat} {Q : Exit → Act → World → Prop} {a : Act} {w : World} {l : List Oper} (n : Nat) (ds : List Nat) (p q : Nat) (hpq : p ≠ q) (hpn : p < n) (hqn : q < n) (I : World → α → β → Prop) (x0 : α) (y0 : β) (φ : Nat → Value → Prop) (Pa : α → Value → Prop) (Pb : β → Value → Prop) (hm : P.follows .mixedOrders = true) (hB : headOkB l.toArray n = true) (hd : ds.length = n)
    (h0 : I w.drew x0 y0)
    (hother : ∀ j, j < n → j ≠ p → j ≠ q → ∀ xs w' x y, xs.length = n → I w' x y → (∀ i, waitsB .any l.toArray j i = true → i ≠ p → i ≠ q → φ i (xs.getD i undef)) →
      Runs P l.toArray Q j (fun a' w'' => ∃ v, a' = slotsOn a ds (xs.set j v) ∧ φ j v ∧ I w'' x y) (slotsOn a ds xs) w')
    (hp : ∀ xs w' y, xs.length = n → I w' x0 y → (∀ i, waitsB .any l.toArray p i = true → i ≠ p → i ≠ q → φ i (xs.getD i undef)) →
      Runs P l.toArray Q p (fun a' w'' => ∃ v, a' = slotsOn a ds (xs.set p v) ∧ ∃ x, Pa x v ∧ I w'' x y) (slotsOn a ds xs) w')
    (hq : ∀ xs w' x, xs.length = n → I w' x y0 → (∀ i, waitsB .any l.toArray q i = true → i ≠ p → i ≠ q → φ i (xs.getD i undef)) →
      Runs P l.toArray Q q (fun a' w'' => ∃ v, a' = slotsOn a ds (xs.set q v) ∧ ∃ y, Pb y v ∧ I w'' x y) (slotsOn a ds xs) w')
    (hfin : ∀ xs w' x y, xs.length = n → I w' x y → Pa x (xs.getD p undef) → Pb y (xs.getD q undef) → (∀ i, i < n → i ≠ p → i ≠ q → φ i (xs.getD i undef)) → wpList P l.toArray Q (l.drop n) (slotsOn a ds xs) w') :
    (Code.region id l.toArray true).wp P Q a w := by
  have hset : ∀ (xs : List Value) (j i : Nat) (v : Value), i ≠ j → (xs.set j v).getD i undef = xs.getD i undef := fun xs j i v h => by
    rw [List.getD_eq_getElem?_getD, List.getElem?_set_ne (fun e => h e.symm), ← List.getD_eq_getElem?_getD]
  have hself : ∀ (xs : List Value) (j : Nat) (v : Value), j < xs.length → (xs.set j v).getD j undef = v := fun xs j v h => by
    rw [List.getD_eq_getElem?_getD, List.getElem?_set_self h]
    rfl
  refine wp_region_done n ds (fun D xs w' => ∃ x y, I w' x y ∧ (D p = false → x = x0) ∧ (D q = false → y = y0) ∧ (D p = true → Pa x (xs.getD p undef)) ∧ (D q = true → Pb y (xs.getD q undef)) ∧ ∀ i, i < n → i ≠ p → i ≠ q → D i = true → φ i (xs.getD i undef)) hm hB hd ?_ ?_ ?_
  · exact ⟨x0, y0, h0, fun _ => rfl, fun _ => rfl, fun h => by simp at h, fun h => by simp at h, fun i _ _ _ h => by simp at h⟩
  · rintro D j hj hDj hcl hw xs w' hx ⟨x, y, hI, h1, h2, h3, h4, h5⟩
    have hpre : ∀ i, waitsB .any l.toArray j i = true → i ≠ p → i ≠ q → φ i (xs.getD i undef) := fun i hi hip hiq => h5 i (hw i hi).1 hip hiq (hw i hi).2
    by_cases hjp : j = p
    · subst hjp
      obtain rfl := h1 hDj
      have hr := hp xs w' y hx hI hpre
      refine ⟨wpOp_mono ?_ hr.out⟩
      rintro a' w'' ⟨v, e, x', hPa, hI'⟩
      refine ⟨v, e, x', y, hI', fun h => by simp at h, fun h => ?_, fun _ => by rw [hself _ _ _ (by rw [hx]; exact hj)]; exact hPa, fun h => ?_, fun i hi hip hiq h => ?_⟩
      · simp only [if_neg (fun e => hpq e.symm : ¬ q = j)] at h
        exact h2 h
      · simp only [if_neg (fun e => hpq e.symm : ¬ q = j)] at h
        rw [hset _ _ _ _ (fun e => hpq e.symm)]
        exact h4 h
      · simp only [if_neg hip] at h
        rw [hset _ _ _ _ hip]
        exact h5 i hi hip hiq h
    · by_cases hjq : j = q
      · subst hjq
        obtain rfl := h2 hDj
        have hr := hq xs w' x hx hI hpre
        refine ⟨wpOp_mono ?_ hr.out⟩
        rintro a' w'' ⟨v, e, y', hPb, hI'⟩
        refine ⟨v, e, x, y', hI', fun h => ?_, fun h => by simp at h, fun h => ?_, fun _ => by rw [hself _ _ _ (by rw [hx]; exact hj)]; exact hPb, fun i hi hip hiq h => ?_⟩
        · simp only [if_neg hpq] at h
          exact h1 h
        · simp only [if_neg hpq] at h
          rw [hset _ _ _ _ hpq]
          exact h3 h
        · simp only [if_neg hiq] at h
          rw [hset _ _ _ _ hiq]
          exact h5 i hi hip hiq h
      · have hr := hother j hj hjp hjq xs w' x y hx hI hpre
        refine ⟨wpOp_mono ?_ hr.out⟩
        rintro a' w'' ⟨v, e, hv, hI'⟩
        refine ⟨v, e, x, y, hI', fun h => ?_, fun h => ?_, fun h => ?_, fun h => ?_, fun i hi hip hiq h => ?_⟩
        · simp only [if_neg (fun e => hjp e.symm : ¬ p = j)] at h
          exact h1 h
        · simp only [if_neg (fun e => hjq e.symm : ¬ q = j)] at h
          exact h2 h
        · simp only [if_neg (fun e => hjp e.symm : ¬ p = j)] at h
          rw [hset _ _ _ _ (fun e => hjp e.symm)]
          exact h3 h
        · simp only [if_neg (fun e => hjq e.symm : ¬ q = j)] at h
          rw [hset _ _ _ _ (fun e => hjq e.symm)]
          exact h4 h
        · by_cases hij : i = j
          · subst hij
            rw [hself _ _ _ (by rw [hx]; exact hj)]
            exact hv
          · simp only [if_neg hij] at h
            rw [hset _ _ _ _ hij]
            exact h5 i hi hip hiq h
  · rintro D xs w' hx hall ⟨x, y, hI, h1, h2, h3, h4, h5⟩
    exact hfin xs w' x y hx hI (h3 (hall p hpn)) (h4 (hall q hqn)) fun i hi hip hiq => h5 i hi hip hiq (hall i hi)
end
end Go.Proofs.Ytfbmkgdpejgjpaa
