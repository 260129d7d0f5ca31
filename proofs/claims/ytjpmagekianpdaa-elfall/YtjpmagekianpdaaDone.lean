/- A region that draws its order: a chain of operations, each waiting for the one ahead, that turn one thing; the others read, in any order. -/
import Derived.Test.YtjpmagekianpdaaBy
namespace Go.Proofs.Ytjpmagekianpdaa
open Go Go.RowKit
set_option linter.unusedVariables false
section
variable {P : Program}
/-- Whatever the order: what holds of those that are done. -/
theorem wp_region_done {id : Nat} {Q : Exit → Act → World → Prop} {a : Act} {w : World} {l : List Oper} (n : Nat) (ds : List Nat) (Φ : (Nat → Bool) → List Value → World → Prop) (hm : P.follows .mixedOrders = true) (hB : headOkB l.toArray n = true) (hd : ds.length = n)
    (h0 : Φ (fun _ => false) (ds.map fun d => a.tmps.toList.getD d undef) w.drew)
    (hstep : ∀ (D : Nat → Bool) j, j < n → D j = false → (∀ i k, D i = true → waitsB .any l.toArray i k = true → D k = true) → (∀ i, waitsB .any l.toArray j i = true → i < n ∧ D i = true) → ∀ xs w', xs.length = n → Φ D xs w' →
      Runs P l.toArray Q j (fun a' w'' => ∃ v, a' = slotsOn a ds (xs.set j v) ∧ Φ (fun i => if i = j then true else D i) (xs.set j v) w'') (slotsOn a ds xs) w')
    (hfin : ∀ (D : Nat → Bool) xs w', xs.length = n → (∀ i, i < n → D i = true) → Φ D xs w' → wpList P l.toArray Q (l.drop n) (slotsOn a ds xs) w') :
    (Code.region id l.toArray true).wp P Q a w := by
  simp only [headOkB, Bool.and_eq_true, decide_eq_true_eq] at hB
  obtain ⟨⟨⟨⟨hn, hs⟩, hc⟩, hb⟩, hq⟩ := hB
  have key : ∀ (c : Nat) (L : Array Bool) (D : Nat → Bool) (xs : List Value) (w' : World), HeadInv .any l.toArray n L → (∀ i, D i = L.getD i false) → xs.length = n → Φ D xs w' → (L.toList.take n).count false = c →
      wpAny P .any l.toArray Q (c + (l.toArray.size - n)) L (slotsOn a ds xs) w' := by
    intro c
    induction c with
    | zero =>
      intro L D xs w' inv hD hx hΦ h0
      have hall : ∀ i, i < n → L.getD i false = true := by
        intro i hi
        cases h : L.getD i false with
        | true => rfl
        | false =>
          exfalso
          have hlt : i < L.size := by rw [inv.size]; omega
          have : false ∈ L.toList.take n := by
            rw [List.mem_iff_getElem?]
            refine ⟨i, ?_⟩
            rw [List.getElem?_take_of_lt hi]
            simp [hlt] at h ⊢
            exact h
          have := List.count_pos_iff.2 this
          omega
      have e := headDone_eq (L := L) (n := n) (g := l.toArray.size - n) (by rw [inv.size]; omega) hall (fun i h1 h2 => inv.tail i h1 (by omega))
      have hdl : (l.drop n).length = l.toArray.size - n := by simp
      have := wpAny_of_seq (P := P) (md := .any) (Q' := Q) (l.drop n) n L (slotsOn a ds xs) w' (fun j => by simp [List.getElem?_drop]) (by rw [hdl, e]; exact hq) (hfin D xs w' hx (fun i hi => by rw [hD]; exact hall i hi) hΦ)
      rw [hdl] at this
      rw [Nat.zero_add]
      exact this
    | succ c ih =>
      intro L D xs w' inv hD hx hΦ h0
      obtain ⟨q, hq1, hq2⟩ : ∃ q, q < n ∧ L.getD q true = false := by
        have : false ∈ L.toList.take n := List.count_pos_iff.1 (by omega)
        obtain ⟨i, hi⟩ := List.mem_iff_getElem?.1 this
        have hin : i < n := by
          have := (List.getElem?_eq_some_iff.1 hi).1
          simp at this
          omega
        rw [List.getElem?_take_of_lt hin] at hi
        have hlt : i < L.size := by rw [inv.size]; omega
        refine ⟨i, hin, ?_⟩
        simp [hlt] at hi ⊢
        exact hi
      have hlow : ∀ j ∈ Region.ready .any l.toArray L, j < n := fun j hj => Nat.lt_of_not_le fun h => tail_waits hs hc hn inv _ q rfl hq1 hq2 j h hj
      rw [show c + 1 + (l.toArray.size - n) = (c + (l.toArray.size - n)) + 1 by omega]
      refine ⟨fun hno => ?_, fun i hi => ?_⟩
      · exfalso
        have := all_up hb inv.size hno q (by omega)
        rw [getD_both hq2] at this
        cases this
      · have hin := hlow i hi
        obtain ⟨hl, o, ho, hall⟩ := mem_ready.1 hi
        have hr := hstep D i hin (by rw [hD]; exact getD_both hl) (fun k1 k2 h1 h2 => by
          rw [hD] at h1 ⊢
          unfold waitsB at h2
          cases hok : l.toArray[k1]? with
          | none => rw [hok] at h2; simp at h2
          | some ok =>
            rw [hok] at h2
            obtain ⟨e, he, hbb⟩ := Array.any_eq_true'.1 h2
            simp only [Bool.and_eq_true, beq_iff_eq] at hbb
            have := inv.closed k1 ok hok h1 e he hbb.1
            rw [hbb.2] at this
            exact this) (fun j hj => by
          simp only [waitsB, ho] at hj
          obtain ⟨e, he, hbb⟩ := Array.any_eq_true'.1 hj
          simp only [Bool.and_eq_true, beq_iff_eq] at hbb
          have hlt := edge_back hb ho he hbb.1
          rw [← hbb.2]
          exact ⟨by omega, by rw [hD]; exact hall e he hbb.1⟩) xs w' hx hΦ
        refine wpOp_mono ?_ hr.out
        rintro a' w'' ⟨v, rfl, hv⟩
        have hlt : i < L.size := by rw [inv.size]; omega
        refine ih (L.setIfInBounds i true) _ (xs.set i v) w'' (inv.set hi hin) ?_ (by simpa using hx) hv ?_
        · intro k
          by_cases hik : k = i
          · subst hik
            simp [hlt]
          · simp only [if_neg hik]
            rw [getD_set_ne false (fun e => hik e.symm)]
            exact hD k
        · rw [Array.toList_setIfInBounds]
          have hf : L.toList[i]? = some false := by
            simp [hlt] at hl ⊢
            exact hl
          have := count_head L.toList n i hf hin
          omega
  have inv0 : HeadInv .any l.toArray n (Array.replicate l.toArray.size false) :=
    ⟨by simp, fun j oj _ hl => (by rw [getD_replicate_false] at hl; cases hl), fun t _ ht => getD_in (by simpa using ht) (getD_replicate_false _ _)⟩
  refine wp_region_any hm ?_
  have hsz : n < l.length := by simpa using hn
  have h := key n (Array.replicate l.toArray.size false) (fun _ => false) (ds.map fun d => a.tmps.toList.getD d undef) _ inv0 (fun i => (getD_replicate_false _ _).symm) (by simpa using hd) h0 (by
    simp only [Array.toList_replicate, List.take_replicate, List.count_replicate_self]
    simp
    omega)
  rw [show n + (l.toArray.size - n) = l.toArray.size by omega, slotsOn_self] at h
  exact h
/-- Each of a chain waits for the one ahead. -/
def chainOkB (ops : Array Oper) : List Nat → Bool
  | [] => true
  | [_] => true
  | x :: y :: t => waitsB .any ops y x && decide (x < y) && chainOkB ops (y :: t)
theorem chain_step {ops : Array Oper} : ∀ {cs : List Nat} {t : Nat}, chainOkB ops cs = true → t + 1 < cs.length → waitsB .any ops (cs.getD (t + 1) 0) (cs.getD t 0) = true
  | [], _, _, h => by simp at h
  | [_], _, _, h => by simp at h
  | x :: y :: r, 0, hc, _ => by
    simp only [chainOkB, Bool.and_eq_true] at hc
    exact hc.1.1
  | x :: y :: r, t + 1, hc, h => by
    simp only [chainOkB, Bool.and_eq_true] at hc
    have := chain_step (cs := y :: r) (t := t) hc.2 (by simpa using h)
    simpa using this
theorem chain_up {ops : Array Oper} : ∀ {cs : List Nat} {t : Nat}, chainOkB ops cs = true → t + 1 < cs.length → cs.getD t 0 < cs.getD (t + 1) 0
  | [], _, _, h => by simp at h
  | [_], _, _, h => by simp at h
  | x :: y :: r, 0, hc, _ => by
    simp only [chainOkB, Bool.and_eq_true, decide_eq_true_eq] at hc
    exact hc.1.2
  | x :: y :: r, t + 1, hc, h => by
    simp only [chainOkB, Bool.and_eq_true] at hc
    have := chain_up (cs := y :: r) (t := t) hc.2 (by simpa using h)
    simpa using this
theorem chain_lt {ops : Array Oper} {cs : List Nat} (hc : chainOkB ops cs = true) {s : Nat} : ∀ {t : Nat}, s < t → t < cs.length → cs.getD s 0 < cs.getD t 0
  | 0, h, _ => by omega
  | t + 1, h, ht => by
    have h1 := chain_up hc ht
    by_cases hs : s = t
    · subst hs; exact h1
    · exact Nat.lt_trans (chain_lt hc (t := t) (by omega) (by omega)) h1
/-- What a chain's last one that is done holds. -/
def lastOf (cs : List Nat) (v0 : Value) (xs : List Value) : Nat → Value
  | 0 => v0
  | t + 1 => xs.getD (cs.getD t 0) undef
theorem wp_region_chain {R Rq : World → World → Prop} (hR : Later R) (hq : ∀ u v, Rq u v → R u v) (hqd : ∀ u : World, Rq u u.drew) {id : Nat} {Q : Exit → Act → World → Prop} {a : Act} {w : World} {l : List Oper} (n : Nat) (ds cs : List Nat) (v0 : Value) (Ψ : Nat → Value → World → Prop) (φ : Nat → Value → World → Prop) (hm : P.follows .mixedOrders = true) (hB : headOkB l.toArray n = true) (hd : ds.length = n) (hch : chainOkB l.toArray cs = true)
    (h0 : Ψ 0 v0 w)
    (hφ : ∀ i x u v, φ i x u → R u v → φ i x v)
    (hΨ : ∀ t x u v, Ψ t x u → Rq u v → Ψ t x v)
    (hother : ∀ j, j < n → j ∉ cs → ∀ xs w', xs.length = n → R w w' → (∀ i, waitsB .any l.toArray j i = true → i ∉ cs → φ i (xs.getD i undef) w') →
      Runs P l.toArray Q j (fun a' w'' => ∃ v, a' = slotsOn a ds (xs.set j v) ∧ φ j v w'' ∧ Rq w' w'') (slotsOn a ds xs) w')
    (hlink : ∀ t c, t < cs.length → cs.getD t 0 = c → ∀ xs w', xs.length = n → R w w' → (∀ i, waitsB .any l.toArray c i = true → i ∉ cs → φ i (xs.getD i undef) w') → Ψ t (lastOf cs v0 xs t) w' →
      Runs P l.toArray Q c (fun a' w'' => ∃ v, a' = slotsOn a ds (xs.set c v) ∧ Ψ (t + 1) v w'' ∧ R w' w'') (slotsOn a ds xs) w')
    (hfin : ∀ xs w', xs.length = n → R w w' → (∀ i, i < n → i ∉ cs → φ i (xs.getD i undef) w') → Ψ cs.length (lastOf cs v0 xs cs.length) w' → wpList P l.toArray Q (l.drop n) (slotsOn a ds xs) w')
    (hlow : cs.all (fun c => decide (c < n)) = true) :
    (Code.region id l.toArray true).wp P Q a w := by
  have hlow' : ∀ t, t < cs.length → cs.getD t 0 < n := fun t ht => by
    have := List.all_eq_true.1 hlow (cs.getD t 0) (by rw [List.getD_eq_getElem?_getD, List.getElem?_eq_getElem ht]; exact List.getElem_mem ht)
    simpa using this
  have hmem : ∀ t, t < cs.length → cs.getD t 0 ∈ cs := fun t ht => by
    rw [List.getD_eq_getElem?_getD, List.getElem?_eq_getElem ht]
    exact List.getElem_mem ht
  have hinj : ∀ s t, s < cs.length → t < cs.length → cs.getD s 0 = cs.getD t 0 → s = t := fun s t hs ht e => by
    rcases Nat.lt_trichotomy s t with h | h | h
    · have := chain_lt hch h ht; omega
    · exact h
    · have := chain_lt hch h hs; omega
  have hset : ∀ (xs : List Value) (j i : Nat) (v : Value), i ≠ j → (xs.set j v).getD i undef = xs.getD i undef := fun xs j i v h => by
    rw [List.getD_eq_getElem?_getD, List.getElem?_set_ne (fun e => h e.symm), ← List.getD_eq_getElem?_getD]
  have hself : ∀ (xs : List Value) (j : Nat) (v : Value), j < xs.length → (xs.set j v).getD j undef = v := fun xs j v h => by
    rw [List.getD_eq_getElem?_getD, List.getElem?_set_self h]
    rfl
  refine wp_region_done n ds (fun D xs w' => R w w' ∧ (∀ i, i < n → i ∉ cs → D i = true → φ i (xs.getD i undef) w') ∧ ∃ t, t ≤ cs.length ∧ (∀ s, s < cs.length → (D (cs.getD s 0) = true ↔ s < t)) ∧ Ψ t (lastOf cs v0 xs t) w') hm hB hd ?_ ?_ ?_
  · exact ⟨hR.drew w, fun i _ _ h => by simp at h, 0, Nat.zero_le _, fun s _ => by simp, hΨ _ _ _ _ h0 (hqd w)⟩
  · rintro D j hj hDj hcl hw xs w' hx ⟨hr, hf, t, ht, hDt, hΨt⟩
    by_cases hjc : j ∈ cs
    · obtain ⟨s, hs, rfl⟩ : ∃ s, s < cs.length ∧ cs.getD s 0 = j := by
        obtain ⟨s, hs, e⟩ := List.getElem_of_mem hjc
        exact ⟨s, hs, by rw [List.getD_eq_getElem?_getD, List.getElem?_eq_getElem hs]; exact e⟩
      have hst : s = t := by
        have h1 : ¬ s < t := fun h => by
          have := (hDt s hs).2 h
          rw [hDj] at this
          cases this
        cases s with
        | zero => omega
        | succ s =>
          have := (hw _ (chain_step hch hs)).2
          have := (hDt s (by omega)).1 this
          omega
      subst hst
      have hr2 := hlink s _ hs rfl xs w' hx hr (fun i hi hic => hf i (hw i hi).1 hic (hw i hi).2) hΨt
      refine ⟨wpOp_mono ?_ hr2.out⟩
      rintro a' w'' ⟨v, e, hv, hR2⟩
      refine ⟨v, e, hR.trans _ _ _ hr hR2, ?_, s + 1, hs, ?_, ?_⟩
      · intro i hi hic hD
        have hne : i ≠ cs.getD s 0 := fun h => hic (h ▸ hmem s hs)
        simp only [if_neg hne] at hD
        rw [hset _ _ _ _ hne]
        exact hφ _ _ _ _ (hf i hi hic hD) hR2
      · intro r hrl
        by_cases hrs : r = s
        · subst hrs
          simp
        · simp only [if_neg (fun h => hrs (hinj _ _ hrl hs h) : ¬ cs.getD r 0 = cs.getD s 0)]
          rw [hDt r hrl]
          omega
      · show Ψ (s + 1) ((xs.set _ v).getD _ undef) w''
        rw [hself _ _ _ (by rw [hx]; exact hj)]
        exact hv
    · have hr2 := hother j hj hjc xs w' hx hr (fun i hi hic => hf i (hw i hi).1 hic (hw i hi).2)
      refine ⟨wpOp_mono ?_ hr2.out⟩
      rintro a' w'' ⟨v, e, hv, hR2⟩
      refine ⟨v, e, hR.trans _ _ _ hr (hq _ _ hR2), ?_, t, ht, ?_, ?_⟩
      · intro i hi hic hD
        by_cases hij : i = j
        · subst hij
          rw [hself _ _ _ (by rw [hx]; exact hj)]
          exact hv
        · simp only [if_neg hij] at hD
          rw [hset _ _ _ _ hij]
          exact hφ _ _ _ _ (hf i hi hic hD) (hq _ _ hR2)
      · intro s hs
        simp only [if_neg (fun h => hjc (h ▸ hmem s hs) : ¬ cs.getD s 0 = j)]
        exact hDt s hs
      · have : lastOf cs v0 (xs.set j v) t = lastOf cs v0 xs t := by
          cases t with
          | zero => rfl
          | succ t => exact hset _ _ _ _ (fun h => hjc (h ▸ hmem t (by omega)))
        rw [this]
        exact hΨ _ _ _ _ hΨt hR2
  · rintro D xs w' hx hall ⟨hr, hf, t, ht, hDt, hΨt⟩
    have : t = cs.length := by
      by_cases h : t < cs.length
      · have := (hDt t h).1 (hall _ (hlow' t h))
        omega
      · omega
    subst this
    exact hfin xs w' hx hr (fun i hi hic => hf i hi hic (hall i hi)) hΨt
end
end Go.Proofs.Ytjpmagekianpdaa
