/- Same: two pages, two memories held against each other. -/
import Derived.Test.YtodoenimlhldjaaQMAG
import Derived.Deep.LoopGhost
import Derived.Laws.Strings
import Derived.Test.YtodoenimlhldjaaQMAC
import Derived.Outline
import Derived.Test.YtodoenimlhldjaaQMAE
namespace Go.Proofs.Ytodoenimlhldjaa
open Go.ChangeShapes Go.WideShapes Go.ChangeAt Go.RowKit
set_option linter.unusedVariables false
theorem bytes_ne {l m : List UInt8} (h : l ≠ m) : ((⟨l.toArray⟩ : ByteArray).toList == (⟨m.toArray⟩ : ByteArray).toList) = false := by
  rw [ByteArray.toList_eq, ByteArray.toList_eq]
  simpa using h
theorem partB_all (l : List UInt8) (h : l.length = 256) : partB l 0 256 = l := by
  unfold partB
  simp [List.take_of_length_le, h]
def goodAt (s t : MS) (k : Nat) : Bool := decide (k ∈ t.ks) && decide (s.pm k = t.pm k ∧ s.data k = t.data k)
def sameM (s t : MS) : Bool := decide (s.ks.length = t.ks.length) && s.ks.all (goodAt s t)
theorem pageOf_key {k : Nat} (h : k % 256 = 0) : pageOf k = k := by unfold pageOf; omega
end Go.Proofs.Ytodoenimlhldjaa
namespace Go.Proofs.Ytodoenimlhldjaa
open Go.ChangeShapes Go.WideShapes Go.ChangeAt Go.RowKit
set_option linter.unusedVariables false
/-- What the store into the copy's counter leaves. -/
structure R2 (c : Nat) (l : List UInt8) (p n : Int) (w w' : World) : Prop where
  only : Only c w w'
  any : (∃ m, Pg 127 w c l p m) → ∃ m, Pg 127 w' c l p m
  fin : Pg 127 w c l p n → Pg 127 w' c l p n
theorem R2.refl {c : Nat} {l : List UInt8} {p n : Int} (w : World) : R2 c l p n w w := ⟨Only.refl _ _, id, id⟩
theorem R2.later (c : Nat) (l : List UInt8) (p n : Int) : Later (R2 c l p n) :=
  ⟨fun w => R2.refl w, fun u v w h k => ⟨h.only.trans k.only, fun x => k.any (h.any x), fun x => k.fin (h.fin x)⟩, fun w => ⟨(Only.refl _ w).drew, fun ⟨m, h⟩ => ⟨m, h.same rfl⟩, fun h => h.same rfl⟩⟩
theorem r2_store {c : Nat} {l : List UInt8} {p n m : Int} {w : World} (h : Pg 127 w c l p m) : R2 c l p n w (w.setCell ⟨c, 257, none⟩ (.int .i64 n)) :=
  ⟨(Only.refl _ _).setCell _ _, fun _ => ⟨n, h.setCount n⟩, fun _ => h.setCount n⟩
/-- What the slots of the region hold, whatever the order. -/
def phiBox (b m : Nat) (l : List UInt8) (p : Int) : Nat → Value → World → Prop
  | 0, x, _ => x = .pointer (some ⟨b, 0, none⟩)
  | 1, x, _ => x = .pointer (some ⟨b, 0, none⟩)
  | 2, x, _ => x = .pointer (some ⟨b, 0, none⟩)
  | 3, x, _ => x = .agg (cellsU l).toArray
  | 4, x, _ => x = .pointer (some ⟨b, 0, none⟩)
  | 5, x, _ => x = .pointer (some ⟨b, 0, none⟩)
  | 6, x, _ => x = .pointer (some ⟨b, 256, none⟩)
  | 7, x, _ => x = .int .i64 p
  | 8, x, _ => x = .agg (pcells l p 0)
  | 9, x, w => ∃ g, x = .pointer (some ⟨g, 0, none⟩) ∧ m ≤ g ∧ Pg 127 w g l p 0
  | 10, x, w => ∃ g, x = .pointer (some ⟨g, 0, none⟩) ∧ m ≤ g ∧ Pg 127 w g l p 0
  | _ + 11, _, _ => True
theorem phiBox_mono (b m : Nat) (l : List UInt8) (p : Int) : ∀ i x w w', phiBox b m l p i x w → Below w.heap.size w w' → phiBox b m l p i x w'
  | 0, _, _, _, h, _ => h
  | 1, _, _, _, h, _ => h
  | 2, _, _, _, h, _ => h
  | 3, _, _, _, h, _ => h
  | 4, _, _, _, h, _ => h
  | 5, _, _, _, h, _ => h
  | 6, _, _, _, h, _ => h
  | 7, _, _, _, h, _ => h
  | 8, _, _, _, h, _ => h
  | 9, x, w, w', h, hb => by obtain ⟨g, e, h1, h2⟩ := h; exact ⟨g, e, h1, h2.later hb⟩
  | 10, x, w, w', h, hb => by obtain ⟨g, e, h1, h2⟩ := h; exact ⟨g, e, h1, h2.later hb⟩
  | _ + 11, _, _, _, _, _ => trivial
/-- What the slots of the region hold, whatever the order. -/
def phiStore (b c : Nat) (l : List UInt8) (p n : Int) : Nat → Value → World → Prop
  | 0, x, _ => x = .pointer (some ⟨c, 0, none⟩)
  | 1, x, _ => x = .pointer (some ⟨c, 0, none⟩)
  | 2, x, _ => x = .pointer (some ⟨c, 257, none⟩)
  | 3, x, _ => x = .pointer (some ⟨b, 0, none⟩)
  | 4, x, _ => x = .pointer (some ⟨b, 0, none⟩)
  | 5, x, _ => x = .pointer (some ⟨b, 257, none⟩)
  | 6, x, _ => x = .int .i64 n
  | 7, x, w => x = .tuple #[] ∧ Pg 127 w c l p n
  | _ + 8, _, _ => True
theorem phiStore_mono (b c : Nat) (l : List UInt8) (p n : Int) : ∀ i x w w', phiStore b c l p n i x w → R2 c l p n w w' → phiStore b c l p n i x w'
  | 0, _, _, _, h, _ => h
  | 1, _, _, _, h, _ => h
  | 2, _, _, _, h, _ => h
  | 3, _, _, _, h, _ => h
  | 4, _, _, _, h, _ => h
  | 5, _, _, _, h, _ => h
  | 6, _, _, _, h, _ => h
  | 7, x, w, w', h, hb => ⟨h.1, hb.fin h.2⟩
  | _ + 8, _, _, _, _, _ => trivial
theorem list11 : ∀ xs : List Value, xs.length = 11 → ∃ x0 x1 x2 x3 x4 x5 x6 x7 x8 x9 x10, xs = [x0, x1, x2, x3, x4, x5, x6, x7, x8, x9, x10]
  | [x0, x1, x2, x3, x4, x5, x6, x7, x8, x9, x10], _ => ⟨_, _, _, _, _, _, _, _, _, _, _, rfl⟩
theorem list8 : ∀ xs : List Value, xs.length = 8 → ∃ x0 x1 x2 x3 x4 x5 x6 x7, xs = [x0, x1, x2, x3, x4, x5, x6, x7]
  | [x0, x1, x2, x3, x4, x5, x6, x7], _ => ⟨_, _, _, _, _, _, _, _, rfl⟩
end Go.Proofs.Ytodoenimlhldjaa
namespace Go.Proofs.Ytodoenimlhldjaa
open Go Go.RowKit
set_option linter.unusedVariables false
section
variable {P : Program}
/-- The head is listed, and nothing else. -/
def headDone (n g : Nat) : Array Bool := Array.replicate n true ++ Array.replicate g false
theorem headDone_eq {L : Array Bool} {n g : Nat} (hs : L.size = n + g) (h1 : ∀ i, i < n → L.getD i false = true) (h2 : ∀ i, n ≤ i → i < n + g → L.getD i true = false) : L = headDone n g := by
  refine Array.ext (by simp [headDone, hs]) fun i hi1 hi2 => ?_
  by_cases h : i < n
  · have := h1 i h
    simp [hi1] at this
    simp [headDone, h, this]
  · have := h2 i (by omega) (by omega)
    simp [hi1] at this
    simp [headDone, Array.getElem_append, h, this]
def headB (ops : Array Oper) (n : Nat) : Bool :=
  decide (n < ops.size) && Region.sinkB .any ops n && Region.chainB .any ops n && edgesB .any ops && Region.seqB .any ops (ops.size - n) n (headDone n (ops.size - n))
theorem count_head : ∀ (l : List Bool) (n i : Nat), l[i]? = some false → i < n → ((l.set i true).take n).count false + 1 = (l.take n).count false := by
  intro l n i h hn
  rw [List.take_set]
  exact count_up _ i (by rw [List.getElem?_take_of_lt hn]; exact h)
theorem wp_region_head {R : World → World → Prop} (hR : Later R) {id : Nat} {Q : Exit → Act → World → Prop} {a : Act} {w : World} {l : List Oper} (n : Nat) (ds : List Nat) (Φ : Nat → Value → World → Prop) (hm : P.follows .mixedOrders = true) (hB : headB l.toArray n = true) (hd : ds.length = n)
    (hmono : ∀ i v w w', Φ i v w → R w w' → Φ i v w')
    (hstep : ∀ j, j < n → ∀ xs w', xs.length = n → R w w' → (∀ i, waitsB .any l.toArray j i = true → Φ i (xs.getD i undef) w') →
      Runs P l.toArray Q j (fun a' w'' => ∃ v, a' = slotsOn a ds (xs.set j v) ∧ Φ j v w'' ∧ R w' w'') (slotsOn a ds xs) w')
    (hfin : ∀ xs w', xs.length = n → R w w' → (∀ i, i < n → Φ i (xs.getD i undef) w') → wpList P l.toArray Q (l.drop n) (slotsOn a ds xs) w') :
    (Code.region id l.toArray true).wp P Q a w := by
  simp only [headB, Bool.and_eq_true, decide_eq_true_eq] at hB
  obtain ⟨⟨⟨⟨hn, hs⟩, hc⟩, hb⟩, hq⟩ := hB
  have key : ∀ (c : Nat) (L : Array Bool) (xs : List Value) (w' : World), HeadInv .any l.toArray n L → xs.length = n → R w w' → (∀ i, i < n → L.getD i false = true → Φ i (xs.getD i undef) w') → (L.toList.take n).count false = c →
      wpAny P .any l.toArray Q (c + (l.toArray.size - n)) L (slotsOn a ds xs) w' := by
    intro c
    induction c with
    | zero =>
      intro L xs w' inv hx hR' hΦ h0
      have hall : ∀ i, i < n → L.getD i false = true := by
        intro i hi
        cases h : L.getD i false with
        | true => rfl
        | false =>
          exfalso
          have hlt : i < L.size := by rw [inv.size]; omega
          have : false ∈ L.toList.take n := by
            rw [List.mem_iff_getElem?]
            refine ⟨i, ?_⟩
            rw [List.getElem?_take_of_lt hi]
            simp [hlt] at h ⊢
            exact h
          have := List.count_pos_iff.2 this
          omega
      have e := headDone_eq (L := L) (n := n) (g := l.toArray.size - n) (by rw [inv.size]; omega) hall (fun i h1 h2 => inv.tail i h1 (by omega))
      have hdl : (l.drop n).length = l.toArray.size - n := by simp
      have := wpAny_of_seq (P := P) (md := .any) (Q' := Q) (l.drop n) n L (slotsOn a ds xs) w' (fun j => by simp [List.getElem?_drop]) (by rw [hdl, e]; exact hq) (hfin xs w' hx hR' fun i hi => hΦ i hi (hall i hi))
      rw [hdl] at this
      rw [Nat.zero_add]
      exact this
    | succ c ih =>
      intro L xs w' inv hx hR' hΦ h0
      obtain ⟨q, hq1, hq2⟩ : ∃ q, q < n ∧ L.getD q true = false := by
        have : false ∈ L.toList.take n := List.count_pos_iff.1 (by omega)
        obtain ⟨i, hi⟩ := List.mem_iff_getElem?.1 this
        have hin : i < n := by
          have := (List.getElem?_eq_some_iff.1 hi).1
          simp at this
          omega
        rw [List.getElem?_take_of_lt hin] at hi
        have hlt : i < L.size := by rw [inv.size]; omega
        refine ⟨i, hin, ?_⟩
        simp [hlt] at hi ⊢
        exact hi
      have hlow : ∀ j ∈ Region.ready .any l.toArray L, j < n := fun j hj => Nat.lt_of_not_le fun h => tail_waits hs hc hn inv _ q rfl hq1 hq2 j h hj
      rw [show c + 1 + (l.toArray.size - n) = (c + (l.toArray.size - n)) + 1 by omega]
      refine ⟨fun hno => ?_, fun i hi => ?_⟩
      · exfalso
        have := all_up hb inv.size hno q (by omega)
        rw [getD_both hq2] at this
        cases this
      · have hin := hlow i hi
        obtain ⟨hl, o, ho, hall⟩ := mem_ready.1 hi
        have hr := hstep i hin xs w' hx hR' (fun j hj => by
          simp only [waitsB, ho] at hj
          obtain ⟨e, he, hbb⟩ := Array.any_eq_true'.1 hj
          simp only [Bool.and_eq_true, beq_iff_eq] at hbb
          have hlt := edge_back hb ho he hbb.1
          rw [← hbb.2]
          exact hΦ e.on (by omega) (hall e he hbb.1))
        refine wpOp_mono ?_ hr.out
        rintro a' w'' ⟨v, rfl, hv, hR''⟩
        have hlt : i < L.size := by rw [inv.size]; omega
        refine ih (L.setIfInBounds i true) (xs.set i v) w'' (inv.set hi hin) (by simpa using hx) (hR.trans _ _ _ hR' hR'') ?_ ?_
        · intro k hk hLk
          by_cases hik : i = k
          · subst hik
            rw [List.getD_eq_getElem?_getD, List.getElem?_set_self (by omega), Option.getD_some]
            exact hv
          · rw [List.getD_eq_getElem?_getD, List.getElem?_set_ne hik, ← List.getD_eq_getElem?_getD]
            refine hmono k _ w' w'' (hΦ k hk ?_) hR''
            rw [getD_set_ne false hik] at hLk
            exact hLk
        · rw [Array.toList_setIfInBounds]
          have hf : L.toList[i]? = some false := by
            simp [hlt] at hl ⊢
            exact hl
          have := count_head L.toList n i hf hin
          omega
  have inv0 : HeadInv .any l.toArray n (Array.replicate l.toArray.size false) :=
    ⟨by simp, fun j oj _ hl => (by rw [getD_replicate_false] at hl; cases hl), fun t _ ht => getD_in (by simpa using ht) (getD_replicate_false _ _)⟩
  refine wp_region_any hm ?_
  have hsz : n < l.length := by simpa using hn
  have h := key n (Array.replicate l.toArray.size false) (ds.map fun d => a.tmps.toList.getD d undef) _ inv0 (by simpa using hd) (hR.drew w) (fun i _ h => by rw [getD_replicate_false] at h; cases h) (by
    simp only [Array.toList_replicate, List.take_replicate, List.count_replicate_self]
    simp
    omega)
  rw [show n + (l.toArray.size - n) = l.toArray.size by omega, slotsOn_self] at h
  exact h
end
end Go.Proofs.Ytodoenimlhldjaa
