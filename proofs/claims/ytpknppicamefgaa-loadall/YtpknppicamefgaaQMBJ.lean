/- A region that draws its order: a chain of operations, each waiting for the one ahead, that turn one thing; the others read, in any order. -/
import Derived.Test.YtpknppicamefgaaQMBC
import Derived.Test.YtpknppicamefgaaQMBF
import Derived.Test.YtpknppicamefgaaQMBE
import Derived.Test.YtpknppicamefgaaQMBA
namespace Go.Proofs.Ytpknppicamefgaa
open Go Go.RowKit
set_option linter.unusedVariables false
section
variable {P : Program}
/-- Whatever the order: what holds of those that are done. -/
theorem wp_region_done {id : Nat} {Q : Exit → Act → World → Prop} {a : Act} {w : World} {l : List Oper} (n : Nat) (ds : List Nat) (Φ : (Nat → Bool) → List Value → World → Prop) (hm : P.follows .mixedOrders = true) (hB : headOkB l.toArray n = true) (hd : ds.length = n)
    (h0 : Φ (fun _ => false) (ds.map fun d => a.tmps.toList.getD d undef) w.drew)
    (hstep : ∀ (D : Nat → Bool) j, j < n → D j = false → (∀ i k, D i = true → waitsB .any l.toArray i k = true → D k = true) → (∀ i, waitsB .any l.toArray j i = true → i < n ∧ D i = true) → ∀ xs w', xs.length = n → Φ D xs w' →
      Runs P l.toArray Q j (fun a' w'' => ∃ v, a' = slotsOn a ds (xs.set j v) ∧ Φ (fun i => if i = j then true else D i) (xs.set j v) w'') (slotsOn a ds xs) w')
    (hfin : ∀ (D : Nat → Bool) xs w', xs.length = n → (∀ i, i < n → D i = true) → Φ D xs w' → wpList P l.toArray Q (l.drop n) (slotsOn a ds xs) w') :
    (Code.region id l.toArray true).wp P Q a w := by
  simp only [headOkB, Bool.and_eq_true, decide_eq_true_eq] at hB
  obtain ⟨⟨⟨⟨hn, hs⟩, hc⟩, hb⟩, hq⟩ := hB
  have key : ∀ (c : Nat) (L : Array Bool) (D : Nat → Bool) (xs : List Value) (w' : World), HeadInv .any l.toArray n L → (∀ i, D i = L.getD i false) → xs.length = n → Φ D xs w' → (L.toList.take n).count false = c →
      wpAny P .any l.toArray Q (c + (l.toArray.size - n)) L (slotsOn a ds xs) w' := by
    intro c
    induction c with
    | zero =>
      intro L D xs w' inv hD hx hΦ h0
      have hall : ∀ i, i < n → L.getD i false = true := by
        intro i hi
        cases h : L.getD i false with
        | true => rfl
        | false =>
          exfalso
          have hlt : i < L.size := by rw [inv.size]; omega
          have : false ∈ L.toList.take n := by
            rw [List.mem_iff_getElem?]
            refine ⟨i, ?_⟩
            rw [List.getElem?_take_of_lt hi]
            simp [hlt] at h ⊢
            exact h
          have := List.count_pos_iff.2 this
          omega
      have e := headDone_eq (L := L) (n := n) (g := l.toArray.size - n) (by rw [inv.size]; omega) hall (fun i h1 h2 => inv.tail i h1 (by omega))
      have hdl : (l.drop n).length = l.toArray.size - n := by simp
      have := wpAny_of_seq (P := P) (md := .any) (Q' := Q) (l.drop n) n L (slotsOn a ds xs) w' (fun j => by simp [List.getElem?_drop]) (by rw [hdl, e]; exact hq) (hfin D xs w' hx (fun i hi => by rw [hD]; exact hall i hi) hΦ)
      rw [hdl] at this
      rw [Nat.zero_add]
      exact this
    | succ c ih =>
      intro L D xs w' inv hD hx hΦ h0
      obtain ⟨q, hq1, hq2⟩ : ∃ q, q < n ∧ L.getD q true = false := by
        have : false ∈ L.toList.take n := List.count_pos_iff.1 (by omega)
        obtain ⟨i, hi⟩ := List.mem_iff_getElem?.1 this
        have hin : i < n := by
          have := (List.getElem?_eq_some_iff.1 hi).1
          simp at this
          omega
        rw [List.getElem?_take_of_lt hin] at hi
        have hlt : i < L.size := by rw [inv.size]; omega
        refine ⟨i, hin, ?_⟩
        simp [hlt] at hi ⊢
        exact hi
      have hlow : ∀ j ∈ Region.ready .any l.toArray L, j < n := fun j hj => Nat.lt_of_not_le fun h => tail_waits hs hc hn inv _ q rfl hq1 hq2 j h hj
      rw [show c + 1 + (l.toArray.size - n) = (c + (l.toArray.size - n)) + 1 by omega]
      refine ⟨fun hno => ?_, fun i hi => ?_⟩
      · exfalso
        have := all_up hb inv.size hno q (by omega)
        rw [getD_both hq2] at this
        cases this
      · have hin := hlow i hi
        obtain ⟨hl, o, ho, hall⟩ := mem_ready.1 hi
        have hr := hstep D i hin (by rw [hD]; exact getD_both hl) (fun k1 k2 h1 h2 => by
          rw [hD] at h1 ⊢
          unfold waitsB at h2
          cases hok : l.toArray[k1]? with
          | none => rw [hok] at h2; simp at h2
          | some ok =>
            rw [hok] at h2
            obtain ⟨e, he, hbb⟩ := Array.any_eq_true'.1 h2
            simp only [Bool.and_eq_true, beq_iff_eq] at hbb
            have := inv.closed k1 ok hok h1 e he hbb.1
            rw [hbb.2] at this
            exact this) (fun j hj => by
          simp only [waitsB, ho] at hj
          obtain ⟨e, he, hbb⟩ := Array.any_eq_true'.1 hj
          simp only [Bool.and_eq_true, beq_iff_eq] at hbb
          have hlt := edge_back hb ho he hbb.1
          rw [← hbb.2]
          exact ⟨by omega, by rw [hD]; exact hall e he hbb.1⟩) xs w' hx hΦ
        refine wpOp_mono ?_ hr.out
        rintro a' w'' ⟨v, rfl, hv⟩
        have hlt : i < L.size := by rw [inv.size]; omega
        refine ih (L.setIfInBounds i true) _ (xs.set i v) w'' (inv.set hi hin) ?_ (by simpa using hx) hv ?_
        · intro k
          by_cases hik : k = i
          · subst hik
            simp [hlt]
          · simp only [if_neg hik]
            rw [getD_set_ne false (fun e => hik e.symm)]
            exact hD k
        · rw [Array.toList_setIfInBounds]
          have hf : L.toList[i]? = some false := by
            simp [hlt] at hl ⊢
            exact hl
          have := count_head L.toList n i hf hin
          omega
  have inv0 : HeadInv .any l.toArray n (Array.replicate l.toArray.size false) :=
    ⟨by simp, fun j oj _ hl => (by rw [getD_replicate_false] at hl; cases hl), fun t _ ht => getD_in (by simpa using ht) (getD_replicate_false _ _)⟩
  refine wp_region_any hm ?_
  have hsz : n < l.length := by simpa using hn
  have h := key n (Array.replicate l.toArray.size false) (fun _ => false) (ds.map fun d => a.tmps.toList.getD d undef) _ inv0 (fun i => (getD_replicate_false _ _).symm) (by simpa using hd) h0 (by
    simp only [Array.toList_replicate, List.take_replicate, List.count_replicate_self]
    simp
    omega)
  rw [show n + (l.toArray.size - n) = l.toArray.size by omega, slotsOn_self] at h
  exact h
/-- Each of a chain waits for the one ahead. -/
def chainOkB (ops : Array Oper) : List Nat → Bool
  | [] => true
  | [_] => true
  | x :: y :: t => waitsB .any ops y x && decide (x < y) && chainOkB ops (y :: t)
theorem chain_step {ops : Array Oper} : ∀ {cs : List Nat} {t : Nat}, chainOkB ops cs = true → t + 1 < cs.length → waitsB .any ops (cs.getD (t + 1) 0) (cs.getD t 0) = true
  | [], _, _, h => by simp at h
  | [_], _, _, h => by simp at h
  | x :: y :: r, 0, hc, _ => by
    simp only [chainOkB, Bool.and_eq_true] at hc
    exact hc.1.1
  | x :: y :: r, t + 1, hc, h => by
    simp only [chainOkB, Bool.and_eq_true] at hc
    have := chain_step (cs := y :: r) (t := t) hc.2 (by simpa using h)
    simpa using this
theorem chain_up {ops : Array Oper} : ∀ {cs : List Nat} {t : Nat}, chainOkB ops cs = true → t + 1 < cs.length → cs.getD t 0 < cs.getD (t + 1) 0
  | [], _, _, h => by simp at h
  | [_], _, _, h => by simp at h
  | x :: y :: r, 0, hc, _ => by
    simp only [chainOkB, Bool.and_eq_true, decide_eq_true_eq] at hc
    exact hc.1.2
  | x :: y :: r, t + 1, hc, h => by
    simp only [chainOkB, Bool.and_eq_true] at hc
    have := chain_up (cs := y :: r) (t := t) hc.2 (by simpa using h)
    simpa using this
theorem chain_lt {ops : Array Oper} {cs : List Nat} (hc : chainOkB ops cs = true) {s : Nat} : ∀ {t : Nat}, s < t → t < cs.length → cs.getD s 0 < cs.getD t 0
  | 0, h, _ => by omega
  | t + 1, h, ht => by
    have h1 := chain_up hc ht
    by_cases hs : s = t
    · subst hs; exact h1
    · exact Nat.lt_trans (chain_lt hc (t := t) (by omega) (by omega)) h1
/-- What a chain's last one that is done holds. -/
def lastOf (cs : List Nat) (v0 : Value) (xs : List Value) : Nat → Value
  | 0 => v0
  | t + 1 => xs.getD (cs.getD t 0) undef
theorem wp_region_chain {R Rq : World → World → Prop} (hR : Later R) (hq : ∀ u v, Rq u v → R u v) (hqd : ∀ u : World, Rq u u.drew) {id : Nat} {Q : Exit → Act → World → Prop} {a : Act} {w : World} {l : List Oper} (n : Nat) (ds cs : List Nat) (v0 : Value) (Ψ : Nat → Value → World → Prop) (φ : Nat → Value → World → Prop) (hm : P.follows .mixedOrders = true) (hB : headOkB l.toArray n = true) (hd : ds.length = n) (hch : chainOkB l.toArray cs = true)
    (h0 : Ψ 0 v0 w)
    (hφ : ∀ i x u v, φ i x u → R u v → φ i x v)
    (hΨ : ∀ t x u v, Ψ t x u → Rq u v → Ψ t x v)
    (hother : ∀ j, j < n → j ∉ cs → ∀ xs w', xs.length = n → R w w' → (∀ i, waitsB .any l.toArray j i = true → i ∉ cs → φ i (xs.getD i undef) w') →
      Runs P l.toArray Q j (fun a' w'' => ∃ v, a' = slotsOn a ds (xs.set j v) ∧ φ j v w'' ∧ Rq w' w'') (slotsOn a ds xs) w')
    (hlink : ∀ t c, t < cs.length → cs.getD t 0 = c → ∀ xs w', xs.length = n → R w w' → (∀ i, waitsB .any l.toArray c i = true → i ∉ cs → φ i (xs.getD i undef) w') → Ψ t (lastOf cs v0 xs t) w' →
      Runs P l.toArray Q c (fun a' w'' => ∃ v, a' = slotsOn a ds (xs.set c v) ∧ Ψ (t + 1) v w'' ∧ R w' w'') (slotsOn a ds xs) w')
    (hfin : ∀ xs w', xs.length = n → R w w' → (∀ i, i < n → i ∉ cs → φ i (xs.getD i undef) w') → Ψ cs.length (lastOf cs v0 xs cs.length) w' → wpList P l.toArray Q (l.drop n) (slotsOn a ds xs) w')
    (hlow : cs.all (fun c => decide (c < n)) = true) :
    (Code.region id l.toArray true).wp P Q a w := by
  have hlow' : ∀ t, t < cs.length → cs.getD t 0 < n := fun t ht => by
    have := List.all_eq_true.1 hlow (cs.getD t 0) (by rw [List.getD_eq_getElem?_getD, List.getElem?_eq_getElem ht]; exact List.getElem_mem ht)
    simpa using this
  have hmem : ∀ t, t < cs.length → cs.getD t 0 ∈ cs := fun t ht => by
    rw [List.getD_eq_getElem?_getD, List.getElem?_eq_getElem ht]
    exact List.getElem_mem ht
  have hinj : ∀ s t, s < cs.length → t < cs.length → cs.getD s 0 = cs.getD t 0 → s = t := fun s t hs ht e => by
    rcases Nat.lt_trichotomy s t with h | h | h
    · have := chain_lt hch h ht; omega
    · exact h
    · have := chain_lt hch h hs; omega
  have hset : ∀ (xs : List Value) (j i : Nat) (v : Value), i ≠ j → (xs.set j v).getD i undef = xs.getD i undef := fun xs j i v h => by
    rw [List.getD_eq_getElem?_getD, List.getElem?_set_ne (fun e => h e.symm), ← List.getD_eq_getElem?_getD]
  have hself : ∀ (xs : List Value) (j : Nat) (v : Value), j < xs.length → (xs.set j v).getD j undef = v := fun xs j v h => by
    rw [List.getD_eq_getElem?_getD, List.getElem?_set_self h]
    rfl
  refine wp_region_done n ds (fun D xs w' => R w w' ∧ (∀ i, i < n → i ∉ cs → D i = true → φ i (xs.getD i undef) w') ∧ ∃ t, t ≤ cs.length ∧ (∀ s, s < cs.length → (D (cs.getD s 0) = true ↔ s < t)) ∧ Ψ t (lastOf cs v0 xs t) w') hm hB hd ?_ ?_ ?_
  · exact ⟨hR.drew w, fun i _ _ h => by simp at h, 0, Nat.zero_le _, fun s _ => by simp, hΨ _ _ _ _ h0 (hqd w)⟩
  · rintro D j hj hDj hcl hw xs w' hx ⟨hr, hf, t, ht, hDt, hΨt⟩
    by_cases hjc : j ∈ cs
    · obtain ⟨s, hs, rfl⟩ : ∃ s, s < cs.length ∧ cs.getD s 0 = j := by
        obtain ⟨s, hs, e⟩ := List.getElem_of_mem hjc
        exact ⟨s, hs, by rw [List.getD_eq_getElem?_getD, List.getElem?_eq_getElem hs]; exact e⟩
      have hst : s = t := by
        have h1 : ¬ s < t := fun h => by
          have := (hDt s hs).2 h
          rw [hDj] at this
          cases this
        cases s with
        | zero => omega
        | succ s =>
          have := (hw _ (chain_step hch hs)).2
          have := (hDt s (by omega)).1 this
          omega
      subst hst
      have hr2 := hlink s _ hs rfl xs w' hx hr (fun i hi hic => hf i (hw i hi).1 hic (hw i hi).2) hΨt
      refine ⟨wpOp_mono ?_ hr2.out⟩
      rintro a' w'' ⟨v, e, hv, hR2⟩
      refine ⟨v, e, hR.trans _ _ _ hr hR2, ?_, s + 1, hs, ?_, ?_⟩
      · intro i hi hic hD
        have hne : i ≠ cs.getD s 0 := fun h => hic (h ▸ hmem s hs)
        simp only [if_neg hne] at hD
        rw [hset _ _ _ _ hne]
        exact hφ _ _ _ _ (hf i hi hic hD) hR2
      · intro r hrl
        by_cases hrs : r = s
        · subst hrs
          simp
        · simp only [if_neg (fun h => hrs (hinj _ _ hrl hs h) : ¬ cs.getD r 0 = cs.getD s 0)]
          rw [hDt r hrl]
          omega
      · show Ψ (s + 1) ((xs.set _ v).getD _ undef) w''
        rw [hself _ _ _ (by rw [hx]; exact hj)]
        exact hv
    · have hr2 := hother j hj hjc xs w' hx hr (fun i hi hic => hf i (hw i hi).1 hic (hw i hi).2)
      refine ⟨wpOp_mono ?_ hr2.out⟩
      rintro a' w'' ⟨v, e, hv, hR2⟩
      refine ⟨v, e, hR.trans _ _ _ hr (hq _ _ hR2), ?_, t, ht, ?_, ?_⟩
      · intro i hi hic hD
        by_cases hij : i = j
        · subst hij
          rw [hself _ _ _ (by rw [hx]; exact hj)]
          exact hv
        · simp only [if_neg hij] at hD
          rw [hset _ _ _ _ hij]
          exact hφ _ _ _ _ (hf i hi hic hD) (hq _ _ hR2)
      · intro s hs
        simp only [if_neg (fun h => hjc (h ▸ hmem s hs) : ¬ cs.getD s 0 = j)]
        exact hDt s hs
      · have : lastOf cs v0 (xs.set j v) t = lastOf cs v0 xs t := by
          cases t with
          | zero => rfl
          | succ t => exact hset _ _ _ _ (fun h => hjc (h ▸ hmem t (by omega)))
        rw [this]
        exact hΨ _ _ _ _ hΨt hR2
  · rintro D xs w' hx hall ⟨hr, hf, t, ht, hDt, hΨt⟩
    have : t = cs.length := by
      by_cases h : t < cs.length
      · have := (hDt t h).1 (hall _ (hlow' t h))
        omega
      · omega
    subst this
    exact hfin xs w' hx hr (fun i hi hic => hf i hi hic (hall i hi)) hΨt
end
end Go.Proofs.Ytpknppicamefgaa
namespace Go.Proofs.Ytpknppicamefgaa
open Go.ChangeShapes Go.WideShapes Go.ChangeAt Go.RowKit
set_option linter.unusedVariables false
set_option maxRecDepth 20000 in
theorem rput32_any (w : World) (base : Nat) (v : Value) (l : List UInt8) (x : Nat) (h : Out w base v l) (hb : base ≤ w.heap.size) (hl : l.length ≤ 900000) (hx : x < 4294967296) : Calls Try.prog 65 #[v, .int .i64 (x : Int)] w fun e w' => ∃ v', e = .returned v' ∧ Out w' base v' (l ++ put32 x) ∧ Grew base w w' := by
  have hb2 := below_new w (.cells #[.int .u8 ((x : Int) / 16777216), .int .u8 ((x : Int) / 65536 % 256), .int .u8 ((x : Int) / 256 % 256), .int .u8 ((x : Int) % 256)] 5)
  have hnew := Blk.new w #[.int .u8 ((x : Int) / 16777216), .int .u8 ((x : Int) / 65536 % 256), .int .u8 ((x : Int) / 256 % 256), .int .u8 ((x : Int) % 256)] 5
  obtain ⟨v', w', hr, ho', hg'⟩ := run_more (h.later hb2) (Nat.le_trans hb hb2.size) ⟨w.heap.size, 0, none⟩ 4 (put32 x) (by
    intro j u hu
    rw [cells_put32 x hx] at hu
    rw [Addr.add_lit, Nat.zero_add]
    exact hnew.cell (by simpa using hu)) (by rw [put32_len]; omega)
  have HR := hidden hr
  have HO := hidden ho'
  have HG := hidden ((Grew.of hb2 hb).trans hg')
  have H46 := hidden (rput_any (x : Int) (by omega) (by omega) w)
  clear hr ho' hg' hnew hb2 h
  go_enter Try.func65, Try.ntmps65
  go_wp2_with (first | (go_at_call 70; with_reducible refine (Hid.out H46).mono ?_; rintro e w1 ⟨rfl, hww⟩; rw [hww]; clear hww w1) | (at_builtin; refine wpList_append_run rfl _ _ 51 51 rfl rfl rfl (Hid.out HR) ?_))
  go_ret
  exact ⟨_, rfl, Hid.out HO, Hid.out HG⟩
set_option maxRecDepth 20000 in
theorem rput16_any (w : World) (base : Nat) (v : Value) (l : List UInt8) (x : Nat) (h : Out w base v l) (hb : base ≤ w.heap.size) (hl : l.length ≤ 900000) (hx : x < 65536) : Calls Try.prog 66 #[v, .int .i64 (x : Int)] w fun e w' => ∃ v', e = .returned v' ∧ Out w' base v' (l ++ put16 x) ∧ Grew base w w' := by
  have hb2 := below_new w (.cells #[.int .u8 ((x : Int) / 256 % 256), .int .u8 ((x : Int) % 256)] 5)
  have hnew := Blk.new w #[.int .u8 ((x : Int) / 256 % 256), .int .u8 ((x : Int) % 256)] 5
  obtain ⟨v', w', hr, ho', hg'⟩ := run_more (h.later hb2) (Nat.le_trans hb hb2.size) ⟨w.heap.size, 0, none⟩ 2 (put16 x) (by
    intro j u hu
    rw [cells_put16 x] at hu
    rw [Addr.add_lit, Nat.zero_add]
    exact hnew.cell (by simpa using hu)) (by rw [put16_len]; omega)
  have e1 : (x : Int) / 256 % 256 = (x : Int) / 256 := by omega
  rw [e1] at hr
  have HR := hidden hr
  have HO := hidden ho'
  have HG := hidden ((Grew.of hb2 hb).trans hg')
  clear hr ho' hg' hnew hb2 h
  go_enter Try.func66, Try.ntmps66
  go_wp2_with (at_builtin; refine wpList_append_run rfl _ _ 51 51 rfl rfl rfl (Hid.out HR) ?_)
  go_ret
  exact ⟨_, rfl, Hid.out HO, Hid.out HG⟩
end Go.Proofs.Ytpknppicamefgaa
namespace Go.Proofs.Ytpknppicamefgaa
open Go.ChangeShapes Go.WideShapes Go.ChangeAt Go.RowKit
set_option linter.unusedVariables false
theorem r16z (w : World) (base : Nat) (v : Value) (l : List UInt8) (z : Int) (x : Nat) (hz : z = (x : Int)) (h : Out w base v l) (hb : base ≤ w.heap.size) (hl : l.length ≤ 900000) (hx : x < 65536) : Calls Try.prog 66 #[v, .int .i64 z] w fun e w' => ∃ v', e = .returned v' ∧ Out w' base v' (l ++ put16 x) ∧ Grew base w w' := by
  subst hz
  exact rput16_any w base v l x h hb hl hx
theorem r32z (w : World) (base : Nat) (v : Value) (l : List UInt8) (z : Int) (x : Nat) (hz : z = (x : Int)) (h : Out w base v l) (hb : base ≤ w.heap.size) (hl : l.length ≤ 900000) (hx : x < 4294967296) : Calls Try.prog 65 #[v, .int .i64 z] w fun e w' => ∃ v', e = .returned v' ∧ Out w' base v' (l ++ put32 x) ∧ Grew base w w' := by
  subst hz
  exact rput32_any w base v l x h hb hl hx
theorem Out.cast {w : World} {base : Nat} {v : Value} {l k : List UInt8} (h : Out w base v l) (e : l = k) : Out w base v k := e ▸ h
/-- Bytes, and so many of some parts behind them. -/
def lsP (pre : List UInt8) (ps : List (List UInt8)) (t : Nat) : List UInt8 := pre ++ (ps.take t).flatten
theorem lsP_zero (pre : List UInt8) (ps : List (List UInt8)) : pre = lsP pre ps 0 := by simp [lsP]
theorem lsP_step (pre : List UInt8) (ps : List (List UInt8)) (t : Nat) (q : List UInt8) (h : ps[t]? = some q) : lsP pre ps t ++ q = lsP pre ps (t + 1) := by
  unfold lsP
  rw [List.take_add_one, h, List.flatten_append, ← List.append_assoc]
  simp
theorem lsP_len {pre : List UInt8} {ps : List (List UInt8)} {t : Nat} (h : pre.length ≤ 800000) (hp : ((ps.take t).map List.length).sum ≤ 100000) : (lsP pre ps t).length ≤ 900000 := by
  unfold lsP
  rw [List.length_append, List.length_flatten]
  omega
def RG (base : Nat) (u x : World) : Prop := base ≤ u.heap.size → Grew base u x
theorem later_rg (base : Nat) : Later (RG base) := ⟨fun w _ => Grew.refl _ w, fun u v w h k hb => (h hb).trans (k (Nat.le_trans hb (h hb).size)), fun w hb => Grew.of ((Below.refl _ w).drew) hb⟩
theorem rg_of (base : Nat) : ∀ u v : World, Below u.heap.size u v → RG base u v := fun u v h hb => Grew.of h hb
theorem psi_mono (base : Nat) (pre : List UInt8) (ps : List (List UInt8)) : ∀ t x (u v : World), (base ≤ u.heap.size ∧ Out u base x (lsP pre ps t)) → Below u.heap.size u v → base ≤ v.heap.size ∧ Out v base x (lsP pre ps t) := fun t x u v h hb => ⟨Nat.le_trans h.1 hb.size, h.2.later hb⟩
section
variable {ρ : Operand → Value} {o : Oper}
theorem exec_conv {x : Operand} {n : Nat} (hop : o.op = .convert 22 3 x) (hx : ρ x = .int .u32 (n : Int)) (hn : n < 4294967296) (w : World) : (execOp ρ o).run Try.prog w = .ok (.value (.int .i64 (n : Int))) w := by
  have e : IntKind.i64.wrap (n : Int) = (n : Int) := by rw [IntKind.wrap_i64]; omega
  unfold execOp
  rw [hop]
  simp [hx, e, go_sem]
theorem exec_len24 {x : Operand} {ao : Option Addr} {n c : Nat} (hop : o.op = .call { callee := .builtin .len, args := #[x], argTypes := #[23] }) (hx : ρ x = .slice ao n c) (w : World) : (execOp ρ o).run Try.prog w = .ok (.value (.int .i64 (n : Int))) w := by
  unfold execOp
  rw [hop]
  simp [hx, go_sem]
theorem exec_lenS {x : Operand} {d : List UInt8} (hop : o.op = .call { callee := .builtin .len, args := #[x], argTypes := #[9] }) (hx : ρ x = .string ⟨d.toArray⟩) (w : World) : (execOp ρ o).run Try.prog w = .ok (.value (.int .i64 (d.length : Int))) w := by
  unfold execOp
  rw [hop]
  simp [hx, go_sem]
end
theorem load9 {w : World} {a : Addr} {v : Value} (hc : w.cell? a = some v) : (loadVar 9 a).run Try.prog w = .ok v w := by
  simp [loadVar, isAgg, Sem.run_bind, run_underlying Try.underlying9, hc, go_sem]
/-- What the slots of the region hold, whatever the order. -/
def phiRa (base nl cap : Nat) (ao : Option Addr) (v0 : Value) : Nat → Value → World → Prop
  | 0, x, _ => x = v0
  | 1, x, _ => True
  | 2, x, _ => True
  | 3, x, _ => x = .pointer (some ⟨base, 1, none⟩)
  | 4, x, _ => x = .slice ao nl cap
  | 5, x, _ => x = .int .i64 (nl : Int)
  | 6, x, _ => True
  | _ + 7, _, _ => True
theorem phiRa_mono (base nl cap : Nat) (ao : Option Addr) (v0 : Value) (R : World → World → Prop) : ∀ i x u v, phiRa base nl cap ao v0 i x u → R u v → phiRa base nl cap ao v0 i x v
  | 0, _, _, _, h, _ => h
  | 1, _, _, _, h, _ => h
  | 2, _, _, _, h, _ => h
  | 3, _, _, _, h, _ => h
  | 4, _, _, _, h, _ => h
  | 5, _, _, _, h, _ => h
  | 6, _, _, _, h, _ => h
  | _ + 7, _, _, _, _, _ => trivial
/-- What the slots of the region hold, whatever the order. -/
def phiRb (sb E at_ : Nat) (v0 : Value) : Nat → Value → World → Prop
  | 0, x, _ => x = v0
  | 1, x, _ => True
  | 2, x, _ => x = .int .i64 (E : Int)
  | 3, x, _ => True
  | 4, x, _ => x = .pointer (some ⟨sb, 0, none⟩)
  | 5, x, _ => x = .int .u32 (at_ : Int)
  | 6, x, _ => x = .int .i64 (at_ : Int)
  | 7, x, _ => True
  | 8, x, _ => x = .pointer (some ⟨sb, 0, none⟩)
  | 9, x, _ => x = .int .u32 (at_ : Int)
  | 10, x, _ => x = .int .i64 (at_ : Int)
  | 11, x, _ => True
  | _ + 12, _, _ => True
theorem phiRb_mono (sb E at_ : Nat) (v0 : Value) (R : World → World → Prop) : ∀ i x u v, phiRb sb E at_ v0 i x u → R u v → phiRb sb E at_ v0 i x v
  | 0, _, _, _, h, _ => h
  | 1, _, _, _, h, _ => h
  | 2, _, _, _, h, _ => h
  | 3, _, _, _, h, _ => h
  | 4, _, _, _, h, _ => h
  | 5, _, _, _, h, _ => h
  | 6, _, _, _, h, _ => h
  | 7, _, _, _, h, _ => h
  | 8, _, _, _, h, _ => h
  | 9, _, _, _, h, _ => h
  | 10, _, _, _, h, _ => h
  | 11, _, _, _, h, _ => h
  | _ + 12, _, _, _, _, _ => trivial
/-- What the slots of the region hold, whatever the order. -/
def phiRc (sb size p : Nat) (data : List UInt8) (v0 : Value) : Nat → Value → World → Prop
  | 0, x, _ => x = v0
  | 1, x, _ => x = .pointer (some ⟨sb, 1, none⟩)
  | 2, x, _ => x = .string ⟨data.toArray⟩
  | 3, x, _ => x = .int .i64 (data.length : Int)
  | 4, x, _ => True
  | 5, x, _ => x = .pointer (some ⟨sb, 2, none⟩)
  | 6, x, _ => x = .int .u32 (size : Int)
  | 7, x, _ => x = .int .i64 (size : Int)
  | 8, x, _ => True
  | 9, x, _ => x = .pointer (some ⟨sb, 3, none⟩)
  | 10, x, _ => x = .int .i64 (p : Int)
  | 11, x, _ => True
  | 12, x, _ => True
  | _ + 13, _, _ => True
theorem phiRc_mono (sb size p : Nat) (data : List UInt8) (v0 : Value) (R : World → World → Prop) : ∀ i x u v, phiRc sb size p data v0 i x u → R u v → phiRc sb size p data v0 i x v
  | 0, _, _, _, h, _ => h
  | 1, _, _, _, h, _ => h
  | 2, _, _, _, h, _ => h
  | 3, _, _, _, h, _ => h
  | 4, _, _, _, h, _ => h
  | 5, _, _, _, h, _ => h
  | 6, _, _, _, h, _ => h
  | 7, _, _, _, h, _ => h
  | 8, _, _, _, h, _ => h
  | 9, _, _, _, h, _ => h
  | 10, _, _, _, h, _ => h
  | 11, _, _, _, h, _ => h
  | 12, _, _, _, h, _ => h
  | _ + 13, _, _, _, _, _ => trivial
theorem listC7 : ∀ xs : List Value, xs.length = 7 → ∃ x0 x1 x2 x3 x4 x5 x6, xs = [x0, x1, x2, x3, x4, x5, x6]
  | [x0, x1, x2, x3, x4, x5, x6], _ => ⟨_, _, _, _, _, _, _, rfl⟩
theorem listC12 : ∀ xs : List Value, xs.length = 12 → ∃ x0 x1 x2 x3 x4 x5 x6 x7 x8 x9 x10 x11, xs = [x0, x1, x2, x3, x4, x5, x6, x7, x8, x9, x10, x11]
  | [x0, x1, x2, x3, x4, x5, x6, x7, x8, x9, x10, x11], _ => ⟨_, _, _, _, _, _, _, _, _, _, _, _, rfl⟩
theorem listC13 : ∀ xs : List Value, xs.length = 13 → ∃ x0 x1 x2 x3 x4 x5 x6 x7 x8 x9 x10 x11 x12, xs = [x0, x1, x2, x3, x4, x5, x6, x7, x8, x9, x10, x11, x12]
  | [x0, x1, x2, x3, x4, x5, x6, x7, x8, x9, x10, x11, x12], _ => ⟨_, _, _, _, _, _, _, _, _, _, _, _, _, rfl⟩
structure BO (base : Nat) (w0 w : World) (v : Value) (l : List UInt8) (cs : Array Value) : Prop where
  out : Out w base v l
  grew : Grew base w0 w
  size : base ≤ w.heap.size
  file : Blk w base cs 25
theorem BO.step {base : Nat} {w0 w w' : World} {v v' : Value} {l l' : List UInt8} {cs : Array Value} (h : BO base w0 w v l cs) (ho : Out w' base v' l') (hg : Grew base w w') : BO base w0 w' v' l' cs := ⟨ho, h.grew.trans hg, Nat.le_trans h.size hg.size, hg.keep _ _ _ (by decide) h.file⟩
theorem BO.ent {base : Nat} {w0 w : World} {v a b : Value} {l : List UInt8} (h : BO base w0 w v l #[a, b]) : w.cell? ⟨base, 0, none⟩ = some a := h.file.cell rfl
theorem BO.seg {base : Nat} {w0 w : World} {v a b : Value} {l : List UInt8} (h : BO base w0 w v l #[a, b]) : w.cell? ⟨base, 1, none⟩ = some b := h.file.cell rfl
theorem BO.lt {base : Nat} {w0 w : World} {v : Value} {l : List UInt8} {cs : Array Value} (h : BO base w0 w v l cs) : base < w.heap.size := h.file.lt
theorem BO.put16 {base : Nat} {w0 w : World} {v : Value} {l : List UInt8} {cs : Array Value} (h : BO base w0 w v l cs) (z : Int) (x : Nat) (hz : z = (x : Int)) (hl : l.length ≤ 900000) (hx : x < 65536) : Calls Try.prog 66 #[v, .int .i64 z] w fun e w' => ∃ v', e = .returned v' ∧ BO base w0 w' v' (l ++ put16 x) cs :=
  (r16z w base v l z x hz h.out h.size hl hx).mono fun e w' ⟨v', he, ho, hg⟩ => ⟨v', he, h.step ho hg⟩
theorem BO.put32 {base : Nat} {w0 w : World} {v : Value} {l : List UInt8} {cs : Array Value} (h : BO base w0 w v l cs) (z : Int) (x : Nat) (hz : z = (x : Int)) (hl : l.length ≤ 900000) (hx : x < 4294967296) : Calls Try.prog 65 #[v, .int .i64 z] w fun e w' => ∃ v', e = .returned v' ∧ BO base w0 w' v' (l ++ put32 x) cs :=
  (r32z w base v l z x hz h.out h.size hl hx).mono fun e w' ⟨v', he, ho, hg⟩ => ⟨v', he, h.step ho hg⟩
end Go.Proofs.Ytpknppicamefgaa
