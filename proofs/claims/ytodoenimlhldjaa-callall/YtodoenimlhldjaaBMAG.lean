/- A region that draws its order: a head, each operation of it looked at once, whatever the order; behind it the others, whose order is forced. -/
import Derived.Test.YtodoenimlhldjaaBMAC
import Derived.Test.YtodoenimlhldjaaBMAF
import Derived.Test.YtodoenimlhldjaaBMAE
import Derived.Laws.OwnMore
namespace Go.Proofs.Ytodoenimlhldjaa
open Go Go.RowKit
set_option linter.unusedVariables false
section
variable {P : Program}
/-- The head is listed, and nothing else. -/
def headDone (n g : Nat) : Array Bool := Array.replicate n true ++ Array.replicate g false
theorem headDone_eq {L : Array Bool} {n g : Nat} (hs : L.size = n + g) (h1 : ∀ i, i < n → L.getD i false = true) (h2 : ∀ i, n ≤ i → i < n + g → L.getD i true = false) : L = headDone n g := by
  refine Array.ext (by simp [headDone, hs]) fun i hi1 hi2 => ?_
  by_cases h : i < n
  · have := h1 i h
    simp [hi1] at this
    simp [headDone, h, this]
  · have := h2 i (by omega) (by omega)
    simp [hi1] at this
    simp [headDone, Array.getElem_append, h, this]
def headB (ops : Array Oper) (n : Nat) : Bool :=
  decide (n < ops.size) && Region.sinkB .any ops n && Region.chainB .any ops n && edgesB .any ops && Region.seqB .any ops (ops.size - n) n (headDone n (ops.size - n))
theorem count_head : ∀ (l : List Bool) (n i : Nat), l[i]? = some false → i < n → ((l.set i true).take n).count false + 1 = (l.take n).count false := by
  intro l n i h hn
  rw [List.take_set]
  exact count_up _ i (by rw [List.getElem?_take_of_lt hn]; exact h)
theorem wp_region_head {R : World → World → Prop} (hR : Later R) {id : Nat} {Q : Exit → Act → World → Prop} {a : Act} {w : World} {l : List Oper} (n : Nat) (ds : List Nat) (Φ : Nat → Value → World → Prop) (hm : P.follows .mixedOrders = true) (hB : headB l.toArray n = true) (hd : ds.length = n)
    (hmono : ∀ i v w w', Φ i v w → R w w' → Φ i v w')
    (hstep : ∀ j, j < n → ∀ xs w', xs.length = n → R w w' → (∀ i, waitsB .any l.toArray j i = true → Φ i (xs.getD i undef) w') →
      Runs P l.toArray Q j (fun a' w'' => ∃ v, a' = slotsOn a ds (xs.set j v) ∧ Φ j v w'' ∧ R w' w'') (slotsOn a ds xs) w')
    (hfin : ∀ xs w', xs.length = n → R w w' → (∀ i, i < n → Φ i (xs.getD i undef) w') → wpList P l.toArray Q (l.drop n) (slotsOn a ds xs) w') :
    (Code.region id l.toArray true).wp P Q a w := by
  simp only [headB, Bool.and_eq_true, decide_eq_true_eq] at hB
  obtain ⟨⟨⟨⟨hn, hs⟩, hc⟩, hb⟩, hq⟩ := hB
  have key : ∀ (c : Nat) (L : Array Bool) (xs : List Value) (w' : World), HeadInv .any l.toArray n L → xs.length = n → R w w' → (∀ i, i < n → L.getD i false = true → Φ i (xs.getD i undef) w') → (L.toList.take n).count false = c →
      wpAny P .any l.toArray Q (c + (l.toArray.size - n)) L (slotsOn a ds xs) w' := by
    intro c
    induction c with
    | zero =>
      intro L xs w' inv hx hR' hΦ h0
      have hall : ∀ i, i < n → L.getD i false = true := by
        intro i hi
        cases h : L.getD i false with
        | true => rfl
        | false =>
          exfalso
          have hlt : i < L.size := by rw [inv.size]; omega
          have : false ∈ L.toList.take n := by
            rw [List.mem_iff_getElem?]
            refine ⟨i, ?_⟩
            rw [List.getElem?_take_of_lt hi]
            simp [hlt] at h ⊢
            exact h
          have := List.count_pos_iff.2 this
          omega
      have e := headDone_eq (L := L) (n := n) (g := l.toArray.size - n) (by rw [inv.size]; omega) hall (fun i h1 h2 => inv.tail i h1 (by omega))
      have hdl : (l.drop n).length = l.toArray.size - n := by simp
      have := wpAny_of_seq (P := P) (md := .any) (Q' := Q) (l.drop n) n L (slotsOn a ds xs) w' (fun j => by simp [List.getElem?_drop]) (by rw [hdl, e]; exact hq) (hfin xs w' hx hR' fun i hi => hΦ i hi (hall i hi))
      rw [hdl] at this
      rw [Nat.zero_add]
      exact this
    | succ c ih =>
      intro L xs w' inv hx hR' hΦ h0
      obtain ⟨q, hq1, hq2⟩ : ∃ q, q < n ∧ L.getD q true = false := by
        have : false ∈ L.toList.take n := List.count_pos_iff.1 (by omega)
        obtain ⟨i, hi⟩ := List.mem_iff_getElem?.1 this
        have hin : i < n := by
          have := (List.getElem?_eq_some_iff.1 hi).1
          simp at this
          omega
        rw [List.getElem?_take_of_lt hin] at hi
        have hlt : i < L.size := by rw [inv.size]; omega
        refine ⟨i, hin, ?_⟩
        simp [hlt] at hi ⊢
        exact hi
      have hlow : ∀ j ∈ Region.ready .any l.toArray L, j < n := fun j hj => Nat.lt_of_not_le fun h => tail_waits hs hc hn inv _ q rfl hq1 hq2 j h hj
      rw [show c + 1 + (l.toArray.size - n) = (c + (l.toArray.size - n)) + 1 by omega]
      refine ⟨fun hno => ?_, fun i hi => ?_⟩
      · exfalso
        have := all_up hb inv.size hno q (by omega)
        rw [getD_both hq2] at this
        cases this
      · have hin := hlow i hi
        obtain ⟨hl, o, ho, hall⟩ := mem_ready.1 hi
        have hr := hstep i hin xs w' hx hR' (fun j hj => by
          simp only [waitsB, ho] at hj
          obtain ⟨e, he, hbb⟩ := Array.any_eq_true'.1 hj
          simp only [Bool.and_eq_true, beq_iff_eq] at hbb
          have hlt := edge_back hb ho he hbb.1
          rw [← hbb.2]
          exact hΦ e.on (by omega) (hall e he hbb.1))
        refine wpOp_mono ?_ hr.out
        rintro a' w'' ⟨v, rfl, hv, hR''⟩
        have hlt : i < L.size := by rw [inv.size]; omega
        refine ih (L.setIfInBounds i true) (xs.set i v) w'' (inv.set hi hin) (by simpa using hx) (hR.trans _ _ _ hR' hR'') ?_ ?_
        · intro k hk hLk
          by_cases hik : i = k
          · subst hik
            rw [List.getD_eq_getElem?_getD, List.getElem?_set_self (by omega), Option.getD_some]
            exact hv
          · rw [List.getD_eq_getElem?_getD, List.getElem?_set_ne hik, ← List.getD_eq_getElem?_getD]
            refine hmono k _ w' w'' (hΦ k hk ?_) hR''
            rw [getD_set_ne false hik] at hLk
            exact hLk
        · rw [Array.toList_setIfInBounds]
          have hf : L.toList[i]? = some false := by
            simp [hlt] at hl ⊢
            exact hl
          have := count_head L.toList n i hf hin
          omega
  have inv0 : HeadInv .any l.toArray n (Array.replicate l.toArray.size false) :=
    ⟨by simp, fun j oj _ hl => (by rw [getD_replicate_false] at hl; cases hl), fun t _ ht => getD_in (by simpa using ht) (getD_replicate_false _ _)⟩
  refine wp_region_any hm ?_
  have hsz : n < l.length := by simpa using hn
  have h := key n (Array.replicate l.toArray.size false) (ds.map fun d => a.tmps.toList.getD d undef) _ inv0 (by simpa using hd) (hR.drew w) (fun i _ h => by rw [getD_replicate_false] at h; cases h) (by
    simp only [Array.toList_replicate, List.take_replicate, List.count_replicate_self]
    simp
    omega)
  rw [show n + (l.toArray.size - n) = l.toArray.size by omega, slotsOn_self] at h
  exact h
end
end Go.Proofs.Ytodoenimlhldjaa
namespace Go.Proofs.Ytodoenimlhldjaa
open Go.ChangeShapes Go.WideShapes Go.ChangeAt Go.RowKit
set_option linter.unusedVariables false
theorem load73 {w : World} {a : Addr} {v : Value} (hc : w.cell? a = some v) : (loadVar 105 a).run Try.prog w = .ok v w := by
  simp [loadVar, isAgg, Sem.run_bind, run_underlying Try.underlying105, hc, go_sem]
theorem load4 {w : World} {a : Addr} {v : Value} (hc : w.cell? a = some v) : (loadVar 4 a).run Try.prog w = .ok v w := by
  simp [loadVar, isAgg, Sem.run_bind, run_underlying Try.underlying4, hc, go_sem]
theorem build75b (b : Nat) (on : Bool) (w : World) : (Instr.build 107 #[(0, .pointer (some ⟨b, 0, none⟩)), (1, .bool on)]).run Try.prog w = .ok (.agg #[.pointer (some ⟨b, 0, none⟩), .bool on]) w := by kernel_rfl
/-- A memory that is the same. -/
structure CopyOf (s t : MS) : Prop where
  ks : ∀ k, k ∈ t.ks ↔ k ∈ s.ks
  len : t.ks.length = s.ks.length
  data : ∀ k ∈ t.ks, t.data k = s.data k ∧ t.pm k = s.pm k ∧ t.on k = s.on k
  most : t.most = s.most
  ts : t.ts = []
  c : t.c = s.c
/-- On the way there. -/
structure CopyInv (w0 w : World) (s : MS) (mb r : Nat) (todo : List Nat) (t : MS) : Prop where
  own : Own w0 w t
  at_ : w0.heap.size ≤ r
  mb : t.mb = mb
  ks : ∀ k, k ∈ t.ks ↔ k ∈ s.ks ∧ k ∉ todo
  len : t.ks.length + todo.length = s.ks.length
  data : ∀ k ∈ t.ks, t.data k = s.data k ∧ t.pm k = s.pm k ∧ t.on k = s.on k
  most : t.most = s.most
  ts : t.ts = []
  c : t.c = s.c
theorem It.notFoot {w : World} {r bm : Nat} {ks todo : List Nat} {t : MS} (h : It w r bm ks todo) (ht : MemW w t) : ¬ foot t r := by
  obtain ⟨seen, c0, h1, _⟩ := h.now
  rintro (e | e | ⟨k, hk, e⟩ | ⟨k, hk, e⟩ | e)
  · rw [e, ht.self] at h1; simp at h1
  · rw [e, ht.map] at h1; simp [mapObj] at h1
  · rw [e, ht.held k hk] at h1; simp at h1
  · obtain ⟨n, _, _, hp⟩ := ht.page k hk
    rw [e, hp.blk] at h1; simp at h1
  · obtain ⟨cur, hc⟩ := ht.tv_cells e
    rw [hc] at h1; simp at h1
theorem MemW.raise {w : World} {s : MS} (h : MemW w s) (c : Nat) (hc : s.c ≤ c) : MemW w { s with c := c } :=
  ⟨h.self, h.map, h.held, fun k hk => let ⟨n, h0, h1, h2⟩ := h.page k hk; ⟨n, h0, by show n ≤ (c : Int); omega, h2⟩, h.nodup, h.hbi, h.pbi, h.key, h.perm, h.room, h.great, h.touched, Nat.le_trans h.few hc⟩
theorem foot_raise {s : MS} {c b : Nat} (h : foot { s with c := c } b) : foot s b := h
/-- The last step of a round: what was copied is laid. -/
theorem copy_add {w0 w2 w3 : World} {s t : MS} {mb r k q g : Nat} {todo : List Nat} (hv : CopyInv w0 w2 s mb r todo t) (hR : Below w2.heap.size w2 w3) (hs0 : MemW w0 s) (hks : k ∈ s.ks) (hk : k ∈ todo) (hH : Held w3 q g (s.data k) (s.pm k) (s.on k) s.c) (hq : w2.heap.size ≤ q) (hg : w2.heap.size ≤ g) (hI2 : It w2 r s.bm s.ks (todo.erase k)) (hnd : todo.Nodup) :
    Calls Try.prog 57 #[.pointer (some ⟨mb, 0, none⟩), .int .u32 (k : Int), .pointer (some ⟨q, 0, none⟩)] w3 fun e w4 => e = .returned (.tuple #[]) ∧ It w4 r s.bm s.ks (todo.erase k) ∧ ∃ t', CopyInv w0 w4 s mb r (todo.erase k) t' := by
  have hm := hv.own.mem
  have hm3 := hm.later hR
  have hkk := hs0.key k hks
  have hkt : k ∉ t.ks := fun h => ((hv.ks k).1 h).2 hk
  have hlt : t.ks.length < t.most := by
    have h1 := hv.len
    have h2 := List.length_pos_of_mem hk
    have h3 := hs0.room
    rw [hv.most]
    omega
  have hc := addPage_any w3 t k q g (s.data k) (s.pm k) (s.on k) hm3 hkk.1 (by rw [pageOf_key hkk.2]; exact hkt) (by rw [hv.c]; exact hH) hlt (fun hf => by have := hm.lt hf; omega) (fun hf => by have := hm.lt hf; omega)
  rw [hv.mb, pageOf_key hkk.2] at hc
  refine hc.mono ?_
  rintro e w4 ⟨he, hm4, hkp⟩
  refine ⟨he, ?_⟩
  have hlay : ∀ b, foot (t.lay k q g (s.data k) (s.pm k) (s.on k)) b → foot t b ∨ b = q ∨ b = g := by
    rintro b (hb | hb | ⟨j, hj, hb⟩ | ⟨j, hj, hb⟩ | hb)
    · exact .inl (.inl hb)
    · exact .inl (.inr (.inl hb))
    · by_cases e : j = k
      · subst e
        simp only [MS.lay, upd_same] at hb
        exact .inr (.inl hb)
      · simp only [MS.lay, upd_other _ _ e] at hb
        exact .inl (.inr (.inr (.inl ⟨j, by simpa [MS.lay, e] using hj, hb⟩)))
    · by_cases e : j = k
      · subst e
        simp only [MS.lay, upd_same] at hb
        exact .inr (.inr hb)
      · simp only [MS.lay, upd_other _ _ e] at hb
        exact .inl (.inr (.inr (.inr (.inl ⟨j, by simpa [MS.lay, e] using hj, hb⟩))))
    · exact .inl (.inr (.inr (.inr (.inr hb))))
  have hw02 := hv.own.below.size
  have hb3 : Below w0.heap.size w0 w3 := hv.own.below.trans (hR.mono hw02)
  have hb4 : Below w0.heap.size w0 w4 := hb3.trans (hkp.below hb3.size fun b hb => hb.elim (fun e => hv.own.foot b (.inl (e.trans hv.mb.symm))) fun e => hv.own.foot b (.inr (.inl e)))
  have hr : w4.heap[r]? = w2.heap[r]? := by
    refine (hkp.block r (Nat.lt_of_lt_of_le hI2.lt hR.size) ?_).trans (hR.block r hI2.lt)
    rintro (e | e)
    · exact hI2.notFoot hm (.inl (e.trans hv.mb.symm))
    · exact hI2.notFoot hm (.inr (.inl e))
  refine ⟨hI2.same hr, t.lay k q g (s.data k) (s.pm k) (s.on k), ⟨hm4, hb4, fun b hb => ?_⟩, hv.at_, hv.mb, fun j => ?_, ?_, fun j hj => ?_, hv.most, hv.ts, hv.c⟩
  · rcases hlay b hb with h | h | h
    · exact hv.own.foot b h
    · omega
    · omega
  · have := hv.ks j
    rw [List.Nodup.mem_erase_iff hnd]
    simp only [MS.lay, List.mem_append, List.mem_singleton]
    by_cases e : j = k
    · subst e
      simp [hks]
    · simp [e, this]
  · have h1 := hv.len
    have h2 := List.length_erase_of_mem hk
    have h3 := List.length_pos_of_mem hk
    simp only [MS.lay, List.length_append, List.length_singleton]
    omega
  · by_cases e : j = k
    · subst e
      simp only [MS.lay, upd_same, and_self]
    · simp only [MS.lay, upd_other _ _ e]
      exact hv.data j (by simpa [MS.lay, e] using hj)
/-- What the slots of the region hold, whatever the order. -/
def phiCp (cm k hb pb m : Nat) (on : Bool) (l : List UInt8) (p n : Int) : Nat → Value → World → Prop
  | 0, x, _ => x = .pointer (some ⟨cm, 0, none⟩)
  | 1, x, _ => x = .int .u32 (k : Int)
  | 2, x, _ => x = .pointer (some ⟨hb, 0, none⟩)
  | 3, x, _ => x = .pointer (some ⟨hb, 0, none⟩)
  | 4, x, _ => x = .pointer (some ⟨hb, 0, none⟩)
  | 5, x, _ => x = .pointer (some ⟨pb, 0, none⟩)
  | 6, x, w => ∃ g, x = .pointer (some ⟨g, 0, none⟩) ∧ m ≤ g ∧ Pg 127 w g l p n
  | 7, x, _ => x = .pointer (some ⟨hb, 0, none⟩)
  | 8, x, _ => x = .pointer (some ⟨hb, 0, none⟩)
  | 9, x, _ => x = .pointer (some ⟨hb, 1, none⟩)
  | 10, x, _ => x = .bool on
  | 11, x, w => ∃ g, x = .agg #[.pointer (some ⟨g, 0, none⟩), .bool on] ∧ m ≤ g ∧ Pg 127 w g l p n
  | 12, x, w => ∃ g q, x = .pointer (some ⟨q, 0, none⟩) ∧ m ≤ g ∧ m ≤ q ∧ Pg 127 w g l p n ∧ w.heap[q]? = some (.cells #[.pointer (some ⟨g, 0, none⟩), .bool on] 107 (0, 0))
  | _ + 13, _, _ => True
theorem phiCp_mono (cm k hb pb m : Nat) (on : Bool) (l : List UInt8) (p n : Int) : ∀ i x w w', phiCp cm k hb pb m on l p n i x w → Below w.heap.size w w' → phiCp cm k hb pb m on l p n i x w'
  | 0, _, _, _, h, _ => h
  | 1, _, _, _, h, _ => h
  | 2, _, _, _, h, _ => h
  | 3, _, _, _, h, _ => h
  | 4, _, _, _, h, _ => h
  | 5, _, _, _, h, _ => h
  | 6, x, w, w', h, hbl => by obtain ⟨g, e, h1, h2⟩ := h; exact ⟨g, e, h1, h2.later hbl⟩
  | 7, _, _, _, h, _ => h
  | 8, _, _, _, h, _ => h
  | 9, _, _, _, h, _ => h
  | 10, _, _, _, h, _ => h
  | 11, x, w, w', h, hbl => by obtain ⟨g, e, h1, h2⟩ := h; exact ⟨g, e, h1, h2.later hbl⟩
  | 12, x, w, w', h, hbl => by obtain ⟨g, q, e, h1, h2, h3, h4⟩ := h; exact ⟨g, q, e, h1, h2, h3.later hbl, (hbl.block q (Array.getElem?_eq_some_iff.1 h4).1).trans h4⟩
  | _ + 13, _, _, _, _, _ => trivial
theorem list13 : ∀ xs : List Value, xs.length = 13 → ∃ x0 x1 x2 x3 x4 x5 x6 x7 x8 x9 x10 x11 x12, xs = [x0, x1, x2, x3, x4, x5, x6, x7, x8, x9, x10, x11, x12]
  | [x0, x1, x2, x3, x4, x5, x6, x7, x8, x9, x10, x11, x12], _ => ⟨_, _, _, _, _, _, _, _, _, _, _, _, _, rfl⟩
end Go.Proofs.Ytodoenimlhldjaa
namespace Go.Proofs.Ytodoenimlhldjaa
open Go.ChangeShapes Go.WideShapes Go.ChangeAt Go.RowKit
set_option linter.unusedVariables false
abbrev AM := Nat → Option (List UInt8 × Int × Bool)
def MS.abs (s : MS) : AM := fun k => if k ∈ s.ks then some (s.data k, s.pm k, s.on k) else none
def amap (f : AM) (a : Nat) (z : Int) : AM := fun j => if j = pageOf a then (match f j with | some (l, p, o) => some (l, orP p z, o) | none => some (zeros, z % 8, false)) else f j
def apoke (f : AM) (a : Nat) (v : UInt8) : AM := fun j => if j = pageOf a then (f j).map fun x => (x.1.set (a % 256) v, x.2.1, x.2.2) else f j
def awatch (f : AM) (a : Nat) (b : Bool) : AM := fun j => if j = pageOf a then (f j).map fun x => (x.1, x.2.1, b) else f j
theorem abs_in {s : MS} {k : Nat} (h : k ∈ s.ks) : s.abs k = some (s.data k, s.pm k, s.on k) := by unfold MS.abs; rw [if_pos h]
theorem abs_out {s : MS} {k : Nat} (h : k ∉ s.ks) : s.abs k = none := by unfold MS.abs; rw [if_neg h]
theorem mem_abs {s : MS} {k : Nat} : k ∈ s.ks ↔ (s.abs k).isSome = true := by
  by_cases h : k ∈ s.ks
  · simp [abs_in h, h]
  · simp [abs_out h, h]
theorem abs_mapped {s : MS} {a : Nat} {z : Int} {b : Nat} (h : pageOf a ∈ s.ks ∨ s.ks.length < s.most) : (s.mapped a z b).abs = amap s.abs a z := by
  funext j
  unfold MS.mapped amap
  by_cases hk : pageOf a ∈ s.ks
  · rw [if_pos hk]
    by_cases e : j = pageOf a
    · subst e
      rw [if_pos rfl, abs_in (s := s.also _ z) hk, abs_in hk]
      simp [MS.also, upd]
    · rw [if_neg e]
      by_cases hj : j ∈ s.ks
      · rw [abs_in (s := s.also _ z) hj, abs_in hj]
        simp [MS.also, upd, e]
      · rw [abs_out (s := s.also _ z) hj, abs_out hj]
  · have hr := h.resolve_left hk
    rw [if_neg hk, if_pos hr]
    by_cases e : j = pageOf a
    · subst e
      rw [if_pos rfl, abs_in (s := s.lay _ _ _ _ _ _) (by simp [MS.lay]), abs_out hk]
      simp [MS.lay, upd]
    · rw [if_neg e]
      by_cases hj : j ∈ s.ks
      · rw [abs_in (s := s.lay _ _ _ _ _ _) (by simp [MS.lay, hj]), abs_in hj]
        simp [MS.lay, upd, e]
      · rw [abs_out (s := s.lay _ _ _ _ _ _) (by simp [MS.lay, hj, e]), abs_out hj]
theorem abs_pokeAt (s : MS) (a : Nat) (v : UInt8) (tv : Value) : (s.pokeAt a v tv).abs = apoke s.abs a v := by
  funext j
  unfold MS.pokeAt apoke
  by_cases hk : pageOf a ∈ s.ks
  · rw [if_pos hk]
    by_cases e : j = pageOf a
    · subst e
      rw [if_pos rfl, abs_in (s := s.poke a v tv) hk, abs_in hk]
      simp [MS.poke, upd]
    · rw [if_neg e]
      by_cases hj : j ∈ s.ks
      · rw [abs_in (s := s.poke a v tv) hj, abs_in hj]
        simp [MS.poke, upd, e]
      · rw [abs_out (s := s.poke a v tv) hj, abs_out hj]
  · rw [if_neg hk]
    by_cases e : j = pageOf a
    · subst e
      rw [if_pos rfl, abs_out hk]
      rfl
    · rw [if_neg e]
theorem abs_watchAt (s : MS) (a : Nat) (b : Bool) : (s.watchAt a b).abs = awatch s.abs a b := by
  funext j
  unfold MS.watchAt awatch
  by_cases hk : pageOf a ∈ s.ks
  · rw [if_pos hk]
    by_cases e : j = pageOf a
    · subst e
      rw [if_pos rfl, abs_in (s := s.watch _ b) hk, abs_in hk]
      simp [MS.watch, upd]
    · rw [if_neg e]
      by_cases hj : j ∈ s.ks
      · rw [abs_in (s := s.watch _ b) hj, abs_in hj]
        simp [MS.watch, upd, e]
      · rw [abs_out (s := s.watch _ b) hj, abs_out hj]
  · rw [if_neg hk]
    by_cases e : j = pageOf a
    · subst e
      rw [if_pos rfl, abs_out hk]
      rfl
    · rw [if_neg e]
theorem get_abs (s : MS) (a : Nat) : s.get a = match s.abs (pageOf a) with | some (l, _, _) => l.getD (a % 256) 0 | none => 0 := by
  unfold MS.get
  by_cases h : pageOf a ∈ s.ks
  · rw [if_pos h, abs_in h]
  · rw [if_neg h, abs_out h]
theorem get_congr {s t : MS} (h : s.abs = t.abs) (a : Nat) : s.get a = t.get a := by rw [get_abs, get_abs, h]
/-- A part of a memory. -/
structure Part4 where
  at_ : Nat
  data : List UInt8
  perm : Int
  on : Bool
  da : Option Addr
  dcap : Nat
def wrapAt (a k : Nat) : Nat := (a + k) % 4294967296
theorem wrapAt_lt (a k : Nat) : wrapAt a k < 4294967296 := Nat.mod_lt _ (by omega)
def partMaps (f : AM) (p : Part4) : Nat → AM
  | 0 => f
  | k + 1 => amap (partMaps f p k) (wrapAt p.at_ k) p.perm
def partPokes (f : AM) (p : Part4) : Nat → AM
  | 0 => f
  | k + 1 => apoke (partPokes f p k) (wrapAt p.at_ k) (p.data.getD k 0)
def partDone (f : AM) (p : Part4) : AM := partPokes (partMaps f p (max p.data.length 1)) p p.data.length
def partsDone : List Part4 → AM → AM
  | [], f => f
  | p :: ps, f => partsDone ps (partDone f p)
def watches : List Part4 → AM → AM
  | [], f => f
  | p :: ps, f => watches ps (awatch f p.at_ p.on)
def memOf (ps : List Part4) : AM := watches ps (partsDone ps fun _ => none)
theorem partsDone_snoc (ps : List Part4) (p : Part4) : ∀ f, partsDone (ps ++ [p]) f = partDone (partsDone ps f) p := by
  induction ps with
  | nil => intro f; rfl
  | cons q ps ih => intro f; exact ih _
theorem watches_snoc (ps : List Part4) (p : Part4) : ∀ f, watches (ps ++ [p]) f = awatch (watches ps f) p.at_ p.on := by
  induction ps with
  | nil => intro f; rfl
  | cons q ps ih => intro f; exact ih _
theorem take_snoc {α : Type} (l : List α) (k : Nat) (h : k < l.length) : l.take (k + 1) = l.take k ++ [l[k]] := by
  rw [List.take_add_one, List.getElem?_eq_getElem h]
  rfl
/-- A memory on the way. -/
structure MI (w wr : World) (s : MS) (mb : Nat) (f : AM) (C : Nat) : Prop where
  own : Own w wr s
  mb : s.mb = mb
  most : s.most = 64
  abs : s.abs = f
  off : ∀ k ∈ s.ks, s.on k = false
  ts : s.ts = []
  c : s.c ≤ C
theorem MI.poke {w wr wr' : World} {s : MS} {mb C a : Nat} {f : AM} {v : UInt8} {tv : Value} (h : MI w wr s mb f C) (st : Step wr s wr' (s.pokeAt a v tv)) : MI w wr' (s.pokeAt a v tv) mb (apoke f a v) (C + 1) ∧ (s.pokeAt a v tv).ks = s.ks := by
  have hc := pokeAt_c s a v tv
  have hc' := h.c
  have hw : s.watched a = false := by
    unfold MS.watched
    by_cases hk : pageOf a ∈ s.ks
    · rw [h.off _ hk, Bool.and_false]
    · rw [decide_eq_false hk, Bool.false_and]
  refine ⟨⟨h.own.step st, by rw [pokeAt_mb]; exact h.mb, by rw [pokeAt_most]; exact h.most, by rw [abs_pokeAt, h.abs], ?_, by rw [pokeAt_ts, hw]; simpa using h.ts, by omega⟩, pokeAt_ks _ _ _ _⟩
  rw [pokeAt_ks, pokeAt_on]
  exact h.off
/-- So many pages at most. -/
def MapB (s : MS) (a k L : Nat) : Prop := (k = 0 → s.ks.length ≤ L) ∧ (1 ≤ k → pageOf (wrapAt a (k - 1)) ∈ s.ks ∧ s.ks.length ≤ L + (a % 256 + (k - 1)) / 256 + 1)
theorem mapped_ks (s : MS) (a : Nat) (z : Int) (b : Nat) : (∀ j, j ∈ s.ks → j ∈ (s.mapped a z b).ks) ∧ (s.mapped a z b).ks.length ≤ s.ks.length + 1 ∧ (pageOf a ∈ s.ks → (s.mapped a z b).ks = s.ks) ∧ (pageOf a ∈ s.ks ∨ s.ks.length < s.most → pageOf a ∈ (s.mapped a z b).ks) := by
  unfold MS.mapped
  by_cases hk : pageOf a ∈ s.ks
  · rw [if_pos hk]
    exact ⟨fun j h => h, by simp [MS.also], fun _ => rfl, fun _ => hk⟩
  · rw [if_neg hk]
    by_cases hr : s.ks.length < s.most
    · rw [if_pos hr]
      exact ⟨fun j h => by simp [MS.lay, h], by simp [MS.lay], fun h => absurd h hk, fun _ => by simp [MS.lay]⟩
    · rw [if_neg hr]
      exact ⟨fun j h => h, by omega, fun _ => rfl, fun h => h.elim (fun h => absurd h hk) fun h => absurd h hr⟩
theorem mapped_on {s : MS} {a : Nat} {z : Int} {b : Nat} (h : ∀ k ∈ s.ks, s.on k = false) : ∀ k ∈ (s.mapped a z b).ks, (s.mapped a z b).on k = false := by
  unfold MS.mapped
  by_cases hk : pageOf a ∈ s.ks
  · rw [if_pos hk]; exact h
  · rw [if_neg hk]
    by_cases hr : s.ks.length < s.most
    · rw [if_pos hr]
      intro k hk'
      by_cases e : k = pageOf a
      · subst e; simp [MS.lay, upd]
      · simp only [MS.lay, upd_other _ _ e]
        exact h k (by simpa [MS.lay, e] using hk')
    · rw [if_neg hr]; exact h
theorem page_next (a k : Nat) (hk : 1 ≤ k) (h : (a % 256 + k) % 256 ≠ 0) : pageOf (wrapAt a k) = pageOf (wrapAt a (k - 1)) := by
  unfold pageOf wrapAt
  omega
theorem MI.map {w wr wr' : World} {s : MS} {mb C a k L b : Nat} {f : AM} {z : Int} (h : MI w wr s mb f C) (hB : MapB s a k L) (hk : k < 600) (hL : L ≤ 28) (st : Step wr s wr' (s.mapped (wrapAt a k) z b)) : MI w wr' (s.mapped (wrapAt a k) z b) mb (amap f (wrapAt a k) z) C ∧ MapB (s.mapped (wrapAt a k) z b) a (k + 1) L := by
  obtain ⟨m1, m2, m3, m4⟩ := mapped_ks s (wrapAt a k) z b
  have hroom : pageOf (wrapAt a k) ∈ s.ks ∨ s.ks.length < s.most := by
    right
    rw [h.most]
    by_cases h0 : k = 0
    · have := hB.1 h0
      omega
    · have := (hB.2 (by omega)).2
      omega
  refine ⟨⟨h.own.step st, by rw [mapped_mb]; exact h.mb, by rw [mapped_most]; exact h.most, by rw [abs_mapped hroom, h.abs], mapped_on h.off, by rw [mapped_ts]; exact h.ts, by rw [mapped_c]; exact h.c⟩, fun h0 => by omega, fun _ => ⟨by simpa using m4 hroom, ?_⟩⟩
  rw [Nat.add_sub_cancel]
  by_cases h0 : k = 0
  · have := hB.1 h0
    omega
  · have hb := hB.2 (by omega)
    by_cases hm : (a % 256 + k) % 256 = 0
    · omega
    · have := page_next a k (by omega) hm
      rw [m3 (by rw [this]; exact hb.1)]
      have h2 := hb.2
      have : (a % 256 + (k - 1)) / 256 ≤ (a % 256 + k) / 256 := Nat.div_le_div_right (by omega)
      omega
end Go.Proofs.Ytodoenimlhldjaa
namespace Go.Proofs.Ytodoenimlhldjaa
open Go.ChangeShapes Go.WideShapes Go.ChangeAt Go.RowKit
set_option linter.unusedVariables false
/-- The bytes from a place on. -/
def MS.span (s : MS) (a n : Nat) : List UInt8 := (List.range n).map fun i => s.get (wrapAt a i)
theorem span_len (s : MS) (a n : Nat) : (s.span a n).length = n := by simp [MS.span]
theorem span_get (s : MS) (a n j : Nat) (h : j < n) : (s.span a n).getD j 0 = s.get (wrapAt a j) := by simp [MS.span, List.getD_eq_getElem?_getD, h]
/-- So much of a word. -/
def preW (s : MS) (a : Nat) : Nat → Nat
  | 0 => 0
  | k + 1 => preW s a k * 256 + (s.get (wrapAt a k)).toNat
theorem preW_lt (s : MS) (a : Nat) : ∀ k, preW s a k < 256 ^ k
  | 0 => by simp [preW]
  | k + 1 => by
    have h1 := preW_lt s a k
    have h2 := UInt8.toNat_lt (s.get (wrapAt a k))
    rw [preW, Nat.pow_succ]
    have : (preW s a k + 1) * 256 ≤ 256 ^ k * 256 := Nat.mul_le_mul_right _ h1
    omega
theorem u32_or_low (x y : Nat) (hx : x < 16777216) (hy : y < 256) : bits .or .u32 ((x : Int) * 256) (y : Int) = (x : Int) * 256 + (y : Int) := by
  have e0 : (x : Int) * 256 = ((2 ^ 8 * x : Nat) : Int) := by omega
  have e1 : (BitVec.ofInt 32 ((2 ^ 8 * x : Nat) : Int)).toNat = 2 ^ 8 * x := by
    rw [BitVec.toNat_ofInt]
    omega
  have e2 : (BitVec.ofInt 32 (y : Int)).toNat = y := by
    rw [BitVec.toNat_ofInt]
    omega
  rw [e0]
  show IntKind.u32.wrap ((BitVec.ofInt 32 ((2 ^ 8 * x : Nat) : Int) ||| BitVec.ofInt 32 (y : Int)).toNat : Nat) = _
  rw [BitVec.toNat_or, e1, e2, ← Nat.two_pow_add_eq_or_of_lt (by omega)]
  simp only [IntKind.wrap_u32]
  omega
def cutLen (n : Int) : Nat := (min (max n 0) 16384).toNat
theorem make45 (M : Nat) (h : M ≤ 16384) (w : World) : (Instr.makeSlice 50 (.int .i64 (M : Int)) (.int .i64 (M : Int))).run Try.prog w = .ok (.slice (some ⟨w.heap.size, 0, none⟩) M M) (w.alloc (.cells (madeCells #[.int .u8 0] M) 5)) := by
  obtain ⟨i0, hi, hz0, hz1, hz2⟩ := info_parts info5
  have h := run_make (P := Try.prog) w 50 5 i0 (.int .u8 0) Try.underlying50 hi hz0 .i64 .i64 (M : Int) (M : Int) (by omega) (Int.le_refl _) (by rw [hz2]; omega) (by omega)
  rw [hz1, Nat.mul_one, Int.toNat_natCast] at h
  exact h
/-- A row of bytes on the way. -/
def Brow (w : World) (g : Nat) (d : List UInt8) : Prop := w.heap[g]? = some (.cells (cellsU d).toArray 5 (0, 0))
theorem Brow.set {w : World} {g : Nat} {d : List UInt8} (h : Brow w g d) {j : Nat} (hj : j < d.length) (v : UInt8) : Brow (w.setCell ⟨g, j, none⟩ (.int .u8 (v.toNat : Int))) g (d.set j v) := by
  unfold Brow
  rw [heap_setCell_same _ _ _ _ _ _ h, List.setIfInBounds_toArray, cellsU_set]
theorem Brow.cell {w : World} {g : Nat} {d : List UInt8} (h : Brow w g d) {j : Nat} (hj : j < d.length) : w.cell? ⟨g, j, none⟩ = some (.int .u8 ((d.getD j 0).toNat : Int)) := by
  rw [cell_of_row _ _ _ _ _ _ h, List.getElem?_toArray, cellsU_get d j hj]
theorem Brow.row {w : World} {g : Nat} {d : List UInt8} (h : Brow w g d) (hm : d.length ≤ 16384) : Row w (some ⟨g, 0, none⟩) d d.length :=
  ⟨Nat.le_refl _, by unfold maxLen; omega, by simp, .inr ⟨g, 0, rfl, fun j hj => by rw [Nat.zero_add]; exact h.cell hj⟩⟩
theorem made_cells (M : Nat) : madeCells #[.int .u8 0] M = (cellsU (List.replicate M 0)).toArray := by
  apply Array.ext'
  rw [toList_madeCells_one, cellsU, List.map_replicate]
  rfl
theorem span_set (s : MS) (a k M : Nat) (h : k < M) : (s.span a k ++ List.replicate (M - k) 0).set k (s.get (wrapAt a k)) = s.span a (k + 1) ++ List.replicate (M - (k + 1)) 0 := by
  rw [List.set_append_right _ _ (by rw [span_len]; exact Nat.le_refl _), span_len, Nat.sub_self, show M - k = (M - (k + 1)) + 1 by omega, List.replicate_succ, List.set_cons_zero]
  unfold MS.span
  rw [List.range_succ, List.map_append, List.append_assoc]
  rfl
set_option maxRecDepth 20000 in
set_option maxHeartbeats 1000000 in
theorem mbytes_any (w : World) (s : MS) (a : Nat) (n : Int) (h : MemW w s) (ha : a < 4294967296) : Calls Try.prog 22 #[.pointer (some ⟨s.mb, 0, none⟩), .int .u32 (a : Int), .int .i64 n] w fun e w' => ∃ ao, e = .returned (.slice ao (s.span a (cutLen n)).length (cutLen n)) ∧ Row w' ao (s.span a (cutLen n)) (cutLen n) ∧ Below w.heap.size w w' := by
  obtain ⟨M, hM⟩ : ∃ M, M = cutLen n := ⟨_, rfl⟩
  rw [← hM, span_len]
  have hM2 : M ≤ 16384 := by rw [hM]; unfold cutLen; omega
  have hmk := make45 M hM2 w
  have hMz : (M : Int) = min (max n 0) 16384 := by rw [hM]; unfold cutLen; omega
  have H := hidden h
  have HB : Hid (Brow (w.alloc (.cells (madeCells #[.int .u8 0] M) 5)) w.heap.size (List.replicate M 0)) := by
    show _ = _
    rw [heap_alloc_new w _, made_cells]
  clear h hM
  by_cases hn0 : n < 0
  · have hM0 : (M : Int) = 0 := by omega
    rw [hM0] at hmk
    clear hMz hM0
    go_enter Try.func22, Try.ntmps22
    go_wp2
    go_loopw [8, 15] (fun x8 x15 wr => ∃ (k : Nat), k ≤ M ∧ x15 = .int .i64 (k : Int) ∧ Brow wr w.heap.size (s.span a k ++ List.replicate (M - k) 0) ∧ Below w.heap.size w wr) (fun x8 x15 _ => M - (intOf x15).toNat)
    case atStart => exact ⟨0, by omega, rfl, Hid.out HB, (Below.refl _ w).alloc (Nat.le_refl _) _⟩
    case round =>
      obtain ⟨k, hk, rfl, hbr, hbel⟩ := hrel
      have HBR := hidden hbr
      have HBL := hidden hbel
      by_cases hkM : k < M
      · have hkM2 : (k : Int) < (M : Int) := by omega
        have H28 := hidden (peek_any wr s (wrapAt a k) ((Hid.out H).later hbel) (wrapAt_lt _ _))
        rw [show ((wrapAt a k : Nat) : Int) = ((a : Int) + (k : Int)) % 4294967296 by unfold wrapAt; omega] at H28
        have hcl : k < (s.span a k ++ List.replicate (M - k) 0).length := by rw [List.length_append, span_len, List.length_replicate]; omega
        have HC : Hid (∀ m, ∃ y, (wr.drewN m).cell? ⟨w.heap.size, k, none⟩ = some (.int .u8 y) ∧ (wr.drewN m).frozen? ⟨w.heap.size, k, none⟩ = false) := fun m => ⟨_, hbr.cell hcl, frozen_of_row _ _ _ _ _ hbr⟩
        have HN : Hid (∀ m, Brow ((wr.drewN m).setCell ⟨w.heap.size, k, none⟩ (.int .u8 ((s.get (wrapAt a k)).toNat : Int))) w.heap.size (s.span a (k + 1) ++ List.replicate (M - (k + 1)) 0)) := fun m => by
          have := Brow.set (w := wr.drewN m) hbr hcl (s.get (wrapAt a k))
          rw [span_set s a k M hkM] at this
          exact this
        clear hbr hbel
        generalize (s.get (wrapAt a k)).toNat = x at H28 HN
        go_wp2_with (go_at_call 50; with_reducible refine (Hid.out H28).mono ?_; rintro e w1 ⟨rfl, m, hww⟩; rw [hww]; obtain ⟨y, hc1, hc2⟩ := Hid.out HC m; clear hww w1)
        go_roundw
        case rel => exact ⟨k + 1, by omega, by simp, Hid.out HN _, (below_drewN (Hid.out HBL) _).setCell (p := ⟨w.heap.size, k, none⟩) (Nat.le_refl _) _⟩
        case measure => simp [intOf]; omega
      · have hkM2 : ¬ (k : Int) < (M : Int) := by omega
        obtain rfl : k = M := by omega
        clear hbr hbel
        go_wp2
        go_ret
        have hb2 := Hid.out HBR
        rw [Nat.sub_self, List.replicate_zero, List.append_nil] at hb2
        refine ⟨_, rfl, ?_, Hid.out HBL⟩
        have := hb2.row (by rw [span_len]; exact hM2)
        rw [span_len] at this
        exact this
  · by_cases hn1 : 16384 < n
    · have hM0 : (M : Int) = 16384 := by omega
      rw [hM0] at hmk
      clear hMz hM0
      go_enter Try.func22, Try.ntmps22
      go_wp2
      go_loopw [8, 15] (fun x8 x15 wr => ∃ (k : Nat), k ≤ M ∧ x15 = .int .i64 (k : Int) ∧ Brow wr w.heap.size (s.span a k ++ List.replicate (M - k) 0) ∧ Below w.heap.size w wr) (fun x8 x15 _ => M - (intOf x15).toNat)
      case atStart => exact ⟨0, by omega, rfl, Hid.out HB, (Below.refl _ w).alloc (Nat.le_refl _) _⟩
      case round =>
        obtain ⟨k, hk, rfl, hbr, hbel⟩ := hrel
        have HBR := hidden hbr
        have HBL := hidden hbel
        by_cases hkM : k < M
        · have hkM2 : (k : Int) < (M : Int) := by omega
          have H28 := hidden (peek_any wr s (wrapAt a k) ((Hid.out H).later hbel) (wrapAt_lt _ _))
          rw [show ((wrapAt a k : Nat) : Int) = ((a : Int) + (k : Int)) % 4294967296 by unfold wrapAt; omega] at H28
          have hcl : k < (s.span a k ++ List.replicate (M - k) 0).length := by rw [List.length_append, span_len, List.length_replicate]; omega
          have HC : Hid (∀ m, ∃ y, (wr.drewN m).cell? ⟨w.heap.size, k, none⟩ = some (.int .u8 y) ∧ (wr.drewN m).frozen? ⟨w.heap.size, k, none⟩ = false) := fun m => ⟨_, hbr.cell hcl, frozen_of_row _ _ _ _ _ hbr⟩
          have HN : Hid (∀ m, Brow ((wr.drewN m).setCell ⟨w.heap.size, k, none⟩ (.int .u8 ((s.get (wrapAt a k)).toNat : Int))) w.heap.size (s.span a (k + 1) ++ List.replicate (M - (k + 1)) 0)) := fun m => by
            have := Brow.set (w := wr.drewN m) hbr hcl (s.get (wrapAt a k))
            rw [span_set s a k M hkM] at this
            exact this
          clear hbr hbel
          generalize (s.get (wrapAt a k)).toNat = x at H28 HN
          go_wp2_with (go_at_call 50; with_reducible refine (Hid.out H28).mono ?_; rintro e w1 ⟨rfl, m, hww⟩; rw [hww]; obtain ⟨y, hc1, hc2⟩ := Hid.out HC m; clear hww w1)
          go_roundw
          case rel => exact ⟨k + 1, by omega, by simp, Hid.out HN _, (below_drewN (Hid.out HBL) _).setCell (p := ⟨w.heap.size, k, none⟩) (Nat.le_refl _) _⟩
          case measure => simp [intOf]; omega
        · have hkM2 : ¬ (k : Int) < (M : Int) := by omega
          obtain rfl : k = M := by omega
          clear hbr hbel
          go_wp2
          go_ret
          have hb2 := Hid.out HBR
          rw [Nat.sub_self, List.replicate_zero, List.append_nil] at hb2
          refine ⟨_, rfl, ?_, Hid.out HBL⟩
          have := hb2.row (by rw [span_len]; exact hM2)
          rw [span_len] at this
          exact this
    · have hMn : (M : Int) = n := by omega
      rw [hMn] at hmk
      subst hMn
      clear hMz
      go_enter Try.func22, Try.ntmps22
      go_wp2
      go_loopw [8, 15] (fun x8 x15 wr => ∃ (k : Nat), k ≤ M ∧ x15 = .int .i64 (k : Int) ∧ Brow wr w.heap.size (s.span a k ++ List.replicate (M - k) 0) ∧ Below w.heap.size w wr) (fun x8 x15 _ => M - (intOf x15).toNat)
      case atStart => exact ⟨0, by omega, rfl, Hid.out HB, (Below.refl _ w).alloc (Nat.le_refl _) _⟩
      case round =>
        obtain ⟨k, hk, rfl, hbr, hbel⟩ := hrel
        have HBR := hidden hbr
        have HBL := hidden hbel
        by_cases hkM : k < M
        · have hkM2 : (k : Int) < (M : Int) := by omega
          have H28 := hidden (peek_any wr s (wrapAt a k) ((Hid.out H).later hbel) (wrapAt_lt _ _))
          rw [show ((wrapAt a k : Nat) : Int) = ((a : Int) + (k : Int)) % 4294967296 by unfold wrapAt; omega] at H28
          have hcl : k < (s.span a k ++ List.replicate (M - k) 0).length := by rw [List.length_append, span_len, List.length_replicate]; omega
          have HC : Hid (∀ m, ∃ y, (wr.drewN m).cell? ⟨w.heap.size, k, none⟩ = some (.int .u8 y) ∧ (wr.drewN m).frozen? ⟨w.heap.size, k, none⟩ = false) := fun m => ⟨_, hbr.cell hcl, frozen_of_row _ _ _ _ _ hbr⟩
          have HN : Hid (∀ m, Brow ((wr.drewN m).setCell ⟨w.heap.size, k, none⟩ (.int .u8 ((s.get (wrapAt a k)).toNat : Int))) w.heap.size (s.span a (k + 1) ++ List.replicate (M - (k + 1)) 0)) := fun m => by
            have := Brow.set (w := wr.drewN m) hbr hcl (s.get (wrapAt a k))
            rw [span_set s a k M hkM] at this
            exact this
          clear hbr hbel
          generalize (s.get (wrapAt a k)).toNat = x at H28 HN
          go_wp2_with (go_at_call 50; with_reducible refine (Hid.out H28).mono ?_; rintro e w1 ⟨rfl, m, hww⟩; rw [hww]; obtain ⟨y, hc1, hc2⟩ := Hid.out HC m; clear hww w1)
          go_roundw
          case rel => exact ⟨k + 1, by omega, by simp, Hid.out HN _, (below_drewN (Hid.out HBL) _).setCell (p := ⟨w.heap.size, k, none⟩) (Nat.le_refl _) _⟩
          case measure => simp [intOf]; omega
        · have hkM2 : ¬ (k : Int) < (M : Int) := by omega
          obtain rfl : k = M := by omega
          clear hbr hbel
          go_wp2
          go_ret
          have hb2 := Hid.out HBR
          rw [Nat.sub_self, List.replicate_zero, List.append_nil] at hb2
          refine ⟨_, rfl, ?_, Hid.out HBL⟩
          have := hb2.row (by rw [span_len]; exact hM2)
          rw [span_len] at this
          exact this
end Go.Proofs.Ytodoenimlhldjaa
