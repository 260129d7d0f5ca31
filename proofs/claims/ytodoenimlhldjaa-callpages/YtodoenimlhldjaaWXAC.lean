/- A region, its promises about what was waited for, and what holds by what is done. -/
import Derived.Test.YtodoenimlhldjaaWMAT
import Derived.Test.YtodoenimlhldjaaWMAU
import Derived.Test.YtodoenimlhldjaaWXAA
import Derived.Test.YtodoenimlhldjaaWXAD
import Derived.Laws.BitsAllLaws
namespace Go.Proofs.Ytodoenimlhldjaa
open Go.ChangeShapes Go.WideShapes Go.ChangeAt Go.RowKit
set_option linter.unusedVariables false
section
variable {P : Program} {md : Region.Mode}
theorem wpAny_di {R : World → World → Prop} (hR : Later R) {ops : Array Oper} {Q : Exit → Act → World → Prop} {F : List Value → Act} {Φ : Nat → List Value → World → Prop} {I : (Nat → Bool) → World → Prop} {w0 : World} (hb : edgesB md ops = true)
    (hmono : ∀ i j xs v w w', Φ i xs w → R w w' → j ≠ i → waitsB md ops i j = false → Φ i (xs.set j v) w')
    (hstep : ∀ j, j < ops.size → ∀ (D : Nat → Bool) xs w, xs.length = ops.size → R w0 w → D j = false → I D w → (∀ i, waitsB md ops j i = true → Φ i xs w) →
      wpOp P ops Q j (fun a' w' => ∃ v, a' = F (xs.set j v) ∧ Φ j (xs.set j v) w' ∧ R w w' ∧ I (fun i => if i = j then true else D i) w') (F xs) w)
    (hfin : ∀ (D : Nat → Bool) xs w, xs.length = ops.size → R w0 w → (∀ i, i < ops.size → D i = true) → I D w → (∀ i, i < ops.size → Φ i xs w) → Q .normal (F xs) w) :
    ∀ (fuel : Nat) (L : Array Bool) (xs : List Value) (w : World), L.size = ops.size → xs.length = ops.size → R w0 w → I (fun i => L.getD i false) w → (∀ i, L.getD i false = true → Φ i xs w) → (∀ i j, L.getD i false = true → waitsB md ops i j = true → L.getD j false = true) → L.toList.count false ≤ fuel → wpAny P md ops Q fuel L (F xs) w := by
  intro fuel
  induction fuel with
  | zero =>
    intro L xs w h1 h2 hB hI hΦ hcl hc
    have hno : Region.ready md ops L = [] := by
      rw [List.eq_nil_iff_forall_not_mem]
      intro i hi
      obtain ⟨hl, o, ho, _⟩ := mem_ready.1 hi
      have hlt : i < L.size := by have := (Array.getElem?_eq_some_iff.1 ho).1; omega
      have hf : L.toList[i]? = some false := by
        simp [Array.getElem?_eq_getElem hlt] at hl ⊢
        exact hl
      have := count_up L.toList i hf
      omega
    exact ⟨hno, hfin _ xs w h2 hB (fun i hi => all_up hb h1 hno i hi) hI fun i hi => hΦ i (all_up hb h1 hno i hi)⟩
  | succ fuel ih =>
    intro L xs w h1 h2 hB hI hΦ hcl hc
    refine ⟨fun hno => hfin _ xs w h2 hB (fun i hi => all_up hb h1 hno i hi) hI fun i hi => hΦ i (all_up hb h1 hno i hi), fun i hi => ?_⟩
    obtain ⟨hl, o, ho, hall⟩ := mem_ready.1 hi
    have hlt : i < L.size := by have := (Array.getElem?_eq_some_iff.1 ho).1; omega
    have hw : ∀ k, waitsB md ops i k = true → L.getD k false = true := by
      intro k hk
      simp only [waitsB, ho] at hk
      obtain ⟨e, he, hbb⟩ := Array.any_eq_true'.1 hk
      simp only [Bool.and_eq_true, beq_iff_eq] at hbb
      rw [← hbb.2]
      exact hall e he hbb.1
    have hlf : L.getD i false = false := by
      simp [Array.getElem?_eq_getElem hlt] at hl ⊢
      exact hl
    refine wpOp_mono ?_ (hstep i (by omega) (fun i => L.getD i false) xs w h2 hB hlf hI fun k hk => hΦ k (hw k hk))
    rintro a' w' ⟨v, rfl, hv, hB', hI'⟩
    refine ih (L.setIfInBounds i true) (xs.set i v) w' (by simpa using h1) (by simpa using h2) (hR.trans _ _ _ hB hB') ?_ ?_ ?_ ?_
    · rw [show (fun k => (L.setIfInBounds i true).getD k false) = (fun k => if k = i then true else L.getD k false) from funext fun k => by
        by_cases hik : i = k
        · subst hik
          simp [hlt]
        · rw [getD_set_ne false hik, if_neg (fun e => hik e.symm)]]
      exact hI'
    · intro k hk
      by_cases hik : i = k
      · subst hik
        exact hv
      · rw [getD_set_ne false hik] at hk
        refine hmono k i xs v w w' (hΦ k hk) hB' hik ?_
        cases hq : waitsB md ops k i with
        | false => rfl
        | true => have := hcl k i hk hq; rw [hlf] at this; exact this.symm
    · intro k j hk hj
      by_cases hij : i = j
      · subst hij
        simp [hlt]
      · rw [getD_set_ne false hij]
        by_cases hik : i = k
        · subst hik
          exact hw j hj
        · rw [getD_set_ne false hik] at hk
          exact hcl k j hk hj
    · have hf : L.toList[i]? = some false := by
        simp [Array.getElem?_eq_getElem hlt] at hl ⊢
        exact hl
      have := count_up L.toList i hf
      rw [Array.toList_setIfInBounds]
      omega
/-- The region whole, with what holds by what is done. -/
theorem wp_region_di {R : World → World → Prop} (hR : Later R) {id : Nat} {Q : Exit → Act → World → Prop} {a : Act} {w : World} {ops : Array Oper} (ds : List Nat) (n : Nat) (Φ : Nat → List Value → World → Prop) (I : (Nat → Bool) → World → Prop) (hm : P.follows .mixedOrders = true) (hb : edgesB .any ops = true) (hn : ops.size = n) (hd : ds.length = n) (hI : I (fun _ => false) w.drew)
    (hmono : ∀ i j xs v w w', Φ i xs w → R w w' → j ≠ i → waitsB .any ops i j = false → Φ i (xs.set j v) w')
    (hstep : ∀ j, j < n → ∀ (D : Nat → Bool) xs w', xs.length = n → R w w' → D j = false → I D w' → (∀ i, waitsB .any ops j i = true → Φ i xs w') →
      Runs P ops Q j (fun a' w'' => ∃ v, a' = slotsOn a ds (xs.set j v) ∧ Φ j (xs.set j v) w'' ∧ R w' w'' ∧ I (fun i => if i = j then true else D i) w'') (slotsOn a ds xs) w')
    (hfin : ∀ (D : Nat → Bool) xs w', xs.length = n → R w w' → (∀ i, i < n → D i = true) → I D w' → (∀ i, i < n → Φ i xs w') → Q .normal (slotsOn a ds xs) w') :
    (Code.region id ops true).wp P Q a w := by
  subst hn
  rw [← slotsOn_self a ds]
  refine wp_region_any hm ?_
  have hd2 : (ds.map fun d => a.tmps.toList.getD d undef).length = ops.size := by simpa using hd
  rw [slotsOn_self] at *
  refine (slotsOn_self a ds) ▸ ?_
  refine wpAny_di (F := slotsOn a ds) (Φ := Φ) (I := I) (w0 := w) hR hb hmono (fun j hj D xs w' h1 h2 h3 h4 h5 => (hstep j hj D xs w' h1 h2 h3 h4 h5).out) hfin ops.size _ _ _ (by simp) hd2 (hR.drew w) ?_ ?_ ?_ ?_
  · rw [show (fun i => (Array.replicate ops.size false).getD i false) = (fun _ => false) from funext fun i => by
      by_cases hlt : i < ops.size <;> simp [hlt]]
    exact hI
  · intro i hi
    by_cases hlt : i < ops.size <;> simp [hlt] at hi
  · intro i j hi
    by_cases hlt : i < ops.size <;> simp [hlt] at hi
  · simp
end
end Go.Proofs.Ytodoenimlhldjaa
namespace Go.Proofs.Ytodoenimlhldjaa
open Go.ChangeShapes Go.WideShapes Go.ChangeAt Go.RowKit
set_option linter.unusedVariables false
/-- The types that no memory has blocks of. -/
def U4 (T : TypeId) : Prop := T = 26 ∨ T = 38 ∨ T = 3 ∨ T = 66
theorem MemW.not_u4 {w : World} {s : MS} (h : MemW w s) {b : Nat} {cs : Array Value} {T : TypeId} (hk : Blk w b cs T) (hT : U4 T) : ¬ foot s b := by
  have hT2 : T ≠ 93 ∧ T ≠ 107 ∧ T ≠ 127 ∧ T ≠ 23 := by
    rcases hT with rfl | rfl | rfl | rfl <;> decide
  have key : ∀ cs2 T2, w.heap[b]? = some (.cells cs2 T2 (0, 0)) → T2 = T := fun cs2 T2 h2 => by
    have h3 := (show w.heap[b]? = _ from hk).symm.trans h2
    injection h3 with h3
    injection h3 with _ h3
    exact h3.symm
  rintro (rfl | rfl | ⟨k, hk2, rfl⟩ | ⟨k, hk2, rfl⟩ | hb)
  · exact hT2.1 (key _ _ h.self).symm
  · have h3 := (show w.heap[s.bm]? = _ from hk).symm.trans h.map
    simp [mapObj] at h3
  · exact hT2.2.1 (key _ _ (h.held k hk2)).symm
  · obtain ⟨n, _, _, hp⟩ := h.page k hk2
    exact hT2.2.2.1 (key _ _ hp.blk).symm
  · obtain ⟨cur, hc⟩ := h.tv_cells hb
    exact hT2.2.2.2 (key _ _ hc).symm
def GoodU (N0 : Nat) (w : World) (rd ev : Value) : Prop := Fr w N0 3 rd 0 [] ∧ Fr w N0 66 ev 0 []
theorem GoodU.mono {N0 N1 : Nat} {w : World} {rd ev : Value} (h : GoodU N0 w rd ev) (hN : N1 ≤ N0) : GoodU N1 w rd ev := ⟨h.1.mono hN, h.2.mono hN⟩
theorem GoodU.one {N0 : Nat} {w : World} {inp : ByteArray} {rd ev : Value} (h : GoodU N0 w rd ev) : (cwC inp 0 rd 0 ev).all (·.oneCell') = true := cw_one h.1.one h.2.one
/-- A call on a new world. -/
def CRes (s : MS) (V : SV) (inp : ByteArray) (gg : Int) (P : MS → Prop) (u : World) (x : Ending) (w' : World) : Prop := ∃ rd' ev', x = .returned (.tuple #[.agg V.c, .agg (cwC inp 0 rd' 0 ev'), .int .i64 gg, .int .u32 0]) ∧ GoodU u.heap.size w' rd' ev' ∧ ∃ s', Step u s w' s' ∧ P s'
/-- What the region may do: the memory turns; below N0 nothing else; states and worlds may be filled. -/
structure RU (s : MS) (V : SV) (inp : ByteArray) (N0 : Nat) (w w' : World) : Prop where
  keep : Keep (fun b => foot s b ∨ N0 ≤ b) w w'
  typ : ∀ b cs T, U4 T → Blk w b cs T → ∃ cs', Blk w' b cs' T ∧ cs'.size = cs.size ∧ (cs' = cs ∨ (T = 26 ∧ cs' = V.c) ∨ (T = 38 ∧ ∃ rd ev, cs' = cwC inp 0 rd 0 ev ∧ GoodU N0 w' rd ev))
section
variable {s : MS} {V : SV} {inp : ByteArray} {N0 : Nat}
theorem RU.same {w w' : World} (h : RU s V inp N0 w w') {b : Nat} {cs : Array Value} {T : TypeId} (hT : U4 T) (hk : Blk w b cs T) (h1 : T ≠ 26) (h2 : T ≠ 38) : Blk w' b cs T := by
  obtain ⟨cs', hb, _, e | e | e⟩ := h.typ b cs T hT hk
  · rw [← e]; exact hb
  · exact absurd e.1 h1
  · exact absurd e.1 h2
theorem RU.good {w w' : World} (h : RU s V inp N0 w w') {M : Nat} {rd ev : Value} (hg : GoodU M w rd ev) : GoodU M w' rd ev := by
  obtain ⟨⟨g, h0, e, hk⟩, g2, h02, e2, hk2⟩ := hg
  exact ⟨⟨g, h0, e, h.same (.inr (.inr (.inl rfl))) hk (by decide) (by decide)⟩, g2, h02, e2, h.same (.inr (.inr (.inr rfl))) hk2 (by decide) (by decide)⟩
theorem RU.refl (w : World) : RU s V inp N0 w w := ⟨Keep.refl _ w, fun b cs T _ h => ⟨cs, h, rfl, .inl rfl⟩⟩
theorem RU.of_below {w w' : World} (h : Below w.heap.size w w') : RU s V inp N0 w w' := ⟨Keep.of_below h, fun b cs T _ hk => ⟨cs, hk.later h, rfl, .inl rfl⟩⟩
theorem RU.of_step {w w' : World} {s' : MS} (hm : MemW w s) (h : Step w s w' s') : RU s V inp N0 w w' := ⟨h.keep.mono fun b _ hb => .inl hb, fun b cs T hT hk => ⟨cs, (h.keep.block b hk.lt (hm.not_u4 hk hT)).trans hk, rfl, .inl rfl⟩⟩
theorem later_ru : Later (RU s V inp N0) := ⟨RU.refl, fun u v w h k => ⟨h.keep.trans k.keep fun b _ hb => hb, fun b cs T hT hb => by
  obtain ⟨c1, b1, s1, e1⟩ := h.typ b cs T hT hb
  obtain ⟨c2, b2, s2, e2⟩ := k.typ b c1 T hT b1
  refine ⟨c2, b2, s2.trans s1, ?_⟩
  rcases e2 with e2 | e2 | e2
  · subst e2
    rcases e1 with e1 | e1 | ⟨eT, rd, ev, e3, hg⟩
    · exact .inl e1
    · exact .inr (.inl e1)
    · exact .inr (.inr ⟨eT, rd, ev, e3, k.good hg⟩)
  · exact .inr (.inl e2)
  · exact .inr (.inr e2)⟩, fun w => ⟨⟨rfl, rfl, rfl, Nat.le_refl _, fun _ _ _ => rfl⟩, fun b cs T _ h => ⟨cs, h, rfl, .inl rfl⟩⟩⟩
theorem ublk_eq {w : World} {b : Nat} {cs ds : Array Value} {T U : TypeId} (h1 : Blk w b cs T) (h2 : Blk w b ds U) : cs = ds ∧ T = U := by
  have h3 := (show w.heap[b]? = _ from h1).symm.trans h2
  injection h3 with h3
  injection h3 with h3 h4
  exact ⟨h3, h4⟩
theorem RU.putS {w w' : World} {b : Nat} {old : Array Value} (ho : Only b w w') (hN : N0 ≤ b) (hk : Blk w b old 26) (hs : V.c.size = old.size) (hk2 : Blk w' b V.c 26) : RU s V inp N0 w w' := ⟨(Keep.of_only ho).mono fun c _ e => .inr (by rw [e]; exact hN), fun c cs T _ hc => by
  by_cases e : c = b
  · subst e
    obtain ⟨rfl, rfl⟩ := ublk_eq hk hc
    exact ⟨_, hk2, hs, .inr (.inl ⟨rfl, rfl⟩)⟩
  · exact ⟨cs, hc.only ho e, rfl, .inl rfl⟩⟩
theorem RU.putW {w w' : World} {b : Nat} {old : Array Value} {rd ev : Value} (ho : Only b w w') (hN : N0 ≤ b) (hk : Blk w b old 38) (hs : old.size = 5) (hk2 : Blk w' b (cwC inp 0 rd 0 ev) 38) (hg : GoodU N0 w rd ev) : RU s V inp N0 w w' ∧ GoodU N0 w' rd ev := by
  have hg2 : GoodU N0 w' rd ev := by
    obtain ⟨⟨g, h0, e, hf⟩, g2, h02, e2, hf2⟩ := hg
    exact ⟨⟨g, h0, e, hf.only ho (blk_tne hf hk (by decide))⟩, g2, h02, e2, hf2.only ho (blk_tne hf2 hk (by decide))⟩
  refine ⟨⟨(Keep.of_only ho).mono fun c _ e => .inr (by rw [e]; exact hN), fun c cs T _ hc => ?_⟩, hg2⟩
  by_cases e : c = b
  · subst e
    obtain ⟨rfl, rfl⟩ := ublk_eq hk hc
    exact ⟨_, hk2, by rw [hs]; rfl, .inr (.inr ⟨rfl, rd, ev, rfl, hg2⟩)⟩
  · exact ⟨cs, hc.only ho e, rfl, .inl rfl⟩
theorem RU.sizeS {w w' : World} (h : RU s V inp N0 w w') {g m : Nat} {T : TypeId} (hT : U4 T) (hk : ∃ cs : Array Value, cs.size = m ∧ Blk w g cs T) : ∃ cs : Array Value, cs.size = m ∧ Blk w' g cs T := by
  obtain ⟨cs, hs, hk⟩ := hk
  obtain ⟨c2, h2, s2, _⟩ := h.typ g cs T hT hk
  exact ⟨c2, s2.trans hs, h2⟩
theorem RU.blkS {w w' : World} (h : RU s V inp N0 w w') {g : Nat} (hk : Blk w g V.c 26) : Blk w' g V.c 26 := by
  obtain ⟨c2, h2, s2, e | e | e⟩ := h.typ g _ _ (.inl rfl) hk
  · rw [← e]; exact h2
  · rw [← e.2]; exact h2
  · exact absurd e.1 (by decide)
theorem RU.blkW {w w' : World} (h : RU s V inp N0 w w') {g : Nat} (hk : ∃ rd ev, Blk w g (cwC inp 0 rd 0 ev) 38 ∧ GoodU N0 w rd ev) : ∃ rd ev, Blk w' g (cwC inp 0 rd 0 ev) 38 ∧ GoodU N0 w' rd ev := by
  obtain ⟨rd, ev, hk, hg⟩ := hk
  obtain ⟨c2, h2, s2, e | e | ⟨_, rd2, ev2, e, hg2⟩⟩ := h.typ g _ _ (.inr (.inl rfl)) hk
  · exact ⟨rd, ev, by rw [← e]; exact h2, h.good hg⟩
  · exact absurd e.1 (by decide)
  · exact ⟨rd2, ev2, by rw [← e]; exact h2, hg2⟩
/-- The memory, ahead of the call and behind it. -/
def MJ (s : MS) (N0 : Nat) (P : MS → Prop) (D : Nat → Bool) (w : World) : Prop := if D 4 = true then ∃ s', MemW w s' ∧ (∀ b, foot s' b → foot s b ∨ N0 ≤ b) ∧ P s' else MemW w s
theorem MJ.before {P : MS → Prop} {D : Nat → Bool} {w : World} (h : MJ s N0 P D w) (hD : D 4 = false) : MemW w s := by
  unfold MJ at h
  rw [if_neg (by rw [hD]; decide)] at h
  exact h
theorem MJ.behind {P : MS → Prop} {D : Nat → Bool} {w : World} (h : MJ s N0 P D w) (hD : D 4 = true) : ∃ s', MemW w s' ∧ (∀ b, foot s' b → foot s b ∨ N0 ≤ b) ∧ P s' := by
  unfold MJ at h
  rw [if_pos hD] at h
  exact h
theorem MJ.done {P : MS → Prop} {D : Nat → Bool} {w w' : World} {s' : MS} (hN : N0 ≤ w.heap.size) (h : Step w s w' s') (hP : P s') : MJ s N0 P (fun i => if i = 4 then true else D i) w' := by
  unfold MJ
  rw [if_pos (show (if (4 : Nat) = 4 then true else D 4) = true from rfl)]
  exact ⟨s', h.mem, fun b hb => (h.grow b hb).imp id fun e => Nat.le_trans hN e, hP⟩
theorem MJ.up {P : MS → Prop} {D : Nat → Bool} {w w' : World} {j : Nat} (h : MJ s N0 P D w) (hj : j ≠ 4) (hw : ∀ s', MemW w s' → MemW w' s') : MJ s N0 P (fun i => if i = j then true else D i) w' := by
  have e : (if (4 : Nat) = j then true else D 4) = D 4 := if_neg (fun e => hj e.symm)
  unfold MJ at h
  show (if (if (4 : Nat) = j then true else D 4) = true then ∃ s', MemW w' s' ∧ (∀ b, foot s' b → foot s b ∨ N0 ≤ b) ∧ P s' else MemW w' s)
  rw [e]
  by_cases hD : D 4 = true
  · rw [if_pos hD] at h ⊢
    obtain ⟨s', hm, hg, hp⟩ := h
    exact ⟨s', hw s' hm, hg, hp⟩
  · rw [if_neg hD] at h ⊢
    exact hw s h
theorem MJ.stay {P : MS → Prop} {D : Nat → Bool} {w : World} {j : Nat} (h : MJ s N0 P D w) (hj : j ≠ 4) : MJ s N0 P (fun i => if i = j then true else D i) w := h.up hj fun _ hm => hm
theorem MJ.later {P : MS → Prop} {D : Nat → Bool} {w w' : World} {j : Nat} (h : MJ s N0 P D w) (hj : j ≠ 4) (hb : Below w.heap.size w w') : MJ s N0 P (fun i => if i = j then true else D i) w' := h.up hj fun _ hm => hm.later hb
theorem MJ.only {P : MS → Prop} {D : Nat → Bool} {w w' : World} {j g : Nat} {cs : Array Value} {T : TypeId} (h : MJ s N0 P D w) (hj : j ≠ 4) (ho : Only g w w') (hk : Blk w g cs T) (hT : U4 T) : MJ s N0 P (fun i => if i = j then true else D i) w' := h.up hj fun s' hm => hm.same fun b hb => ho.block b fun e => by
  subst e
  exact hm.not_u4 hk hT hb
end
def zScI (inp : ByteArray) : Array Value := #[.string inp, .slice none 0 0, .int .i64 0, .slice none 0 0, .int .i64 0, .string ⟨#[]⟩, .int .i64 0]
end Go.Proofs.Ytodoenimlhldjaa
namespace Go.Proofs.Ytodoenimlhldjaa
open Go.ChangeShapes Go.WideShapes Go.ChangeAt Go.RowKit
set_option linter.unusedVariables false
/-- The memory of CallPages. -/
def pgP : Part4 := ⟨1879048192, [], 7, false, none, 0⟩
theorem pg_ks {s : MS} {w : World} (hm : MemW w s) (h : s.abs = memOf [pgP]) : s.ks = [1879048192] := by
  have hmem : ∀ k, k ∈ s.ks ↔ k = 1879048192 := fun k => by
    rw [mem_abs, h, bare_some pgP rfl (by decide)]
    show k = pageOf 1879048192 ↔ _
    rw [show pageOf 1879048192 = 1879048192 from rfl]
  have hnd := hm.nodup
  cases hk : s.ks with
  | nil =>
    have := (hmem 1879048192).2 rfl
    rw [hk] at this
    cases this
  | cons x l =>
    rw [hk] at hmem hnd
    have hx : x = 1879048192 := (hmem x).1 List.mem_cons_self
    cases l with
    | nil => rw [hx]
    | cons y l2 =>
      have hy : y = 1879048192 := (hmem y).1 (List.mem_cons_of_mem _ List.mem_cons_self)
      have := (List.nodup_cons.1 hnd).1
      exact absurd (by rw [hx, hy]; exact List.mem_cons_self) this
def pgAt (a j : Nat) : Nat := pageOf (wrapAt a (256 * j))
theorem pgAt_eq {a j : Nat} (ha : a < 1073741824) (hj : j < 64) : pgAt a j = pageOf a + 256 * j := by unfold pgAt wrapAt pageOf; omega
theorem pgAt_lt {a j : Nat} (ha : a < 1073741824) (hj : j < 64) : pgAt a j < 1879048192 := by
  rw [pgAt_eq ha hj]
  have := pageOf_le a
  omega
theorem pgAt_ne {a i j : Nat} (ha : a < 1073741824) (hi : i < 64) (hj : j < 64) (h : i ≠ j) : pgAt a i ≠ pgAt a j := by
  rw [pgAt_eq ha hi, pgAt_eq ha hj]
  omega
theorem moreKs_pages {a : Nat} (ha : a < 1073741824) : ∀ k, k ≤ 63 → moreKs [1879048192] 64 a k = some (1879048192 :: (List.range k).map (pgAt a))
  | 0, _ => rfl
  | k + 1, hk => by
    show (match moreKs [1879048192] 64 a k with | none => none | some l => _) = _
    rw [moreKs_pages ha k (by omega)]
    have h1 : pageOf (wrapAt a (256 * k)) ∉ 1879048192 :: (List.range k).map (pgAt a) := by
      intro h
      rcases List.mem_cons.1 h with h | h
      · have := pgAt_lt ha (show k < 64 by omega)
        unfold pgAt at this
        omega
      · obtain ⟨i, hi, e⟩ := List.mem_map.1 h
        have hi2 := List.mem_range.1 hi
        exact pgAt_ne ha (show i < 64 by omega) (show k < 64 by omega) (by omega) e
    simp only [if_neg h1]
    rw [if_pos (by simp; omega), List.range_succ, List.map_append]
    rfl
theorem moreKs_full {a : Nat} (ha : a < 1073741824) : moreKs [1879048192] 64 a 64 = none := by
  show (match moreKs [1879048192] 64 a 63 with | none => none | some l => _) = _
  rw [moreKs_pages ha 63 (by omega)]
  have h1 : pageOf (wrapAt a (256 * 63)) ∉ 1879048192 :: (List.range 63).map (pgAt a) := by
    intro h
    rcases List.mem_cons.1 h with h | h
    · have := pgAt_lt ha (show 63 < 64 by omega)
      unfold pgAt at this
      omega
    · obtain ⟨i, hi, e⟩ := List.mem_map.1 h
      have hi2 := List.mem_range.1 hi
      exact pgAt_ne ha (show i < 64 by omega) (show 63 < 64 by omega) (by omega) e
  simp only [if_neg h1]
  rw [if_neg (by simp)]
theorem moreF_at {f : AM} {a : Nat} (ha : a < 1073741824) (hf : ∀ j, j < 64 → f (pgAt a j) = none) : ∀ k, k ≤ 64 → (∀ i, i < k → moreF f a k (pgAt a i) = some (zeros, 6, false)) ∧ (∀ i, k ≤ i → i < 64 → moreF f a k (pgAt a i) = none)
  | 0, _ => ⟨fun i hi => by omega, fun i _ h2 => hf i h2⟩
  | k + 1, hk => by
    obtain ⟨h1, h2⟩ := moreF_at ha hf k (by omega)
    refine ⟨fun i hi => ?_, fun i hi h3 => ?_⟩
    · show amap (moreF f a k) (wrapAt a (256 * k)) 6 (pgAt a i) = _
      unfold amap
      by_cases e : i = k
      · subst e
        rw [if_pos (show pgAt a i = pageOf (wrapAt a (256 * i)) from rfl), h2 i (by omega) (by omega)]
        rfl
      · rw [if_neg (show ¬ pgAt a i = pageOf (wrapAt a (256 * k)) from pgAt_ne ha (by omega) (by omega) e)]
        exact h1 i (by omega)
    · show amap (moreF f a k) (wrapAt a (256 * k)) 6 (pgAt a i) = _
      unfold amap
      rw [if_neg (show ¬ pgAt a i = pageOf (wrapAt a (256 * k)) from pgAt_ne ha h3 (by omega) (by omega))]
      exact h2 i (by omega) h3
def pgS (a k : Int) : SV := { stPN 4 8 with R := (((List.replicate 32 (0 : Int)).set 2 4090).set 4 a).set 5 k }
theorem pgS_ok {a k : Int} (h1 : 0 ≤ a) (h2 : a < 4294967296) (h3 : 0 ≤ k) (h4 : k < 4294967296) : (pgS a k).ok := SV.ok_set (v := { stPN 4 8 with R := ((List.replicate 32 (0 : Int)).set 2 4090).set 4 a }) (SV.ok_set (v := { stPN 4 8 with R := (List.replicate 32 (0 : Int)).set 2 4090 }) (SV.ok_set (v := stPN 4 8) (pn_ok 4 8 (by decide) (by decide) (by decide) (by decide)) 2 4090 (by decide) (by decide)) 4 a h1 h2) 5 k h3 h4
/-- What CallPages' call does. -/
def PC (s : MS) (a k : Nat) (VR : SV) (gg : Int) (P : MS → Prop) : Prop := (64 < k ∧ VR = ansV (pgS a k) 22 1 ∧ gg = 0 ∧ ∀ t, P t → t.mb = s.mb ∧ t.ks.length = 1) ∨ (k = 64 ∧ VR = pgS a k ∧ gg = 2 ∧ ∀ t, P t → t.mb = s.mb ∧ t.ks.length = 64) ∨ (k < 64 ∧ VR = ansV (pgS a k) 0 0 ∧ gg = 0 ∧ ∀ t, P t → t.mb = s.mb ∧ t.ks.length = k + 1 ∧ ∀ i, i < k → t.perm (wrapAt a (256 * i)) = 6)
theorem pages_call {s : MS} {w0 : World} (hm0 : MemW w0 s) (h : s.abs = memOf [pgP]) (h64 : s.most = 64) {a k : Nat} (ha : a < 1073741824) (hk : k < 70) : ∃ VR gg P, VR.R.length = 32 ∧ PC s a k VR gg P ∧ ∀ (u : World) (rd : Value), MemW u s → Rw u 1 rd 0 [] → Calls Try.prog 13 #[.pointer (some ⟨s.mb, 0, none⟩), .agg (pgS a k).c, .agg (cwC ⟨#[]⟩ 0 rd 0 (.slice none 0 0))] u (CRes s VR ⟨#[]⟩ gg P u) := by
  have hks := pg_ks hm0 h
  have g2 : (pgS a k).R.getD 2 0 = 4090 := rfl
  have g4 : (pgS a k).R.getD 4 0 = (a : Int) := rfl
  have g5 : (pgS a k).R.getD 5 0 = (k : Int) := rfl
  have hok : (pgS a k).ok := pgS_ok (by omega) (by omega) (by omega) (by omega)
  have run : ∀ (VR : SV) (hVR : VR.R.length = 32) (gg : Int) (P : MS → Prop) (hc : ∀ u, MemW u s → Calls Try.prog 38 #[.pointer (some ⟨s.mb, 0, none⟩), .agg (pgS a k).c] u fun x w' => x = .returned (.tuple #[.agg VR.c, .int .i64 gg]) ∧ ∃ s', Step u s w' s' ∧ P s') (u : World) (rd : Value) (hm : MemW u s) (hr : Rw u 1 rd 0 []), Calls Try.prog 13 #[.pointer (some ⟨s.mb, 0, none⟩), .agg (pgS a k).c, .agg (cwC ⟨#[]⟩ 0 rd 0 (.slice none 0 0))] u (CRes s VR ⟨#[]⟩ gg P u) := by
    intro VR hVR gg P hc u rd hm hr
    refine (call_mr u s hm (pgS a k) hok ⟨#[]⟩ 0 0 rd (.slice none 0 0) [] [] hr (rw_nil u 2) (by decide) (by decide) g2 VR hVR P (foot s) (fun _ h => h) gg (fun u2 rd1 ev1 hb2 hs f1 f2 => (hc u2 (hm.later hb2)).mono fun x w' hx => ⟨hx.1, by obtain ⟨s', h1, h2⟩ := hx.2; exact ⟨s', h1, h1.keep, h2⟩⟩)).mono ?_
    rintro x w' ⟨rd1, ev1, e1, f1, f2, s', hs, _, hp⟩
    exact ⟨rd1, ev1, e1, ⟨f1, f2⟩, s', hs, hp⟩
  rcases (show 64 < k ∨ k = 64 ∨ k < 64 by omega) with hk1 | hk1 | hk1
  · refine ⟨ansV (pgS a k) 22 1, 0, (· = s), ansV_len hok.1 _ _, .inl ⟨hk1, rfl, rfl, fun t ht => by rw [ht]; exact ⟨rfl, by rw [hks]; rfl⟩⟩, run _ (ansV_len hok.1 _ _) _ _ fun u hu => (more_big u s hu (pgS a k) hok (by rw [g5]; omega)).mono fun x w' hx => ⟨hx.1, s, hx.2, rfl⟩⟩
  · refine ⟨pgS a k, 2, fun t => t.mb = s.mb ∧ t.ks.length = 64, hok.1, .inr (.inl ⟨hk1, rfl, rfl, fun t ht => ht⟩), run _ hok.1 _ _ fun u hu => (more_any u s hu (pgS a k) hok a k g4 g5 (by omega)).mono fun x w' hx => ?_⟩
    obtain ⟨t, j, hmk, hst, h1⟩ := hx
    have hj := hmk.ks
    rw [hks, h64] at hj
    rcases h1 with ⟨hjk, hx⟩ | ⟨hjk, herr, hx⟩
    · rw [hjk, hk1, moreKs_full ha] at hj
      cases hj
    · have hf := hmk.full herr
      rw [hks, h64] at hf
      have hj63 : j = 63 := by
        by_cases e : j = 63
        · exact e
        · rw [moreKs_pages ha (j + 1) (by omega)] at hf
          cases hf
      rw [hj63, moreKs_pages ha 63 (by omega)] at hj
      refine ⟨hx, t, hst, hmk.mb, ?_⟩
      have e := Option.some.inj hj
      rw [← e]
      simp
  · refine ⟨ansV (pgS a k) 0 0, 0, fun t => t.mb = s.mb ∧ t.ks.length = k + 1 ∧ ∀ i, i < k → t.perm (wrapAt a (256 * i)) = 6, ansV_len hok.1 _ _, .inr (.inr ⟨hk1, rfl, rfl, fun t ht => ht⟩), run _ (ansV_len hok.1 _ _) _ _ fun u hu => (more_any u s hu (pgS a k) hok a k g4 g5 (by omega)).mono fun x w' hx => ?_⟩
    obtain ⟨t, j, hmk, hst, h1⟩ := hx
    have hj := hmk.ks
    rw [hks, h64] at hj
    rcases h1 with ⟨hjk, hx⟩ | ⟨hjk, herr, hx⟩
    · subst hjk
      rw [moreKs_pages ha j (by omega)] at hj
      refine ⟨hx, t, hst, hmk.mb, ?_, fun i hi => ?_⟩
      · have e := Option.some.inj hj
        rw [← e]
        simp
      · have hf := (moreF_at (f := s.abs) ha (fun j2 hj2 => by
          refine abs_out ?_
          rw [hks]
          intro hm2
          have h3 := pgAt_lt ha hj2
          have h4 := List.mem_singleton.1 hm2
          omega) j (by omega)).1 i hi
        rw [perm_abs, hmk.abs]
        unfold pgAt at hf
        rw [hf]
    · have hf := hmk.full herr
      rw [hks, h64, moreKs_pages ha (j + 1) (by omega)] at hf
      cases hf
end Go.Proofs.Ytodoenimlhldjaa
namespace Go.Proofs.Ytodoenimlhldjaa
open Go.ChangeShapes Go.WideShapes Go.ChangeAt Go.RowKit
set_option linter.unusedVariables false
theorem exec_andU {ρ : Operand → Value} {o : Oper} {x y : Operand} {a b : Int} (hop : o.op = .binOp .and 23 x y 23) (hx : ρ x = .int .u32 a) (hy : ρ y = .int .u32 b) (w : World) : (execOp ρ o).run Try.prog w = .ok (.value (.int .u32 (bits .and .u32 a b))) w := by
  unfold execOp
  rw [hop]
  simp [hx, hy, go_sem]
theorem wpList_andU {ops : Array Oper} {rest : List Oper} {o : Oper} {a : Act} {w : World} {Q : Exit → Act → World → Prop} (hgd : o.guard = none) (x y : Operand) (ho : o.op = .binOp .and 23 x y 23) (m p z : Int) (hx : a.eval x = .int .u32 m) (hy : a.eval y = .int .u32 p) (hz : bits .and .u32 m p = z)
    (h : wpList Try.prog ops Q rest (a.put o.dst (.int .u32 z)) w) : wpList Try.prog ops Q (o :: rest) a w := by
  subst hz
  exact Great.wpList_runTo hgd o.dst rfl (.int .u32 (bits .and .u32 m p)) w (exec_andU ho hx hy w) h
theorem wpList_loadVp {ops : Array Oper} {rest : List Oper} {o : Oper} {a : Act} {w : World} {Q : Exit → Act → World → Prop} (hw : Region.wanted o (yielded ops a.tmps) = true) (x : Operand) (ho : o.op = .load 26 x)
    (g : Nat) (s : SV) (hx : a.eval x = .pointer (some ⟨g, 0, none⟩)) (hg : Blk w g s.c 26) (hs : s.R.length = 32)
    (h : wpList Try.prog ops Q rest (a.put o.dst (.agg s.c)) w) : wpList Try.prog ops Q (o :: rest) a w :=
  BigFrame.wpList_want hw fun K hK => wp_load_row 26 x ho g hx 26 s.c (0, 0) _ hg Try.underlying26 rfl (by rw [SV.size hs]; exact sizeSV) (hK _ _ h)
def nilB : ByteArray := ⟨#[]⟩
/-- What the end looks at. -/
structure WZ (w : World) (s : MS) (n g10 : Nat) (WS VR : SV) : Prop where
  a : Blk w g10 VR.c 26
  b : Blk w n WS.c 26
  m : MemW w s
theorem WZ.later {w w' : World} {s : MS} {n g10 : Nat} {WS VR : SV} (h : WZ w s n g10 WS VR) (hb : Below w.heap.size w w') : WZ w' s n g10 WS VR := ⟨h.a.later hb, h.b.later hb, h.m.later hb⟩
theorem and_mask (x : Nat) (hx : x < 4294967296) : ∃ a : Nat, a < 1073741824 ∧ bits .and .u32 (x : Int) 1073741823 = (a : Int) := by
  refine ⟨x % 1073741824, Nat.mod_lt _ (by decide), ?_⟩
  rw [u32_and (x : Int) 1073741823 (by omega) (by omega) (by omega) (by omega)]
  have h := Nat.and_two_pow_sub_one_eq_mod x 30
  simp at h
  simp [h]
/-- What the slots of the region hold, whatever the order. -/
def phiWp7 (s : MS) (inp : ByteArray) (mb N0 : Nat) (gg : Int) (WS VR : SV) : Nat → Value → World → Prop
  | 0, x, _ => x = .pointer (some ⟨mb, 0, none⟩)
  | 1, x, _ => x = .agg (SV.c WS)
  | 2, x, _ => x = .agg (zScI inp)
  | 3, x, w => ∃ rd1, x = .agg (cwC inp 0 rd1 0 (.slice none 0 0)) ∧ Rw w 1 rd1 0 []
  | 4, x, w => ∃ rd1 ev1, x = .tuple #[.agg VR.c, .agg (cwC inp 0 rd1 0 ev1), .int .i64 gg, .int .u32 0] ∧ GoodU N0 w rd1 ev1
  | 5, x, w => ∃ rd1 ev1, x = .tuple #[.agg VR.c, .agg (cwC inp 0 rd1 0 ev1), .int .i64 gg, .int .u32 0] ∧ GoodU N0 w rd1 ev1
  | 6, x, _ => x = .agg (SV.c VR)
  | 7, x, w => ∃ rd1 ev1, x = .agg (cwC inp 0 rd1 0 ev1) ∧ GoodU N0 w rd1 ev1
  | 8, x, _ => x = .int .i64 gg
  | 9, x, _ => x = .int .u32 0
  | 10, x, w => ∃ g, x = .pointer (some ⟨g, 0, none⟩) ∧ N0 ≤ g ∧ ∃ cs : Array Value, cs.size = (SV.c VR).size ∧ Blk w g cs 26
  | 11, x, w => ∃ g, x = .pointer (some ⟨g, 0, none⟩) ∧ N0 ≤ g ∧ ∃ cs : Array Value, cs.size = 5 ∧ Blk w g cs 38
  | 12, x, w => True
  | 13, x, w => True
  | 14, x, _ => x = .int .i64 gg
  | 15, x, _ => x = .int .u32 0
  | _ + 16, _, _ => True
theorem phiWp7_mono (s : MS) (inp : ByteArray) (mb N0 : Nat) (gg : Int) (WS VR : SV) : ∀ i x w w', phiWp7 s inp mb N0 gg WS VR i x w → RU s VR inp N0 w w' → phiWp7 s inp mb N0 gg WS VR i x w'
  | 0, _, _, _, h, _ => h
  | 1, _, _, _, h, _ => h
  | 2, _, _, _, h, _ => h
  | 3, x, w, w', h, hb => by obtain ⟨rd1, e, h1⟩ := h; exact ⟨rd1, e, rw_nil_any h1⟩
  | 4, x, w, w', h, hb => by obtain ⟨rd1, ev1, e, h1⟩ := h; exact ⟨rd1, ev1, e, hb.good h1⟩
  | 5, x, w, w', h, hb => by obtain ⟨rd1, ev1, e, h1⟩ := h; exact ⟨rd1, ev1, e, hb.good h1⟩
  | 6, _, _, _, h, _ => h
  | 7, x, w, w', h, hb => by obtain ⟨rd1, ev1, e, h1⟩ := h; exact ⟨rd1, ev1, e, hb.good h1⟩
  | 8, _, _, _, h, _ => h
  | 9, _, _, _, h, _ => h
  | 10, x, w, w', h, hb => by obtain ⟨g, e, h0, h1⟩ := h; exact ⟨g, e, h0, hb.sizeS (.inl rfl) h1⟩
  | 11, x, w, w', h, hb => by obtain ⟨g, e, h0, h1⟩ := h; exact ⟨g, e, h0, hb.sizeS (.inr (.inl rfl)) h1⟩
  | 12, x, w, w', h, hb => trivial
  | 13, x, w, w', h, hb => trivial
  | 14, _, _, _, h, _ => h
  | 15, _, _, _, h, _ => h
  | _ + 16, _, _, _, _, _ => trivial
theorem lstWp7 : ∀ xs : List Value, xs.length = 16 → ∃ x0 x1 x2 x3 x4 x5 x6 x7 x8 x9 x10 x11 x12 x13 x14 x15, xs = [x0, x1, x2, x3, x4, x5, x6, x7, x8, x9, x10, x11, x12, x13, x14, x15]
  | [x0, x1, x2, x3, x4, x5, x6, x7, x8, x9, x10, x11, x12, x13, x14, x15], _ => ⟨_, _, _, _, _, _, _, _, _, _, _, _, _, _, _, _, rfl⟩
def PhiWp7 (s : MS) (inp : ByteArray) (mb N0 : Nat) (gg : Int) (WS VR : SV) (i : Nat) (xs : List Value) (w : World) : Prop := (i = 12 → ∃ g, xs.getD 10 undef = .pointer (some ⟨g, 0, none⟩) ∧ Blk w g VR.c 26) ∧ (i = 13 → ∃ g, xs.getD 11 undef = .pointer (some ⟨g, 0, none⟩) ∧ ∃ rd ev, Blk w g (cwC inp 0 rd 0 ev) 38 ∧ GoodU N0 w rd ev) ∧ phiWp7 s inp mb N0 gg WS VR i (xs.getD i undef) w
theorem PhiWp7_mono (s : MS) (inp : ByteArray) (mb N0 : Nat) (gg : Int) (WS VR : SV) (i j : Nat) (xs : List Value) (u : Value) (w w' : World) (h : PhiWp7 s inp mb N0 gg WS VR i xs w) (hr : RU s VR inp N0 w w') (hj : j ≠ i) (h12 : i = 12 → j ≠ 10) (h13 : i = 13 → j ≠ 11) : PhiWp7 s inp mb N0 gg WS VR i (xs.set j u) w' := by
  refine ⟨fun e => ?_, fun e => ?_, ?_⟩
  · obtain ⟨g, hx, hk⟩ := h.1 e
    exact ⟨g, (getD_other (h12 e)).trans hx, hr.blkS hk⟩
  · obtain ⟨g, hx, hk⟩ := h.2.1 e
    exact ⟨g, (getD_other (h13 e)).trans hx, hr.blkW hk⟩
  · rw [getD_other hj]
    exact phiWp7_mono s inp mb N0 gg WS VR i _ w w' h.2.2 hr
theorem PhiWp7_of {s : MS} {inp : ByteArray} {mb N0 : Nat} {gg : Int} {WS VR : SV} {i : Nat} {xs : List Value} {u : Value} {w : World} (hl : xs.length = 16) (hi : i < 16) (h12 : i ≠ 12) (h13 : i ≠ 13) (h : phiWp7 s inp mb N0 gg WS VR i u w) : PhiWp7 s inp mb N0 gg WS VR i (xs.set i u) w := ⟨fun e => absurd e h12, fun e => absurd e h13, by
  rw [List.getD_eq_getElem?_getD, List.getElem?_set_self (by omega), Option.getD_some]
  exact h⟩
set_option maxRecDepth 20000 in
set_option maxHeartbeats 3000000 in
theorem pages_walk (w : World) (x y : Nat) (hx : x < 4294967296) (hy : y < 4294967296) : Calls Try.prog 6 #[.int .u32 (x : Int), .int .u32 (y : Int)] w fun e w' => e = .returned (.bool true) ∧ Below w.heap.size w w' := by
  obtain ⟨wb, hwb⟩ : ∃ wb, w.alloc (.cells #[.int .u32 1879048192, .slice none 0 0, .int .i64 7, .bool false] 52) = wb := ⟨_, rfl⟩
  obtain ⟨pn, hpn⟩ : ∃ pn, w.heap.size = pn := ⟨_, rfl⟩
  have hpb : Pieces wb (some ⟨pn, 0, none⟩) [pgP] := by rw [← hwb, ← hpn]; exact piece_new w 1879048192 (by omega) none [] 0 7 false (Row.none w)
  have HBB : Hid (Below w.heap.size w wb) := hidden (by rw [← hwb]; exact below_new w _)
  have HME := hidden (memory_any wb (some ⟨pn, 0, none⟩) 1 [pgP] hpb (by decide) (fun p hp => by rw [List.mem_singleton.1 hp]; exact (show ([] : List UInt8).length ≤ 600 by decide)))
  have HBP := hidden (buildPN 4 8)
  obtain ⟨k, hk⟩ : ∃ k : Nat, ((y : Int)).tmod 70 = (k : Int) := ⟨y % 70, by rw [Int.tmod_eq_emod_of_nonneg (by omega)]; omega⟩
  have hk70 : k < 70 := by
    have h := hk
    rw [Int.tmod_eq_emod_of_nonneg (by omega)] at h
    omega
  obtain ⟨a, ha, hand⟩ := and_mask x hx
  have HAND := hidden hand
  have HA := hidden ha
  clear hand ha hpb
  go_enter Try.func6, Try.ntmps6
  go_upto_region 5 with (first | (go_at_call 11; refine HME.out.mono ?_; rintro e w1 ⟨s, rfl, hown, habs, h64, h32, hts, hcc⟩; have HO := hidden hown; have HAB := hidden habs; have H64 := hidden h64; clear hown habs h64 h32 hts hcc))
  obtain ⟨n, hn⟩ : ∃ n, w1.heap.size = n := ⟨_, rfl⟩
  obtain ⟨V0, hV0⟩ : ∃ V0, stPN 4 8 = V0 := ⟨_, rfl⟩
  have HV0 : Hid (V0.R.length = 32) := hidden (by rw [← hV0]; rfl)
  have HVA : Hid ({ V0 with R := ((V0.R.set 2 4090).set 4 (a : Int)).set 5 (k : Int) } = pgS a k) := hidden (by rw [← hV0]; rfl)
  have HV2 : Hid ((V0.R.set 2 4090).length = 32) := hidden (by rw [← hV0]; rfl)
  have HV4 : Hid (((V0.R.set 2 4090).set 4 (a : Int)).length = 32) := hidden (by rw [← hV0]; rfl)
  rw [hV0] at HBP
  clear hV0
  have hi2 : ∀ u, (Instr.indexAt 24 (.pointer (some ⟨n, 0, none⟩)) (.int .i64 2)).run Try.prog u = .ok (.pointer (some ⟨n, 2, none⟩)) u := fun u => index_reg n 2 (by omega) u
  have hi4 : ∀ u, (Instr.indexAt 24 (.pointer (some ⟨n, 0, none⟩)) (.int .i64 4)).run Try.prog u = .ok (.pointer (some ⟨n, 4, none⟩)) u := fun u => index_reg n 4 (by omega) u
  have hi5 : ∀ u, (Instr.indexAt 24 (.pointer (some ⟨n, 0, none⟩)) (.int .i64 5)).run Try.prog u = .ok (.pointer (some ⟨n, 5, none⟩)) u := fun u => index_reg n 5 (by omega) u
  have L26 : Hid (2 < 32 ∧ 4 < 32 ∧ 5 < 32) := hidden (by decide)
  go_upto_region 6 with (first
    | (refine wpList_buildJ HBP.out rfl rfl ?_)
    | (refine wpList_allocV rfl rfl ?_; rintro w2 k2 s2 b2; rw [hn] at k2 s2 b2 ⊢; have K2 := hidden k2; have B2 := hidden b2; clear k2 s2 b2)
    | (refine wpList_storeV rfl rfl _ _ rfl n SV.zero V0 rfl rfl K2.out rfl HV0.out ?_; rintro w3 k3 o3; have K3 := hidden k3; have B3 := hidden (Below.only B2.out o3 (Nat.le_refl n)); clear k3 o3 K2 B2))
  go_upto_region 7 with (first
    | (refine wpList_andU rfl _ _ rfl (x : Int) 1073741823 (a : Int) rfl rfl HAND.out ?_)
    | (refine wpList_setR rfl rfl _ _ rfl n 2 V0 4090 rfl rfl K3.out HV0.out L26.out.1 ?_; rintro w4 k4 o4; have K4 := hidden k4; have B4 := hidden (Below.only B3.out o4 (Nat.le_refl n)); clear k4 o4 K3 B3)
    | (refine wpList_setR rfl rfl _ _ rfl n 4 { V0 with R := V0.R.set 2 4090 } (a : Int) rfl rfl K4.out HV2.out L26.out.2.1 ?_; rintro w5 k5 o5; have K5 := hidden k5; have B5 := hidden (Below.only B4.out o5 (Nat.le_refl n)); clear k5 o5 K4 B4)
    | (refine wpList_setR rfl rfl _ _ rfl n 5 { V0 with R := (V0.R.set 2 4090).set 4 (a : Int) } (k : Int) rfl rfl K5.out HV4.out L26.out.2.2 ?_; rintro wq k6 o6; rw [HVA.out] at k6; have KQ := hidden k6; have BQ := hidden (Below.only B5.out o6 (Nat.le_refl n)); clear k6 o6 K5 B5))
  obtain ⟨VR, gg, PP, hVR, hPC, hcall⟩ := pages_call HO.out.mem HAB.out H64.out HA.out hk70
  have HPC := hidden hPC
  have HCALL0 := hidden hcall
  have HVR := hidden hVR
  clear hVR hPC hcall
  obtain ⟨WS, hWS⟩ : ∃ WS, pgS a k = WS := ⟨_, rfl⟩
  have HWS := hidden hWS
  have HVL : Hid (WS.R.length = 32) := hidden (by rw [← hWS]; rfl)
  have HSZ : Hid (SV.zero.c.size = (SV.c VR).size) := hidden (by rw [SV.size HVR.out]; rfl)
  have HSV : Hid ((Try.prog.info? 26).map (·.size) = some (SV.c VR).size) := hidden (by rw [SV.size HVR.out]; exact sizeSV)
  have HMI := hidden (HO.out.mem.later (by rw [hn]; exact BQ.out))
  rw [hWS] at KQ HCALL0
  have KV := KQ
  have HVN : Hid (¬ (foot s n ∨ wq.heap.size ≤ n)) := hidden (fun h => h.elim (fun h => HMI.out.not_u4 KV.out (.inl rfl) h) (fun h => by have := KV.out.lt; omega))
  have HFW : Hid (∀ b, foot s b → w.heap.size ≤ b) := hidden (fun b hb => Nat.le_trans HBB.out.size (HO.out.foot b hb))
  have HWN : Hid (w.heap.size ≤ n) := hidden (by rw [← hn]; exact Nat.le_trans HBB.out.size HO.out.below.size)
  have HWQ := hidden (HBB.out.trans ((HO.out.below.mono HBB.out.size).trans (show Below w.heap.size w1 wq from BQ.out.mono HWN.out)))
  obtain ⟨mb, hmb⟩ : ∃ mb, s.mb = mb := ⟨_, rfl⟩
  have HMB := hidden hmb
  have HCALL : Hid (∀ (u : World) (rd : Value), MemW u s → Rw u 1 rd 0 [] → Calls Try.prog 13 #[.pointer (some ⟨mb, 0, none⟩), .agg WS.c, .agg (cwC nilB 0 rd 0 (.slice none 0 0))] u (CRes s VR nilB gg PP u)) := hidden (by rw [← hmb]; exact HCALL0.out)
  rw [hmb]
  clear hWS hmb HCALL0 KQ HME HAB HV0 HVA HV2 HV4 HBP L26 hi2 hi4 hi5 H64 hk hwb hpn
  refine wp_region_di (later_ru (s := s) (V := VR) (inp := nilB) (N0 := wq.heap.size)) [31, 32, 33, 34, 35, 30, 36, 37, 38, 39, 8, 9, 1012, 1013, 10, 11] 16 (PhiWp7 s nilB mb wq.heap.size gg WS VR) (MJ s wq.heap.size PP) (by kernel_rfl) (by kernel_rfl) rfl rfl (show MemW wq.drew s from HMI.out.drewN 1) (fun i j xs v u u' h hr hj hw => PhiWp7_mono s nilB mb wq.heap.size gg WS VR i j xs v u u' h hr hj (fun e e2 => by subst e e2; exact absurd (hw.symm.trans (by kernel_rfl)) Bool.false_ne_true) (fun e e2 => by subst e e2; exact absurd (hw.symm.trans (by kernel_rfl)) Bool.false_ne_true)) ?_ ?_
  · intro j hj D xs w3 hxs hR hD hI hpre
    obtain ⟨x0, x1, x2, x3, x4, x5, x6, x7, x8, x9, x10, x11, x12, x13, x14, x15, rfl⟩ := lstWp7 xs hxs
    have hN3 : wq.heap.size ≤ w3.heap.size := hR.keep.size
    rcases (show j = 0 ∨ j = 1 ∨ j = 2 ∨ j = 3 ∨ j = 4 ∨ j = 5 ∨ j = 6 ∨ j = 7 ∨ j = 8 ∨ j = 9 ∨ j = 10 ∨ j = 11 ∨ j = 12 ∨ j = 13 ∨ j = 14 ∨ j = 15 by omega) with rfl | rfl | rfl | rfl | rfl | rfl | rfl | rfl | rfl | rfl | rfl | rfl | rfl | rfl | rfl | rfl
    · exact wpOp_run (.pointer (some ⟨mb, 0, none⟩)) rfl (by kernel_rfl) (exec_move rfl (by kernel_rfl) w3) ⟨_, by kernel_rfl, PhiWp7_of hxs (by decide) (by decide) (by decide) rfl, RU.refl _, hI.stay (by decide)⟩
    · exact wpOp_run (.agg (SV.c WS)) rfl (by kernel_rfl) (exec_load 26 rfl (by kernel_rfl) w3 (loadSt ((hR.keep.block _ KV.out.lt HVN.out).trans KV.out) HVL.out)) ⟨_, by kernel_rfl, PhiWp7_of hxs (by decide) (by decide) (by decide) rfl, RU.refl _, hI.stay (by decide)⟩
    · exact wpOp_run (.agg (zScI nilB)) rfl (by kernel_rfl) (by kernel_rfl) ⟨_, by kernel_rfl, PhiWp7_of hxs (by decide) (by decide) (by decide) rfl, RU.refl _, hI.stay (by decide)⟩
    · have e2 : x2 = .agg (zScI nilB) := (hpre 2 (by kernel_rfl)).2.2
      subst e2
      refine wpOp_callR (R := fun u w4 => (∃ rd1, u = .agg (cwC nilB 0 rd1 0 (.slice none 0 0)) ∧ Rw w4 1 rd1 0 []) ∧ Below w3.heap.size w3 w4) 21 #[.agg (zScI nilB)] rfl (by kernel_rfl) (by kernel_rfl) ((cnew_any w3 (zScI nilB) nilB (.slice none 0 0) [] rfl rfl rfl (rw_nil w3 1) (by decide)).mono fun x w4 h => by obtain ⟨rd1, hx, hf, hb⟩ := h; exact ⟨_, hx, ⟨rd1, rfl, hf.rw (cI_len [])⟩, hb⟩) ?_
      rintro u w4 ⟨hu, hb4⟩
      exact ⟨_, by kernel_rfl, PhiWp7_of hxs (by decide) (by decide) (by decide) hu, RU.of_below hb4, hI.later (by decide) hb4⟩
    · have e0 : x0 = .pointer (some ⟨mb, 0, none⟩) := (hpre 0 (by kernel_rfl)).2.2
      subst e0
      have e1 : x1 = .agg (SV.c WS) := (hpre 1 (by kernel_rfl)).2.2
      subst e1
      obtain ⟨rd3, e3, f3⟩ : ∃ rd1, x3 = .agg (cwC nilB 0 rd1 0 (.slice none 0 0)) ∧ Rw w3 1 rd1 0 [] := (hpre 3 (by kernel_rfl)).2.2
      subst e3
      refine wpOp_callR (R := fun u w4 => (∃ rd1 ev1, u = .tuple #[.agg VR.c, .agg (cwC nilB 0 rd1 0 ev1), .int .i64 gg, .int .u32 0] ∧ GoodU wq.heap.size w4 rd1 ev1) ∧ ∃ s2, Step w3 s w4 s2 ∧ PP s2) 13 #[.pointer (some ⟨mb, 0, none⟩), .agg (SV.c WS), .agg (cwC nilB 0 rd3 0 (.slice none 0 0))] rfl (by kernel_rfl) (by kernel_rfl) ((HCALL.out w3 rd3 (hI.before hD) f3).mono fun x w4 h => by obtain ⟨rd1, ev1, hx, hg, hs⟩ := h; exact ⟨_, hx, ⟨rd1, ev1, rfl, hg.mono hN3⟩, hs⟩) ?_
      rintro u w4 ⟨hu, s2, hst, hpp⟩
      exact ⟨_, by kernel_rfl, PhiWp7_of hxs (by decide) (by decide) (by decide) hu, RU.of_step (hI.before hD) hst, MJ.done hN3 hst hpp⟩
    · obtain ⟨rd4, ev4, e4, f4⟩ : ∃ rd1 ev1, x4 = .tuple #[.agg VR.c, .agg (cwC nilB 0 rd1 0 ev1), .int .i64 gg, .int .u32 0] ∧ GoodU wq.heap.size w3 rd1 ev1 := (hpre 4 (by kernel_rfl)).2.2
      subst e4
      exact wpOp_run (.tuple #[.agg VR.c, .agg (cwC nilB 0 rd4 0 ev4), .int .i64 gg, .int .u32 0]) rfl (by kernel_rfl) (exec_move rfl (by kernel_rfl) w3) ⟨_, by kernel_rfl, PhiWp7_of hxs (by decide) (by decide) (by decide) ⟨rd4, ev4, rfl, f4⟩, RU.refl _, hI.stay (by decide)⟩
    · obtain ⟨rd5, ev5, e5, f5⟩ : ∃ rd1 ev1, x5 = .tuple #[.agg VR.c, .agg (cwC nilB 0 rd1 0 ev1), .int .i64 gg, .int .u32 0] ∧ GoodU wq.heap.size w3 rd1 ev1 := (hpre 5 (by kernel_rfl)).2.2
      subst e5
      exact wpOp_run (.agg (SV.c VR)) rfl (by kernel_rfl) (by kernel_rfl) ⟨_, by kernel_rfl, PhiWp7_of hxs (by decide) (by decide) (by decide) rfl, RU.refl _, hI.stay (by decide)⟩
    · obtain ⟨rd5, ev5, e5, f5⟩ : ∃ rd1 ev1, x5 = .tuple #[.agg VR.c, .agg (cwC nilB 0 rd1 0 ev1), .int .i64 gg, .int .u32 0] ∧ GoodU wq.heap.size w3 rd1 ev1 := (hpre 5 (by kernel_rfl)).2.2
      subst e5
      exact wpOp_run (.agg (cwC nilB 0 rd5 0 ev5)) rfl (by kernel_rfl) (by kernel_rfl) ⟨_, by kernel_rfl, PhiWp7_of hxs (by decide) (by decide) (by decide) ⟨rd5, ev5, rfl, f5⟩, RU.refl _, hI.stay (by decide)⟩
    · obtain ⟨rd5, ev5, e5, f5⟩ : ∃ rd1 ev1, x5 = .tuple #[.agg VR.c, .agg (cwC nilB 0 rd1 0 ev1), .int .i64 gg, .int .u32 0] ∧ GoodU wq.heap.size w3 rd1 ev1 := (hpre 5 (by kernel_rfl)).2.2
      subst e5
      exact wpOp_run (.int .i64 gg) rfl (by kernel_rfl) (by kernel_rfl) ⟨_, by kernel_rfl, PhiWp7_of hxs (by decide) (by decide) (by decide) rfl, RU.refl _, hI.stay (by decide)⟩
    · obtain ⟨rd5, ev5, e5, f5⟩ : ∃ rd1 ev1, x5 = .tuple #[.agg VR.c, .agg (cwC nilB 0 rd1 0 ev1), .int .i64 gg, .int .u32 0] ∧ GoodU wq.heap.size w3 rd1 ev1 := (hpre 5 (by kernel_rfl)).2.2
      subst e5
      exact wpOp_run (.int .u32 0) rfl (by kernel_rfl) (by kernel_rfl) ⟨_, by kernel_rfl, PhiWp7_of hxs (by decide) (by decide) (by decide) rfl, RU.refl _, hI.stay (by decide)⟩
    · exact wpOp_run (.pointer (some ⟨w3.heap.size, 0, none⟩)) rfl (by kernel_rfl) (zeroS_run rfl w3) ⟨_, by kernel_rfl, PhiWp7_of hxs (by decide) (by decide) (by decide) ⟨_, rfl, hN3, SV.zero.c, HSZ.out, Blk.new w3 _ _⟩, RU.of_below (below_new w3 _), hI.later (by decide) (below_new w3 _)⟩
    · exact wpOp_run (.pointer (some ⟨w3.heap.size, 0, none⟩)) rfl (by kernel_rfl) (zeroC_run rfl w3) ⟨_, by kernel_rfl, PhiWp7_of hxs (by decide) (by decide) (by decide) ⟨_, rfl, hN3, zCw, rfl, Blk.new w3 _ _⟩, RU.of_below (below_new w3 _), hI.later (by decide) (below_new w3 _)⟩
    · have e6 : x6 = .agg (SV.c VR) := (hpre 6 (by kernel_rfl)).2.2
      subst e6
      obtain ⟨g10, e10, o10, c10, s10, f10⟩ : ∃ g, x10 = .pointer (some ⟨g, 0, none⟩) ∧ wq.heap.size ≤ g ∧ ∃ cs : Array Value, cs.size = (SV.c VR).size ∧ Blk w3 g cs 26 := (hpre 10 (by kernel_rfl)).2.2
      subst e10
      exact wpOp_put rfl (by kernel_rfl) (exec_storeG (g := g10) (cs := SV.c VR) (old := c10) rfl (by kernel_rfl) (by kernel_rfl) w3 f10 HSV.out s10 (SV.one _)) ⟨.bool true, by kernel_rfl, ⟨fun _ => ⟨g10, rfl, setRow_heap w3 g10 c10 _ 26 (0, 0) f10⟩, fun e => absurd e (by decide), trivial⟩, RU.putS (only_rowV w3 g10 _) o10 f10 s10.symm (setRow_heap w3 g10 c10 _ 26 (0, 0) f10), hI.only (by decide) (only_rowV w3 g10 _) f10 (.inl rfl)⟩
    · obtain ⟨rd7, ev7, e7, f7⟩ : ∃ rd1 ev1, x7 = .agg (cwC nilB 0 rd1 0 ev1) ∧ GoodU wq.heap.size w3 rd1 ev1 := (hpre 7 (by kernel_rfl)).2.2
      subst e7
      obtain ⟨g11, e11, o11, c11, s11, f11⟩ : ∃ g, x11 = .pointer (some ⟨g, 0, none⟩) ∧ wq.heap.size ≤ g ∧ ∃ cs : Array Value, cs.size = 5 ∧ Blk w3 g cs 38 := (hpre 11 (by kernel_rfl)).2.2
      subst e11
      have HW := RU.putW (s := s) (V := VR) (N0 := wq.heap.size) (only_rowV w3 g11 _) o11 f11 s11 (setRow_heap w3 g11 c11 (cwC nilB 0 rd7 0 ev7) 38 (0, 0) f11) f7
      exact wpOp_put rfl (by kernel_rfl) (exec_storeG (g := g11) (cs := cwC nilB 0 rd7 0 ev7) (old := c11) rfl (by kernel_rfl) (by kernel_rfl) w3 f11 (by exact sizeCw) s11 f7.one) ⟨.bool true, by kernel_rfl, ⟨fun e => absurd e (by decide), fun _ => ⟨g11, rfl, rd7, ev7, setRow_heap w3 g11 c11 _ 38 (0, 0) f11, HW.2⟩, trivial⟩, HW.1, hI.only (by decide) (only_rowV w3 g11 _) f11 (.inr (.inl rfl))⟩
    · have e8 : x8 = .int .i64 gg := (hpre 8 (by kernel_rfl)).2.2
      subst e8
      exact wpOp_run (.int .i64 gg) rfl (by kernel_rfl) (by kernel_rfl) ⟨_, by kernel_rfl, PhiWp7_of hxs (by decide) (by decide) (by decide) rfl, RU.refl _, hI.stay (by decide)⟩
    · have e9 : x9 = .int .u32 0 := (hpre 9 (by kernel_rfl)).2.2
      subst e9
      exact wpOp_run (.int .u32 0) rfl (by kernel_rfl) (by kernel_rfl) ⟨_, by kernel_rfl, PhiWp7_of hxs (by decide) (by decide) (by decide) rfl, RU.refl _, hI.stay (by decide)⟩
  · intro D xs w3 hxs hR hDD hI hall
    obtain ⟨x0, x1, x2, x3, x4, x5, x6, x7, x8, x9, x10, x11, x12, x13, x14, x15, rfl⟩ := lstWp7 xs hxs
    have e14 : x14 = .int .i64 gg := (hall 14 (by omega)).2.2
    have e15 : x15 = .int .u32 0 := (hall 15 (by omega)).2.2
    obtain ⟨g10, e10, b10⟩ : ∃ g, x10 = .pointer (some ⟨g, 0, none⟩) ∧ Blk w3 g VR.c 26 := (hall 12 (by omega)).1 rfl
    obtain ⟨g11, e11, rd7, ev7, b11, hgd⟩ : ∃ g, x11 = .pointer (some ⟨g, 0, none⟩) ∧ ∃ rd ev, Blk w3 g (cwC nilB 0 rd 0 ev) 38 ∧ GoodU wq.heap.size w3 rd ev := (hall 13 (by omega)).2.1 rfl
    obtain ⟨ga, ea, oa, _⟩ : ∃ g, x10 = .pointer (some ⟨g, 0, none⟩) ∧ wq.heap.size ≤ g ∧ _ := (hall 10 (by omega)).2.2
    obtain ⟨gb, eb, ob, _⟩ : ∃ g, x11 = .pointer (some ⟨g, 0, none⟩) ∧ wq.heap.size ≤ g ∧ _ := (hall 11 (by omega)).2.2
    have hN10 : wq.heap.size ≤ g10 := by
      rw [e10] at ea
      injection ea with ea
      injection ea with ea
      injection ea with ea
      rw [ea]
      exact oa
    have hN11 : wq.heap.size ≤ g11 := by
      rw [e11] at eb
      injection eb with eb
      injection eb with eb
      injection eb with eb
      rw [eb]
      exact ob
    clear ea eb oa ob
    subst e14 e15 e10 e11
    obtain ⟨s2, hm2, hg2, hp2⟩ := hI.behind (hDD 4 (by omega))
    have hn3 := (hR.keep.block n KV.out.lt HVN.out).trans KV.out
    have hne : n ≠ g10 := by have := KV.out.lt; omega
    have E0 : Hid (WZ w3 s2 n g10 WS VR) := hidden ⟨b10, hn3, hm2⟩
    have BQ3 := hidden (HWQ.out.trans (hR.keep.below (B := w.heap.size) (Nat.le_of_lt (Nat.lt_of_le_of_lt HWN.out KV.out.lt)) fun b hb => hb.elim (HFW.out b) fun h => Nat.le_trans (Nat.le_of_lt (Nat.lt_of_le_of_lt HWN.out KV.out.lt)) h))
    have HP2 := hidden hp2
    have HSF := hidden (fun u => sameState_eq u VR HVR.out)
    have hi2 : ∀ u, (Instr.indexAt 24 (.pointer (some ⟨g10, 0, none⟩)) (.int .i64 2)).run Try.prog u = .ok (.pointer (some ⟨g10, 2, none⟩)) u := fun u => index_reg g10 2 (by omega) u
    have hi7 : ∀ u, (Instr.indexAt 24 (.pointer (some ⟨g10, 0, none⟩)) (.int .i64 7)).run Try.prog u = .ok (.pointer (some ⟨g10, 7, none⟩)) u := fun u => index_reg g10 7 (by omega) u
    obtain ⟨w6, hw6⟩ : ∃ w6, w3 = w6 := ⟨_, rfl⟩
    subst hw6
    clear hn3 hne b10 b11 hm2 hgd hR hall hI hDD hxs hg2 hp2 HCALL HMI KV HVN HWQ hN10 hN11 HSZ HSV
    simp only [slotsOn, putAll]
    have HPG : Hid (∀ u, MemW u s2 → Calls Try.prog 24 #[.pointer (some ⟨s2.mb, 0, none⟩)] u fun e w' => ∃ ao cap, e = .returned (.slice ao s2.ks.length cap) ∧ Below u.heap.size u w') := hidden (fun u hu => (pages_all u s2 hu).mono fun e w' h => by
      obtain ⟨ao, cap, l, he, hp, _, _, hb⟩ := h
      exact ⟨ao, cap, by rw [← hp.length_eq]; exact he, hb⟩)
    rcases HPC.out with ⟨hk1, hV, hg, hP⟩ | ⟨hk1, hV, hg, hP⟩ | ⟨hk1, hV, hg, hP⟩
    · obtain ⟨pm, pl⟩ := hP s2 HP2.out
      rw [pm, HMB.out, pl] at HPG
      subst hg
      have c2 : w3.cell? ⟨g10, 2, none⟩ = some (.int .u32 22) := by
        have h := E0.out.a.cell (SV.getR HVR.out (show 2 < 32 by decide))
        rw [h, hV]
        rfl
      have c7 : w3.cell? ⟨g10, 7, none⟩ = some (.int .u32 1) := by
        have h := E0.out.a.cell (SV.getR HVR.out (show 7 < 32 by decide))
        rw [h, hV]
        rfl
      have hki : (64 : Int) < (k : Int) := by omega
      clear hV hP pm pl hk1
      go_wp2_with (first
        | (go_at_call 24; refine (HPG.out _ E0.out.m).mono ?_; rintro e1 w11 ⟨ao, cap, rfl, b11⟩; have B11 := hidden (BQ3.out.trans (b11.mono BQ3.out.size)); clear b11 c2 c7)
        | (go_at_call 10; refine (awake12_any _).mono ?_; rintro e3 w13 ⟨rfl, hb⟩; have B13 := hidden (B11.out.trans (hb.mono B11.out.size)); clear hb))
      go_ret
      exact ⟨rfl, B13.out⟩
    · obtain ⟨pm, pl⟩ := hP s2 HP2.out
      rw [pm, HMB.out, pl] at HPG
      subst hg
      subst hk1
      have hVW : VR = WS := hV.trans HWS.out
      subst hVW
      clear hV hP pm pl
      go_wp2_with (first
        | (refine wpList_loadVp (by kernel_rfl) _ rfl g10 VR rfl E0.out.a HVR.out ?_)
        | (refine wpList_loadVp (by kernel_rfl) _ rfl n VR rfl E0.out.b HVR.out ?_)
        | (go_at_call 15; refine (HSF.out _).mono ?_; rintro e1 w10 ⟨rfl, b10⟩; have E1 := hidden (E0.out.later b10); have B10 := hidden (BQ3.out.trans (b10.mono BQ3.out.size)); clear b10 E0)
        | (go_at_call 24; refine (HPG.out _ E1.out.m).mono ?_; rintro e1 w11 ⟨ao, cap, rfl, b11⟩; have B11 := hidden (B10.out.trans (b11.mono B10.out.size)); clear b11)
        | (go_at_call 10; refine (awake12_any _).mono ?_; rintro e3 w13 ⟨rfl, hb⟩; have B13 := hidden (B11.out.trans (hb.mono B11.out.size)); clear hb))
      go_ret
      exact ⟨rfl, B13.out⟩
    · obtain ⟨pm, pl, pp⟩ := hP s2 HP2.out
      rw [pm, HMB.out, pl] at HPG
      have HPM : Hid (∀ i, i < k → ∀ u, MemW u s2 → Calls Try.prog 25 #[.pointer (some ⟨mb, 0, none⟩), .int .u32 ((a : Int) + 256 * (i : Int))] u fun e w' => e = .returned (.int .i64 6) ∧ Below u.heap.size u w') := hidden (fun i hi u hu => by
        have h := permOf_any u s2 (a + 256 * i) hu (by have := HA.out; omega)
        rw [show s2.perm (a + 256 * i) = 6 from by rw [← pp i hi]; congr 1; unfold wrapAt; have := HA.out; omega, pm, HMB.out, show (((a + 256 * i : Nat)) : Int) = (a : Int) + 256 * (i : Int) by omega] at h
        exact h.mono fun e w' hh => ⟨hh.1, by obtain ⟨m, hm⟩ := hh.2; rw [hm]; exact below_drewN (Below.refl _ _) m⟩)
      subst hg
      have hki : ¬ (64 : Int) < (k : Int) := by omega
      have hkb : ((k : Int) == 64) = false := beq_eq_false_iff_ne.2 (by omega)
      have hki2 : (k : Int) ≤ 63 := by omega
      have hki0 : (0 : Int) ≤ (k : Int) := by omega
      have ha0 : (a : Int) < 1073741824 := by have := HA.out; omega
      have HV2 := hidden hV
      clear hV hP pm pl pp
      go_wp2
      go_loopw [12] (fun x12 wr => ∃ (i : Nat), i ≤ k ∧ x12 = .int .u32 (i : Int) ∧ WZ wr s2 n g10 WS VR ∧ Below w.heap.size w wr) (fun x12 _ => k - (intOf x12).toNat)
      case atStart => exact ⟨0, by omega, rfl, E0.out, BQ3.out⟩
      case round =>
        obtain ⟨i, hi, rfl, hwz, hbw⟩ := hrel
        have E1 := hidden hwz
        have B1 := hidden hbw
        clear hwz hbw E0 BQ3
        by_cases hlt : i < k
        · have hl : (i : Int) < (k : Int) := by omega
          have HPI := hidden (HPM.out i hlt)
          go_wp2_with (first
            | (refine wpList_andU rfl _ _ rfl (x : Int) 1073741823 (a : Int) rfl rfl HAND.out ?_)
            | (go_at_call 25; refine (HPI.out _ E1.out.m).mono ?_; rintro e1 w11 ⟨rfl, b11⟩; have E2 := hidden (E1.out.later b11); have B2 := hidden (B1.out.trans (b11.mono B1.out.size)); clear b11)
            | (refine wpList_andI rfl _ _ rfl 6 6 6 rfl rfl (by decide) ?_))
          go_roundw
          case rel => exact ⟨i + 1, by omega, by first | rfl | simp, E2.out, B2.out⟩
          case measure => simp [intOf]; omega
        · have hl : ¬ (i : Int) < (k : Int) := by omega
          have c2 : wr.cell? ⟨g10, 2, none⟩ = some (.int .u32 0) := by
            have h := E1.out.a.cell (SV.getR HVR.out (show 2 < 32 by decide))
            rw [h, HV2.out]
            rfl
          have c7 : wr.cell? ⟨g10, 7, none⟩ = some (.int .u32 0) := by
            have h := E1.out.a.cell (SV.getR HVR.out (show 7 < 32 by decide))
            rw [h, HV2.out]
            rfl
          go_wp2_with (first
            | (go_at_call 24; refine (HPG.out _ E1.out.m).mono ?_; rintro e1 w11 ⟨ao, cap, rfl, b11⟩; have B11 := hidden (B1.out.trans (b11.mono B1.out.size)); clear b11 c2 c7)
            | (go_at_call 10; refine (awake12_any _).mono ?_; rintro e3 w13 ⟨rfl, hb⟩; have B13 := hidden (B11.out.trans (hb.mono B11.out.size)); clear hb))
          go_ret
          exact ⟨rfl, B13.out⟩
end Go.Proofs.Ytodoenimlhldjaa
