/- A region, its promises about what was waited for, and what holds by what is done. -/
import Derived.Test.YtodoenimlhldjaaWMAT
import Derived.Test.YtodoenimlhldjaaWMAU
import Derived.Test.YtodoenimlhldjaaWMAV
namespace Go.Proofs.Ytodoenimlhldjaa
open Go.ChangeShapes Go.WideShapes Go.ChangeAt Go.RowKit
set_option linter.unusedVariables false
section
variable {P : Program} {md : Region.Mode}
theorem wpAny_di {R : World → World → Prop} (hR : Later R) {ops : Array Oper} {Q : Exit → Act → World → Prop} {F : List Value → Act} {Φ : Nat → List Value → World → Prop} {I : (Nat → Bool) → World → Prop} {w0 : World} (hb : edgesB md ops = true)
    (hmono : ∀ i j xs v w w', Φ i xs w → R w w' → j ≠ i → waitsB md ops i j = false → Φ i (xs.set j v) w')
    (hstep : ∀ j, j < ops.size → ∀ (D : Nat → Bool) xs w, xs.length = ops.size → R w0 w → D j = false → I D w → (∀ i, waitsB md ops j i = true → Φ i xs w) →
      wpOp P ops Q j (fun a' w' => ∃ v, a' = F (xs.set j v) ∧ Φ j (xs.set j v) w' ∧ R w w' ∧ I (fun i => if i = j then true else D i) w') (F xs) w)
    (hfin : ∀ (D : Nat → Bool) xs w, xs.length = ops.size → R w0 w → (∀ i, i < ops.size → D i = true) → I D w → (∀ i, i < ops.size → Φ i xs w) → Q .normal (F xs) w) :
    ∀ (fuel : Nat) (L : Array Bool) (xs : List Value) (w : World), L.size = ops.size → xs.length = ops.size → R w0 w → I (fun i => L.getD i false) w → (∀ i, L.getD i false = true → Φ i xs w) → (∀ i j, L.getD i false = true → waitsB md ops i j = true → L.getD j false = true) → L.toList.count false ≤ fuel → wpAny P md ops Q fuel L (F xs) w := by
  intro fuel
  induction fuel with
  | zero =>
    intro L xs w h1 h2 hB hI hΦ hcl hc
    have hno : Region.ready md ops L = [] := by
      rw [List.eq_nil_iff_forall_not_mem]
      intro i hi
      obtain ⟨hl, o, ho, _⟩ := mem_ready.1 hi
      have hlt : i < L.size := by have := (Array.getElem?_eq_some_iff.1 ho).1; omega
      have hf : L.toList[i]? = some false := by
        simp [Array.getElem?_eq_getElem hlt] at hl ⊢
        exact hl
      have := count_up L.toList i hf
      omega
    exact ⟨hno, hfin _ xs w h2 hB (fun i hi => all_up hb h1 hno i hi) hI fun i hi => hΦ i (all_up hb h1 hno i hi)⟩
  | succ fuel ih =>
    intro L xs w h1 h2 hB hI hΦ hcl hc
    refine ⟨fun hno => hfin _ xs w h2 hB (fun i hi => all_up hb h1 hno i hi) hI fun i hi => hΦ i (all_up hb h1 hno i hi), fun i hi => ?_⟩
    obtain ⟨hl, o, ho, hall⟩ := mem_ready.1 hi
    have hlt : i < L.size := by have := (Array.getElem?_eq_some_iff.1 ho).1; omega
    have hw : ∀ k, waitsB md ops i k = true → L.getD k false = true := by
      intro k hk
      simp only [waitsB, ho] at hk
      obtain ⟨e, he, hbb⟩ := Array.any_eq_true'.1 hk
      simp only [Bool.and_eq_true, beq_iff_eq] at hbb
      rw [← hbb.2]
      exact hall e he hbb.1
    have hlf : L.getD i false = false := by
      simp [Array.getElem?_eq_getElem hlt] at hl ⊢
      exact hl
    refine wpOp_mono ?_ (hstep i (by omega) (fun i => L.getD i false) xs w h2 hB hlf hI fun k hk => hΦ k (hw k hk))
    rintro a' w' ⟨v, rfl, hv, hB', hI'⟩
    refine ih (L.setIfInBounds i true) (xs.set i v) w' (by simpa using h1) (by simpa using h2) (hR.trans _ _ _ hB hB') ?_ ?_ ?_ ?_
    · rw [show (fun k => (L.setIfInBounds i true).getD k false) = (fun k => if k = i then true else L.getD k false) from funext fun k => by
        by_cases hik : i = k
        · subst hik
          simp [hlt]
        · rw [getD_set_ne false hik, if_neg (fun e => hik e.symm)]]
      exact hI'
    · intro k hk
      by_cases hik : i = k
      · subst hik
        exact hv
      · rw [getD_set_ne false hik] at hk
        refine hmono k i xs v w w' (hΦ k hk) hB' hik ?_
        cases hq : waitsB md ops k i with
        | false => rfl
        | true => have := hcl k i hk hq; rw [hlf] at this; exact this.symm
    · intro k j hk hj
      by_cases hij : i = j
      · subst hij
        simp [hlt]
      · rw [getD_set_ne false hij]
        by_cases hik : i = k
        · subst hik
          exact hw j hj
        · rw [getD_set_ne false hik] at hk
          exact hcl k j hk hj
    · have hf : L.toList[i]? = some false := by
        simp [Array.getElem?_eq_getElem hlt] at hl ⊢
        exact hl
      have := count_up L.toList i hf
      rw [Array.toList_setIfInBounds]
      omega
/-- The region whole, with what holds by what is done. -/
theorem wp_region_di {R : World → World → Prop} (hR : Later R) {id : Nat} {Q : Exit → Act → World → Prop} {a : Act} {w : World} {ops : Array Oper} (ds : List Nat) (n : Nat) (Φ : Nat → List Value → World → Prop) (I : (Nat → Bool) → World → Prop) (hm : P.follows .mixedOrders = true) (hb : edgesB .any ops = true) (hn : ops.size = n) (hd : ds.length = n) (hI : I (fun _ => false) w.drew)
    (hmono : ∀ i j xs v w w', Φ i xs w → R w w' → j ≠ i → waitsB .any ops i j = false → Φ i (xs.set j v) w')
    (hstep : ∀ j, j < n → ∀ (D : Nat → Bool) xs w', xs.length = n → R w w' → D j = false → I D w' → (∀ i, waitsB .any ops j i = true → Φ i xs w') →
      Runs P ops Q j (fun a' w'' => ∃ v, a' = slotsOn a ds (xs.set j v) ∧ Φ j (xs.set j v) w'' ∧ R w' w'' ∧ I (fun i => if i = j then true else D i) w'') (slotsOn a ds xs) w')
    (hfin : ∀ (D : Nat → Bool) xs w', xs.length = n → R w w' → (∀ i, i < n → D i = true) → I D w' → (∀ i, i < n → Φ i xs w') → Q .normal (slotsOn a ds xs) w') :
    (Code.region id ops true).wp P Q a w := by
  subst hn
  rw [← slotsOn_self a ds]
  refine wp_region_any hm ?_
  have hd2 : (ds.map fun d => a.tmps.toList.getD d undef).length = ops.size := by simpa using hd
  rw [slotsOn_self] at *
  refine (slotsOn_self a ds) ▸ ?_
  refine wpAny_di (F := slotsOn a ds) (Φ := Φ) (I := I) (w0 := w) hR hb hmono (fun j hj D xs w' h1 h2 h3 h4 h5 => (hstep j hj D xs w' h1 h2 h3 h4 h5).out) hfin ops.size _ _ _ (by simp) hd2 (hR.drew w) ?_ ?_ ?_ ?_
  · rw [show (fun i => (Array.replicate ops.size false).getD i false) = (fun _ => false) from funext fun i => by
      by_cases hlt : i < ops.size <;> simp [hlt]]
    exact hI
  · intro i hi
    by_cases hlt : i < ops.size <;> simp [hlt] at hi
  · intro i j hi
    by_cases hlt : i < ops.size <;> simp [hlt] at hi
  · simp
end
end Go.Proofs.Ytodoenimlhldjaa
namespace Go.Proofs.Ytodoenimlhldjaa
open Go.ChangeShapes Go.WideShapes Go.ChangeAt Go.RowKit
set_option linter.unusedVariables false
/-- The types that no memory has blocks of. -/
def U4 (T : TypeId) : Prop := T = 26 ∨ T = 38 ∨ T = 3 ∨ T = 66
theorem MemW.not_u4 {w : World} {s : MS} (h : MemW w s) {b : Nat} {cs : Array Value} {T : TypeId} (hk : Blk w b cs T) (hT : U4 T) : ¬ foot s b := by
  have hT2 : T ≠ 93 ∧ T ≠ 107 ∧ T ≠ 127 ∧ T ≠ 23 := by
    rcases hT with rfl | rfl | rfl | rfl <;> decide
  have key : ∀ cs2 T2, w.heap[b]? = some (.cells cs2 T2 (0, 0)) → T2 = T := fun cs2 T2 h2 => by
    have h3 := (show w.heap[b]? = _ from hk).symm.trans h2
    injection h3 with h3
    injection h3 with _ h3
    exact h3.symm
  rintro (rfl | rfl | ⟨k, hk2, rfl⟩ | ⟨k, hk2, rfl⟩ | hb)
  · exact hT2.1 (key _ _ h.self).symm
  · have h3 := (show w.heap[s.bm]? = _ from hk).symm.trans h.map
    simp [mapObj] at h3
  · exact hT2.2.1 (key _ _ (h.held k hk2)).symm
  · obtain ⟨n, _, _, hp⟩ := h.page k hk2
    exact hT2.2.2.1 (key _ _ hp.blk).symm
  · obtain ⟨cur, hc⟩ := h.tv_cells hb
    exact hT2.2.2.2 (key _ _ hc).symm
def GoodU (N0 : Nat) (w : World) (rd ev : Value) : Prop := Fr w N0 3 rd 0 [] ∧ Fr w N0 66 ev 0 []
theorem GoodU.mono {N0 N1 : Nat} {w : World} {rd ev : Value} (h : GoodU N0 w rd ev) (hN : N1 ≤ N0) : GoodU N1 w rd ev := ⟨h.1.mono hN, h.2.mono hN⟩
theorem GoodU.one {N0 : Nat} {w : World} {inp : ByteArray} {rd ev : Value} (h : GoodU N0 w rd ev) : (cwC inp 0 rd 0 ev).all (·.oneCell') = true := cw_one h.1.one h.2.one
/-- A call on a new world. -/
def CRes (s : MS) (V : SV) (inp : ByteArray) (gg : Int) (P : MS → Prop) (u : World) (x : Ending) (w' : World) : Prop := ∃ rd' ev', x = .returned (.tuple #[.agg V.c, .agg (cwC inp 0 rd' 0 ev'), .int .i64 gg, .int .u32 0]) ∧ GoodU u.heap.size w' rd' ev' ∧ ∃ s', Step u s w' s' ∧ P s'
/-- What the region may do: the memory turns; below N0 nothing else; states and worlds may be filled. -/
structure RU (s : MS) (V : SV) (inp : ByteArray) (N0 : Nat) (w w' : World) : Prop where
  keep : Keep (fun b => foot s b ∨ N0 ≤ b) w w'
  typ : ∀ b cs T, U4 T → Blk w b cs T → ∃ cs', Blk w' b cs' T ∧ cs'.size = cs.size ∧ (cs' = cs ∨ (T = 26 ∧ cs' = V.c) ∨ (T = 38 ∧ ∃ rd ev, cs' = cwC inp 0 rd 0 ev ∧ GoodU N0 w' rd ev))
section
variable {s : MS} {V : SV} {inp : ByteArray} {N0 : Nat}
theorem RU.same {w w' : World} (h : RU s V inp N0 w w') {b : Nat} {cs : Array Value} {T : TypeId} (hT : U4 T) (hk : Blk w b cs T) (h1 : T ≠ 26) (h2 : T ≠ 38) : Blk w' b cs T := by
  obtain ⟨cs', hb, _, e | e | e⟩ := h.typ b cs T hT hk
  · rw [← e]; exact hb
  · exact absurd e.1 h1
  · exact absurd e.1 h2
theorem RU.good {w w' : World} (h : RU s V inp N0 w w') {M : Nat} {rd ev : Value} (hg : GoodU M w rd ev) : GoodU M w' rd ev := by
  obtain ⟨⟨g, h0, e, hk⟩, g2, h02, e2, hk2⟩ := hg
  exact ⟨⟨g, h0, e, h.same (.inr (.inr (.inl rfl))) hk (by decide) (by decide)⟩, g2, h02, e2, h.same (.inr (.inr (.inr rfl))) hk2 (by decide) (by decide)⟩
theorem RU.refl (w : World) : RU s V inp N0 w w := ⟨Keep.refl _ w, fun b cs T _ h => ⟨cs, h, rfl, .inl rfl⟩⟩
theorem RU.of_below {w w' : World} (h : Below w.heap.size w w') : RU s V inp N0 w w' := ⟨Keep.of_below h, fun b cs T _ hk => ⟨cs, hk.later h, rfl, .inl rfl⟩⟩
theorem RU.of_step {w w' : World} {s' : MS} (hm : MemW w s) (h : Step w s w' s') : RU s V inp N0 w w' := ⟨h.keep.mono fun b _ hb => .inl hb, fun b cs T hT hk => ⟨cs, (h.keep.block b hk.lt (hm.not_u4 hk hT)).trans hk, rfl, .inl rfl⟩⟩
theorem later_ru : Later (RU s V inp N0) := ⟨RU.refl, fun u v w h k => ⟨h.keep.trans k.keep fun b _ hb => hb, fun b cs T hT hb => by
  obtain ⟨c1, b1, s1, e1⟩ := h.typ b cs T hT hb
  obtain ⟨c2, b2, s2, e2⟩ := k.typ b c1 T hT b1
  refine ⟨c2, b2, s2.trans s1, ?_⟩
  rcases e2 with e2 | e2 | e2
  · subst e2
    rcases e1 with e1 | e1 | ⟨eT, rd, ev, e3, hg⟩
    · exact .inl e1
    · exact .inr (.inl e1)
    · exact .inr (.inr ⟨eT, rd, ev, e3, k.good hg⟩)
  · exact .inr (.inl e2)
  · exact .inr (.inr e2)⟩, fun w => ⟨⟨rfl, rfl, rfl, Nat.le_refl _, fun _ _ _ => rfl⟩, fun b cs T _ h => ⟨cs, h, rfl, .inl rfl⟩⟩⟩
theorem ublk_eq {w : World} {b : Nat} {cs ds : Array Value} {T U : TypeId} (h1 : Blk w b cs T) (h2 : Blk w b ds U) : cs = ds ∧ T = U := by
  have h3 := (show w.heap[b]? = _ from h1).symm.trans h2
  injection h3 with h3
  injection h3 with h3 h4
  exact ⟨h3, h4⟩
theorem RU.putS {w w' : World} {b : Nat} {old : Array Value} (ho : Only b w w') (hN : N0 ≤ b) (hk : Blk w b old 26) (hs : V.c.size = old.size) (hk2 : Blk w' b V.c 26) : RU s V inp N0 w w' := ⟨(Keep.of_only ho).mono fun c _ e => .inr (by rw [e]; exact hN), fun c cs T _ hc => by
  by_cases e : c = b
  · subst e
    obtain ⟨rfl, rfl⟩ := ublk_eq hk hc
    exact ⟨_, hk2, hs, .inr (.inl ⟨rfl, rfl⟩)⟩
  · exact ⟨cs, hc.only ho e, rfl, .inl rfl⟩⟩
theorem RU.putW {w w' : World} {b : Nat} {old : Array Value} {rd ev : Value} (ho : Only b w w') (hN : N0 ≤ b) (hk : Blk w b old 38) (hs : old.size = 5) (hk2 : Blk w' b (cwC inp 0 rd 0 ev) 38) (hg : GoodU N0 w rd ev) : RU s V inp N0 w w' ∧ GoodU N0 w' rd ev := by
  have hg2 : GoodU N0 w' rd ev := by
    obtain ⟨⟨g, h0, e, hf⟩, g2, h02, e2, hf2⟩ := hg
    exact ⟨⟨g, h0, e, hf.only ho (blk_tne hf hk (by decide))⟩, g2, h02, e2, hf2.only ho (blk_tne hf2 hk (by decide))⟩
  refine ⟨⟨(Keep.of_only ho).mono fun c _ e => .inr (by rw [e]; exact hN), fun c cs T _ hc => ?_⟩, hg2⟩
  by_cases e : c = b
  · subst e
    obtain ⟨rfl, rfl⟩ := ublk_eq hk hc
    exact ⟨_, hk2, by rw [hs]; rfl, .inr (.inr ⟨rfl, rd, ev, rfl, hg2⟩)⟩
  · exact ⟨cs, hc.only ho e, rfl, .inl rfl⟩
theorem RU.sizeS {w w' : World} (h : RU s V inp N0 w w') {g m : Nat} {T : TypeId} (hT : U4 T) (hk : ∃ cs : Array Value, cs.size = m ∧ Blk w g cs T) : ∃ cs : Array Value, cs.size = m ∧ Blk w' g cs T := by
  obtain ⟨cs, hs, hk⟩ := hk
  obtain ⟨c2, h2, s2, _⟩ := h.typ g cs T hT hk
  exact ⟨c2, s2.trans hs, h2⟩
theorem RU.blkS {w w' : World} (h : RU s V inp N0 w w') {g : Nat} (hk : Blk w g V.c 26) : Blk w' g V.c 26 := by
  obtain ⟨c2, h2, s2, e | e | e⟩ := h.typ g _ _ (.inl rfl) hk
  · rw [← e]; exact h2
  · rw [← e.2]; exact h2
  · exact absurd e.1 (by decide)
theorem RU.blkW {w w' : World} (h : RU s V inp N0 w w') {g : Nat} (hk : ∃ rd ev, Blk w g (cwC inp 0 rd 0 ev) 38 ∧ GoodU N0 w rd ev) : ∃ rd ev, Blk w' g (cwC inp 0 rd 0 ev) 38 ∧ GoodU N0 w' rd ev := by
  obtain ⟨rd, ev, hk, hg⟩ := hk
  obtain ⟨c2, h2, s2, e | e | ⟨_, rd2, ev2, e, hg2⟩⟩ := h.typ g _ _ (.inr (.inl rfl)) hk
  · exact ⟨rd, ev, by rw [← e]; exact h2, h.good hg⟩
  · exact absurd e.1 (by decide)
  · exact ⟨rd2, ev2, by rw [← e]; exact h2, hg2⟩
/-- The memory, ahead of the call and behind it. -/
def MJ (s : MS) (N0 : Nat) (P : MS → Prop) (D : Nat → Bool) (w : World) : Prop := if D 4 = true then ∃ s', MemW w s' ∧ (∀ b, foot s' b → foot s b ∨ N0 ≤ b) ∧ P s' else MemW w s
theorem MJ.before {P : MS → Prop} {D : Nat → Bool} {w : World} (h : MJ s N0 P D w) (hD : D 4 = false) : MemW w s := by
  unfold MJ at h
  rw [if_neg (by rw [hD]; decide)] at h
  exact h
theorem MJ.behind {P : MS → Prop} {D : Nat → Bool} {w : World} (h : MJ s N0 P D w) (hD : D 4 = true) : ∃ s', MemW w s' ∧ (∀ b, foot s' b → foot s b ∨ N0 ≤ b) ∧ P s' := by
  unfold MJ at h
  rw [if_pos hD] at h
  exact h
theorem MJ.done {P : MS → Prop} {D : Nat → Bool} {w w' : World} {s' : MS} (hN : N0 ≤ w.heap.size) (h : Step w s w' s') (hP : P s') : MJ s N0 P (fun i => if i = 4 then true else D i) w' := by
  unfold MJ
  rw [if_pos (show (if (4 : Nat) = 4 then true else D 4) = true from rfl)]
  exact ⟨s', h.mem, fun b hb => (h.grow b hb).imp id fun e => Nat.le_trans hN e, hP⟩
theorem MJ.up {P : MS → Prop} {D : Nat → Bool} {w w' : World} {j : Nat} (h : MJ s N0 P D w) (hj : j ≠ 4) (hw : ∀ s', MemW w s' → MemW w' s') : MJ s N0 P (fun i => if i = j then true else D i) w' := by
  have e : (if (4 : Nat) = j then true else D 4) = D 4 := if_neg (fun e => hj e.symm)
  unfold MJ at h
  show (if (if (4 : Nat) = j then true else D 4) = true then ∃ s', MemW w' s' ∧ (∀ b, foot s' b → foot s b ∨ N0 ≤ b) ∧ P s' else MemW w' s)
  rw [e]
  by_cases hD : D 4 = true
  · rw [if_pos hD] at h ⊢
    obtain ⟨s', hm, hg, hp⟩ := h
    exact ⟨s', hw s' hm, hg, hp⟩
  · rw [if_neg hD] at h ⊢
    exact hw s h
theorem MJ.stay {P : MS → Prop} {D : Nat → Bool} {w : World} {j : Nat} (h : MJ s N0 P D w) (hj : j ≠ 4) : MJ s N0 P (fun i => if i = j then true else D i) w := h.up hj fun _ hm => hm
theorem MJ.later {P : MS → Prop} {D : Nat → Bool} {w w' : World} {j : Nat} (h : MJ s N0 P D w) (hj : j ≠ 4) (hb : Below w.heap.size w w') : MJ s N0 P (fun i => if i = j then true else D i) w' := h.up hj fun _ hm => hm.later hb
theorem MJ.only {P : MS → Prop} {D : Nat → Bool} {w w' : World} {j g : Nat} {cs : Array Value} {T : TypeId} (h : MJ s N0 P D w) (hj : j ≠ 4) (ho : Only g w w') (hk : Blk w g cs T) (hT : U4 T) : MJ s N0 P (fun i => if i = j then true else D i) w' := h.up hj fun s' hm => hm.same fun b hb => ho.block b fun e => by
  subst e
  exact hm.not_u4 hk hT hb
end
def zScI (inp : ByteArray) : Array Value := #[.string inp, .slice none 0 0, .int .i64 0, .slice none 0 0, .int .i64 0, .string ⟨#[]⟩, .int .i64 0]
end Go.Proofs.Ytodoenimlhldjaa
namespace Go.Proofs.Ytodoenimlhldjaa
open Go.ChangeShapes Go.WideShapes Go.ChangeAt Go.RowKit
set_option linter.unusedVariables false
/-- All pages may be what g says. -/
def AllG (f : AM) (g : Nat → Int) : Prop := ∀ q x, f q = some x → x.2.1 = g q
theorem allG_none (g : Nat → Int) : AllG (fun _ => none) g := fun _ _ h => by cases h
theorem allG_amap {f : AM} {g : Nat → Int} (h : AllG f g) (a : Nat) (z : Int) (hz : g (pageOf a) = z % 8) : AllG (amap f a z) g := by
  intro q x hx
  unfold amap at hx
  by_cases e : q = pageOf a
  · rw [if_pos e] at hx
    rw [e, hz]
    cases hq : f q with
    | none =>
      rw [hq] at hx
      have := Option.some.inj hx
      rw [← this]
    | some y =>
      obtain ⟨l, p, o⟩ := y
      rw [hq] at hx
      have hp : p = z % 8 := by rw [← hz, ← e]; exact h q _ hq
      have := Option.some.inj hx
      rw [← this]
      show orP p z = _
      rw [hp]
      exact orP_same z
  · rw [if_neg e] at hx
    exact h q x hx
theorem allG_apoke {f : AM} {g : Nat → Int} (h : AllG f g) (a : Nat) (v : UInt8) : AllG (apoke f a v) g := by
  intro q x hx
  unfold apoke at hx
  by_cases e : q = pageOf a
  · rw [if_pos e] at hx
    cases hq : f q with
    | none => rw [hq] at hx; cases hx
    | some y =>
      rw [hq] at hx
      have := Option.some.inj hx
      rw [← this]
      exact h q y hq
  · rw [if_neg e] at hx
    exact h q x hx
theorem allG_awatch {f : AM} {g : Nat → Int} (h : AllG f g) (a : Nat) (b : Bool) : AllG (awatch f a b) g := by
  intro q x hx
  unfold awatch at hx
  by_cases e : q = pageOf a
  · rw [if_pos e] at hx
    cases hq : f q with
    | none => rw [hq] at hx; cases hx
    | some y =>
      rw [hq] at hx
      have := Option.some.inj hx
      rw [← this]
      exact h q y hq
  · rw [if_neg e] at hx
    exact h q x hx
theorem allG_maps {f : AM} {g : Nat → Int} (p : Part4) (h : AllG f g) : ∀ k, (∀ j, j < k → g (pageOf (wrapAt p.at_ j)) = p.perm % 8) → AllG (partMaps f p k) g
  | 0, _ => h
  | k + 1, hg => allG_amap (allG_maps p h k fun j hj => hg j (by omega)) _ _ (hg k (by omega))
theorem allG_pokes {f : AM} {g : Nat → Int} (h : AllG f g) (p : Part4) : ∀ k, AllG (partPokes f p k) g
  | 0 => h
  | k + 1 => allG_apoke (allG_pokes h p k) _ _
/-- The memory of CallWrongs. -/
def wgP (bo : Option Addr) : Part4 := ⟨512, zeros, 4, false, bo, 256⟩
def wgQ : Part4 := ⟨1024, [], 2, false, none, 0⟩
def wgG (q : Nat) : Int := if q = 512 then 4 else 2
theorem wg_page {j : Nat} (hj : j < 256) : pageOf (wrapAt 512 j) = 512 := by unfold pageOf wrapAt; omega
theorem wg_all (bo : Option Addr) : AllG (memOf [wgP bo, wgQ]) wgG := by
  refine allG_awatch (allG_awatch ?_ _ _) _ _
  refine allG_pokes ?_ _ _
  refine allG_maps wgQ ?_ _ ?_
  · refine allG_pokes ?_ _ _
    refine allG_maps (wgP bo) (allG_none _) _ ?_
    intro j hj
    have hj2 : j < 256 := by
      have : max (wgP bo).data.length 1 = 256 := by show max zeros.length 1 = 256; rw [show zeros.length = 256 from List.length_replicate]; rfl
      omega
    show wgG (pageOf (wrapAt 512 j)) = 4 % 8
    rw [wg_page hj2]
    decide
  · intro j hj
    obtain rfl : j = 0 := by
      have : max wgQ.data.length 1 = 1 := rfl
      omega
    decide
theorem wg_some (bo : Option Addr) (q : Nat) : (memOf [wgP bo, wgQ] q).isSome = true ↔ q = 512 ∨ q = 1024 := by
  show (awatch (awatch (partDone (partDone (fun _ => none) (wgP bo)) wgQ) 512 false) 1024 false q).isSome = true ↔ _
  rw [some_awatch, some_awatch]
  unfold partDone
  rw [some_pokes]
  show (amap (partPokes (partMaps (fun _ => none) (wgP bo) (max zeros.length 1)) (wgP bo) zeros.length) (wrapAt 1024 0) 2 q).isSome = true ↔ _
  rw [some_amap, some_pokes, Bool.or_eq_true, some_maps, decide_eq_true_eq]
  have hz : max zeros.length 1 = 256 := by rw [show zeros.length = 256 from List.length_replicate]; rfl
  constructor
  · rintro (h | ⟨j, hj, h⟩)
    · exact .inr (by rw [h]; decide)
    · exact .inl (by rw [h]; exact wg_page (by omega))
  · rintro (h | h)
    · exact .inr ⟨0, by omega, by rw [h]; exact (wg_page (by omega)).symm⟩
    · exact .inl (by rw [h]; decide)
theorem wg_perm {s : MS} {bo : Option Addr} (h : s.abs = memOf [wgP bo, wgQ]) (a : Nat) : s.perm a = if pageOf a = 512 then 4 else if pageOf a = 1024 then 2 else 0 := by
  rw [perm_abs, h]
  cases hq : memOf [wgP bo, wgQ] (pageOf a) with
  | none =>
    have h1 : ¬ (pageOf a = 512 ∨ pageOf a = 1024) := fun e => by
      have := (wg_some bo _).2 e
      rw [hq] at this
      cases this
    rw [if_neg (fun e => h1 (.inl e)), if_neg (fun e => h1 (.inr e))]
  | some x =>
    have h1 := (wg_some bo (pageOf a)).1 (by rw [hq]; rfl)
    have h2 := wg_all bo _ _ hq
    show x.2.1 = _
    rw [h2]
    unfold wgG
    rcases h1 with h1 | h1
    · rw [if_pos h1, if_pos h1]
    · rw [if_neg (by omega), if_neg (by omega), if_pos h1]
def wgS (a b c e : Int) : SV := { stPN 4 8 with R := ((((List.replicate 32 (0 : Int)).set 2 a).set 4 b).set 5 c).set 6 e }
structure WU (a b c e : Int) : Prop where
  a0 : 0 ≤ a
  a1 : a < 4294967296
  b0 : 0 ≤ b
  b1 : b < 4294967296
  c0 : 0 ≤ c
  c1 : c < 4294967296
  e0 : 0 ≤ e
  e1 : e < 4294967296
theorem wgS_ok {a b c e : Int} (h : WU a b c e) : (wgS a b c e).ok := SV.ok_set (v := { stPN 4 8 with R := (((List.replicate 32 (0 : Int)).set 2 a).set 4 b).set 5 c }) (SV.ok_set (v := { stPN 4 8 with R := ((List.replicate 32 (0 : Int)).set 2 a).set 4 b }) (SV.ok_set (v := { stPN 4 8 with R := (List.replicate 32 (0 : Int)).set 2 a }) (SV.ok_set (v := stPN 4 8) (pn_ok 4 8 (by decide) (by decide) (by decide) (by decide)) 2 a h.a0 h.a1) 4 b h.b0 h.b1) 5 c h.c0 h.c1) 6 e h.e0 h.e1
/-- What is asked, and why it is refused. -/
def WK (a b c e why : Int) : Prop := (a = 4003 ∧ b ≠ 0 ∧ why = 9) ∨ (a = 4003 ∧ b = 0 ∧ ((c = 512 ∧ e = 1 ∧ why = 14) ∨ (16384 < e ∧ why = 22) ∨ (c = 4096 ∧ e = 1 ∧ why = 14))) ∨ (a = 4004 ∧ b = 0 ∧ why = 9) ∨ (a = 4004 ∧ b = 1 ∧ c = 1024 ∧ e = 1 ∧ why = 14) ∨ (a = 4004 ∧ b = 2 ∧ c = 512 ∧ e = 257 ∧ why = 14) ∨ (5000 ≤ a ∧ why = 89)
theorem ref_file (s : MS) (v : SV) (p : Int) : refV s v false p = 9 := rfl
theorem ref_big (s : MS) (v : SV) (p : Int) (h : 16384 < v.R.getD 6 0) : refV s v true p = 22 := by
  unfold refV
  rw [if_neg (by decide), if_pos h]
theorem ref_place {s : MS} {v : SV} {p : Int} {c e j : Nat} (h5 : v.R.getD 5 0 = (c : Int)) (h6 : v.R.getD 6 0 = (e : Int)) (he : e ≤ 16384) (hj : j < e) (hb : bits .and .i64 (s.perm (wrapAt c j)) p = 0) : refV s v true p = 14 := by
  unfold refV
  rw [if_neg (by decide), h5, h6, if_neg (by omega), Int.toNat_natCast, Int.toNat_natCast, mayB_no hj hb]
  rfl
theorem wrongs_call {s : MS} {bo : Option Addr} {u : World} (hm : MemW u s) (h : s.abs = memOf [wgP bo, wgQ]) (inp : ByteArray) (rd : Value) (hr : Rw u 1 rd 0 []) {a b c e why : Int} (hu : WU a b c e) (hk : WK a b c e why) : Calls Try.prog 13 #[.pointer (some ⟨s.mb, 0, none⟩), .agg (wgS a b c e).c, .agg (cwC inp 0 rd 0 (.slice none 0 0))] u (CRes s (ansV (wgS a b c e) why 1) inp 0 (· = s) u) := by
  have g2 : (wgS a b c e).R.getD 2 0 = a := rfl
  have g4 : (wgS a b c e).R.getD 4 0 = b := rfl
  have g5 : (wgS a b c e).R.getD 5 0 = c := rfl
  have g6 : (wgS a b c e).R.getD 6 0 = e := rfl
  have hok := wgS_ok hu
  have hR := fun (fd : Bool) (hb : fd = true ↔ b = 0) (ha : a = 4003) (hw : refV s (wgS a b c e) fd 2 = why) (hw0 : why ≠ 0) => call_rd u s hm (wgS a b c e) hok inp 0 0 rd (.slice none 0 0) [] [] hr (rw_nil u 2) (by decide) (by decide) (g2.trans ha) (ansV (wgS a b c e) why 1) (ansV_len hok.1 _ _) (· = s) nought (fun _ h => h.elim) 0 0 (fun u2 rd1 ev1 hb2 hs f1 f2 => by
    have hm2 := hm.later hb2
    have hz : Calls Try.prog 36 #[.pointer (some ⟨s.mb, 0, none⟩), .agg (wgS a b c e).c, .agg (cwC inp 0 rd1 0 ev1)] u2 fun x w' => x = .returned (.tuple #[.agg (ansV (wgS a b c e) why 1).c, .agg (cwC inp 0 rd1 0 ev1)]) ∧ Below u2.heap.size u2 w' := by
      cases fd with
      | false =>
        have h1 := read_not_no u2 s hm2 (wgS a b c e) hok (cwC inp 0 rd1 0 ev1) (cw_one f1.one f2.one) rfl (fun e0 => by have := hb.2 (g4.symm.trans e0); exact absurd this (by decide)) (by rw [hw]; exact hw0)
        rw [hw] at h1
        exact h1
      | true =>
        have h1 := read_not_zero u2 s hm2 (wgS a b c e) hok (cwC inp 0 rd1 0 ev1) (cw_one f1.one f2.one) rfl (g4.trans (hb.1 rfl)) (by rw [hw]; exact hw0)
        rw [hw] at h1
        exact h1
    exact hz.mono fun x w' hx => ⟨hx.1, s, Step.later hm2 hx.2, Keep.of_below hx.2, rfl⟩)
  have hW := fun (hw0 : why ≠ 0) (ha : a = 4004) (hw : (b ≠ 1 ∧ b ≠ 2 ∧ why = 9) ∨ (b = 1 ∧ refV s (wgS a b c e) true 4 = why) ∨ (b = 2 ∧ refV s (wgS a b c e) true 4 = why)) => call_wn u s hm (wgS a b c e) hok inp 0 0 rd (.slice none 0 0) [] [] hr (rw_nil u 2) (by decide) (by decide) (g2.trans ha) (ansV (wgS a b c e) why 1) (ansV_len hok.1 _ _) (· = s) nought (fun _ h => h.elim) (fun u2 rd1 ev1 hb2 hs f1 f2 => by
    have hm2 := hm.later hb2
    have hz : Calls Try.prog 37 #[.pointer (some ⟨s.mb, 0, none⟩), .agg (wgS a b c e).c, .agg (cwC inp 0 rd1 0 ev1)] u2 fun x w' => x = .returned (.tuple #[.agg (ansV (wgS a b c e) why 1).c, .agg (cwC inp 0 rd1 0 ev1)]) ∧ Below u2.heap.size u2 w' := by
      rcases hw with ⟨hb1, hb3, hw⟩ | ⟨hb1, hw⟩ | ⟨hb1, hw⟩
      · have h1 := write_not_no u2 s hm2 (wgS a b c e) hok (cwC inp 0 rd1 0 ev1) (cw_one f1.one f2.one) rfl ⟨fun e0 => hb1 (g4.symm.trans e0), fun e0 => hb3 (g4.symm.trans e0)⟩ (by rw [ref_file]; decide)
        rw [ref_file] at h1
        rw [hw]
        exact h1
      · have h1 := write_not_one u2 s hm2 (wgS a b c e) hok (cwC inp 0 rd1 0 ev1) (cw_one f1.one f2.one) rfl (g4.trans hb1) (by rw [hw]; exact hw0)
        rw [hw] at h1
        exact h1
      · have h1 := write_not_two u2 s hm2 (wgS a b c e) hok (cwC inp 0 rd1 0 ev1) (cw_one f1.one f2.one) rfl (g4.trans hb1) (by rw [hw]; exact hw0)
        rw [hw] at h1
        exact h1
    exact hz.mono fun x w' hx => ⟨hx.1, s, Step.later hm2 hx.2, Keep.of_below hx.2, rfl⟩)
  have fin : ∀ (x : Ending) (w' : World), (∃ rd' ev', x = .returned (.tuple #[.agg (SV.c (ansV (wgS a b c e) why 1)), .agg (cwC inp 0 rd' 0 ev'), .int .i64 0, .int .u32 0]) ∧ Fr w' u.heap.size 3 rd' ([] : List Int).length (cI []) ∧ Fr w' u.heap.size 66 ev' ([] : List (Int × ByteArray)).length (cE []) ∧ ∃ s', Step u s w' s' ∧ Keep nought u w' ∧ s' = s) → CRes s (ansV (wgS a b c e) why 1) inp 0 (· = s) u x w' := fun x w' ⟨rd1, ev1, e1, f1, f2, s', hs, _, hp⟩ => ⟨rd1, ev1, e1, ⟨f1, f2⟩, s', hs, hp⟩
  rcases hk with ⟨ha, hb, hw⟩ | ⟨ha, hb, hw⟩ | ⟨ha, hb, hw⟩ | ⟨ha, hb, hc, he, hw⟩ | ⟨ha, hb, hc, he, hw⟩ | ⟨ha, hw⟩
  · exact (hR false ⟨fun h => absurd h (by decide), fun h => absurd h hb⟩ ha (by rw [ref_file, hw]) (by omega)).mono fin
  · refine (hR true ⟨fun _ => hb, fun _ => rfl⟩ ha ?_ (by omega)).mono fin
    rcases hw with ⟨hc, he, hw⟩ | ⟨he, hw⟩ | ⟨hc, he, hw⟩
    · subst hc he hw
      exact ref_place (c := 512) (e := 1) (j := 0) rfl rfl (by decide) (by decide) (by rw [wg_perm h]; decide)
    · rw [hw]
      exact ref_big s _ 2 (by rw [g6]; exact he)
    · subst hc he hw
      exact ref_place (c := 4096) (e := 1) (j := 0) rfl rfl (by decide) (by decide) (by rw [wg_perm h]; decide)
  · exact (hW (by omega) ha (.inl ⟨by omega, by omega, hw⟩)).mono fin
  · refine (hW (by omega) ha (.inr (.inl ⟨hb, ?_⟩))).mono fin
    subst hc he hw
    exact ref_place (c := 1024) (e := 1) (j := 0) rfl rfl (by decide) (by decide) (by rw [wg_perm h]; decide)
  · refine (hW (by omega) ha (.inr (.inr ⟨hb, ?_⟩))).mono fin
    subst hc he hw
    exact ref_place (c := 512) (e := 257) (j := 256) rfl rfl (by decide) (by decide) (by rw [wg_perm h]; decide)
  · have h1 := call_df u s hm (wgS a b c e) hok inp 0 0 rd (.slice none 0 0) [] [] hr (rw_nil u 2) (by decide) (by decide) (by rw [g2]; omega)
    rw [hw]
    exact h1.mono fun x w' ⟨rd1, ev1, e1, f1, f2, hb⟩ => ⟨rd1, ev1, e1, ⟨f1, f2⟩, s, Step.later hm hb, rfl⟩
end Go.Proofs.Ytodoenimlhldjaa
namespace Go.Proofs.Ytodoenimlhldjaa
open Go.ChangeShapes Go.WideShapes Go.ChangeAt Go.RowKit
set_option linter.unusedVariables false
theorem own_sl {w : World} {N z m : Nat} {T : TypeId} {v : Value} {cs : List Value} (h : w.ownsRow N T z v m cs) : ∃ ao cap, v = .slice ao m cap := by
  obtain ⟨_, ⟨e, e2⟩ | ⟨g, cap, _, e, _⟩⟩ := h
  · exact ⟨none, 0, by rw [e, e2]⟩
  · exact ⟨_, cap, e⟩
theorem make_B (w : World) : (Instr.makeSlice 50 (.int .i64 256) (.int .i64 256)).run Try.prog w = .ok (.slice (some ⟨w.heap.size, 0, none⟩) 256 256) (w.alloc (.cells (cellsU zeros).toArray 5)) := by kernel_rfl
/-- The two parts, as they lie there. -/
def wgC (g : Nat) : Array Value := #[.int .u32 512, .slice (some ⟨g, 0, none⟩) 256 256, .int .i64 4, .bool false, .int .u32 1024, .slice none 0 0, .int .i64 2, .bool false]
theorem wg_pieces {w : World} {g p : Nat} (hr : Row w (some ⟨g, 0, none⟩) zeros 256) (hb : Blk w p (wgC g) 52) : Pieces w (some ⟨p, 0, none⟩) [wgP (some ⟨g, 0, none⟩), wgQ] := by
  refine .inr ⟨p, 0, rfl, hb.lt, fun j hj => ?_⟩
  have hj2 : j < 2 := hj
  rcases (show j = 0 ∨ j = 1 by omega) with rfl | rfl
  · exact ⟨hb.cell rfl, hb.cell (j := 1) (by show some (Value.slice (some ⟨g, 0, none⟩) 256 256) = some (.slice (some ⟨g, 0, none⟩) zeros.length 256); rw [show zeros.length = 256 from List.length_replicate]), hb.cell rfl, hb.cell rfl, hr, (by decide : (512 : Nat) < 4294967296)⟩
  · exact ⟨hb.cell rfl, hb.cell rfl, hb.cell rfl, hb.cell rfl, Row.none w, (by decide : (1024 : Nat) < 4294967296)⟩
def wgT (p1 p2 : Int) : Array Value := #[.int .u32 4003, .int .u32 (1 + p1), .int .u32 512, .int .u32 1, .int .u32 4003, .int .u32 0, .int .u32 512, .int .u32 1, .int .u32 4003, .int .u32 0, .int .u32 1024, .int .u32 (20000 + p2), .int .u32 4003, .int .u32 0, .int .u32 4096, .int .u32 1, .int .u32 4004, .int .u32 0, .int .u32 512, .int .u32 1, .int .u32 4004, .int .u32 1, .int .u32 1024, .int .u32 1, .int .u32 4004, .int .u32 2, .int .u32 512, .int .u32 257, .int .u32 (5000 + p1), .int .u32 1, .int .u32 512, .int .u32 1]
def c4 (a b c e : Int) : Array Value := #[.int .u32 a, .int .u32 b, .int .u32 c, .int .u32 e]
theorem wg_tab (p1 p2 : Int) (h0 : 0 ≤ p1) (h1 : p1 < 1000) (h2 : 0 ≤ p2) (h3 : p2 < 99) (k : Nat) (hk : k < 8) : ∃ a b c e why, WU a b c e ∧ WK a b c e why ∧ (∀ u, (Instr.index 60 (.agg (wgT p1 p2)) (.int .i64 (k : Int))).run Try.prog u = .ok (.agg (c4 a b c e)) u) ∧ (∀ u, (Instr.index 61 (.agg #[.int .u32 9, .int .u32 14, .int .u32 22, .int .u32 14, .int .u32 9, .int .u32 14, .int .u32 14, .int .u32 89]) (.int .i64 (k : Int))).run Try.prog u = .ok (.int .u32 why) u) := by
  rcases (show k = 0 ∨ k = 1 ∨ k = 2 ∨ k = 3 ∨ k = 4 ∨ k = 5 ∨ k = 6 ∨ k = 7 by omega) with rfl | rfl | rfl | rfl | rfl | rfl | rfl | rfl
  · exact ⟨4003, 1 + p1, 512, 1, 9, ⟨by omega, by omega, by omega, by omega, by omega, by omega, by omega, by omega⟩, .inl ⟨rfl, by omega, rfl⟩, fun u => by kernel_rfl, fun u => by kernel_rfl⟩
  · exact ⟨4003, 0, 512, 1, 14, ⟨by omega, by omega, by omega, by omega, by omega, by omega, by omega, by omega⟩, .inr (.inl ⟨rfl, rfl, .inl ⟨rfl, rfl, rfl⟩⟩), fun u => by kernel_rfl, fun u => by kernel_rfl⟩
  · exact ⟨4003, 0, 1024, 20000 + p2, 22, ⟨by omega, by omega, by omega, by omega, by omega, by omega, by omega, by omega⟩, .inr (.inl ⟨rfl, rfl, .inr (.inl ⟨by omega, rfl⟩)⟩), fun u => by kernel_rfl, fun u => by kernel_rfl⟩
  · exact ⟨4003, 0, 4096, 1, 14, ⟨by omega, by omega, by omega, by omega, by omega, by omega, by omega, by omega⟩, .inr (.inl ⟨rfl, rfl, .inr (.inr ⟨rfl, rfl, rfl⟩)⟩), fun u => by kernel_rfl, fun u => by kernel_rfl⟩
  · exact ⟨4004, 0, 512, 1, 9, ⟨by omega, by omega, by omega, by omega, by omega, by omega, by omega, by omega⟩, .inr (.inr (.inl ⟨rfl, rfl, rfl⟩)), fun u => by kernel_rfl, fun u => by kernel_rfl⟩
  · exact ⟨4004, 1, 1024, 1, 14, ⟨by omega, by omega, by omega, by omega, by omega, by omega, by omega, by omega⟩, .inr (.inr (.inr (.inl ⟨rfl, rfl, rfl, rfl, rfl⟩))), fun u => by kernel_rfl, fun u => by kernel_rfl⟩
  · exact ⟨4004, 2, 512, 257, 14, ⟨by omega, by omega, by omega, by omega, by omega, by omega, by omega, by omega⟩, .inr (.inr (.inr (.inr (.inl ⟨rfl, rfl, rfl, rfl, rfl⟩)))), fun u => by kernel_rfl, fun u => by kernel_rfl⟩
  · exact ⟨5000 + p1, 1, 512, 1, 89, ⟨by omega, by omega, by omega, by omega, by omega, by omega, by omega, by omega⟩, .inr (.inr (.inr (.inr (.inr ⟨by omega, rfl⟩)))), fun u => by kernel_rfl, fun u => by kernel_rfl⟩
/-- How the registers are put: only the state turns, and only to what is asked. -/
structure RG (n : Nat) (A : SV) (w w' : World) : Prop where
  only : Only n w w'
  row : ∀ v : SV, v.R.length = 32 → Blk w n v.c 26 → ∃ R' : List Int, R'.length = 32 ∧ Blk w' n (SV.c { v with R := R' }) 26 ∧ ∀ j, R'.getD j 0 = v.R.getD j 0 ∨ ((j = 2 ∨ j = 4 ∨ j = 5 ∨ j = 6) ∧ R'.getD j 0 = A.R.getD j 0)
theorem later_rg (n : Nat) (A : SV) : Later (RG n A) := ⟨fun w => ⟨Only.refl n w, fun v hv hk => ⟨v.R, hv, hk, fun _ => .inl rfl⟩⟩, fun u v w h k => ⟨h.only.trans k.only, fun x hx hk => by
  obtain ⟨R1, l1, b1, e1⟩ := h.row x hx hk
  obtain ⟨R2, l2, b2, e2⟩ := k.row { x with R := R1 } l1 b1
  refine ⟨R2, l2, b2, fun j => ?_⟩
  rcases e2 j with e | e
  · rcases e1 j with e0 | e0
    · exact .inl (e.trans e0)
    · exact .inr ⟨e0.1, e.trans e0.2⟩
  · exact .inr e⟩, fun w => ⟨(Only.refl n w).drew, fun v hv hk => ⟨v.R, hv, hk, fun _ => .inl rfl⟩⟩⟩
theorem RG.put {n k : Nat} {A V0 : SV} {w w0 : World} (h : RG n A w0 w) (hv : V0.R.length = 32) (hb : Blk w0 n V0.c 26) (hk : k = 2 ∨ k = 4 ∨ k = 5 ∨ k = 6) : RG n A w (w.setCell ⟨n, k, none⟩ (.int .u32 (A.R.getD k 0))) ∧ (w.setCell ⟨n, k, none⟩ (.int .u32 (A.R.getD k 0))).cell? ⟨n, k, none⟩ = some (.int .u32 (A.R.getD k 0)) := by
  have hk32 : k < 32 := by omega
  have put : ∀ v : SV, v.R.length = 32 → Blk w n v.c 26 → Blk (w.setCell ⟨n, k, none⟩ (.int .u32 (A.R.getD k 0))) n (SV.c { v with R := v.R.set k (A.R.getD k 0) }) 26 := fun v hl hk2 => by
    rw [← SV.setR hl hk32]
    exact heap_setCell_same w n k _ _ _ hk2
  refine ⟨⟨(Only.refl n w).setCell k _, fun v hl hk2 => ⟨v.R.set k (A.R.getD k 0), by rw [List.length_set]; exact hl, put v hl hk2, fun j => ?_⟩⟩, ?_⟩
  · by_cases e : j = k
    · subst e
      refine .inr ⟨hk, ?_⟩
      rw [List.getD_eq_getElem?_getD, List.getElem?_set_self (by omega), Option.getD_some]
    · refine .inl ?_
      rw [List.getD_eq_getElem?_getD, List.getElem?_set_ne (fun h => e h.symm), ← List.getD_eq_getElem?_getD]
  · obtain ⟨R1, l1, b1, _⟩ := h.row V0 hv hb
    have h2 := (put { V0 with R := R1 } l1 b1).cell (SV.getR (s := { V0 with R := R1.set k (A.R.getD k 0) }) (by show (R1.set k _).length = 32; rw [List.length_set]; exact l1) hk32)
    rw [h2]
    congr 1
    congr 1
    show (R1.set k (A.R.getD k 0)).getD k 0 = _
    rw [List.getD_eq_getElem?_getD, List.getElem?_set_self (by omega), Option.getD_some]
theorem RG.cell {n k : Nat} {A V0 : SV} {w0 w w' : World} (h0 : RG n A w0 w) (hv : V0.R.length = 32) (hb : Blk w0 n V0.c 26) (h : RG n A w w') (hk : k < 32) (hc : w.cell? ⟨n, k, none⟩ = some (.int .u32 (A.R.getD k 0))) : w'.cell? ⟨n, k, none⟩ = some (.int .u32 (A.R.getD k 0)) := by
  obtain ⟨R1, l1, b1, _⟩ := h0.row V0 hv hb
  obtain ⟨R2, l2, b2, e2⟩ := h.row { V0 with R := R1 } l1 b1
  have h1 := b1.cell (SV.getR (s := { V0 with R := R1 }) l1 hk)
  have h2 := b2.cell (SV.getR (s := { V0 with R := R2 }) l2 hk)
  rw [h2]
  rcases e2 k with e | e
  · rw [hc] at h1
    rw [h1]
    congr 2
  · congr 2
    exact e.2
theorem wgS_zero (a b c e : Int) (j : Nat) (h2 : j ≠ 2) (h4 : j ≠ 4) (h5 : j ≠ 5) (h6 : j ≠ 6) : (wgS a b c e).R.getD j 0 = (stPN 4 8).R.getD j 0 := by
  show (((((List.replicate 32 (0 : Int)).set 2 a).set 4 b).set 5 c).set 6 e).getD j 0 = (List.replicate 32 (0 : Int)).getD j 0
  rw [List.getD_eq_getElem?_getD, List.getElem?_set_ne (fun h => h6 h.symm), List.getElem?_set_ne (fun h => h5 h.symm), List.getElem?_set_ne (fun h => h4 h.symm), List.getElem?_set_ne (fun h => h2 h.symm), ← List.getD_eq_getElem?_getD]
theorem RG.fin {n : Nat} {a b c e : Int} {w w' : World} (h : RG n (wgS a b c e) w w') (hb : Blk w n (stPN 4 8).c 26) (h2 : w'.cell? ⟨n, 2, none⟩ = some (.int .u32 a)) (h4 : w'.cell? ⟨n, 4, none⟩ = some (.int .u32 b)) (h5 : w'.cell? ⟨n, 5, none⟩ = some (.int .u32 c)) (h6 : w'.cell? ⟨n, 6, none⟩ = some (.int .u32 e)) : Blk w' n (wgS a b c e).c 26 := by
  obtain ⟨R', l', b', e'⟩ := h.row (stPN 4 8) rfl hb
  have get : ∀ k z, k < 32 → w'.cell? ⟨n, k, none⟩ = some (.int .u32 z) → R'.getD k 0 = z := fun k z hk hc => by
    have h1 := b'.cell (SV.getR (s := { stPN 4 8 with R := R' }) l' hk)
    rw [hc] at h1
    injection h1 with h1
    injection h1 with _ h1
    exact h1.symm
  have eR : R' = (wgS a b c e).R := by
    refine List.ext_getElem (l'.trans rfl) fun j hj1 hj2 => ?_
    have hg : R'.getD j 0 = (wgS a b c e).R.getD j 0 := by
      by_cases g2 : j = 2
      · subst g2; exact get 2 a (by omega) h2
      by_cases g4 : j = 4
      · subst g4; exact get 4 b (by omega) h4
      by_cases g5 : j = 5
      · subst g5; exact get 5 c (by omega) h5
      by_cases g6 : j = 6
      · subst g6; exact get 6 e (by omega) h6
      rcases e' j with h | h
      · rw [h, wgS_zero a b c e j g2 g4 g5 g6]
      · omega
    rw [List.getD_eq_getElem?_getD, List.getElem?_eq_getElem hj1, Option.getD_some, List.getD_eq_getElem?_getD, List.getElem?_eq_getElem hj2, Option.getD_some] at hg
    exact hg
  rw [eR] at b'
  exact b'
theorem index_c4 (g k : Nat) (hk : k < 4) (u : World) : (Instr.indexAt 59 (.pointer (some ⟨g, 0, none⟩)) (.int .i64 (k : Int))).run Try.prog u = .ok (.pointer (some ⟨g, k, none⟩)) u := by
  have h1 : (k : Int) < ((4 : Nat) : Int) := by omega
  have hz : (sizeOf (Try.prog.elem 59)).run Try.prog u = .ok 1 u := by kernel_rfl
  have ha : Try.prog.arrayLen 59 = 4 := by kernel_rfl
  simp [Instr.indexAt, Sem.run_bind, run_underlying Try.underlying59, asIntOf, hk, go_sem, Addr.add]
  try (intro e; exact e.symm)
theorem exec_index4 {ρ : Operand → Value} {o : Oper} {x y : Operand} {g k : Nat} (hk : k < 4) (hop : o.op = .indexAddr 59 x y) (hx : ρ x = .pointer (some ⟨g, 0, none⟩)) (hy : ρ y = .int .i64 (k : Int)) (w : World) : (execOp ρ o).run Try.prog w = .ok (.value (.pointer (some ⟨g, k, none⟩))) w := by
  have h := index_c4 g k hk w
  unfold execOp
  rw [hop]
  simp only [hx, hy, Sem.run_bind, h, Result.andThen_ok, Sem.run_pure]
theorem size4 : (Try.prog.info? 59).map (·.size) = some 4 := by kernel_rfl
theorem wpList_alloc4 {ops : Array Oper} {rest : List Oper} {o : Oper} {a : Act} {w : World} {Q : Exit → Act → World → Prop} (hgd : o.guard = none) (ho : o.op = .alloc 59)
    (h : ∀ w1, Blk w1 w.heap.size (c4 0 0 0 0) 59 → w1.heap.size = w.heap.size + 1 → Below w.heap.size w w1 → wpList Try.prog ops Q rest (a.put o.dst (.pointer (some ⟨w.heap.size, 0, none⟩))) w1) : wpList Try.prog ops Q (o :: rest) a w := by
  refine Great.wpList_runTo hgd o.dst rfl (.pointer (some ⟨w.heap.size, 0, none⟩)) (w.alloc (.cells (c4 0 0 0 0) 59)) ?_ (h _ (Blk.new w _ _) (by simp) (below_new w _))
  obtain ⟨dst, op, ty, pos, aft, gd⟩ := o
  simp only at ho
  subst ho
  kernel_rfl
theorem wpList_loadVg {ops : Array Oper} {rest : List Oper} {o : Oper} {a : Act} {w : World} {Q : Exit → Act → World → Prop} (hw : Region.wanted o (yielded ops a.tmps) = true) (x : Operand) (ho : o.op = .load 26 x)
    (g : Nat) (s : SV) (hx : a.eval x = .pointer (some ⟨g, 0, none⟩)) (hg : Blk w g s.c 26) (hs : s.R.length = 32)
    (h : wpList Try.prog ops Q rest (a.put o.dst (.agg s.c)) w) : wpList Try.prog ops Q (o :: rest) a w :=
  BigFrame.wpList_want hw fun K hK => wp_load_row 26 x ho g hx 26 s.c (0, 0) _ hg Try.underlying26 rfl (by rw [SV.size hs]; exact sizeSV) (hK _ _ h)
theorem c4_one (a b c e : Int) : (c4 a b c e).all (·.oneCell') = true := by simp [c4, Value.oneCell']
def abcB : ByteArray := ⟨#[97, 98, 99]⟩
/-- What the end looks at. -/
structure WE (w : World) (s : MS) (n g10 g11 : Nat) (VR : SV) (rd ev : Value) : Prop where
  a : Blk w g10 VR.c 26
  b : Blk w n VR.c 26
  c : Blk w g11 (cwC abcB 0 rd 0 ev) 38
  m : MemW w s
theorem WE.later {w w' : World} {s : MS} {n g10 g11 : Nat} {VR : SV} {rd ev : Value} (h : WE w s n g10 g11 VR rd ev) (hb : Below w.heap.size w w') : WE w' s n g10 g11 VR rd ev := ⟨h.a.later hb, h.b.later hb, h.c.later hb, h.m.later hb⟩
/-- What the slots of the region hold, whatever the order. -/
def phiWg5 (n nc : Nat) (a b c e : Int) (w0 : World) (HB0 : Hid (Blk w0 n (stPN 4 8).c 26)) : Nat → Value → World → Prop
  | 0, x, _ => x = .pointer (some ⟨nc, 0, none⟩)
  | 1, x, _ => x = .int .u32 a
  | 2, x, _ => x = .pointer (some ⟨nc, 1, none⟩)
  | 3, x, _ => x = .int .u32 b
  | 4, x, _ => x = .pointer (some ⟨nc, 2, none⟩)
  | 5, x, _ => x = .int .u32 c
  | 6, x, _ => x = .pointer (some ⟨nc, 3, none⟩)
  | 7, x, _ => x = .int .u32 e
  | 8, x, _ => x = .pointer (some ⟨n, 0, none⟩)
  | 9, x, _ => x = .pointer (some ⟨n, 2, none⟩)
  | 10, x, w => x = .bool true ∧ (RG n (wgS a b c e) w0 w ∧ w.cell? ⟨n, 2, none⟩ = some (.int .u32 a))
  | 11, x, _ => x = .pointer (some ⟨n, 0, none⟩)
  | 12, x, _ => x = .pointer (some ⟨n, 4, none⟩)
  | 13, x, w => x = .bool true ∧ (RG n (wgS a b c e) w0 w ∧ w.cell? ⟨n, 4, none⟩ = some (.int .u32 b))
  | 14, x, _ => x = .pointer (some ⟨n, 0, none⟩)
  | 15, x, _ => x = .pointer (some ⟨n, 5, none⟩)
  | 16, x, w => x = .bool true ∧ (RG n (wgS a b c e) w0 w ∧ w.cell? ⟨n, 5, none⟩ = some (.int .u32 c))
  | 17, x, _ => x = .pointer (some ⟨n, 0, none⟩)
  | 18, x, _ => x = .pointer (some ⟨n, 6, none⟩)
  | 19, x, w => x = .bool true ∧ (RG n (wgS a b c e) w0 w ∧ w.cell? ⟨n, 6, none⟩ = some (.int .u32 e))
  | _ + 20, _, _ => True
theorem phiWg5_mono (n nc : Nat) (a b c e : Int) (w0 : World) (HB0 : Hid (Blk w0 n (stPN 4 8).c 26)) : ∀ i x w w', phiWg5 n nc a b c e w0 HB0 i x w → RG n (wgS a b c e) w w' → phiWg5 n nc a b c e w0 HB0 i x w'
  | 0, _, _, _, h, _ => h
  | 1, _, _, _, h, _ => h
  | 2, _, _, _, h, _ => h
  | 3, _, _, _, h, _ => h
  | 4, _, _, _, h, _ => h
  | 5, _, _, _, h, _ => h
  | 6, _, _, _, h, _ => h
  | 7, _, _, _, h, _ => h
  | 8, _, _, _, h, _ => h
  | 9, _, _, _, h, _ => h
  | 10, x, w, w', h, hb => ⟨h.1, (later_rg _ _).trans _ _ _ h.2.1 hb, h.2.1.cell (V0 := stPN 4 8) rfl HB0.out hb (by decide) h.2.2⟩
  | 11, _, _, _, h, _ => h
  | 12, _, _, _, h, _ => h
  | 13, x, w, w', h, hb => ⟨h.1, (later_rg _ _).trans _ _ _ h.2.1 hb, h.2.1.cell (V0 := stPN 4 8) rfl HB0.out hb (by decide) h.2.2⟩
  | 14, _, _, _, h, _ => h
  | 15, _, _, _, h, _ => h
  | 16, x, w, w', h, hb => ⟨h.1, (later_rg _ _).trans _ _ _ h.2.1 hb, h.2.1.cell (V0 := stPN 4 8) rfl HB0.out hb (by decide) h.2.2⟩
  | 17, _, _, _, h, _ => h
  | 18, _, _, _, h, _ => h
  | 19, x, w, w', h, hb => ⟨h.1, (later_rg _ _).trans _ _ _ h.2.1 hb, h.2.1.cell (V0 := stPN 4 8) rfl HB0.out hb (by decide) h.2.2⟩
  | _ + 20, _, _, _, _, _ => trivial
theorem list20 : ∀ xs : List Value, xs.length = 20 → ∃ x0 x1 x2 x3 x4 x5 x6 x7 x8 x9 x10 x11 x12 x13 x14 x15 x16 x17 x18 x19, xs = [x0, x1, x2, x3, x4, x5, x6, x7, x8, x9, x10, x11, x12, x13, x14, x15, x16, x17, x18, x19]
  | [x0, x1, x2, x3, x4, x5, x6, x7, x8, x9, x10, x11, x12, x13, x14, x15, x16, x17, x18, x19], _ => ⟨_, _, _, _, _, _, _, _, _, _, _, _, _, _, _, _, _, _, _, _, rfl⟩
/-- What the slots of the region hold, whatever the order. -/
def phiWq7 (s : MS) (inp : ByteArray) (mb N0 : Nat) (gg : Int) (WS VR : SV) : Nat → Value → World → Prop
  | 0, x, _ => x = .pointer (some ⟨mb, 0, none⟩)
  | 1, x, _ => x = .agg (SV.c WS)
  | 2, x, _ => x = .agg (zScI inp)
  | 3, x, w => ∃ rd1, x = .agg (cwC inp 0 rd1 0 (.slice none 0 0)) ∧ Rw w 1 rd1 0 []
  | 4, x, w => ∃ rd1 ev1, x = .tuple #[.agg VR.c, .agg (cwC inp 0 rd1 0 ev1), .int .i64 gg, .int .u32 0] ∧ GoodU N0 w rd1 ev1
  | 5, x, w => ∃ rd1 ev1, x = .tuple #[.agg VR.c, .agg (cwC inp 0 rd1 0 ev1), .int .i64 gg, .int .u32 0] ∧ GoodU N0 w rd1 ev1
  | 6, x, _ => x = .agg (SV.c VR)
  | 7, x, w => ∃ rd1 ev1, x = .agg (cwC inp 0 rd1 0 ev1) ∧ GoodU N0 w rd1 ev1
  | 8, x, _ => x = .int .i64 gg
  | 9, x, _ => x = .int .u32 0
  | 10, x, w => ∃ g, x = .pointer (some ⟨g, 0, none⟩) ∧ N0 ≤ g ∧ ∃ cs : Array Value, cs.size = (SV.c VR).size ∧ Blk w g cs 26
  | 11, x, w => ∃ g, x = .pointer (some ⟨g, 0, none⟩) ∧ N0 ≤ g ∧ ∃ cs : Array Value, cs.size = 5 ∧ Blk w g cs 38
  | 12, x, w => True
  | 13, x, w => True
  | 14, x, _ => x = .int .i64 gg
  | 15, x, _ => x = .int .u32 0
  | _ + 16, _, _ => True
theorem phiWq7_mono (s : MS) (inp : ByteArray) (mb N0 : Nat) (gg : Int) (WS VR : SV) : ∀ i x w w', phiWq7 s inp mb N0 gg WS VR i x w → RU s VR inp N0 w w' → phiWq7 s inp mb N0 gg WS VR i x w'
  | 0, _, _, _, h, _ => h
  | 1, _, _, _, h, _ => h
  | 2, _, _, _, h, _ => h
  | 3, x, w, w', h, hb => by obtain ⟨rd1, e, h1⟩ := h; exact ⟨rd1, e, rw_nil_any h1⟩
  | 4, x, w, w', h, hb => by obtain ⟨rd1, ev1, e, h1⟩ := h; exact ⟨rd1, ev1, e, hb.good h1⟩
  | 5, x, w, w', h, hb => by obtain ⟨rd1, ev1, e, h1⟩ := h; exact ⟨rd1, ev1, e, hb.good h1⟩
  | 6, _, _, _, h, _ => h
  | 7, x, w, w', h, hb => by obtain ⟨rd1, ev1, e, h1⟩ := h; exact ⟨rd1, ev1, e, hb.good h1⟩
  | 8, _, _, _, h, _ => h
  | 9, _, _, _, h, _ => h
  | 10, x, w, w', h, hb => by obtain ⟨g, e, h0, h1⟩ := h; exact ⟨g, e, h0, hb.sizeS (.inl rfl) h1⟩
  | 11, x, w, w', h, hb => by obtain ⟨g, e, h0, h1⟩ := h; exact ⟨g, e, h0, hb.sizeS (.inr (.inl rfl)) h1⟩
  | 12, x, w, w', h, hb => trivial
  | 13, x, w, w', h, hb => trivial
  | 14, _, _, _, h, _ => h
  | 15, _, _, _, h, _ => h
  | _ + 16, _, _, _, _, _ => trivial
theorem lstWq7 : ∀ xs : List Value, xs.length = 16 → ∃ x0 x1 x2 x3 x4 x5 x6 x7 x8 x9 x10 x11 x12 x13 x14 x15, xs = [x0, x1, x2, x3, x4, x5, x6, x7, x8, x9, x10, x11, x12, x13, x14, x15]
  | [x0, x1, x2, x3, x4, x5, x6, x7, x8, x9, x10, x11, x12, x13, x14, x15], _ => ⟨_, _, _, _, _, _, _, _, _, _, _, _, _, _, _, _, rfl⟩
def PhiWq7 (s : MS) (inp : ByteArray) (mb N0 : Nat) (gg : Int) (WS VR : SV) (i : Nat) (xs : List Value) (w : World) : Prop := (i = 12 → ∃ g, xs.getD 10 undef = .pointer (some ⟨g, 0, none⟩) ∧ Blk w g VR.c 26) ∧ (i = 13 → ∃ g, xs.getD 11 undef = .pointer (some ⟨g, 0, none⟩) ∧ ∃ rd ev, Blk w g (cwC inp 0 rd 0 ev) 38 ∧ GoodU N0 w rd ev) ∧ phiWq7 s inp mb N0 gg WS VR i (xs.getD i undef) w
theorem PhiWq7_mono (s : MS) (inp : ByteArray) (mb N0 : Nat) (gg : Int) (WS VR : SV) (i j : Nat) (xs : List Value) (u : Value) (w w' : World) (h : PhiWq7 s inp mb N0 gg WS VR i xs w) (hr : RU s VR inp N0 w w') (hj : j ≠ i) (h12 : i = 12 → j ≠ 10) (h13 : i = 13 → j ≠ 11) : PhiWq7 s inp mb N0 gg WS VR i (xs.set j u) w' := by
  refine ⟨fun e => ?_, fun e => ?_, ?_⟩
  · obtain ⟨g, hx, hk⟩ := h.1 e
    exact ⟨g, (getD_other (h12 e)).trans hx, hr.blkS hk⟩
  · obtain ⟨g, hx, hk⟩ := h.2.1 e
    exact ⟨g, (getD_other (h13 e)).trans hx, hr.blkW hk⟩
  · rw [getD_other hj]
    exact phiWq7_mono s inp mb N0 gg WS VR i _ w w' h.2.2 hr
theorem PhiWq7_of {s : MS} {inp : ByteArray} {mb N0 : Nat} {gg : Int} {WS VR : SV} {i : Nat} {xs : List Value} {u : Value} {w : World} (hl : xs.length = 16) (hi : i < 16) (h12 : i ≠ 12) (h13 : i ≠ 13) (h : phiWq7 s inp mb N0 gg WS VR i u w) : PhiWq7 s inp mb N0 gg WS VR i (xs.set i u) w := ⟨fun e => absurd e h12, fun e => absurd e h13, by
  rw [List.getD_eq_getElem?_getD, List.getElem?_set_self (by omega), Option.getD_some]
  exact h⟩
set_option maxRecDepth 20000 in
set_option maxHeartbeats 3000000 in
theorem wrongs_walk (w : World) (z x : Int) (hx0 : 0 ≤ x) (hx1 : x < 4294967296) : Calls Try.prog 5 #[.int .i64 z, .int .u32 x] w fun e w' => e = .returned (.bool true) ∧ Below w.heap.size w w' := by
  obtain ⟨wa, hwa⟩ : ∃ wa, w.alloc (.cells (cellsU zeros).toArray 5) = wa := ⟨_, rfl⟩
  obtain ⟨gn, hgn⟩ : ∃ gn, w.heap.size = gn := ⟨_, rfl⟩
  have hmk : (Instr.makeSlice 50 (.int .i64 256) (.int .i64 256)).run Try.prog w = .ok (.slice (some ⟨gn, 0, none⟩) 256 256) wa := by rw [← hwa, ← hgn]; exact make_B w
  have hra : Row wa (some ⟨gn, 0, none⟩) zeros 256 := by rw [← hwa, ← hgn]; exact row_new w zeros (by simp [zeros]) (by rw [show zeros.length = 256 from List.length_replicate]; decide)
  have hba : Below w.heap.size w wa := by rw [← hwa]; exact below_new w _
  clear hwa
  obtain ⟨wb, hwb⟩ : ∃ wb, wa.alloc (.cells #[.int .u32 512, .slice (some ⟨gn, 0, none⟩) 256 256, .int .i64 4, .bool false, .int .u32 1024, .slice none 0 0, .int .i64 2, .bool false] 52) = wb := ⟨_, rfl⟩
  obtain ⟨pn, hpn⟩ : ∃ pn, wa.heap.size = pn := ⟨_, rfl⟩
  have hbb : Below wa.heap.size wa wb := by rw [← hwb]; exact below_new wa _
  have hpb : Pieces wb (some ⟨pn, 0, none⟩) [wgP (some ⟨gn, 0, none⟩), wgQ] := by
    refine wg_pieces (hra.later hbb) ?_
    rw [← hwb, ← hpn]
    exact Blk.new wa _ _
  have HBB := hidden (hba.trans (hbb.mono hba.size))
  have HME := hidden (memory_any wb (some ⟨pn, 0, none⟩) 2 [wgP (some ⟨gn, 0, none⟩), wgQ] hpb (by simp) (fun p hp => by rcases List.mem_cons.1 hp with rfl | hp; exact (show zeros.length ≤ 600 by rw [show zeros.length = 256 from List.length_replicate]; decide); rw [List.mem_singleton.1 hp]; exact (show ([] : List UInt8).length ≤ 600 by decide)))
  have HBP := hidden (buildPN 4 8)
  have HPA := hidden (fun (u : World) => place_any z 8 (by decide) (by decide) u)
  obtain ⟨p1, hp1⟩ : ∃ p1, x.tmod 1000 = p1 := ⟨_, rfl⟩
  obtain ⟨p2, hp2⟩ : ∃ p2, x.tmod 99 = p2 := ⟨_, rfl⟩
  have hq1 : p1 = x % 1000 := hp1.symm.trans (Int.tmod_eq_emod_of_nonneg hx0)
  have hq2 : p2 = x % 99 := hp2.symm.trans (Int.tmod_eq_emod_of_nonneg hx0)
  have l10 : 0 ≤ p1 := by omega
  have l11 : p1 < 1000 := by omega
  have l20 : 0 ≤ p2 := by omega
  have l21 : p2 < 99 := by omega
  clear hq1 hq2 hra hba hbb hpb
  go_enter Try.func5, Try.ntmps5
  go_upto_region 2 with (first | (go_at_call 11; refine HME.out.mono ?_; rintro e w1 ⟨s, rfl, hown, habs, h64, h32, hts, hcc⟩; have HO := hidden hown; have HAB := hidden habs; have HTS := hidden hts; clear hown habs h64 h32 hts hcc))
  obtain ⟨n, hn⟩ : ∃ n, w1.heap.size = n := ⟨_, rfl⟩
  obtain ⟨V0, hV0⟩ : ∃ V0, stPN 4 8 = V0 := ⟨_, rfl⟩
  have HV0 : Hid (V0.R.length = 32) := hidden (by rw [← hV0]; rfl)
  have HV00 := hidden hV0
  rw [hV0] at HBP
  clear hV0
  go_upto_region 3 with (first
    | (refine wpList_buildJ HBP.out rfl rfl ?_)
    | (refine wpList_allocV rfl rfl ?_; rintro w2 k2 s2 b2; rw [hn] at k2 s2 b2 ⊢; have K2 := hidden k2; have B2 := hidden b2; have S2 := hidden s2; clear k2 s2 b2)
    | (refine wpList_storeV rfl rfl _ _ rfl n SV.zero V0 rfl rfl K2.out rfl HV0.out ?_; rintro w3 k3 o3; have K3 := hidden k3; have B3 := hidden (Below.only B2.out o3 (Nat.le_refl n)); have S3 : Hid (w3.heap.size = n + 1) := hidden (o3.size.trans S2.out); clear k3 o3 K2 B2 S2))
  go_upto_region 4 with (first | (go_at_call 23; refine (HPA.out _).mono ?_; rintro e w9 ⟨rfl, hww⟩; rw [hww]; clear hww w9))
  obtain ⟨k, hk⟩ : ∃ k : Nat, z % 8 = (k : Int) := ⟨(z % 8).toNat, by have := Int.emod_nonneg z (show (8 : Int) ≠ 0 by decide); omega⟩
  have hk8 : k < 8 := by have := Int.emod_lt_of_pos z (show (0 : Int) < 8 by decide); omega
  rw [hk]
  obtain ⟨a, b, c, e, why, HU, HK, hix, hiw⟩ := wg_tab p1 p2 l10 l11 l20 l21 k hk8
  unfold wgT at hix
  have HUK := hidden (And.intro HU HK)
  clear HU HK hk hk8
  rw [← HV00.out] at K3 HV0
  go_upto_region 5 with (first
    | (refine wpList_alloc4 rfl rfl ?_; rintro w4 k4 s4 b4; rw [S3.out] at k4 s4 b4 ⊢; have K4 := hidden k4; have KS4 := hidden (K3.out.later (by rw [S3.out]; exact b4)); have S4 := hidden s4; have B4 := hidden (B3.out.trans (b4.mono (Nat.le_succ n))); clear k4 s4 b4 K3 S3 B3)
    | (refine wpList_storeG rfl rfl 59 _ _ rfl (n + 1) (c4 0 0 0 0) (c4 a b c e) rfl rfl K4.out size4 rfl (c4_one a b c e) ?_; rintro w5 k5 o5; have HC4 := hidden k5; have HK5 := hidden (KS4.out.only o5 (Nat.ne_of_lt (Nat.lt_succ_self n))); have B5 := hidden (Below.only B4.out o5 (Nat.le_succ n)); clear k5 o5 K4 KS4 S4 B4))
  clear hix
  refine wp_region_on (later_rg n (wgS a b c e)) [42, 43, 44, 45, 46, 47, 48, 49, 50, 51, 1010, 52, 53, 1013, 54, 55, 1016, 56, 57, 1019] 20 (phiWg5 n (n + 1) a b c e w5 HK5) (by kernel_rfl) (by kernel_rfl) rfl rfl (phiWg5_mono n (n + 1) a b c e w5 HK5) ?_ ?_
  · intro j hj xs w3 hxs hR hpre
    obtain ⟨x0, x1, x2, x3, x4, x5, x6, x7, x8, x9, x10, x11, x12, x13, x14, x15, x16, x17, x18, x19, rfl⟩ := list20 xs hxs
    have hC : Blk w3 (n + 1) (c4 a b c e) 59 := HC4.out.only hR.only (Nat.succ_ne_self n)
    obtain ⟨R1, l1, hS, _⟩ := hR.row (stPN 4 8) rfl HK5.out
    rcases (show j = 0 ∨ j = 1 ∨ j = 2 ∨ j = 3 ∨ j = 4 ∨ j = 5 ∨ j = 6 ∨ j = 7 ∨ j = 8 ∨ j = 9 ∨ j = 10 ∨ j = 11 ∨ j = 12 ∨ j = 13 ∨ j = 14 ∨ j = 15 ∨ j = 16 ∨ j = 17 ∨ j = 18 ∨ j = 19 by omega) with rfl | rfl | rfl | rfl | rfl | rfl | rfl | rfl | rfl | rfl | rfl | rfl | rfl | rfl | rfl | rfl | rfl | rfl | rfl | rfl
    · exact wpOp_run (.pointer (some ⟨n + 1, 0, none⟩)) rfl (by kernel_rfl) (exec_index4 (k := 0) (by decide) rfl (by kernel_rfl) (by kernel_rfl) w3) ⟨_, by kernel_rfl, rfl, (later_rg _ _).refl _⟩
    · have e0 : x0 = .pointer (some ⟨n + 1, 0, none⟩) := hpre 0 (by kernel_rfl)
      subst e0
      exact wpOp_run (.int .u32 a) rfl (by kernel_rfl) (exec_load 23 rfl (by kernel_rfl) w3 (loadU (hC.cell (j := 0) rfl))) ⟨_, by kernel_rfl, rfl, (later_rg _ _).refl _⟩
    · exact wpOp_run (.pointer (some ⟨n + 1, 1, none⟩)) rfl (by kernel_rfl) (exec_index4 (k := 1) (by decide) rfl (by kernel_rfl) (by kernel_rfl) w3) ⟨_, by kernel_rfl, rfl, (later_rg _ _).refl _⟩
    · have e2 : x2 = .pointer (some ⟨n + 1, 1, none⟩) := hpre 2 (by kernel_rfl)
      subst e2
      exact wpOp_run (.int .u32 b) rfl (by kernel_rfl) (exec_load 23 rfl (by kernel_rfl) w3 (loadU (hC.cell (j := 1) rfl))) ⟨_, by kernel_rfl, rfl, (later_rg _ _).refl _⟩
    · exact wpOp_run (.pointer (some ⟨n + 1, 2, none⟩)) rfl (by kernel_rfl) (exec_index4 (k := 2) (by decide) rfl (by kernel_rfl) (by kernel_rfl) w3) ⟨_, by kernel_rfl, rfl, (later_rg _ _).refl _⟩
    · have e4 : x4 = .pointer (some ⟨n + 1, 2, none⟩) := hpre 4 (by kernel_rfl)
      subst e4
      exact wpOp_run (.int .u32 c) rfl (by kernel_rfl) (exec_load 23 rfl (by kernel_rfl) w3 (loadU (hC.cell (j := 2) rfl))) ⟨_, by kernel_rfl, rfl, (later_rg _ _).refl _⟩
    · exact wpOp_run (.pointer (some ⟨n + 1, 3, none⟩)) rfl (by kernel_rfl) (exec_index4 (k := 3) (by decide) rfl (by kernel_rfl) (by kernel_rfl) w3) ⟨_, by kernel_rfl, rfl, (later_rg _ _).refl _⟩
    · have e6 : x6 = .pointer (some ⟨n + 1, 3, none⟩) := hpre 6 (by kernel_rfl)
      subst e6
      exact wpOp_run (.int .u32 e) rfl (by kernel_rfl) (exec_load 23 rfl (by kernel_rfl) w3 (loadU (hC.cell (j := 3) rfl))) ⟨_, by kernel_rfl, rfl, (later_rg _ _).refl _⟩
    · exact wpOp_run (.pointer (some ⟨n, 0, none⟩)) rfl (by kernel_rfl) (by kernel_rfl) ⟨_, by kernel_rfl, rfl, (later_rg _ _).refl _⟩
    · have e8 : x8 = .pointer (some ⟨n, 0, none⟩) := hpre 8 (by kernel_rfl)
      subst e8
      exact wpOp_run (.pointer (some ⟨n, 2, none⟩)) rfl (by kernel_rfl) (exec_indexR (k := 2) (by decide) rfl (by kernel_rfl) (by kernel_rfl) w3) ⟨_, by kernel_rfl, rfl, (later_rg _ _).refl _⟩
    · have e1 : x1 = .int .u32 a := hpre 1 (by kernel_rfl)
      subst e1
      have e9 : x9 = .pointer (some ⟨n, 2, none⟩) := hpre 9 (by kernel_rfl)
      subst e9
      have hp := hR.put (k := 2) (V0 := stPN 4 8) rfl HK5.out (by decide)
      exact wpOp_put rfl (by kernel_rfl) (exec_store1 (T := 26) (g := n) (k := 2) (cs := SV.c { stPN 4 8 with R := R1 }) (v := .int .u32 a) rfl (by kernel_rfl) (by kernel_rfl) rfl sizeU1 w3 hS (by rw [SV.size l1]; decide)) ⟨.bool true, by kernel_rfl, ⟨rfl, (later_rg _ _).trans _ _ _ hR hp.1, hp.2⟩, hp.1⟩
    · exact wpOp_run (.pointer (some ⟨n, 0, none⟩)) rfl (by kernel_rfl) (by kernel_rfl) ⟨_, by kernel_rfl, rfl, (later_rg _ _).refl _⟩
    · have e11 : x11 = .pointer (some ⟨n, 0, none⟩) := hpre 11 (by kernel_rfl)
      subst e11
      exact wpOp_run (.pointer (some ⟨n, 4, none⟩)) rfl (by kernel_rfl) (exec_indexR (k := 4) (by decide) rfl (by kernel_rfl) (by kernel_rfl) w3) ⟨_, by kernel_rfl, rfl, (later_rg _ _).refl _⟩
    · have e3 : x3 = .int .u32 b := hpre 3 (by kernel_rfl)
      subst e3
      have e12 : x12 = .pointer (some ⟨n, 4, none⟩) := hpre 12 (by kernel_rfl)
      subst e12
      have hp := hR.put (k := 4) (V0 := stPN 4 8) rfl HK5.out (by decide)
      exact wpOp_put rfl (by kernel_rfl) (exec_store1 (T := 26) (g := n) (k := 4) (cs := SV.c { stPN 4 8 with R := R1 }) (v := .int .u32 b) rfl (by kernel_rfl) (by kernel_rfl) rfl sizeU1 w3 hS (by rw [SV.size l1]; decide)) ⟨.bool true, by kernel_rfl, ⟨rfl, (later_rg _ _).trans _ _ _ hR hp.1, hp.2⟩, hp.1⟩
    · exact wpOp_run (.pointer (some ⟨n, 0, none⟩)) rfl (by kernel_rfl) (by kernel_rfl) ⟨_, by kernel_rfl, rfl, (later_rg _ _).refl _⟩
    · have e14 : x14 = .pointer (some ⟨n, 0, none⟩) := hpre 14 (by kernel_rfl)
      subst e14
      exact wpOp_run (.pointer (some ⟨n, 5, none⟩)) rfl (by kernel_rfl) (exec_indexR (k := 5) (by decide) rfl (by kernel_rfl) (by kernel_rfl) w3) ⟨_, by kernel_rfl, rfl, (later_rg _ _).refl _⟩
    · have e5 : x5 = .int .u32 c := hpre 5 (by kernel_rfl)
      subst e5
      have e15 : x15 = .pointer (some ⟨n, 5, none⟩) := hpre 15 (by kernel_rfl)
      subst e15
      have hp := hR.put (k := 5) (V0 := stPN 4 8) rfl HK5.out (by decide)
      exact wpOp_put rfl (by kernel_rfl) (exec_store1 (T := 26) (g := n) (k := 5) (cs := SV.c { stPN 4 8 with R := R1 }) (v := .int .u32 c) rfl (by kernel_rfl) (by kernel_rfl) rfl sizeU1 w3 hS (by rw [SV.size l1]; decide)) ⟨.bool true, by kernel_rfl, ⟨rfl, (later_rg _ _).trans _ _ _ hR hp.1, hp.2⟩, hp.1⟩
    · exact wpOp_run (.pointer (some ⟨n, 0, none⟩)) rfl (by kernel_rfl) (by kernel_rfl) ⟨_, by kernel_rfl, rfl, (later_rg _ _).refl _⟩
    · have e17 : x17 = .pointer (some ⟨n, 0, none⟩) := hpre 17 (by kernel_rfl)
      subst e17
      exact wpOp_run (.pointer (some ⟨n, 6, none⟩)) rfl (by kernel_rfl) (exec_indexR (k := 6) (by decide) rfl (by kernel_rfl) (by kernel_rfl) w3) ⟨_, by kernel_rfl, rfl, (later_rg _ _).refl _⟩
    · have e7 : x7 = .int .u32 e := hpre 7 (by kernel_rfl)
      subst e7
      have e18 : x18 = .pointer (some ⟨n, 6, none⟩) := hpre 18 (by kernel_rfl)
      subst e18
      have hp := hR.put (k := 6) (V0 := stPN 4 8) rfl HK5.out (by decide)
      exact wpOp_put rfl (by kernel_rfl) (exec_store1 (T := 26) (g := n) (k := 6) (cs := SV.c { stPN 4 8 with R := R1 }) (v := .int .u32 e) rfl (by kernel_rfl) (by kernel_rfl) rfl sizeU1 w3 hS (by rw [SV.size l1]; decide)) ⟨.bool true, by kernel_rfl, ⟨rfl, (later_rg _ _).trans _ _ _ hR hp.1, hp.2⟩, hp.1⟩
  · intro xs wq hxs hR hall
    obtain ⟨x0, x1, x2, x3, x4, x5, x6, x7, x8, x9, x10, x11, x12, x13, x14, x15, x16, x17, x18, x19, rfl⟩ := list20 xs hxs
    have f10 : wq.cell? ⟨n, 2, none⟩ = some (.int .u32 a) := (hall 10 (by omega)).2.2
    have f13 : wq.cell? ⟨n, 4, none⟩ = some (.int .u32 b) := (hall 13 (by omega)).2.2
    have f16 : wq.cell? ⟨n, 5, none⟩ = some (.int .u32 c) := (hall 16 (by omega)).2.2
    have f19 : wq.cell? ⟨n, 6, none⟩ = some (.int .u32 e) := (hall 19 (by omega)).2.2
    have KQ := hidden (hR.fin HK5.out f10 f13 f16 f19)
    have BQ := hidden (Below.only B5.out hR.only (Nat.le_refl n))
    clear f10 f13 f16 f19 hR hall hxs HC4 HK5 B5
    simp only [slotsOn, putAll]
    go_upto_region 7 with fail
    clear hiw
    obtain ⟨WS, hWS⟩ : ∃ WS, wgS a b c e = WS := ⟨_, rfl⟩
    obtain ⟨VR, hVR⟩ : ∃ VR, ansV WS why 1 = VR := ⟨_, rfl⟩
    have HVL : Hid (WS.R.length = 32) := hidden (by rw [← hWS]; rfl)
    have HVR : Hid (VR.R.length = 32) := hidden (by rw [← hVR, ← hWS]; rfl)
    have HVE : Hid ({ WS with R := (WS.R.set 2 why).set 7 1, pc := 8, nx := 12 } = VR) := hidden (by rw [← hVR, ← hWS]; rfl)
    have HSZ : Hid (SV.zero.c.size = (SV.c VR).size) := hidden (by rw [SV.size HVR.out]; rfl)
    have HSV : Hid ((Try.prog.info? 26).map (·.size) = some (SV.c VR).size) := hidden (by rw [SV.size HVR.out]; exact sizeSV)
    have HMI := hidden (HO.out.mem.later (by rw [hn]; exact BQ.out))
    have HCALL0 := hidden (fun (u : World) (rd : Value) (hm : MemW u s) (hr : Rw u 1 rd 0 []) => wrongs_call hm HAB.out abcB rd hr HUK.out.1 HUK.out.2)
    rw [hWS] at KQ HCALL0
    rw [hVR] at HCALL0
    obtain ⟨PP, hPP⟩ : ∃ PP : MS → Prop, (· = s) = PP := ⟨_, rfl⟩
    have HPP : Hid (∀ s2, PP s2 → s2 = s) := hidden (fun s2 h => by rw [← hPP] at h; exact h)
    rw [hPP] at HCALL0
    have KV := KQ
    have HVN : Hid (¬ (foot s n ∨ wq.heap.size ≤ n)) := hidden (fun h => h.elim (fun h => HMI.out.not_u4 KV.out (.inl rfl) h) (fun h => by have := KV.out.lt; omega))
    have HFW : Hid (∀ b, foot s b → w.heap.size ≤ b) := hidden (fun b hb => Nat.le_trans HBB.out.size (HO.out.foot b hb))
    have HWN : Hid (w.heap.size ≤ n) := hidden (by rw [← hn]; exact Nat.le_trans HBB.out.size HO.out.below.size)
    have HWQ := hidden (HBB.out.trans ((HO.out.below.mono HBB.out.size).trans (show Below w.heap.size w1 wq from BQ.out.mono HWN.out)))
    obtain ⟨ta, tc, htv⟩ : ∃ ao cap, s.tv = .slice ao 0 cap := by
      have h := HMI.out.touched
      rw [HTS.out] at h
      exact own_sl h
    have HTO : Hid (∀ u, MemW u s → Calls Try.prog 19 #[.pointer (some ⟨s.mb, 0, none⟩)] u fun e w' => e = .returned (.slice ta 0 tc) ∧ Step u s w' s.told) := hidden (fun u hu => (told_any u s hu).mono fun e w' h => ⟨by rw [← htv]; exact h.1, h.2.1⟩)
    have HSF := hidden (fun u => sameState_eq u VR HVR.out)
    obtain ⟨mb, hmb⟩ : ∃ mb, s.mb = mb := ⟨_, rfl⟩
    have HCALL : Hid (∀ (u : World) (rd : Value), MemW u s → Rw u 1 rd 0 [] → Calls Try.prog 13 #[.pointer (some ⟨mb, 0, none⟩), .agg WS.c, .agg (cwC abcB 0 rd 0 (.slice none 0 0))] u (CRes s VR abcB 0 PP u)) := hidden (by rw [← hmb]; exact HCALL0.out)
    rw [hmb] at HTO ⊢
    clear hPP hVR hWS htv hmb HCALL0 KQ HUK HME HAB HPA HV0 HV00 HBP hp1 hp2 l10 l11 l20 l21 HTS
    refine wp_region_di (later_ru (s := s) (V := VR) (inp := abcB) (N0 := wq.heap.size)) [62, 63, 64, 65, 66, 61, 67, 68, 69, 70, 10, 11, 1012, 1013, 12, 13] 16 (PhiWq7 s abcB mb wq.heap.size (0 : Int) WS VR) (MJ s wq.heap.size PP) (by kernel_rfl) (by kernel_rfl) rfl rfl (show MemW wq.drew s from HMI.out.drewN 1) (fun i j xs v u u' h hr hj hw => PhiWq7_mono s abcB mb wq.heap.size (0 : Int) WS VR i j xs v u u' h hr hj (fun e e2 => by subst e e2; exact absurd (hw.symm.trans (by kernel_rfl)) Bool.false_ne_true) (fun e e2 => by subst e e2; exact absurd (hw.symm.trans (by kernel_rfl)) Bool.false_ne_true)) ?_ ?_
    · intro j hj D xs w3 hxs hR hD hI hpre
      obtain ⟨x0, x1, x2, x3, x4, x5, x6, x7, x8, x9, x10, x11, x12, x13, x14, x15, rfl⟩ := lstWq7 xs hxs
      have hN3 : wq.heap.size ≤ w3.heap.size := hR.keep.size
      rcases (show j = 0 ∨ j = 1 ∨ j = 2 ∨ j = 3 ∨ j = 4 ∨ j = 5 ∨ j = 6 ∨ j = 7 ∨ j = 8 ∨ j = 9 ∨ j = 10 ∨ j = 11 ∨ j = 12 ∨ j = 13 ∨ j = 14 ∨ j = 15 by omega) with rfl | rfl | rfl | rfl | rfl | rfl | rfl | rfl | rfl | rfl | rfl | rfl | rfl | rfl | rfl | rfl
      · exact wpOp_run (.pointer (some ⟨mb, 0, none⟩)) rfl (by kernel_rfl) (exec_move rfl (by kernel_rfl) w3) ⟨_, by kernel_rfl, PhiWq7_of hxs (by decide) (by decide) (by decide) rfl, RU.refl _, hI.stay (by decide)⟩
      · exact wpOp_run (.agg (SV.c WS)) rfl (by kernel_rfl) (exec_load 26 rfl (by kernel_rfl) w3 (loadSt ((hR.keep.block _ KV.out.lt HVN.out).trans KV.out) HVL.out)) ⟨_, by kernel_rfl, PhiWq7_of hxs (by decide) (by decide) (by decide) rfl, RU.refl _, hI.stay (by decide)⟩
      · exact wpOp_run (.agg (zScI abcB)) rfl (by kernel_rfl) (by kernel_rfl) ⟨_, by kernel_rfl, PhiWq7_of hxs (by decide) (by decide) (by decide) rfl, RU.refl _, hI.stay (by decide)⟩
      · have e2 : x2 = .agg (zScI abcB) := (hpre 2 (by kernel_rfl)).2.2
        subst e2
        refine wpOp_callR (R := fun u w4 => (∃ rd1, u = .agg (cwC abcB 0 rd1 0 (.slice none 0 0)) ∧ Rw w4 1 rd1 0 []) ∧ Below w3.heap.size w3 w4) 21 #[.agg (zScI abcB)] rfl (by kernel_rfl) (by kernel_rfl) ((cnew_any w3 (zScI abcB) abcB (.slice none 0 0) [] rfl rfl rfl (rw_nil w3 1) (by decide)).mono fun x w4 h => by obtain ⟨rd1, hx, hf, hb⟩ := h; exact ⟨_, hx, ⟨rd1, rfl, hf.rw (cI_len [])⟩, hb⟩) ?_
        rintro u w4 ⟨hu, hb4⟩
        exact ⟨_, by kernel_rfl, PhiWq7_of hxs (by decide) (by decide) (by decide) hu, RU.of_below hb4, hI.later (by decide) hb4⟩
      · have e0 : x0 = .pointer (some ⟨mb, 0, none⟩) := (hpre 0 (by kernel_rfl)).2.2
        subst e0
        have e1 : x1 = .agg (SV.c WS) := (hpre 1 (by kernel_rfl)).2.2
        subst e1
        obtain ⟨rd3, e3, f3⟩ : ∃ rd1, x3 = .agg (cwC abcB 0 rd1 0 (.slice none 0 0)) ∧ Rw w3 1 rd1 0 [] := (hpre 3 (by kernel_rfl)).2.2
        subst e3
        refine wpOp_callR (R := fun u w4 => (∃ rd1 ev1, u = .tuple #[.agg VR.c, .agg (cwC abcB 0 rd1 0 ev1), .int .i64 (0 : Int), .int .u32 0] ∧ GoodU wq.heap.size w4 rd1 ev1) ∧ ∃ s2, Step w3 s w4 s2 ∧ PP s2) 13 #[.pointer (some ⟨mb, 0, none⟩), .agg (SV.c WS), .agg (cwC abcB 0 rd3 0 (.slice none 0 0))] rfl (by kernel_rfl) (by kernel_rfl) ((HCALL.out w3 rd3 (hI.before hD) f3).mono fun x w4 h => by obtain ⟨rd1, ev1, hx, hg, hs⟩ := h; exact ⟨_, hx, ⟨rd1, ev1, rfl, hg.mono hN3⟩, hs⟩) ?_
        rintro u w4 ⟨hu, s2, hst, hpp⟩
        exact ⟨_, by kernel_rfl, PhiWq7_of hxs (by decide) (by decide) (by decide) hu, RU.of_step (hI.before hD) hst, MJ.done hN3 hst hpp⟩
      · obtain ⟨rd4, ev4, e4, f4⟩ : ∃ rd1 ev1, x4 = .tuple #[.agg VR.c, .agg (cwC abcB 0 rd1 0 ev1), .int .i64 (0 : Int), .int .u32 0] ∧ GoodU wq.heap.size w3 rd1 ev1 := (hpre 4 (by kernel_rfl)).2.2
        subst e4
        exact wpOp_run (.tuple #[.agg VR.c, .agg (cwC abcB 0 rd4 0 ev4), .int .i64 (0 : Int), .int .u32 0]) rfl (by kernel_rfl) (exec_move rfl (by kernel_rfl) w3) ⟨_, by kernel_rfl, PhiWq7_of hxs (by decide) (by decide) (by decide) ⟨rd4, ev4, rfl, f4⟩, RU.refl _, hI.stay (by decide)⟩
      · obtain ⟨rd5, ev5, e5, f5⟩ : ∃ rd1 ev1, x5 = .tuple #[.agg VR.c, .agg (cwC abcB 0 rd1 0 ev1), .int .i64 (0 : Int), .int .u32 0] ∧ GoodU wq.heap.size w3 rd1 ev1 := (hpre 5 (by kernel_rfl)).2.2
        subst e5
        exact wpOp_run (.agg (SV.c VR)) rfl (by kernel_rfl) (by kernel_rfl) ⟨_, by kernel_rfl, PhiWq7_of hxs (by decide) (by decide) (by decide) rfl, RU.refl _, hI.stay (by decide)⟩
      · obtain ⟨rd5, ev5, e5, f5⟩ : ∃ rd1 ev1, x5 = .tuple #[.agg VR.c, .agg (cwC abcB 0 rd1 0 ev1), .int .i64 (0 : Int), .int .u32 0] ∧ GoodU wq.heap.size w3 rd1 ev1 := (hpre 5 (by kernel_rfl)).2.2
        subst e5
        exact wpOp_run (.agg (cwC abcB 0 rd5 0 ev5)) rfl (by kernel_rfl) (by kernel_rfl) ⟨_, by kernel_rfl, PhiWq7_of hxs (by decide) (by decide) (by decide) ⟨rd5, ev5, rfl, f5⟩, RU.refl _, hI.stay (by decide)⟩
      · obtain ⟨rd5, ev5, e5, f5⟩ : ∃ rd1 ev1, x5 = .tuple #[.agg VR.c, .agg (cwC abcB 0 rd1 0 ev1), .int .i64 (0 : Int), .int .u32 0] ∧ GoodU wq.heap.size w3 rd1 ev1 := (hpre 5 (by kernel_rfl)).2.2
        subst e5
        exact wpOp_run (.int .i64 (0 : Int)) rfl (by kernel_rfl) (by kernel_rfl) ⟨_, by kernel_rfl, PhiWq7_of hxs (by decide) (by decide) (by decide) rfl, RU.refl _, hI.stay (by decide)⟩
      · obtain ⟨rd5, ev5, e5, f5⟩ : ∃ rd1 ev1, x5 = .tuple #[.agg VR.c, .agg (cwC abcB 0 rd1 0 ev1), .int .i64 (0 : Int), .int .u32 0] ∧ GoodU wq.heap.size w3 rd1 ev1 := (hpre 5 (by kernel_rfl)).2.2
        subst e5
        exact wpOp_run (.int .u32 0) rfl (by kernel_rfl) (by kernel_rfl) ⟨_, by kernel_rfl, PhiWq7_of hxs (by decide) (by decide) (by decide) rfl, RU.refl _, hI.stay (by decide)⟩
      · exact wpOp_run (.pointer (some ⟨w3.heap.size, 0, none⟩)) rfl (by kernel_rfl) (zeroS_run rfl w3) ⟨_, by kernel_rfl, PhiWq7_of hxs (by decide) (by decide) (by decide) ⟨_, rfl, hN3, SV.zero.c, HSZ.out, Blk.new w3 _ _⟩, RU.of_below (below_new w3 _), hI.later (by decide) (below_new w3 _)⟩
      · exact wpOp_run (.pointer (some ⟨w3.heap.size, 0, none⟩)) rfl (by kernel_rfl) (zeroC_run rfl w3) ⟨_, by kernel_rfl, PhiWq7_of hxs (by decide) (by decide) (by decide) ⟨_, rfl, hN3, zCw, rfl, Blk.new w3 _ _⟩, RU.of_below (below_new w3 _), hI.later (by decide) (below_new w3 _)⟩
      · have e6 : x6 = .agg (SV.c VR) := (hpre 6 (by kernel_rfl)).2.2
        subst e6
        obtain ⟨g10, e10, o10, c10, s10, f10⟩ : ∃ g, x10 = .pointer (some ⟨g, 0, none⟩) ∧ wq.heap.size ≤ g ∧ ∃ cs : Array Value, cs.size = (SV.c VR).size ∧ Blk w3 g cs 26 := (hpre 10 (by kernel_rfl)).2.2
        subst e10
        exact wpOp_put rfl (by kernel_rfl) (exec_storeG (g := g10) (cs := SV.c VR) (old := c10) rfl (by kernel_rfl) (by kernel_rfl) w3 f10 HSV.out s10 (SV.one _)) ⟨.bool true, by kernel_rfl, ⟨fun _ => ⟨g10, rfl, setRow_heap w3 g10 c10 _ 26 (0, 0) f10⟩, fun e => absurd e (by decide), trivial⟩, RU.putS (only_rowV w3 g10 _) o10 f10 s10.symm (setRow_heap w3 g10 c10 _ 26 (0, 0) f10), hI.only (by decide) (only_rowV w3 g10 _) f10 (.inl rfl)⟩
      · obtain ⟨rd7, ev7, e7, f7⟩ : ∃ rd1 ev1, x7 = .agg (cwC abcB 0 rd1 0 ev1) ∧ GoodU wq.heap.size w3 rd1 ev1 := (hpre 7 (by kernel_rfl)).2.2
        subst e7
        obtain ⟨g11, e11, o11, c11, s11, f11⟩ : ∃ g, x11 = .pointer (some ⟨g, 0, none⟩) ∧ wq.heap.size ≤ g ∧ ∃ cs : Array Value, cs.size = 5 ∧ Blk w3 g cs 38 := (hpre 11 (by kernel_rfl)).2.2
        subst e11
        have HW := RU.putW (s := s) (V := VR) (N0 := wq.heap.size) (only_rowV w3 g11 _) o11 f11 s11 (setRow_heap w3 g11 c11 (cwC abcB 0 rd7 0 ev7) 38 (0, 0) f11) f7
        exact wpOp_put rfl (by kernel_rfl) (exec_storeG (g := g11) (cs := cwC abcB 0 rd7 0 ev7) (old := c11) rfl (by kernel_rfl) (by kernel_rfl) w3 f11 (by exact sizeCw) s11 f7.one) ⟨.bool true, by kernel_rfl, ⟨fun e => absurd e (by decide), fun _ => ⟨g11, rfl, rd7, ev7, setRow_heap w3 g11 c11 _ 38 (0, 0) f11, HW.2⟩, trivial⟩, HW.1, hI.only (by decide) (only_rowV w3 g11 _) f11 (.inr (.inl rfl))⟩
      · have e8 : x8 = .int .i64 (0 : Int) := (hpre 8 (by kernel_rfl)).2.2
        subst e8
        exact wpOp_run (.int .i64 (0 : Int)) rfl (by kernel_rfl) (by kernel_rfl) ⟨_, by kernel_rfl, PhiWq7_of hxs (by decide) (by decide) (by decide) rfl, RU.refl _, hI.stay (by decide)⟩
      · have e9 : x9 = .int .u32 0 := (hpre 9 (by kernel_rfl)).2.2
        subst e9
        exact wpOp_run (.int .u32 0) rfl (by kernel_rfl) (by kernel_rfl) ⟨_, by kernel_rfl, PhiWq7_of hxs (by decide) (by decide) (by decide) rfl, RU.refl _, hI.stay (by decide)⟩
    · intro D xs w3 hxs hR hDD hI hall
      obtain ⟨x0, x1, x2, x3, x4, x5, x6, x7, x8, x9, x10, x11, x12, x13, x14, x15, rfl⟩ := lstWq7 xs hxs
      have e14 : x14 = .int .i64 (0 : Int) := (hall 14 (by omega)).2.2
      have e15 : x15 = .int .u32 0 := (hall 15 (by omega)).2.2
      obtain ⟨g10, e10, b10⟩ : ∃ g, x10 = .pointer (some ⟨g, 0, none⟩) ∧ Blk w3 g VR.c 26 := (hall 12 (by omega)).1 rfl
      obtain ⟨g11, e11, rd7, ev7, b11, hgd⟩ : ∃ g, x11 = .pointer (some ⟨g, 0, none⟩) ∧ ∃ rd ev, Blk w3 g (cwC abcB 0 rd 0 ev) 38 ∧ GoodU wq.heap.size w3 rd ev := (hall 13 (by omega)).2.1 rfl
      obtain ⟨ga, ea, oa, _⟩ : ∃ g, x10 = .pointer (some ⟨g, 0, none⟩) ∧ wq.heap.size ≤ g ∧ _ := (hall 10 (by omega)).2.2
      obtain ⟨gb, eb, ob, _⟩ : ∃ g, x11 = .pointer (some ⟨g, 0, none⟩) ∧ wq.heap.size ≤ g ∧ _ := (hall 11 (by omega)).2.2
      have hN10 : wq.heap.size ≤ g10 := by
        rw [e10] at ea
        injection ea with ea
        injection ea with ea
        injection ea with ea
        rw [ea]
        exact oa
      have hN11 : wq.heap.size ≤ g11 := by
        rw [e11] at eb
        injection eb with eb
        injection eb with eb
        injection eb with eb
        rw [eb]
        exact ob
      clear ea eb oa ob
      subst e14 e15 e10 e11
      obtain ⟨s2, hm2, hg2, hp2⟩ := hI.behind (hDD 4 (by omega))
      have hn3 := (hR.keep.block n KV.out.lt HVN.out).trans KV.out
      obtain rfl : s2 = s := HPP.out s2 hp2
      have hne : n ≠ g10 := by have := KV.out.lt; omega
      have hne2 : n ≠ g11 := by have := KV.out.lt; omega
      have KN := hidden (show Blk w3 n WS.c 26 from hn3)
      have HNE := hidden (And.intro hne hne2)
      have EA := hidden b10
      have EC := hidden b11
      have EM := hidden hm2
      have EG := hidden hgd
      have BQ3 := hidden (HWQ.out.trans (hR.keep.below (B := w.heap.size) (Nat.le_of_lt (Nat.lt_of_le_of_lt HWN.out KV.out.lt)) fun b hb => hb.elim (HFW.out b) fun h => Nat.le_trans (Nat.le_of_lt (Nat.lt_of_le_of_lt HWN.out KV.out.lt)) h))
      have HNF : Hid (¬ foot s2 n) := hidden (fun h => HVN.out (.inl h))
      have hi2 : ∀ u, (Instr.indexAt 24 (.pointer (some ⟨n, 0, none⟩)) (.int .i64 2)).run Try.prog u = .ok (.pointer (some ⟨n, 2, none⟩)) u := fun u => index_reg n 2 (by omega) u
      have hi7 : ∀ u, (Instr.indexAt 24 (.pointer (some ⟨n, 0, none⟩)) (.int .i64 7)).run Try.prog u = .ok (.pointer (some ⟨n, 7, none⟩)) u := fun u => index_reg n 7 (by omega) u
      have L27 : Hid (2 < 32 ∧ 7 < 32) := hidden (by decide)
      have HVL2 : Hid ((WS.R.set 2 why).length = 32) := hidden (by rw [List.length_set]; exact HVL.out)
      have HVL7 : Hid (((WS.R.set 2 why).set 7 1).length = 32) := hidden (by rw [List.length_set, List.length_set]; exact HVL.out)
      obtain ⟨gr, evv⟩ : ∃ g, ev7 = .slice (some ⟨g, 0, none⟩) 0 0 := by
        obtain ⟨_, g, _, e, _⟩ := EG.out
        exact ⟨g, e⟩
      subst evv
      obtain ⟨w6, hw6⟩ : ∃ w6, w3 = w6 := ⟨_, rfl⟩
      subst hw6
      clear hn3 hne hne2 b10 b11 hm2 hgd hR hall hI hDD hxs hg2 hp2 HPP HCALL HMI KV HVN HWQ hN10 hN11 EG HSZ HSV
      simp only [slotsOn, putAll]
      go_upto_region 10 with (first
        | (refine wpList_setR rfl rfl _ _ rfl n 2 WS why rfl rfl KN.out HVL.out L27.out.1 ?_; rintro w7 k7 o7; have K7 := hidden k7; have EA7 := hidden (EA.out.only o7 (fun h => HNE.out.1 h.symm)); have EC7 := hidden (EC.out.only o7 (fun h => HNE.out.2 h.symm)); have EM7 := hidden (EM.out.same fun b hb => o7.block b (fun h => HNF.out (by rw [← h]; exact hb))); have B7 := hidden (Below.only BQ3.out o7 HWN.out); clear k7 o7 KN EA EC EM BQ3)
        | (refine wpList_setR rfl rfl _ _ rfl n 7 { WS with R := WS.R.set 2 why } 1 rfl rfl K7.out HVL2.out L27.out.2 ?_; rintro w8 k8 o8; have K8 := hidden k8; have EA8 := hidden (EA7.out.only o8 (fun h => HNE.out.1 h.symm)); have EC8 := hidden (EC7.out.only o8 (fun h => HNE.out.2 h.symm)); have EM8 := hidden (EM7.out.same fun b hb => o8.block b (fun h => HNF.out (by rw [← h]; exact hb))); have B8 := hidden (Below.only B7.out o8 HWN.out); clear k8 o8 K7 EA7 EC7 EM7 B7)
        | (refine wpList_set_pc rfl rfl _ _ rfl n { WS with R := (WS.R.set 2 why).set 7 1 } 8 rfl rfl K8.out HVL7.out ?_; rintro w9 k9 o9; have K9 := hidden k9; have EA9 := hidden (EA8.out.only o9 (fun h => HNE.out.1 h.symm)); have EC9 := hidden (EC8.out.only o9 (fun h => HNE.out.2 h.symm)); have EM9 := hidden (EM8.out.same fun b hb => o9.block b (fun h => HNF.out (by rw [← h]; exact hb))); have B9 := hidden (Below.only B8.out o9 HWN.out); clear k9 o9 K8 EA8 EC8 EM8 B8)
        | (refine wpList_set_nx rfl rfl _ _ rfl n { WS with R := (WS.R.set 2 why).set 7 1, pc := 8 } 12 rfl rfl K9.out HVL7.out ?_; rintro w10 k10 o10; rw [HVE.out] at k10; have E0 : Hid (WE w10 s2 n g10 g11 VR rd7 (.slice (some ⟨gr, 0, none⟩) 0 0)) := hidden ⟨EA9.out.only o10 (fun h => HNE.out.1 h.symm), k10, EC9.out.only o10 (fun h => HNE.out.2 h.symm), EM9.out.same fun b hb => o10.block b (fun h => HNF.out (by rw [← h]; exact hb))⟩; have B10 := hidden (Below.only B9.out o10 HWN.out); clear k10 o10 K9 EA9 EC9 EM9 B9))
      go_wp2_with (first
        | (refine wpList_loadVg (by kernel_rfl) _ rfl g10 VR rfl E0.out.a HVR.out ?_)
        | (refine wpList_loadVg (by kernel_rfl) _ rfl n VR rfl E0.out.b HVR.out ?_)
        | (go_at_call 15; refine (HSF.out _).mono ?_; rintro e1 w11 ⟨rfl, b11⟩; have E1 := hidden (E0.out.later b11); have B11 := hidden (B10.out.trans (b11.mono B10.out.size)); have c1 := E1.out.c.cell (j := 1) rfl; have c3 := E1.out.c.cell (j := 3) rfl; have c4 := E1.out.c.cell (j := 4) rfl; clear b11 E0 B10)
        | (go_at_call 19; refine (HTO.out _ E1.out.m).mono ?_; rintro e2 w12 ⟨rfl, hst⟩; have B12 := hidden (B11.out.trans (hst.keep.below (B := w.heap.size) B11.out.size HFW.out)); clear hst c1 c3 c4 E1 B11)
        | (go_at_call 10; refine (awake12_any _).mono ?_; rintro e3 w13 ⟨rfl, hb⟩; have B13 := hidden (B12.out.trans (hb.mono B12.out.size)); clear hb B12))
      go_ret
      exact ⟨rfl, B13.out⟩
end Go.Proofs.Ytodoenimlhldjaa
