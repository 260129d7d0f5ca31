/- A region, its promises about what was waited for, and what holds by what is done. -/
import Derived.Test.YtodoenimlhldjaaBMAT
import Derived.Test.YtodoenimlhldjaaBMAU
import Derived.Test.YtodoenimlhldjaaBXRA
import Derived.Deep.QuietTactic
import Derived.BigQuiet
namespace Go.Proofs.Ytodoenimlhldjaa
open Go.ChangeShapes Go.WideShapes Go.ChangeAt Go.RowKit
set_option linter.unusedVariables false
section
variable {P : Program} {md : Region.Mode}
theorem wpAny_di {R : World → World → Prop} (hR : Later R) {ops : Array Oper} {Q : Exit → Act → World → Prop} {F : List Value → Act} {Φ : Nat → List Value → World → Prop} {I : (Nat → Bool) → World → Prop} {w0 : World} (hb : edgesB md ops = true)
    (hmono : ∀ i j xs v w w', Φ i xs w → R w w' → j ≠ i → waitsB md ops i j = false → Φ i (xs.set j v) w')
    (hstep : ∀ j, j < ops.size → ∀ (D : Nat → Bool) xs w, xs.length = ops.size → R w0 w → D j = false → I D w → (∀ i, waitsB md ops j i = true → Φ i xs w) →
      wpOp P ops Q j (fun a' w' => ∃ v, a' = F (xs.set j v) ∧ Φ j (xs.set j v) w' ∧ R w w' ∧ I (fun i => if i = j then true else D i) w') (F xs) w)
    (hfin : ∀ (D : Nat → Bool) xs w, xs.length = ops.size → R w0 w → (∀ i, i < ops.size → D i = true) → I D w → (∀ i, i < ops.size → Φ i xs w) → Q .normal (F xs) w) :
    ∀ (fuel : Nat) (L : Array Bool) (xs : List Value) (w : World), L.size = ops.size → xs.length = ops.size → R w0 w → I (fun i => L.getD i false) w → (∀ i, L.getD i false = true → Φ i xs w) → (∀ i j, L.getD i false = true → waitsB md ops i j = true → L.getD j false = true) → L.toList.count false ≤ fuel → wpAny P md ops Q fuel L (F xs) w := by
  intro fuel
  induction fuel with
  | zero =>
    intro L xs w h1 h2 hB hI hΦ hcl hc
    have hno : Region.ready md ops L = [] := by
      rw [List.eq_nil_iff_forall_not_mem]
      intro i hi
      obtain ⟨hl, o, ho, _⟩ := mem_ready.1 hi
      have hlt : i < L.size := by have := (Array.getElem?_eq_some_iff.1 ho).1; omega
      have hf : L.toList[i]? = some false := by
        simp [Array.getElem?_eq_getElem hlt] at hl ⊢
        exact hl
      have := count_up L.toList i hf
      omega
    exact ⟨hno, hfin _ xs w h2 hB (fun i hi => all_up hb h1 hno i hi) hI fun i hi => hΦ i (all_up hb h1 hno i hi)⟩
  | succ fuel ih =>
    intro L xs w h1 h2 hB hI hΦ hcl hc
    refine ⟨fun hno => hfin _ xs w h2 hB (fun i hi => all_up hb h1 hno i hi) hI fun i hi => hΦ i (all_up hb h1 hno i hi), fun i hi => ?_⟩
    obtain ⟨hl, o, ho, hall⟩ := mem_ready.1 hi
    have hlt : i < L.size := by have := (Array.getElem?_eq_some_iff.1 ho).1; omega
    have hw : ∀ k, waitsB md ops i k = true → L.getD k false = true := by
      intro k hk
      simp only [waitsB, ho] at hk
      obtain ⟨e, he, hbb⟩ := Array.any_eq_true'.1 hk
      simp only [Bool.and_eq_true, beq_iff_eq] at hbb
      rw [← hbb.2]
      exact hall e he hbb.1
    have hlf : L.getD i false = false := by
      simp [Array.getElem?_eq_getElem hlt] at hl ⊢
      exact hl
    refine wpOp_mono ?_ (hstep i (by omega) (fun i => L.getD i false) xs w h2 hB hlf hI fun k hk => hΦ k (hw k hk))
    rintro a' w' ⟨v, rfl, hv, hB', hI'⟩
    refine ih (L.setIfInBounds i true) (xs.set i v) w' (by simpa using h1) (by simpa using h2) (hR.trans _ _ _ hB hB') ?_ ?_ ?_ ?_
    · rw [show (fun k => (L.setIfInBounds i true).getD k false) = (fun k => if k = i then true else L.getD k false) from funext fun k => by
        by_cases hik : i = k
        · subst hik
          simp [hlt]
        · rw [getD_set_ne false hik, if_neg (fun e => hik e.symm)]]
      exact hI'
    · intro k hk
      by_cases hik : i = k
      · subst hik
        exact hv
      · rw [getD_set_ne false hik] at hk
        refine hmono k i xs v w w' (hΦ k hk) hB' hik ?_
        cases hq : waitsB md ops k i with
        | false => rfl
        | true => have := hcl k i hk hq; rw [hlf] at this; exact this.symm
    · intro k j hk hj
      by_cases hij : i = j
      · subst hij
        simp [hlt]
      · rw [getD_set_ne false hij]
        by_cases hik : i = k
        · subst hik
          exact hw j hj
        · rw [getD_set_ne false hik] at hk
          exact hcl k j hk hj
    · have hf : L.toList[i]? = some false := by
        simp [Array.getElem?_eq_getElem hlt] at hl ⊢
        exact hl
      have := count_up L.toList i hf
      rw [Array.toList_setIfInBounds]
      omega
/-- The region whole, with what holds by what is done. -/
theorem wp_region_di {R : World → World → Prop} (hR : Later R) {id : Nat} {Q : Exit → Act → World → Prop} {a : Act} {w : World} {ops : Array Oper} (ds : List Nat) (n : Nat) (Φ : Nat → List Value → World → Prop) (I : (Nat → Bool) → World → Prop) (hm : P.follows .mixedOrders = true) (hb : edgesB .any ops = true) (hn : ops.size = n) (hd : ds.length = n) (hI : I (fun _ => false) w.drew)
    (hmono : ∀ i j xs v w w', Φ i xs w → R w w' → j ≠ i → waitsB .any ops i j = false → Φ i (xs.set j v) w')
    (hstep : ∀ j, j < n → ∀ (D : Nat → Bool) xs w', xs.length = n → R w w' → D j = false → I D w' → (∀ i, waitsB .any ops j i = true → Φ i xs w') →
      Runs P ops Q j (fun a' w'' => ∃ v, a' = slotsOn a ds (xs.set j v) ∧ Φ j (xs.set j v) w'' ∧ R w' w'' ∧ I (fun i => if i = j then true else D i) w'') (slotsOn a ds xs) w')
    (hfin : ∀ (D : Nat → Bool) xs w', xs.length = n → R w w' → (∀ i, i < n → D i = true) → I D w' → (∀ i, i < n → Φ i xs w') → Q .normal (slotsOn a ds xs) w') :
    (Code.region id ops true).wp P Q a w := by
  subst hn
  rw [← slotsOn_self a ds]
  refine wp_region_any hm ?_
  have hd2 : (ds.map fun d => a.tmps.toList.getD d undef).length = ops.size := by simpa using hd
  rw [slotsOn_self] at *
  refine (slotsOn_self a ds) ▸ ?_
  refine wpAny_di (F := slotsOn a ds) (Φ := Φ) (I := I) (w0 := w) hR hb hmono (fun j hj D xs w' h1 h2 h3 h4 h5 => (hstep j hj D xs w' h1 h2 h3 h4 h5).out) hfin ops.size _ _ _ (by simp) hd2 (hR.drew w) ?_ ?_ ?_ ?_
  · rw [show (fun i => (Array.replicate ops.size false).getD i false) = (fun _ => false) from funext fun i => by
      by_cases hlt : i < ops.size <;> simp [hlt]]
    exact hI
  · intro i hi
    by_cases hlt : i < ops.size <;> simp [hlt] at hi
  · intro i j hi
    by_cases hlt : i < ops.size <;> simp [hlt] at hi
  · simp
end
end Go.Proofs.Ytodoenimlhldjaa
namespace Go.Proofs.Ytodoenimlhldjaa
open Go.ChangeShapes Go.WideShapes Go.ChangeAt Go.RowKit
set_option linter.unusedVariables false
/-- The types that no memory has blocks of. -/
def U4 (T : TypeId) : Prop := T = 26 ∨ T = 38 ∨ T = 3 ∨ T = 66
theorem MemW.not_u4 {w : World} {s : MS} (h : MemW w s) {b : Nat} {cs : Array Value} {T : TypeId} (hk : Blk w b cs T) (hT : U4 T) : ¬ foot s b := by
  have hT2 : T ≠ 93 ∧ T ≠ 107 ∧ T ≠ 127 ∧ T ≠ 23 := by
    rcases hT with rfl | rfl | rfl | rfl <;> decide
  have key : ∀ cs2 T2, w.heap[b]? = some (.cells cs2 T2 (0, 0)) → T2 = T := fun cs2 T2 h2 => by
    have h3 := (show w.heap[b]? = _ from hk).symm.trans h2
    injection h3 with h3
    injection h3 with _ h3
    exact h3.symm
  rintro (rfl | rfl | ⟨k, hk2, rfl⟩ | ⟨k, hk2, rfl⟩ | hb)
  · exact hT2.1 (key _ _ h.self).symm
  · have h3 := (show w.heap[s.bm]? = _ from hk).symm.trans h.map
    simp [mapObj] at h3
  · exact hT2.2.1 (key _ _ (h.held k hk2)).symm
  · obtain ⟨n, _, _, hp⟩ := h.page k hk2
    exact hT2.2.2.1 (key _ _ hp.blk).symm
  · obtain ⟨cur, hc⟩ := h.tv_cells hb
    exact hT2.2.2.2 (key _ _ hc).symm
def GoodU (N0 : Nat) (w : World) (rd ev : Value) : Prop := Fr w N0 3 rd 0 [] ∧ Fr w N0 66 ev 0 []
theorem GoodU.mono {N0 N1 : Nat} {w : World} {rd ev : Value} (h : GoodU N0 w rd ev) (hN : N1 ≤ N0) : GoodU N1 w rd ev := ⟨h.1.mono hN, h.2.mono hN⟩
theorem GoodU.one {N0 : Nat} {w : World} {inp : ByteArray} {rd ev : Value} (h : GoodU N0 w rd ev) : (cwC inp 0 rd 0 ev).all (·.oneCell') = true := cw_one h.1.one h.2.one
/-- A call on a new world. -/
def CRes (s : MS) (V : SV) (inp : ByteArray) (gg : Int) (P : MS → Prop) (u : World) (x : Ending) (w' : World) : Prop := ∃ rd' ev', x = .returned (.tuple #[.agg V.c, .agg (cwC inp 0 rd' 0 ev'), .int .i64 gg, .int .u32 0]) ∧ GoodU u.heap.size w' rd' ev' ∧ ∃ s', Step u s w' s' ∧ P s'
/-- What the region may do: the memory turns; below N0 nothing else; states and worlds may be filled. -/
structure RU (s : MS) (V : SV) (inp : ByteArray) (N0 : Nat) (w w' : World) : Prop where
  keep : Keep (fun b => foot s b ∨ N0 ≤ b) w w'
  typ : ∀ b cs T, U4 T → Blk w b cs T → ∃ cs', Blk w' b cs' T ∧ cs'.size = cs.size ∧ (cs' = cs ∨ (T = 26 ∧ cs' = V.c) ∨ (T = 38 ∧ ∃ rd ev, cs' = cwC inp 0 rd 0 ev ∧ GoodU N0 w' rd ev))
section
variable {s : MS} {V : SV} {inp : ByteArray} {N0 : Nat}
theorem RU.same {w w' : World} (h : RU s V inp N0 w w') {b : Nat} {cs : Array Value} {T : TypeId} (hT : U4 T) (hk : Blk w b cs T) (h1 : T ≠ 26) (h2 : T ≠ 38) : Blk w' b cs T := by
  obtain ⟨cs', hb, _, e | e | e⟩ := h.typ b cs T hT hk
  · rw [← e]; exact hb
  · exact absurd e.1 h1
  · exact absurd e.1 h2
theorem RU.good {w w' : World} (h : RU s V inp N0 w w') {M : Nat} {rd ev : Value} (hg : GoodU M w rd ev) : GoodU M w' rd ev := by
  obtain ⟨⟨g, h0, e, hk⟩, g2, h02, e2, hk2⟩ := hg
  exact ⟨⟨g, h0, e, h.same (.inr (.inr (.inl rfl))) hk (by decide) (by decide)⟩, g2, h02, e2, h.same (.inr (.inr (.inr rfl))) hk2 (by decide) (by decide)⟩
theorem RU.refl (w : World) : RU s V inp N0 w w := ⟨Keep.refl _ w, fun b cs T _ h => ⟨cs, h, rfl, .inl rfl⟩⟩
theorem RU.of_below {w w' : World} (h : Below w.heap.size w w') : RU s V inp N0 w w' := ⟨Keep.of_below h, fun b cs T _ hk => ⟨cs, hk.later h, rfl, .inl rfl⟩⟩
theorem RU.of_step {w w' : World} {s' : MS} (hm : MemW w s) (h : Step w s w' s') : RU s V inp N0 w w' := ⟨h.keep.mono fun b _ hb => .inl hb, fun b cs T hT hk => ⟨cs, (h.keep.block b hk.lt (hm.not_u4 hk hT)).trans hk, rfl, .inl rfl⟩⟩
theorem later_ru : Later (RU s V inp N0) := ⟨RU.refl, fun u v w h k => ⟨h.keep.trans k.keep fun b _ hb => hb, fun b cs T hT hb => by
  obtain ⟨c1, b1, s1, e1⟩ := h.typ b cs T hT hb
  obtain ⟨c2, b2, s2, e2⟩ := k.typ b c1 T hT b1
  refine ⟨c2, b2, s2.trans s1, ?_⟩
  rcases e2 with e2 | e2 | e2
  · subst e2
    rcases e1 with e1 | e1 | ⟨eT, rd, ev, e3, hg⟩
    · exact .inl e1
    · exact .inr (.inl e1)
    · exact .inr (.inr ⟨eT, rd, ev, e3, k.good hg⟩)
  · exact .inr (.inl e2)
  · exact .inr (.inr e2)⟩, fun w => ⟨⟨rfl, rfl, rfl, Nat.le_refl _, fun _ _ _ => rfl⟩, fun b cs T _ h => ⟨cs, h, rfl, .inl rfl⟩⟩⟩
theorem ublk_eq {w : World} {b : Nat} {cs ds : Array Value} {T U : TypeId} (h1 : Blk w b cs T) (h2 : Blk w b ds U) : cs = ds ∧ T = U := by
  have h3 := (show w.heap[b]? = _ from h1).symm.trans h2
  injection h3 with h3
  injection h3 with h3 h4
  exact ⟨h3, h4⟩
theorem RU.putS {w w' : World} {b : Nat} {old : Array Value} (ho : Only b w w') (hN : N0 ≤ b) (hk : Blk w b old 26) (hs : V.c.size = old.size) (hk2 : Blk w' b V.c 26) : RU s V inp N0 w w' := ⟨(Keep.of_only ho).mono fun c _ e => .inr (by rw [e]; exact hN), fun c cs T _ hc => by
  by_cases e : c = b
  · subst e
    obtain ⟨rfl, rfl⟩ := ublk_eq hk hc
    exact ⟨_, hk2, hs, .inr (.inl ⟨rfl, rfl⟩)⟩
  · exact ⟨cs, hc.only ho e, rfl, .inl rfl⟩⟩
theorem RU.putW {w w' : World} {b : Nat} {old : Array Value} {rd ev : Value} (ho : Only b w w') (hN : N0 ≤ b) (hk : Blk w b old 38) (hs : old.size = 5) (hk2 : Blk w' b (cwC inp 0 rd 0 ev) 38) (hg : GoodU N0 w rd ev) : RU s V inp N0 w w' ∧ GoodU N0 w' rd ev := by
  have hg2 : GoodU N0 w' rd ev := by
    obtain ⟨⟨g, h0, e, hf⟩, g2, h02, e2, hf2⟩ := hg
    exact ⟨⟨g, h0, e, hf.only ho (blk_tne hf hk (by decide))⟩, g2, h02, e2, hf2.only ho (blk_tne hf2 hk (by decide))⟩
  refine ⟨⟨(Keep.of_only ho).mono fun c _ e => .inr (by rw [e]; exact hN), fun c cs T _ hc => ?_⟩, hg2⟩
  by_cases e : c = b
  · subst e
    obtain ⟨rfl, rfl⟩ := ublk_eq hk hc
    exact ⟨_, hk2, by rw [hs]; rfl, .inr (.inr ⟨rfl, rd, ev, rfl, hg2⟩)⟩
  · exact ⟨cs, hc.only ho e, rfl, .inl rfl⟩
theorem RU.sizeS {w w' : World} (h : RU s V inp N0 w w') {g m : Nat} {T : TypeId} (hT : U4 T) (hk : ∃ cs : Array Value, cs.size = m ∧ Blk w g cs T) : ∃ cs : Array Value, cs.size = m ∧ Blk w' g cs T := by
  obtain ⟨cs, hs, hk⟩ := hk
  obtain ⟨c2, h2, s2, _⟩ := h.typ g cs T hT hk
  exact ⟨c2, s2.trans hs, h2⟩
theorem RU.blkS {w w' : World} (h : RU s V inp N0 w w') {g : Nat} (hk : Blk w g V.c 26) : Blk w' g V.c 26 := by
  obtain ⟨c2, h2, s2, e | e | e⟩ := h.typ g _ _ (.inl rfl) hk
  · rw [← e]; exact h2
  · rw [← e.2]; exact h2
  · exact absurd e.1 (by decide)
theorem RU.blkW {w w' : World} (h : RU s V inp N0 w w') {g : Nat} (hk : ∃ rd ev, Blk w g (cwC inp 0 rd 0 ev) 38 ∧ GoodU N0 w rd ev) : ∃ rd ev, Blk w' g (cwC inp 0 rd 0 ev) 38 ∧ GoodU N0 w' rd ev := by
  obtain ⟨rd, ev, hk, hg⟩ := hk
  obtain ⟨c2, h2, s2, e | e | ⟨_, rd2, ev2, e, hg2⟩⟩ := h.typ g _ _ (.inr (.inl rfl)) hk
  · exact ⟨rd, ev, by rw [← e]; exact h2, h.good hg⟩
  · exact absurd e.1 (by decide)
  · exact ⟨rd2, ev2, by rw [← e]; exact h2, hg2⟩
/-- The memory, ahead of the call and behind it. -/
def MJ (s : MS) (N0 : Nat) (P : MS → Prop) (D : Nat → Bool) (w : World) : Prop := if D 4 = true then ∃ s', MemW w s' ∧ (∀ b, foot s' b → foot s b ∨ N0 ≤ b) ∧ P s' else MemW w s
theorem MJ.before {P : MS → Prop} {D : Nat → Bool} {w : World} (h : MJ s N0 P D w) (hD : D 4 = false) : MemW w s := by
  unfold MJ at h
  rw [if_neg (by rw [hD]; decide)] at h
  exact h
theorem MJ.behind {P : MS → Prop} {D : Nat → Bool} {w : World} (h : MJ s N0 P D w) (hD : D 4 = true) : ∃ s', MemW w s' ∧ (∀ b, foot s' b → foot s b ∨ N0 ≤ b) ∧ P s' := by
  unfold MJ at h
  rw [if_pos hD] at h
  exact h
theorem MJ.done {P : MS → Prop} {D : Nat → Bool} {w w' : World} {s' : MS} (hN : N0 ≤ w.heap.size) (h : Step w s w' s') (hP : P s') : MJ s N0 P (fun i => if i = 4 then true else D i) w' := by
  unfold MJ
  rw [if_pos (show (if (4 : Nat) = 4 then true else D 4) = true from rfl)]
  exact ⟨s', h.mem, fun b hb => (h.grow b hb).imp id fun e => Nat.le_trans hN e, hP⟩
theorem MJ.up {P : MS → Prop} {D : Nat → Bool} {w w' : World} {j : Nat} (h : MJ s N0 P D w) (hj : j ≠ 4) (hw : ∀ s', MemW w s' → MemW w' s') : MJ s N0 P (fun i => if i = j then true else D i) w' := by
  have e : (if (4 : Nat) = j then true else D 4) = D 4 := if_neg (fun e => hj e.symm)
  unfold MJ at h
  show (if (if (4 : Nat) = j then true else D 4) = true then ∃ s', MemW w' s' ∧ (∀ b, foot s' b → foot s b ∨ N0 ≤ b) ∧ P s' else MemW w' s)
  rw [e]
  by_cases hD : D 4 = true
  · rw [if_pos hD] at h ⊢
    obtain ⟨s', hm, hg, hp⟩ := h
    exact ⟨s', hw s' hm, hg, hp⟩
  · rw [if_neg hD] at h ⊢
    exact hw s h
theorem MJ.stay {P : MS → Prop} {D : Nat → Bool} {w : World} {j : Nat} (h : MJ s N0 P D w) (hj : j ≠ 4) : MJ s N0 P (fun i => if i = j then true else D i) w := h.up hj fun _ hm => hm
theorem MJ.later {P : MS → Prop} {D : Nat → Bool} {w w' : World} {j : Nat} (h : MJ s N0 P D w) (hj : j ≠ 4) (hb : Below w.heap.size w w') : MJ s N0 P (fun i => if i = j then true else D i) w' := h.up hj fun _ hm => hm.later hb
theorem MJ.only {P : MS → Prop} {D : Nat → Bool} {w w' : World} {j g : Nat} {cs : Array Value} {T : TypeId} (h : MJ s N0 P D w) (hj : j ≠ 4) (ho : Only g w w') (hk : Blk w g cs T) (hT : U4 T) : MJ s N0 P (fun i => if i = j then true else D i) w' := h.up hj fun s' hm => hm.same fun b hb => ho.block b fun e => by
  subst e
  exact hm.not_u4 hk hT hb
end
def zScI (inp : ByteArray) : Array Value := #[.string inp, .slice none 0 0, .int .i64 0, .slice none 0 0, .int .i64 0, .string ⟨#[]⟩, .int .i64 0]
end Go.Proofs.Ytodoenimlhldjaa
namespace Go.Proofs.Ytodoenimlhldjaa
open Go.ChangeShapes Go.WideShapes Go.ChangeAt Go.RowKit
set_option linter.unusedVariables false
theorem take_any (w : World) (inp : ByteArray) (a us m : Int) (ao : Option Addr) (cap : Nat) (ev : Value) (l : List Int) (hr : Rw w 1 (.slice ao l.length cap) l.length (cI l)) (he : ev.oneCell' = true) (hl : l.length ≤ 16384) (hs : inp.size ≤ 4611686018427387904) (hm : 0 ≤ m) (hm2 : m ≤ 16384) : Calls Try.prog 66 #[.agg (cwC inp a (.slice ao l.length cap) us ev), .int .i64 m] w fun x w' => x = .returned (.tuple #[.string (inp.extract a.toNat (a + takeN m inp a us l).toNat), .agg (cwC inp (a + takeN m inp a us l) (.slice ao l.length cap) (takeU us l) ev)]) ∧ Below w.heap.size w w' := by
  by_cases h0 : takeN m inp a us l = 0
  · cases hh : hasB us l with
    | true => exact take_hz w inp a us m ao cap ev l hr he hl hs hm hm2 hh h0
    | false => exact take_nz w inp a us m ao cap ev l hr he hl hs hm hm2 hh h0
  · cases hh : hasB us l with
    | true => exact take_hp w inp a us m ao cap ev l hr he hl hs hm hm2 hh h0
    | false => exact take_np w inp a us m ao cap ev l hr he hl hs hm hm2 hh h0
/-- So many bytes put. -/
def pokesF (f : AM) (a : Nat) (D : List UInt8) : Nat → AM
  | 0 => f
  | k + 1 => apoke (pokesF f a D k) (wrapAt a k) (D.getD k 0)
structure PK (s : MS) (a : Nat) (D : List UInt8) (k : Nat) (t : MS) : Prop where
  ks : t.ks = s.ks
  on : t.on = s.on
  pm : t.pm = s.pm
  abs : t.abs = pokesF s.abs a D k
  mb : t.mb = s.mb
  most : t.most = s.most
  c : t.c ≤ s.c + k
  ts : t.ts = s.ts ++ ((List.range k).map (wrapAt a)).filter fun b => s.watched b
theorem PK.zero (s : MS) (a : Nat) (D : List UInt8) : PK s a D 0 s := ⟨rfl, rfl, rfl, rfl, rfl, rfl, Nat.le_refl _, by simp⟩
theorem PK.next {s t : MS} {a k : Nat} {D : List UInt8} (h : PK s a D k t) (tv : Value) : PK s a D (k + 1) (t.pokeAt (wrapAt a k) (D.getD k 0) tv) := by
  refine ⟨(pokeAt_ks _ _ _ _).trans h.ks, (pokeAt_on _ _ _ _).trans h.on, (pokeAt_pm _ _ _ _).trans h.pm, ?_, (pokeAt_mb _ _ _ _).trans h.mb, (pokeAt_most _ _ _ _).trans h.most, ?_, ?_⟩
  · rw [abs_pokeAt, h.abs]
    rfl
  · have := pokeAt_c t (wrapAt a k) (D.getD k 0) tv
    have := h.c
    omega
  · have e : t.watched (wrapAt a k) = s.watched (wrapAt a k) := by unfold MS.watched; rw [h.ks, h.on]
    rw [pokeAt_ts, e, h.ts, List.range_succ, List.map_append, List.filter_append, ← List.append_assoc]
    cases hq : s.watched (wrapAt a k) with
    | true => rw [if_pos rfl]; simp [hq]
    | false => rw [if_neg (by decide)]; simp [hq]
/-- Within read: its four blocks, the world behind, the memory. -/
structure WP (s : MS) (w : World) (n q g : Nat) (v : SV) (CW CX : Array Value) (wr : World) (t : MS) : Prop where
  wa : WA (foot s) w n q v CW wr
  cx : Blk wr g CX 38
  gq : q + 2 ≤ g
  mem : MemW wr t
  grow : ∀ b, foot t b → foot s b ∨ w.heap.size ≤ b
theorem WP.step {s t t' : MS} {w wr w' : World} {n q g : Nat} {v : SV} {CW CX : Array Value} (h : WP s w n q g v CW CX wr t) (k : Step wr t w' t') : WP s w n q g v CW CX w' t' := by
  have keep : ∀ b cs T, Blk wr b cs T → (T = 26 ∨ T = 38) → Blk w' b cs T := fun b cs T hb hT => (k.keep.block b hb.lt (h.mem.not_u4 hb (hT.elim .inl fun e => .inr (.inl e)))).trans hb
  refine ⟨⟨h.wa.keep.trans k.keep fun b hb hf => ?_, keep _ _ _ h.wa.s (.inl rfl), keep _ _ _ h.wa.c (.inr rfl), keep _ _ _ h.wa.rs (.inl rfl), keep _ _ _ h.wa.rw (.inr rfl), h.wa.nn, h.wa.hq⟩, keep _ _ _ h.cx (.inr rfl), h.gq, k.mem, fun b hb => ?_⟩
  · rcases h.grow b hf with h1 | h1
    · exact h1
    · omega
  · rcases k.grow b hb with h1 | h1
    · exact h.grow b h1
    · have := h.wa.keep.size
      exact .inr (by omega)
theorem WP.fin {s t : MS} {w wr w' : World} {n q g : Nat} {v : SV} {CW CX : Array Value} {A B : Obj} (h : WP s w n q g v CW CX wr t) (hR : RF [(q, A), (q + 1, B)] wr w') : Step w s w' t := by
  refine ⟨h.mem.same fun b hb => ?_, h.wa.both hR, h.grow⟩
  rcases hR.block b (h.mem.lt hb) with e | ⟨o, ho, e⟩
  · exact e
  · simp only [List.mem_cons, Prod.mk.injEq, List.mem_nil_iff, or_false] at ho
    rcases ho with ⟨rfl, _⟩ | ⟨rfl, _⟩
    · exact absurd hb (h.mem.not_u4 h.wa.rs (.inl rfl))
    · exact absurd hb (h.mem.not_u4 h.wa.rw (.inr (.inl rfl)))
theorem index_str (D : ByteArray) (k : Nat) (hk : k < D.size) (u : World) : (Instr.index 9 (.string D) (.int .i64 (k : Int))).run Try.prog u = .ok (.int .u8 ((D.data.toList.getD k 0).toNat : Int)) u := by
  rw [run_index_string u 9 D .i64 (k : Int) (by kernel_rfl), dif_pos ⟨by omega, by omega⟩]
  have e : D.data.toList.getD k 0 = D[k] := by
    rw [List.getD_eq_getElem?_getD, List.getElem?_eq_getElem (by simpa using hk), Option.getD_some]
    rfl
  rw [e]
  rfl
theorem WP.mk0 {s : MS} {w w7 w8 : World} {n q g : Nat} {v : SV} {CW CX : Array Value} (h : MemW w s) (hp : WA nought w n q v CW w7) (ho : Only g w7 w8) (hk : Blk w8 g CX 38) (hg : q + 2 ≤ g) : WP s w n q g v CW CX w8 s := by
  have hn : n + 1 + 1 = q := hp.hq
  have hb : Below w.heap.size w w8 := Below.only hp.bel ho (by have := hp.nn; omega)
  refine ⟨⟨Keep.of_below hb, hp.s.only ho (by omega), hp.c.only ho (by omega), hp.rs.only ho (by omega), hp.rw.only ho (by omega), hp.nn, hp.hq⟩, hk, hg, h.later hb, fun b hb => .inl hb⟩
theorem exec_lenS {ρ : Operand → Value} {o : Oper} {x : Operand} {D : ByteArray} {m : Nat} (hop : o.op = .call { callee := .builtin .len, args := #[x], argTypes := #[9] }) (hx : ρ x = .string D) (h : D.size = m) (w : World) : (execOp ρ o).run Try.prog w = .ok (.value (.int .i64 (m : Int))) w := by
  subst h
  have h := run_len_string (P := Try.prog) w 9 o.type D (by kernel_rfl)
  unfold execOp
  simp only [hop, resolve, invoke, builtin, Sem.run_bind, Sem.run_pure, Result.andThen_ok, List.map_toArray, List.map_cons, List.map_nil, hx, h]
  rfl
theorem exec_cv {ρ : Operand → Value} {o : Oper} {x : Operand} {m : Int} (hop : o.op = .convert 3 23 x) (hx : ρ x = .int .i64 m) (h0 : 0 ≤ m) (h1 : m < 4294967296) (w : World) : (execOp ρ o).run Try.prog w = .ok (.value (.int .u32 m)) w := by
  have e : m % 4294967296 = m := by omega
  simp [execOp, hop, hx, convert, Sem.run_bind, run_underlying Try.underlying3, run_underlying Try.underlying23, e, go_sem, IntKind.wrap_u32]
/-- What the slots of the region hold, whatever the order. -/
def phiRd5 (n q : Nat) (v : SV) (CW : Array Value) (rv : Int) : Nat → Value → World → Prop
  | 0, x, _ => x = .agg (SV.c v)
  | 1, x, _ => x = .agg (SV.c (ansV v rv 0))
  | 2, x, _ => x = .agg CW
  | 3, x, w => x = .bool true ∧ Blk w (q) (SV.c (ansV v rv 0)) 26
  | 4, x, w => x = .bool true ∧ Blk w (q + 1) (CW) 38
  | _ + 5, _, _ => True
theorem phiRd5_mono (n q : Nat) (v : SV) (CW : Array Value) (rv : Int) : ∀ i x w w', phiRd5 n q v CW rv i x w → RF [(q, Obj.cells (SV.c (ansV v rv 0)) 26 (0, 0)), (q + 1, Obj.cells (CW) 38 (0, 0))] w w' → phiRd5 n q v CW rv i x w'
  | 0, _, _, _, h, _ => h
  | 1, _, _, _, h, _ => h
  | 2, _, _, _, h, _ => h
  | 3, x, w, w', h, hb => ⟨h.1, hb.blk h.2 rf2_a⟩
  | 4, x, w, w', h, hb => ⟨h.1, hb.blk h.2 rf2_b⟩
  | _ + 5, _, _, _, _, _ => trivial
theorem lstRd5 : ∀ xs : List Value, xs.length = 5 → ∃ x0 x1 x2 x3 x4, xs = [x0, x1, x2, x3, x4]
  | [x0, x1, x2, x3, x4], _ => ⟨_, _, _, _, _, rfl⟩
set_option maxRecDepth 20000 in
set_option maxHeartbeats 2000000 in
theorem read_nil (w : World) (s : MS) (h : MemW w s) (v : SV) (hv : v.ok) (CW : Array Value) (hc1 : CW.all (·.oneCell') = true) (hc5 : CW.size = 5) (hfd : v.R.getD 4 0 = 0) (hno : refV s v true 2 = 0) (h60 : v.R.getD 6 0 = 0) : Calls Try.prog 36 #[.pointer (some ⟨s.mb, 0, none⟩), .agg v.c, .agg CW] w fun x w' => x = .returned (.tuple #[.agg (ansV v 0 0).c, .agg CW]) ∧ Below w.heap.size w w' := by
  obtain ⟨n, hn⟩ : ∃ n, w.heap.size = n := ⟨_, rfl⟩
  obtain ⟨q, hq⟩ : ∃ q, n + 1 + 1 = q := ⟨_, rfl⟩
  have HV := hidden hv.1
  have HQ := hidden hq
  have HC1 := hidden hc1
  have HC5 := hidden hc5
  clear hq hc1 hc5
  obtain ⟨rv, hrv⟩ : ∃ z, refV s v true 2 = z := ⟨_, rfl⟩
  rw [hrv] at hno
  subst hno
  have HRF0 : Hid (∀ u, Keep nought w u → Calls Try.prog 64 #[.pointer (some ⟨s.mb, 0, none⟩), .agg v.c, .bool true, .int .i64 2] u fun e w' => e = .returned (.int .u32 0) ∧ Below u.heap.size u w') := hidden (fun u hu => by
    have h2 := refusal_any u s (h.keep hu (fun b hb => id)) v hv true 2
    rw [hrv] at h2
    exact h2)
  obtain ⟨r2, h2⟩ : ∃ r2 : Nat, v.R.getD 2 0 = (r2 : Int) := ⟨(v.R.getD 2 0).toNat, by have := (hv.2.1 2 (by omega)).1; omega⟩
  obtain ⟨r4, h4⟩ : ∃ r4 : Nat, v.R.getD 4 0 = (r4 : Int) := ⟨(v.R.getD 4 0).toNat, by have := (hv.2.1 4 (by omega)).1; omega⟩
  obtain ⟨r5, h5⟩ : ∃ r5 : Nat, v.R.getD 5 0 = (r5 : Int) := ⟨(v.R.getD 5 0).toNat, by have := (hv.2.1 5 (by omega)).1; omega⟩
  obtain ⟨r6, h6⟩ : ∃ r6 : Nat, v.R.getD 6 0 = (r6 : Int) := ⟨(v.R.getD 6 0).toNat, by have := (hv.2.1 6 (by omega)).1; omega⟩
  have l5 : r5 < 4294967296 := by have := (hv.2.1 5 (by omega)).2; omega
  have l6 : r6 < 4294967296 := by have := (hv.2.1 6 (by omega)).2; omega
  have H2 := hidden h2
  have H4 := hidden h4
  have H5 := hidden h5
  have H6 := hidden h6
  have l66 : (r6 : Int) ≤ 16384 := by
    unfold refV at hrv
    rw [if_neg (by decide), h6] at hrv
    by_cases hg : 16384 < (r6 : Int)
    · rw [if_pos hg] at hrv; exact absurd hrv (by decide)
    · omega
  rw [h4] at hfd
  rw [h6] at h60
  have f1 : ((r4 : Int) == 0) = true := beq_iff_eq.2 (by omega)
  have HRI := hidden (fun u => right_any v hv.1 0 u)
  have f6 : ((r6 : Int) == 0) = true := beq_iff_eq.2 (by omega)
  have hi4 : ∀ u, (Instr.indexAt 24 (.pointer (some ⟨n, 0, none⟩)) (.int .i64 4)).run Try.prog u = .ok (.pointer (some ⟨n, 4, none⟩)) u := fun u => index_reg n 4 (by omega) u
  have hi6 : ∀ u, (Instr.indexAt 24 (.pointer (some ⟨n, 0, none⟩)) (.int .i64 6)).run Try.prog u = .ok (.pointer (some ⟨n, 6, none⟩)) u := fun u => index_reg n 6 (by omega) u
  obtain ⟨C, hC⟩ : ∃ C, v.c = C := ⟨_, rfl⟩
  rw [hC]
  have HC := hidden hC
  clear hC hv hrv h2 h4 h5 h6 hfd h60 l5 l6 l66 h
  go_enter Try.func36, Try.ntmps36
  go_upto_region 1 with (first
    | (refine wpList_boxG rfl 26 _ rfl C rfl ?_; rintro w1 k1 s1 b1; rw [hn] at k1 s1 b1 ⊢; have K1 : Hid (Blk w1 n v.c 26) := hidden (by rw [HC.out]; exact k1); have S1 := hidden s1; have B1 := hidden b1; clear k1 s1 b1)
    | (refine wpList_boxG rfl 38 _ rfl CW rfl ?_; rintro w2 k2 s2 b2; rw [S1.out] at k2 s2 b2 ⊢; have K2 := hidden k2; have S2 : Hid (w2.heap.size = q) := hidden (by rw [s2]; exact HQ.out); have B2 := hidden b2; clear k2 s2 b2)
    | (refine wpList_allocV rfl rfl ?_; rintro w3 k3 s3 b3; rw [S2.out] at k3 s3 b3 ⊢; have K3 := hidden k3; have S3 := hidden s3; have B3 := hidden b3; clear k3 s3 b3)
    | (refine wpList_allocCw rfl rfl ?_; rintro w4 k4 s4 b4; rw [S3.out] at k4 s4 b4 ⊢; have P := hidden (WA.mk4 (F := nought) hn HQ.out K1.out S1.out B1.out K2.out S2.out B2.out K3.out S3.out B3.out k4 b4); clear k4 s4 b4 K1 S1 B1 K2 S2 B2 K3 S3 B3; obtain ⟨c2, c4, c5, c6⟩ := P.out.regs HV.out H2.out H4.out H5.out H6.out))
  go_upto_region 5 with (first | (go_at_call 64; refine (HRF0.out _ P.out.keep).mono ?_; rintro x w5 ⟨rfl, b5⟩; clear c2 c4 c5 c6; have Q := hidden (P.out.later b5); clear P b5; have P := Q; clear Q; obtain ⟨c2, c4, c5, c6⟩ := P.out.regs HV.out H2.out H4.out H5.out H6.out) | (refine wpList_loadV rfl _ rfl n v rfl P.out.s HV.out ?_))
  have KS := hidden P.out.s
  have KW := hidden P.out.c
  have QS := hidden P.out.rs
  have QW := hidden P.out.rw
  have PQ := P.out.hq
  have hW5 := HC5.out
  refine wp_region_on (later_rf [(q, Obj.cells (SV.c (ansV v 0 0)) 26 (0, 0)), (q + 1, Obj.cells (CW) 38 (0, 0))]) [29, 30, 31, 1003, 1004] 5 (phiRd5 n q v CW 0) (by kernel_rfl) (by kernel_rfl) rfl rfl (phiRd5_mono n q v CW 0) ?_ ?_
  · intro j hj xs w3 hxs hR hpre
    obtain ⟨x0, x1, x2, x3, x4, rfl⟩ := lstRd5 xs hxs
    have hS : Blk w3 (n) (SV.c v) 26 := hR.blk KS.out (rf2_no (by omega) (by omega))
    have hW : Blk w3 (n + 1) CW 38 := hR.blk KW.out (rf2_no (by omega) (by omega))
    have hA := hR.some ⟨_, SV.size (s := SV.zero) rfl, QS.out⟩ (rf2_s1 (SV.size (ansV_len HV.out 0 0)))
    have hB := hR.some (n := 5) ⟨_, (show zCw.size = 5 from rfl), QW.out⟩ (rf2_s2 hW5)
    rcases (show j = 0 ∨ j = 1 ∨ j = 2 ∨ j = 3 ∨ j = 4 by omega) with rfl | rfl | rfl | rfl | rfl
    · exact wpOp_run (.agg (SV.c v)) rfl (by kernel_rfl) (exec_load 26 rfl (by kernel_rfl) w3 (loadSt hS HV.out)) ⟨_, by kernel_rfl, rfl, (later_rf _).refl _⟩
    · have e0 : x0 = .agg (SV.c v) := hpre 0 (by kernel_rfl)
      subst e0
      refine wpOp_callR (R := fun u w4 => u = .agg (SV.c (ansV v 0 0)) ∧ Below w3.heap.size w3 w4) 65 #[.agg (SV.c v), .int .u32 0] rfl (by kernel_rfl) (by kernel_rfl) ((HRI.out w3).mono fun e w4 h => ⟨_, h.1, rfl, h.2⟩) ?_
      rintro _ w4 ⟨rfl, hb⟩
      exact ⟨_, by kernel_rfl, rfl, RF.of_below hb⟩
    · exact wpOp_run (.agg CW) rfl (by kernel_rfl) (exec_load 38 rfl (by kernel_rfl) w3 (loadCwR hW hW5)) ⟨_, by kernel_rfl, rfl, (later_rf _).refl _⟩
    · have e1 : x1 = .agg (SV.c (ansV v 0 0)) := hpre 1 (by kernel_rfl)
      subst e1
      obtain ⟨old, hs1, hs2⟩ := hA
      exact wpOp_put rfl (by kernel_rfl) (exec_storeG (g := q) (cs := SV.c (ansV v 0 0)) (old := old) rfl (by kernel_rfl) (by kernel_rfl) w3 hs2 (by rw [SV.size (ansV_len HV.out 0 0)]; exact sizeSV) (by rw [hs1, SV.size (ansV_len HV.out 0 0)]) (SV.one _)) ⟨.bool true, by kernel_rfl, ⟨rfl, setRow_heap w3 (q) old _ 26 (0, 0) hs2⟩, RF.of_only (only_rowV w3 (q) _) (setRow_heap w3 (q) old _ 26 (0, 0) hs2) rf2_m1⟩
    · have e2 : x2 = .agg CW := hpre 2 (by kernel_rfl)
      subst e2
      obtain ⟨old, hs1, hs2⟩ := hB
      exact wpOp_put rfl (by kernel_rfl) (exec_storeG (g := q + 1) (cs := CW) (old := old) rfl (by kernel_rfl) (by kernel_rfl) w3 hs2 (by rw [hW5]; exact sizeCw) (by rw [hs1, hW5]) HC1.out) ⟨.bool true, by kernel_rfl, ⟨rfl, setRow_heap w3 (q + 1) old _ 38 (0, 0) hs2⟩, RF.of_only (only_rowV w3 (q + 1) _) (setRow_heap w3 (q + 1) old _ 38 (0, 0) hs2) rf2_m2⟩
  · intro xs w3 hxs hR hall
    obtain ⟨x0, x1, x2, x3, x4, rfl⟩ := lstRd5 xs hxs
    obtain ⟨_, kA⟩ : x3 = .bool true ∧ Blk w3 (q) (SV.c (ansV v 0 0)) 26 := hall 3 (by omega)
    obtain ⟨_, kB⟩ : x4 = .bool true ∧ Blk w3 (q + 1) (CW) 38 := hall 4 (by omega)
    have RA := hidden kA
    have RB := hidden kB
    have HRF := hidden hR
    have KP := hidden (P.out.both HRF.out)
    clear hR hall hxs kA kB HRF P KS KW QS QW
    simp only [slotsOn, putAll]
    go_wp2
    refine bodyPost_ret (results_cc rfl _ _ q (q + 1) _ _ (by kernel_rfl) (by kernel_rfl) (loadSt RA.out (ansV_len HV.out 0 0)) (loadCwR RB.out HC5.out)) rfl ⟨by first | rfl | (rw [← HC.out]; rfl), KP.out.below (Nat.le_refl _) fun _ hb => hb.elim⟩
/-- What the slots of the region hold, whatever the order. -/
def phiRd12 (n q : Nat) (v : SV) (CX : Array Value) (rv : Int) (D : ByteArray) : Nat → Value → World → Prop
  | 0, x, _ => x = .agg (SV.c v)
  | 1, x, _ => x = .string D
  | 2, x, _ => x = .int .i64 rv
  | 3, x, _ => x = .int .u32 rv
  | 4, x, _ => x = .agg (SV.c (ansV v rv 0))
  | 5, x, _ => x = .agg CX
  | 6, x, w => x = .bool true ∧ Blk w (q) (SV.c (ansV v rv 0)) 26
  | 7, x, w => x = .bool true ∧ Blk w (q + 1) (CX) 38
  | _ + 8, _, _ => True
theorem phiRd12_mono (n q : Nat) (v : SV) (CX : Array Value) (rv : Int) (D : ByteArray) : ∀ i x w w', phiRd12 n q v CX rv D i x w → RF [(q, Obj.cells (SV.c (ansV v rv 0)) 26 (0, 0)), (q + 1, Obj.cells (CX) 38 (0, 0))] w w' → phiRd12 n q v CX rv D i x w'
  | 0, _, _, _, h, _ => h
  | 1, _, _, _, h, _ => h
  | 2, _, _, _, h, _ => h
  | 3, _, _, _, h, _ => h
  | 4, _, _, _, h, _ => h
  | 5, _, _, _, h, _ => h
  | 6, x, w, w', h, hb => ⟨h.1, hb.blk h.2 rf2_a⟩
  | 7, x, w, w', h, hb => ⟨h.1, hb.blk h.2 rf2_b⟩
  | _ + 8, _, _, _, _, _ => trivial
theorem lstRd12 : ∀ xs : List Value, xs.length = 8 → ∃ x0 x1 x2 x3 x4 x5 x6 x7, xs = [x0, x1, x2, x3, x4, x5, x6, x7]
  | [x0, x1, x2, x3, x4, x5, x6, x7], _ => ⟨_, _, _, _, _, _, _, _, rfl⟩
set_option maxRecDepth 20000 in
set_option maxHeartbeats 3000000 in
theorem read_yes (w : World) (s : MS) (h : MemW w s) (hcc : s.c + 16384 < 1099511627776) (v : SV) (hv : v.ok) (inp : ByteArray) (a us : Int) (ao : Option Addr) (cap : Nat) (ev : Value) (l : List Int) (hr : Rw w 1 (.slice ao l.length cap) l.length (cI l)) (he : ev.oneCell' = true) (hl : l.length ≤ 16384) (hs : inp.size ≤ 4611686018427387904) (hfd : v.R.getD 4 0 = 0) (hno : refV s v true 2 = 0) (h60 : v.R.getD 6 0 ≠ 0) : Calls Try.prog 36 #[.pointer (some ⟨s.mb, 0, none⟩), .agg v.c, .agg (cwC inp a (.slice ao l.length cap) us ev)] w fun x w' => x = .returned (.tuple #[.agg (ansV v (takeN (v.R.getD 6 0) inp a us l) 0).c, .agg (cwC inp (a + takeN (v.R.getD 6 0) inp a us l) (.slice ao l.length cap) (takeU us l) ev)]) ∧ ∃ t, Step w s w' t ∧ PK s (v.R.getD 5 0).toNat (inp.extract a.toNat (a + takeN (v.R.getD 6 0) inp a us l).toNat).data.toList (takeN (v.R.getD 6 0) inp a us l).toNat t := by
  obtain ⟨n, hn⟩ : ∃ n, w.heap.size = n := ⟨_, rfl⟩
  obtain ⟨q, hq⟩ : ∃ q, n + 1 + 1 = q := ⟨_, rfl⟩
  have HV := hidden hv.1
  have HQ := hidden hq
  clear hq
  obtain ⟨rv, hrv⟩ : ∃ z, refV s v true 2 = z := ⟨_, rfl⟩
  rw [hrv] at hno
  subst hno
  have HRF0 : Hid (∀ u, Keep nought w u → Calls Try.prog 64 #[.pointer (some ⟨s.mb, 0, none⟩), .agg v.c, .bool true, .int .i64 2] u fun e w' => e = .returned (.int .u32 0) ∧ Below u.heap.size u w') := hidden (fun u hu => by
    have h2 := refusal_any u s (h.keep hu (fun b hb => id)) v hv true 2
    rw [hrv] at h2
    exact h2)
  obtain ⟨r2, h2⟩ : ∃ r2 : Nat, v.R.getD 2 0 = (r2 : Int) := ⟨(v.R.getD 2 0).toNat, by have := (hv.2.1 2 (by omega)).1; omega⟩
  obtain ⟨r4, h4⟩ : ∃ r4 : Nat, v.R.getD 4 0 = (r4 : Int) := ⟨(v.R.getD 4 0).toNat, by have := (hv.2.1 4 (by omega)).1; omega⟩
  obtain ⟨r5, h5⟩ : ∃ r5 : Nat, v.R.getD 5 0 = (r5 : Int) := ⟨(v.R.getD 5 0).toNat, by have := (hv.2.1 5 (by omega)).1; omega⟩
  obtain ⟨r6, h6⟩ : ∃ r6 : Nat, v.R.getD 6 0 = (r6 : Int) := ⟨(v.R.getD 6 0).toNat, by have := (hv.2.1 6 (by omega)).1; omega⟩
  have l5 : r5 < 4294967296 := by have := (hv.2.1 5 (by omega)).2; omega
  have l6 : r6 < 4294967296 := by have := (hv.2.1 6 (by omega)).2; omega
  have H2 := hidden h2
  have H4 := hidden h4
  have H5 := hidden h5
  have H6 := hidden h6
  have l66 : (r6 : Int) ≤ 16384 := by
    unfold refV at hrv
    rw [if_neg (by decide), h6] at hrv
    by_cases hg : 16384 < (r6 : Int)
    · rw [if_pos hg] at hrv; exact absurd hrv (by decide)
    · omega
  rw [h4] at hfd
  rw [h6] at h60
  have f1 : ((r4 : Int) == 0) = true := beq_iff_eq.2 (by omega)
  have f6 : ((r6 : Int) == 0) = false := beq_eq_false_iff_ne.2 h60
  rw [h5, h6, Int.toNat_natCast]
  have hrg := takeN_range (show (0 : Int) ≤ (r6 : Int) by omega) inp a us l
  have htk := fun (u : World) (hu : Below w.heap.size w u) => take_any u inp a us (r6 : Int) ao cap ev l (hr.later hu) he hl hs (by omega) l66
  have hsz : ((inp.extract a.toNat (a + takeN (r6 : Int) inp a us l).toNat).size : Int) = takeN (r6 : Int) inp a us l := by
    by_cases e0 : takeN (r6 : Int) inp a us l = 0
    · rw [e0, show a + 0 = a by omega, extract_nil]
      rfl
    · have hin := take_in (show (0 : Int) ≤ (r6 : Int) by omega) inp a us l e0
      rw [ByteArray.size_extract]
      omega
  obtain ⟨N, hN⟩ : ∃ N, takeN (r6 : Int) inp a us l = N := ⟨_, rfl⟩
  rw [hN] at hrg htk hsz ⊢
  obtain ⟨m, rfl⟩ : ∃ m : Nat, N = (m : Int) := ⟨N.toNat, by omega⟩
  rw [Int.toNat_natCast]
  obtain ⟨D, hD⟩ : ∃ D, inp.extract a.toNat (a + (m : Int)).toNat = D := ⟨_, rfl⟩
  rw [hD] at htk hsz ⊢
  have hmD : D.size = m := by omega
  have HSZ := hidden hmD
  have HR0 : Hid (0 ≤ (m : Int) ∧ (m : Int) < 4294967296) := hidden (by omega)
  have HMM : Hid (m ≤ 16384) := hidden (by omega)
  have HRI := hidden (fun u => right_any v hv.1 (m : Int) u)
  have HC1 : Hid ((cwC inp a (.slice ao l.length cap) us ev).all (·.oneCell') = true) := hidden (cw_one rfl he)
  have HC5 : Hid ((cwC inp a (.slice ao l.length cap) us ev).size = 5) := hidden rfl
  have HX1 : Hid ((cwC inp (a + (m : Int)) (.slice ao l.length cap) (takeU us l) ev).all (·.oneCell') = true) := hidden (cw_one rfl he)
  have HX5 : Hid ((cwC inp (a + (m : Int)) (.slice ao l.length cap) (takeU us l) ev).size = 5) := hidden rfl
  obtain ⟨CX, hCX⟩ : ∃ CX, cwC inp (a + (m : Int)) (.slice ao l.length cap) (takeU us l) ev = CX := ⟨_, rfl⟩
  rw [hCX] at HX1 HX5 htk ⊢
  obtain ⟨CW, hCW⟩ : ∃ CW, cwC inp a (.slice ao l.length cap) us ev = CW := ⟨_, rfl⟩
  rw [hCW] at HC1 HC5 htk ⊢
  have HTK := hidden htk
  have HM := hidden h
  have HCC := hidden hcc
  have H5L : Hid (r5 < 4294967296) := hidden l5
  have l67 : (0 : Int) ≤ (r6 : Int) := by omega
  obtain ⟨mb, hmb⟩ : ∃ mb, s.mb = mb := ⟨_, rfl⟩
  have HMB := hidden hmb
  have hi4 : ∀ u, (Instr.indexAt 24 (.pointer (some ⟨n, 0, none⟩)) (.int .i64 4)).run Try.prog u = .ok (.pointer (some ⟨n, 4, none⟩)) u := fun u => index_reg n 4 (by omega) u
  have hi5 : ∀ u, (Instr.indexAt 24 (.pointer (some ⟨n, 0, none⟩)) (.int .i64 5)).run Try.prog u = .ok (.pointer (some ⟨n, 5, none⟩)) u := fun u => index_reg n 5 (by omega) u
  have hi6 : ∀ u, (Instr.indexAt 24 (.pointer (some ⟨n, 0, none⟩)) (.int .i64 6)).run Try.prog u = .ok (.pointer (some ⟨n, 6, none⟩)) u := fun u => index_reg n 6 (by omega) u
  obtain ⟨C, hC⟩ : ∃ C, v.c = C := ⟨_, rfl⟩
  rw [hC]
  have HC := hidden hC
  rw [hmb] at HRF0 ⊢
  have hm0 : (m : Int) ≤ 16384 := by omega
  clear hC hCX hCW hv hrv h2 h4 h5 h6 hfd h60 l5 l6 h hcc hr he hl hs htk hrg hsz hD hN hmD hmb
  go_enter Try.func36, Try.ntmps36
  go_upto_region 1 with (first
    | (refine wpList_boxG rfl 26 _ rfl C rfl ?_; rintro w1 k1 s1 b1; rw [hn] at k1 s1 b1 ⊢; have K1 : Hid (Blk w1 n v.c 26) := hidden (by rw [HC.out]; exact k1); have S1 := hidden s1; have B1 := hidden b1; clear k1 s1 b1)
    | (refine wpList_boxG rfl 38 _ rfl CW rfl ?_; rintro w2 k2 s2 b2; rw [S1.out] at k2 s2 b2 ⊢; have K2 := hidden k2; have S2 : Hid (w2.heap.size = q) := hidden (by rw [s2]; exact HQ.out); have B2 := hidden b2; clear k2 s2 b2)
    | (refine wpList_allocV rfl rfl ?_; rintro w3 k3 s3 b3; rw [S2.out] at k3 s3 b3 ⊢; have K3 := hidden k3; have S3 := hidden s3; have B3 := hidden b3; clear k3 s3 b3)
    | (refine wpList_allocCw rfl rfl ?_; rintro w4 k4 s4 b4; rw [S3.out] at k4 s4 b4 ⊢; have P := hidden (WA.mk4 (F := nought) hn HQ.out K1.out S1.out B1.out K2.out S2.out B2.out K3.out S3.out B3.out k4 b4); clear k4 s4 b4 K1 S1 B1 K2 S2 B2 K3 S3 B3; obtain ⟨c2, c4, c5, c6⟩ := P.out.regs HV.out H2.out H4.out H5.out H6.out))
  go_upto_region 6 with (first | (go_at_call 64; refine (HRF0.out _ P.out.keep).mono ?_; rintro x w5 ⟨rfl, b5⟩; clear c2 c4 c5 c6; have Q := hidden (P.out.later b5); clear P b5; have P := Q; clear Q; obtain ⟨c2, c4, c5, c6⟩ := P.out.regs HV.out H2.out H4.out H5.out H6.out) | (refine wpList_loadV rfl _ rfl n v rfl P.out.s HV.out ?_))
  go_upto_region 7 with (first
    | (refine wpList_loadCw rfl _ rfl (n + 1) CW rfl P.out.c HC5.out ?_)
    | (go_at_call 66; refine (HTK.out _ P.out.bel).mono ?_; rintro x w6 ⟨rfl, b6⟩; clear c2 c4 c5 c6; have Q := hidden (P.out.later b6); clear P b6; have P := Q; clear Q)
    | (refine wpList_allocCw rfl rfl ?_; obtain ⟨g, hg⟩ : ∃ g, w6.heap.size = g := ⟨_, rfl⟩; rintro w7 k7 s7 b7; have P7 := hidden (P.out.later b7); rw [hg] at k7 s7 ⊢; have K7 := hidden k7; have GQ : Hid (q + 2 ≤ g) := hidden (by rw [← hg]; exact P.out.sz); clear k7 s7 b7)
    | (refine wpList_storeCw rfl rfl _ _ rfl g zCw CX rfl rfl K7.out rfl HX5.out HX1.out ?_; rintro w8 k8 o8; have PP : Hid (WP s w n q g v CW CX w8 s) := hidden (WP.mk0 HM.out P7.out o8 k8 GQ.out); clear k8 o8 P7 K7 P))
  have HP0 := PP
  clear PP
  have hlen : ∀ u, (Builtin.len_ #[9] 3 #[.string D]).run Try.prog u = .ok (.int .i64 (m : Int)) u := fun u => by
    rw [run_len_string u 9 3 D (by kernel_rfl), HSZ.out]
    rfl
  go_wp2
  go_loopw [43] (fun x43 wr => ∃ (k : Nat) (t : MS), k ≤ m ∧ x43 = .int .i64 (k : Int) ∧ WP s w n q g v CW CX wr t ∧ PK s r5 D.data.toList k t) (fun x43 _ => m - (intOf x43).toNat)
  case atStart => exact ⟨0, s, by omega, rfl, HP0.out, PK.zero s r5 _⟩
  case round =>
    obtain ⟨k, t, hk, rfl, hwp, hpk⟩ := hrel
    have P := hidden hwp
    have PKH := hidden hpk
    have HTB : Hid (t.mb = mb) := hidden (hpk.mb.trans HMB.out)
    have hk0 : (k : Int) ≤ 16384 := by omega
    have hkn : (0 : Int) ≤ (k : Int) := by omega
    clear hwp hpk HP0
    by_cases hlt : k < m
    · have hl : (k : Int) < (m : Int) := by omega
      obtain ⟨b, hb⟩ : ∃ b : Nat, ((r5 : Int) + (k : Int)) % 4294967296 = (b : Int) := ⟨(r5 + k) % 4294967296, by omega⟩
      have HB : Hid (wrapAt r5 k = b) := hidden (by unfold wrapAt; omega)
      have HBL : Hid (b < 4294967296) := hidden (by omega)
      have hxs : ∀ u, (Instr.index 9 (.string D) (.int .i64 (k : Int))).run Try.prog u = .ok (.int .u8 ((D.data.toList.getD k 0).toNat : Int)) u := fun u => index_str D k (by rw [HSZ.out]; exact hlt) u
      obtain ⟨bt, hbt⟩ : ∃ bt, D.data.toList.getD k 0 = bt := ⟨_, rfl⟩
      rw [hbt] at hxs
      have HBT := hidden hbt
      have HPO := hidden (fun (u : World) (hu : MemW u t) => poke_any u t b bt hu HBL.out (by have := PKH.out.c; have := HCC.out; omega))
      rw [HTB.out] at HPO
      have c5 := P.out.wa.s.cell (SV.getR HV.out (show 5 < 32 by decide))
      rw [H5.out] at c5
      clear hbt
      go_upto_region 10 with fail
      refine wp_region_tail 10 (by kernel_rfl) (by kernel_rfl) ?_
      simp only [List.take_succ_cons, List.take_zero, List.drop_succ_cons, List.drop_zero]
      repeat (go_big_quiet_step (fail))
      refine wpQuiet_nil ?_
      rintro _ ⟨nq, rfl⟩
      go_wp2_with (first
        | (go_at_call 28; refine (HPO.out _ (P.out.mem.drewN nq)).mono ?_; rintro e w9 ⟨rfl, tv, hst⟩; have P9 := hidden ((P.out.step (Step.later P.out.mem (below_drewN (Below.refl _ _) nq))).step hst); clear hst c5 HPO))
      go_roundw
      case rel => exact ⟨k + 1, t.pokeAt b bt tv, by omega, by first | rfl | simp, P9.out, by have h := PKH.out.next tv; rw [HB.out, HBT.out] at h; exact h⟩
      case measure => simp [intOf]; omega
    · have hl : ¬ (k : Int) < (m : Int) := by omega
      obtain rfl : k = m := by omega
      go_upto_region 12 with fail
      have KS := hidden P.out.wa.s
      have KW := hidden P.out.cx
      have QS := hidden P.out.wa.rs
      have QW := hidden P.out.wa.rw
      have PQ := P.out.wa.hq
      have GG := P.out.gq
      have hW5 := HX5.out
      refine wp_region_on (later_rf [(q, Obj.cells (SV.c (ansV v (k : Int) 0)) 26 (0, 0)), (q + 1, Obj.cells (CX) 38 (0, 0))]) [58, 59, 60, 61, 62, 63, 1006, 1007] 8 (phiRd12 n q v CX (k : Int) D) (by kernel_rfl) (by kernel_rfl) rfl rfl (phiRd12_mono n q v CX (k : Int) D) ?_ ?_
      · intro j hj xs w3 hxs hR hpre
        obtain ⟨x0, x1, x2, x3, x4, x5, x6, x7, rfl⟩ := lstRd12 xs hxs
        have hS : Blk w3 (n) (SV.c v) 26 := hR.blk KS.out (rf2_no (by omega) (by omega))
        have hW : Blk w3 (g) CX 38 := hR.blk KW.out (rf2_no (by omega) (by omega))
        have hA := hR.some ⟨_, SV.size (s := SV.zero) rfl, QS.out⟩ (rf2_s1 (SV.size (ansV_len HV.out (k : Int) 0)))
        have hB := hR.some (n := 5) ⟨_, (show zCw.size = 5 from rfl), QW.out⟩ (rf2_s2 hW5)
        rcases (show j = 0 ∨ j = 1 ∨ j = 2 ∨ j = 3 ∨ j = 4 ∨ j = 5 ∨ j = 6 ∨ j = 7 by omega) with rfl | rfl | rfl | rfl | rfl | rfl | rfl | rfl
        · exact wpOp_run (.agg (SV.c v)) rfl (by kernel_rfl) (exec_load 26 rfl (by kernel_rfl) w3 (loadSt hS HV.out)) ⟨_, by kernel_rfl, rfl, (later_rf _).refl _⟩
        · exact wpOp_run (.string D) rfl (by kernel_rfl) (exec_move rfl (by kernel_rfl) w3) ⟨_, by kernel_rfl, rfl, (later_rf _).refl _⟩
        · have e1 : x1 = .string D := hpre 1 (by kernel_rfl)
          subst e1
          exact wpOp_run (.int .i64 (k : Int)) rfl (by kernel_rfl) (exec_lenS rfl (by kernel_rfl) HSZ.out w3) ⟨_, by kernel_rfl, rfl, (later_rf _).refl _⟩
        · have e2 : x2 = .int .i64 (k : Int) := hpre 2 (by kernel_rfl)
          subst e2
          exact wpOp_run (.int .u32 (k : Int)) rfl (by kernel_rfl) (exec_cv rfl (by kernel_rfl) HR0.out.1 HR0.out.2 w3) ⟨_, by kernel_rfl, rfl, (later_rf _).refl _⟩
        · have e0 : x0 = .agg (SV.c v) := hpre 0 (by kernel_rfl)
          subst e0
          have e3 : x3 = .int .u32 (k : Int) := hpre 3 (by kernel_rfl)
          subst e3
          refine wpOp_callR (R := fun u w4 => u = .agg (SV.c (ansV v (k : Int) 0)) ∧ Below w3.heap.size w3 w4) 65 #[.agg (SV.c v), .int .u32 (k : Int)] rfl (by kernel_rfl) (by kernel_rfl) ((HRI.out w3).mono fun e w4 h => ⟨_, h.1, rfl, h.2⟩) ?_
          rintro _ w4 ⟨rfl, hb⟩
          exact ⟨_, by kernel_rfl, rfl, RF.of_below hb⟩
        · exact wpOp_run (.agg CX) rfl (by kernel_rfl) (exec_load 38 rfl (by kernel_rfl) w3 (loadCwR hW hW5)) ⟨_, by kernel_rfl, rfl, (later_rf _).refl _⟩
        · have e4 : x4 = .agg (SV.c (ansV v (k : Int) 0)) := hpre 4 (by kernel_rfl)
          subst e4
          obtain ⟨old, hs1, hs2⟩ := hA
          exact wpOp_put rfl (by kernel_rfl) (exec_storeG (g := q) (cs := SV.c (ansV v (k : Int) 0)) (old := old) rfl (by kernel_rfl) (by kernel_rfl) w3 hs2 (by rw [SV.size (ansV_len HV.out (k : Int) 0)]; exact sizeSV) (by rw [hs1, SV.size (ansV_len HV.out (k : Int) 0)]) (SV.one _)) ⟨.bool true, by kernel_rfl, ⟨rfl, setRow_heap w3 (q) old _ 26 (0, 0) hs2⟩, RF.of_only (only_rowV w3 (q) _) (setRow_heap w3 (q) old _ 26 (0, 0) hs2) rf2_m1⟩
        · have e5 : x5 = .agg CX := hpre 5 (by kernel_rfl)
          subst e5
          obtain ⟨old, hs1, hs2⟩ := hB
          exact wpOp_put rfl (by kernel_rfl) (exec_storeG (g := q + 1) (cs := CX) (old := old) rfl (by kernel_rfl) (by kernel_rfl) w3 hs2 (by rw [hW5]; exact sizeCw) (by rw [hs1, hW5]) HX1.out) ⟨.bool true, by kernel_rfl, ⟨rfl, setRow_heap w3 (q + 1) old _ 38 (0, 0) hs2⟩, RF.of_only (only_rowV w3 (q + 1) _) (setRow_heap w3 (q + 1) old _ 38 (0, 0) hs2) rf2_m2⟩
      · intro xs w3 hxs hR hall
        obtain ⟨x0, x1, x2, x3, x4, x5, x6, x7, rfl⟩ := lstRd12 xs hxs
        obtain ⟨_, kA⟩ : x6 = .bool true ∧ Blk w3 (q) (SV.c (ansV v (k : Int) 0)) 26 := hall 6 (by omega)
        obtain ⟨_, kB⟩ : x7 = .bool true ∧ Blk w3 (q + 1) (CX) 38 := hall 7 (by omega)
        have RA := hidden kA
        have RB := hidden kB
        have HRF := hidden hR
        have SE := hidden (P.out.fin HRF.out)
        clear hR hall hxs kA kB HRF P KS KW QS QW
        simp only [slotsOn, putAll]
        go_wp2
        refine bodyPost_ret (results_cc rfl _ _ q (q + 1) _ _ (by kernel_rfl) (by kernel_rfl) (loadSt RA.out (ansV_len HV.out (k : Int) 0)) (loadCwR RB.out HX5.out)) rfl ⟨by first | rfl | (rw [← HC.out]; rfl), t, SE.out, PKH.out⟩
end Go.Proofs.Ytodoenimlhldjaa
