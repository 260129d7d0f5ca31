/- A memory and chapter 5's own: the same pages. -/
import Derived.Test.YtodoenimlhldjaaQMNew
import Derived.Test.YtodoenimlhldjaaQTwos
namespace Go.Proofs.Ytodoenimlhldjaa
open Go.ChangeShapes Go.WideShapes Go.ChangeAt Go.RowKit
set_option linter.unusedVariables false
theorem pageOf_div (a : Nat) : pageOf a = a / 256 * 256 := by unfold pageOf; omega
theorem getD_set5 {l : List P5} {k : Nat} (hk : k < l.length) (q : P5) (j : Nat) : (l.set k q).getD j nop5 = if j = k then q else l.getD j nop5 := by
  by_cases h : j = k
  · subst h
    rw [if_pos rfl, List.getD_eq_getElem?_getD, List.getElem?_set_self hk]
    rfl
  · rw [if_neg h, List.getD_eq_getElem?_getD, List.getElem?_set_ne (fun e => h e.symm), ← List.getD_eq_getElem?_getD]
theorem getD_ins5 {l : List P5} {i : Nat} (hi : i ≤ l.length) (q : P5) (j : Nat) : (l.take i ++ q :: l.drop i).getD j nop5 = if j < i then l.getD j nop5 else if j = i then q else l.getD (j - 1) nop5 := by
  have hl : (l.take i).length = i := by rw [List.length_take]; omega
  rw [List.getD_eq_getElem?_getD]
  by_cases h : j < i
  · rw [if_pos h, List.getElem?_append_left (by omega), List.getElem?_take_of_lt h, ← List.getD_eq_getElem?_getD]
  · rw [if_neg h, List.getElem?_append_right (by omega), hl]
    by_cases h2 : j = i
    · subst h2
      rw [if_pos rfl, Nat.sub_self]
      rfl
    · rw [if_neg h2, show j - i = (j - 1 - i) + 1 by omega, List.getElem?_cons_succ, List.getElem?_drop, show i + (j - 1 - i) = j - 1 by omega, ← List.getD_eq_getElem?_getD]
theorem len_ins5 {l : List P5} {i : Nat} (hi : i ≤ l.length) (q : P5) : (l.take i ++ q :: l.drop i).length = l.length + 1 := by
  rw [List.length_append, List.length_cons, List.length_take, List.length_drop]
  omega
theorem find5_iff {l : List P5} {p : Nat} : find5 l p < l.length ↔ ∃ j, j < l.length ∧ (l.getD j nop5).at_ = p := by
  constructor
  · exact fun h => ⟨_, h, find5_at h⟩
  · rintro ⟨j, hj, he⟩
    exact Classical.byContradiction fun hn => by
      unfold find5 at hn
      rw [List.findIdx_lt_length] at hn
      refine hn ⟨l.getD j nop5, ?_, by simpa using he⟩
      rw [List.getD_eq_getElem?_getD, List.getElem?_eq_getElem hj]
      exact List.getElem_mem hj
/-- The same pages, those of chapter 5's own rising. -/
structure Sim (s : MS) (l : List P5) : Prop where
  rise : ∀ i j, i < j → j < l.length → (l.getD i nop5).at_ < (l.getD j nop5).at_
  here : ∀ j, j < l.length → (l.getD j nop5).at_ ∈ s.ks ∧ (l.getD j nop5).b = s.data (l.getD j nop5).at_ ∧ (l.getD j nop5).perm = s.pm (l.getD j nop5).at_ ∧ (l.getD j nop5).watched = s.on (l.getD j nop5).at_
  back : ∀ k, k ∈ s.ks → find5 l k < l.length
  len : s.ks.length = l.length
theorem Sim.find {s : MS} {l : List P5} (h : Sim s l) (p : Nat) : p ∈ s.ks ↔ find5 l p < l.length := by
  refine ⟨h.back p, fun hf => ?_⟩
  have := (h.here _ hf).1
  rwa [find5_at hf] at this
theorem Sim.at {s : MS} {l : List P5} (h : Sim s l) {p : Nat} (hf : find5 l p < l.length) : (l.getD (find5 l p) nop5).b = s.data p ∧ (l.getD (find5 l p) nop5).perm = s.pm p ∧ (l.getD (find5 l p) nop5).watched = s.on p := by
  have := (h.here _ hf).2
  rwa [find5_at hf] at this
theorem Sim.inj {s : MS} {l : List P5} (h : Sim s l) {i j : Nat} (hi : i < l.length) (hj : j < l.length) (e : (l.getD i nop5).at_ = (l.getD j nop5).at_) : i = j := by
  rcases Nat.lt_trichotomy i j with h1 | h1 | h1
  · have := h.rise i j h1 hj; omega
  · exact h1
  · have := h.rise j i h1 hi; omega
theorem Sim.set {s s' : MS} {l : List P5} {p : Nat} {q : P5} (h : Sim s l) (hf : find5 l p < l.length) (hq : q.at_ = p) (hks : s'.ks = s.ks) (hb : q.b = s'.data p) (hp : q.perm = s'.pm p) (hw : q.watched = s'.on p) (ho : ∀ k, k ≠ p → s'.data k = s.data k ∧ s'.pm k = s.pm k ∧ s'.on k = s.on k) : Sim s' (l.set (find5 l p) q) := by
  have ha : ∀ j, ((l.set (find5 l p) q).getD j nop5).at_ = (l.getD j nop5).at_ := fun j => by
    rw [getD_set5 hf]
    by_cases e : j = find5 l p
    · rw [if_pos e, e, hq, find5_at hf]
    · rw [if_neg e]
  refine ⟨fun i j hij hj => ?_, fun j hj => ?_, fun k hk => ?_, ?_⟩
  · rw [ha, ha]
    exact h.rise i j hij (by simpa using hj)
  · rw [List.length_set] at hj
    have h1 := h.here j hj
    rw [ha, hks]
    refine ⟨h1.1, ?_⟩
    rw [getD_set5 hf]
    by_cases e : j = find5 l p
    · rw [if_pos e, e, find5_at hf]
      exact ⟨hb, hp, hw⟩
    · rw [if_neg e]
      have hne : (l.getD j nop5).at_ ≠ p := fun e2 => e (h.inj hj hf (by rw [e2, find5_at hf]))
      obtain ⟨o1, o2, o3⟩ := ho _ hne
      rw [o1, o2, o3]
      exact h1.2
  · rw [hks] at hk
    obtain ⟨j, hj, e⟩ := find5_iff.1 (h.back k hk)
    exact find5_iff.2 ⟨j, by simpa using hj, by rw [ha]; exact e⟩
  · rw [hks, List.length_set]
    exact h.len
theorem Sim.ins {s s' : MS} {l : List P5} {p i : Nat} {q : P5} (h : Sim s l) (hn : ¬ find5 l p < l.length) (hi : i ≤ l.length) (hq : q.at_ = p) (h1 : ∀ k, i = k + 1 → ¬ p < (l.getD k nop5).at_) (h2 : ∀ j, i ≤ j → j < l.length → p < (l.getD j nop5).at_) (hks : s'.ks = s.ks ++ [p]) (hb : q.b = s'.data p) (hp : q.perm = s'.pm p) (hw : q.watched = s'.on p) (ho : ∀ k, k ≠ p → s'.data k = s.data k ∧ s'.pm k = s.pm k ∧ s'.on k = s.on k) : Sim s' (l.take i ++ q :: l.drop i) := by
  have hne : ∀ j, j < l.length → (l.getD j nop5).at_ ≠ p := fun j hj e => hn (find5_iff.2 ⟨j, hj, e⟩)
  have hlow : ∀ j, j < i → (l.getD j nop5).at_ < p := fun j hj => by
    obtain ⟨k, rfl⟩ : ∃ k, i = k + 1 := ⟨i - 1, by omega⟩
    have a := h1 k rfl
    have b := hne k (by omega)
    by_cases e : j = k
    · subst e; omega
    · have := h.rise j k (by omega) (by omega)
      omega
  refine ⟨fun a b hab hbl => ?_, fun j hj => ?_, fun k hk => ?_, ?_⟩
  · rw [len_ins5 hi] at hbl
    rw [getD_ins5 hi, getD_ins5 hi]
    by_cases c1 : b < i
    · rw [if_pos (by omega), if_pos c1]
      exact h.rise a b hab (by omega)
    · rw [if_neg c1]
      by_cases c2 : b = i
      · rw [if_pos c2, if_pos (by omega), hq]
        exact hlow a (by omega)
      · rw [if_neg c2]
        have hb2 := h2 (b - 1) (by omega) (by omega)
        by_cases c3 : a < i
        · rw [if_pos c3]
          have := hlow a c3
          omega
        · rw [if_neg c3]
          by_cases c4 : a = i
          · rw [if_pos c4, hq]
            exact hb2
          · rw [if_neg c4]
            exact h.rise (a - 1) (b - 1) (by omega) (by omega)
  · rw [len_ins5 hi] at hj
    rw [getD_ins5 hi, hks]
    have old : ∀ x, x < l.length → (l.getD x nop5).at_ ∈ s.ks ++ [p] ∧ (l.getD x nop5).b = s'.data (l.getD x nop5).at_ ∧ (l.getD x nop5).perm = s'.pm (l.getD x nop5).at_ ∧ (l.getD x nop5).watched = s'.on (l.getD x nop5).at_ := fun x hx => by
      have g := h.here x hx
      obtain ⟨o1, o2, o3⟩ := ho _ (hne x hx)
      rw [o1, o2, o3]
      exact ⟨List.mem_append_left _ g.1, g.2⟩
    by_cases c1 : j < i
    · rw [if_pos c1]
      exact old j (by omega)
    · rw [if_neg c1]
      by_cases c2 : j = i
      · rw [if_pos c2, hq]
        exact ⟨List.mem_append_right _ (List.mem_singleton.2 rfl), hb, hp, hw⟩
      · rw [if_neg c2]
        exact old (j - 1) (by omega)
  · rw [hks] at hk
    rcases List.mem_append.1 hk with hk | hk
    · obtain ⟨j, hj, e⟩ := find5_iff.1 (h.back k hk)
      by_cases c : j < i
      · exact find5_iff.2 ⟨j, by rw [len_ins5 hi]; omega, by rw [getD_ins5 hi, if_pos c]; exact e⟩
      · exact find5_iff.2 ⟨j + 1, by rw [len_ins5 hi]; omega, by rw [getD_ins5 hi, if_neg (by omega), if_neg (by omega), Nat.add_sub_cancel]; exact e⟩
    · rw [List.mem_singleton] at hk
      exact find5_iff.2 ⟨i, by rw [len_ins5 hi]; omega, by rw [getD_ins5 hi, if_neg (Nat.lt_irrefl _), if_pos rfl, hq, hk]⟩
  · rw [hks, List.length_append, len_ins5 hi, h.len]
    rfl
theorem Sim.perm {s : MS} {l : List P5} (h : Sim s l) (a : Nat) : perm5 l (a / 256 * 256) = s.perm a := by
  unfold perm5 MS.perm
  rw [pageOf_div]
  by_cases hf : find5 l (a / 256 * 256) < l.length
  · rw [if_pos hf, if_pos ((h.find _).2 hf)]
    exact (h.at hf).2.1
  · rw [if_neg hf, if_neg (fun e => hf ((h.find _).1 e))]
theorem Sim.peek {s : MS} {l : List P5} (h : Sim s l) (a : Nat) : peek5 l a = s.get a := by
  unfold peek5 MS.get
  rw [pageOf_div]
  by_cases hf : find5 l (a / 256 * 256) < l.length
  · rw [if_pos hf, if_pos ((h.find _).2 hf), (h.at hf).1]
  · rw [if_neg hf, if_neg (fun e => hf ((h.find _).1 e))]
def watch5 (l : List P5) (p : Nat) : Bool := decide (find5 l p < l.length) && (l.getD (find5 l p) nop5).watched
theorem Sim.watched {s : MS} {l : List P5} (h : Sim s l) (a : Nat) : watch5 l (a / 256 * 256) = s.watched a := by
  unfold watch5 MS.watched
  rw [pageOf_div]
  by_cases hf : find5 l (a / 256 * 256) < l.length
  · rw [decide_eq_true hf, decide_eq_true ((h.find _).2 hf), (h.at hf).2.2]
  · rw [decide_eq_false hf, decide_eq_false (fun e => hf ((h.find _).1 e)), Bool.false_and, Bool.false_and]
theorem Sim.mapped {s : MS} {l : List P5} (h : Sim s l) (a : Nat) : decide (find5 l (a / 256 * 256) < l.length) = decide (pageOf a ∈ s.ks) := by
  rw [pageOf_div]
  exact decide_eq_decide.2 (h.find _).symm
/-- The rising list of some keys is one. -/
theorem rising_eq : ∀ (l m : List Nat), (∀ i j, i < j → j < l.length → l.getD i 0 < l.getD j 0) → (∀ i j, i < j → j < m.length → m.getD i 0 < m.getD j 0) → (∀ x, x ∈ l ↔ x ∈ m) → l = m
  | [], [], _, _, _ => rfl
  | [], y :: m, _, _, h => by have := (h y).2 (List.mem_cons_self ..); simp at this
  | x :: l, [], _, _, h => by have := (h x).1 (List.mem_cons_self ..); simp at this
  | x :: l, y :: m, hl, hm, h => by
    have up : ∀ (z : Nat) (t : List Nat), (∀ i j, i < j → j < (z :: t).length → (z :: t).getD i 0 < (z :: t).getD j 0) → ∀ u ∈ t, z < u := fun z t ht u hu => by
      obtain ⟨j, hj, rfl⟩ := List.getElem_of_mem hu
      have := ht 0 (j + 1) (by omega) (by simpa using hj)
      simpa [List.getD_eq_getElem?_getD, hj] using this
    have ux := up x l hl
    have uy := up y m hm
    have e : x = y := by
      have h1 := (h x).1 (List.mem_cons_self ..)
      have h2 := (h y).2 (List.mem_cons_self ..)
      rcases List.mem_cons.1 h1 with h1 | h1
      · exact h1
      · rcases List.mem_cons.1 h2 with h2 | h2
        · exact h2.symm
        · have := ux y h2; have := uy x h1; omega
    subst e
    have tail : ∀ (t : List Nat), (∀ i j, i < j → j < (x :: t).length → (x :: t).getD i 0 < (x :: t).getD j 0) → ∀ i j, i < j → j < t.length → t.getD i 0 < t.getD j 0 := fun t ht i j hij hj => by
      have := ht (i + 1) (j + 1) (by omega) (by simpa using hj)
      simpa using this
    rw [rising_eq l m (tail l hl) (tail m hm) fun u => by
      constructor
      · intro hu
        have := (h u).1 (List.mem_cons_of_mem _ hu)
        rcases List.mem_cons.1 this with e | e
        · have := ux u hu; omega
        · exact e
      · intro hu
        have := (h u).2 (List.mem_cons_of_mem _ hu)
        rcases List.mem_cons.1 this with e | e
        · have := uy u hu; omega
        · exact e]
theorem Sim.pages {s : MS} {l : List P5} (h : Sim s l) {ks : List Nat} (hp : ks.Perm s.ks) (hr : Rising ks) : ks = l.map P5.at_ := by
  have hg : ∀ j, j < l.length → (l.map P5.at_).getD j 0 = (l.getD j nop5).at_ := fun j hj => by
    simp [List.getD_eq_getElem?_getD, hj]
  refine rising_eq _ _ hr (fun i j hij hj => ?_) fun x => ?_
  · rw [List.length_map] at hj
    rw [hg i (by omega), hg j hj]
    exact h.rise i j hij hj
  · rw [hp.mem_iff, h.find, find5_iff]
    constructor
    · rintro ⟨j, hj, e⟩
      rw [← e, ← hg j hj, List.getD_eq_getElem?_getD, List.getElem?_eq_getElem (by simpa using hj)]
      exact List.getElem_mem (by simpa using hj)
    · intro hx
      obtain ⟨j, hj, rfl⟩ := List.getElem_of_mem hx
      rw [List.length_map] at hj
      refine ⟨j, hj, ?_⟩
      rw [← hg j hj, List.getD_eq_getElem?_getD, List.getElem?_eq_getElem (by simpa using hj)]
      rfl
theorem ofInt_toNat (x : Int) : (BitVec.ofInt 64 x).toNat = (x % 18446744073709551616).toNat := by
  have h : ((2 ^ 64 : Nat) : Int) = 18446744073709551616 := by decide
  rw [BitVec.toNat_ofInt, h]
theorem bits_or (x y : Int) : bits .or .i64 x y = IntKind.i64.wrap ((BitVec.ofInt 64 x ||| BitVec.ofInt 64 y).toNat : Nat) := rfl
theorem or_mod8 (a n : Nat) (ha : a < 8) : (a ||| n) % 8 = a ||| n % 8 := by
  have h : (a ||| n) % 2 ^ 3 = a % 2 ^ 3 ||| n % 2 ^ 3 := Nat.or_mod_two_pow
  rw [show (2 : Nat) ^ 3 = 8 from rfl, Nat.mod_eq_of_lt ha] at h
  exact h
theorem wrap8 (n : Nat) : IntKind.i64.wrap ((n % 8 : Nat) : Int) = IntKind.i64.wrap (n : Int) % 8 := by
  rw [IntKind.wrap_i64, IntKind.wrap_i64]
  omega
theorem toNat8 (z : Int) : (BitVec.ofInt 64 (z % 8)).toNat = (BitVec.ofInt 64 z).toNat % 8 := by
  rw [ofInt_toNat, ofInt_toNat]
  omega
theorem toNatS (a : Nat) (h : a < 8) : (BitVec.ofInt 64 (a : Int)).toNat = a := by
  rw [ofInt_toNat]
  omega
theorem orP_small (p z : Int) (h0 : 0 ≤ p) (h8 : p < 8) : bits .or .i64 p (z % 8) = orP p z := by
  obtain ⟨a, rfl⟩ := Int.eq_ofNat_of_zero_le h0
  have ha : a < 8 := by omega
  rw [orP, bits_or, bits_or, BitVec.toNat_or, BitVec.toNat_or, toNatS a ha, toNat8, ← or_mod8 a _ ha]
  exact wrap8 _
/-- Both in one world, with no block in common, of the call's own. -/
structure Duo (w0 w : World) (s : MS) (t : S5) : Prop where
  own : Own w0 w s
  mem5 : M5 w t
  f5 : ∀ b, foot5 t b → w0.heap.size ≤ b
  apart : ∀ b, foot s b → ¬ foot5 t b
theorem M5.same {w w' : World} {t : S5} (h : M5 w t) (hb : ∀ b, foot5 t b → w'.heap[b]? = w.heap[b]?) : M5 w' t :=
  ⟨(hb _ (.inl rfl)).trans h.self, ownsRow_same h.pages fun g hg => hb g (.inr (.inl hg)), ownsRow_same h.touched fun g hg => hb g (.inr (.inr hg)), h.fit, h.few⟩
theorem M5.footLt {w : World} {t : S5} (h : M5 w t) {b : Nat} (hb : foot5 t b) : b < w.heap.size := by
  rcases hb with hb | hb | hb
  · rw [hb]; exact h.lt
  · obtain ⟨c, hc⟩ := h.blkP hb; exact hc.lt
  · obtain ⟨c, hc⟩ := h.blkT hb; exact hc.lt
theorem M5.keep {F : Nat → Prop} {w w' : World} {t : S5} (h : M5 w t) (k : Keep F w w') (hf : ∀ b, foot5 t b → ¬ F b) : M5 w' t := h.same fun b hb => k.block b (h.footLt hb) (hf b hb)
theorem M5.later {w w' : World} {t : S5} (h : M5 w t) (hb : Below w.heap.size w w') : M5 w' t := h.same fun b hf => hb.block b (h.footLt hf)
theorem Duo.code {w0 w w' : World} {s s' : MS} {t : S5} (h : Duo w0 w s t) (k : Step w s w' s') : Duo w0 w' s' t := by
  refine ⟨h.own.step k, h.mem5.keep k.keep fun b hb hf => h.apart b hf hb, h.f5, fun b hb h5 => ?_⟩
  rcases k.grow b hb with h1 | h1
  · exact h.apart b h1 h5
  · have := h.mem5.footLt h5
    omega
theorem Duo.model {w0 w w' : World} {s : MS} {t t' : S5} (h : Duo w0 w s t) (k : Step5 w t w' t') : Duo w0 w' s t' := by
  have hb : Below w0.heap.size w w' := k.keep.below h.own.below.size h.f5
  refine ⟨⟨h.own.mem.keep k.keep fun b hb h5 => h.apart b hb h5, h.own.below.trans hb, h.own.foot⟩, k.mem, fun b hb5 => ?_, fun b hb h5 => ?_⟩
  · rcases k.grow b hb5 with h1 | h1
    · exact h.f5 b h1
    · exact Nat.le_trans h.own.below.size h1
  · rcases k.grow b h5 with h1 | h1
    · exact h.apart b hb h1
    · have := h.own.mem.lt hb
      omega
theorem Duo.later {w0 w w' : World} {s : MS} {t : S5} (h : Duo w0 w s t) (hb : Below w.heap.size w w') : Duo w0 w' s t := h.code (Step.later h.own.mem hb)
end Go.Proofs.Ytodoenimlhldjaa
