/- A memory and chapter 5's own: the same pages. -/
import Derived.Test.YtodoenimlhldjaaBMAS
import Derived.Test.YtodoenimlhldjaaBMAG
import Derived.Test.YtodoenimlhldjaaBMAH
import Derived.Test.YtodoenimlhldjaaBMAI
import Derived.Test.YtodoenimlhldjaaBMAO
import Derived.Test.YtodoenimlhldjaaBMAP
namespace Go.Proofs.Ytodoenimlhldjaa
open Go.ChangeShapes Go.WideShapes Go.ChangeAt Go.RowKit
set_option linter.unusedVariables false
theorem pageOf_div (a : Nat) : pageOf a = a / 256 * 256 := by unfold pageOf; omega
theorem getD_set5 {l : List P5} {k : Nat} (hk : k < l.length) (q : P5) (j : Nat) : (l.set k q).getD j nop5 = if j = k then q else l.getD j nop5 := by
  by_cases h : j = k
  · subst h
    rw [if_pos rfl, List.getD_eq_getElem?_getD, List.getElem?_set_self hk]
    rfl
  · rw [if_neg h, List.getD_eq_getElem?_getD, List.getElem?_set_ne (fun e => h e.symm), ← List.getD_eq_getElem?_getD]
theorem getD_ins5 {l : List P5} {i : Nat} (hi : i ≤ l.length) (q : P5) (j : Nat) : (l.take i ++ q :: l.drop i).getD j nop5 = if j < i then l.getD j nop5 else if j = i then q else l.getD (j - 1) nop5 := by
  have hl : (l.take i).length = i := by rw [List.length_take]; omega
  rw [List.getD_eq_getElem?_getD]
  by_cases h : j < i
  · rw [if_pos h, List.getElem?_append_left (by omega), List.getElem?_take_of_lt h, ← List.getD_eq_getElem?_getD]
  · rw [if_neg h, List.getElem?_append_right (by omega), hl]
    by_cases h2 : j = i
    · subst h2
      rw [if_pos rfl, Nat.sub_self]
      rfl
    · rw [if_neg h2, show j - i = (j - 1 - i) + 1 by omega, List.getElem?_cons_succ, List.getElem?_drop, show i + (j - 1 - i) = j - 1 by omega, ← List.getD_eq_getElem?_getD]
theorem len_ins5 {l : List P5} {i : Nat} (hi : i ≤ l.length) (q : P5) : (l.take i ++ q :: l.drop i).length = l.length + 1 := by
  rw [List.length_append, List.length_cons, List.length_take, List.length_drop]
  omega
theorem find5_iff {l : List P5} {p : Nat} : find5 l p < l.length ↔ ∃ j, j < l.length ∧ (l.getD j nop5).at_ = p := by
  constructor
  · exact fun h => ⟨_, h, find5_at h⟩
  · rintro ⟨j, hj, he⟩
    exact Classical.byContradiction fun hn => by
      unfold find5 at hn
      rw [List.findIdx_lt_length] at hn
      refine hn ⟨l.getD j nop5, ?_, by simpa using he⟩
      rw [List.getD_eq_getElem?_getD, List.getElem?_eq_getElem hj]
      exact List.getElem_mem hj
/-- The same pages, those of chapter 5's own rising. -/
structure Sim (s : MS) (l : List P5) : Prop where
  rise : ∀ i j, i < j → j < l.length → (l.getD i nop5).at_ < (l.getD j nop5).at_
  here : ∀ j, j < l.length → (l.getD j nop5).at_ ∈ s.ks ∧ (l.getD j nop5).b = s.data (l.getD j nop5).at_ ∧ (l.getD j nop5).perm = s.pm (l.getD j nop5).at_ ∧ (l.getD j nop5).watched = s.on (l.getD j nop5).at_
  back : ∀ k, k ∈ s.ks → find5 l k < l.length
  len : s.ks.length = l.length
theorem Sim.find {s : MS} {l : List P5} (h : Sim s l) (p : Nat) : p ∈ s.ks ↔ find5 l p < l.length := by
  refine ⟨h.back p, fun hf => ?_⟩
  have := (h.here _ hf).1
  rwa [find5_at hf] at this
theorem Sim.at {s : MS} {l : List P5} (h : Sim s l) {p : Nat} (hf : find5 l p < l.length) : (l.getD (find5 l p) nop5).b = s.data p ∧ (l.getD (find5 l p) nop5).perm = s.pm p ∧ (l.getD (find5 l p) nop5).watched = s.on p := by
  have := (h.here _ hf).2
  rwa [find5_at hf] at this
theorem Sim.inj {s : MS} {l : List P5} (h : Sim s l) {i j : Nat} (hi : i < l.length) (hj : j < l.length) (e : (l.getD i nop5).at_ = (l.getD j nop5).at_) : i = j := by
  rcases Nat.lt_trichotomy i j with h1 | h1 | h1
  · have := h.rise i j h1 hj; omega
  · exact h1
  · have := h.rise j i h1 hi; omega
theorem Sim.set {s s' : MS} {l : List P5} {p : Nat} {q : P5} (h : Sim s l) (hf : find5 l p < l.length) (hq : q.at_ = p) (hks : s'.ks = s.ks) (hb : q.b = s'.data p) (hp : q.perm = s'.pm p) (hw : q.watched = s'.on p) (ho : ∀ k, k ≠ p → s'.data k = s.data k ∧ s'.pm k = s.pm k ∧ s'.on k = s.on k) : Sim s' (l.set (find5 l p) q) := by
  have ha : ∀ j, ((l.set (find5 l p) q).getD j nop5).at_ = (l.getD j nop5).at_ := fun j => by
    rw [getD_set5 hf]
    by_cases e : j = find5 l p
    · rw [if_pos e, e, hq, find5_at hf]
    · rw [if_neg e]
  refine ⟨fun i j hij hj => ?_, fun j hj => ?_, fun k hk => ?_, ?_⟩
  · rw [ha, ha]
    exact h.rise i j hij (by simpa using hj)
  · rw [List.length_set] at hj
    have h1 := h.here j hj
    rw [ha, hks]
    refine ⟨h1.1, ?_⟩
    rw [getD_set5 hf]
    by_cases e : j = find5 l p
    · rw [if_pos e, e, find5_at hf]
      exact ⟨hb, hp, hw⟩
    · rw [if_neg e]
      have hne : (l.getD j nop5).at_ ≠ p := fun e2 => e (h.inj hj hf (by rw [e2, find5_at hf]))
      obtain ⟨o1, o2, o3⟩ := ho _ hne
      rw [o1, o2, o3]
      exact h1.2
  · rw [hks] at hk
    obtain ⟨j, hj, e⟩ := find5_iff.1 (h.back k hk)
    exact find5_iff.2 ⟨j, by simpa using hj, by rw [ha]; exact e⟩
  · rw [hks, List.length_set]
    exact h.len
theorem Sim.ins {s s' : MS} {l : List P5} {p i : Nat} {q : P5} (h : Sim s l) (hn : ¬ find5 l p < l.length) (hi : i ≤ l.length) (hq : q.at_ = p) (h1 : ∀ k, i = k + 1 → ¬ p < (l.getD k nop5).at_) (h2 : ∀ j, i ≤ j → j < l.length → p < (l.getD j nop5).at_) (hks : s'.ks = s.ks ++ [p]) (hb : q.b = s'.data p) (hp : q.perm = s'.pm p) (hw : q.watched = s'.on p) (ho : ∀ k, k ≠ p → s'.data k = s.data k ∧ s'.pm k = s.pm k ∧ s'.on k = s.on k) : Sim s' (l.take i ++ q :: l.drop i) := by
  have hne : ∀ j, j < l.length → (l.getD j nop5).at_ ≠ p := fun j hj e => hn (find5_iff.2 ⟨j, hj, e⟩)
  have hlow : ∀ j, j < i → (l.getD j nop5).at_ < p := fun j hj => by
    obtain ⟨k, rfl⟩ : ∃ k, i = k + 1 := ⟨i - 1, by omega⟩
    have a := h1 k rfl
    have b := hne k (by omega)
    by_cases e : j = k
    · subst e; omega
    · have := h.rise j k (by omega) (by omega)
      omega
  refine ⟨fun a b hab hbl => ?_, fun j hj => ?_, fun k hk => ?_, ?_⟩
  · rw [len_ins5 hi] at hbl
    rw [getD_ins5 hi, getD_ins5 hi]
    by_cases c1 : b < i
    · rw [if_pos (by omega), if_pos c1]
      exact h.rise a b hab (by omega)
    · rw [if_neg c1]
      by_cases c2 : b = i
      · rw [if_pos c2, if_pos (by omega), hq]
        exact hlow a (by omega)
      · rw [if_neg c2]
        have hb2 := h2 (b - 1) (by omega) (by omega)
        by_cases c3 : a < i
        · rw [if_pos c3]
          have := hlow a c3
          omega
        · rw [if_neg c3]
          by_cases c4 : a = i
          · rw [if_pos c4, hq]
            exact hb2
          · rw [if_neg c4]
            exact h.rise (a - 1) (b - 1) (by omega) (by omega)
  · rw [len_ins5 hi] at hj
    rw [getD_ins5 hi, hks]
    have old : ∀ x, x < l.length → (l.getD x nop5).at_ ∈ s.ks ++ [p] ∧ (l.getD x nop5).b = s'.data (l.getD x nop5).at_ ∧ (l.getD x nop5).perm = s'.pm (l.getD x nop5).at_ ∧ (l.getD x nop5).watched = s'.on (l.getD x nop5).at_ := fun x hx => by
      have g := h.here x hx
      obtain ⟨o1, o2, o3⟩ := ho _ (hne x hx)
      rw [o1, o2, o3]
      exact ⟨List.mem_append_left _ g.1, g.2⟩
    by_cases c1 : j < i
    · rw [if_pos c1]
      exact old j (by omega)
    · rw [if_neg c1]
      by_cases c2 : j = i
      · rw [if_pos c2, hq]
        exact ⟨List.mem_append_right _ (List.mem_singleton.2 rfl), hb, hp, hw⟩
      · rw [if_neg c2]
        exact old (j - 1) (by omega)
  · rw [hks] at hk
    rcases List.mem_append.1 hk with hk | hk
    · obtain ⟨j, hj, e⟩ := find5_iff.1 (h.back k hk)
      by_cases c : j < i
      · exact find5_iff.2 ⟨j, by rw [len_ins5 hi]; omega, by rw [getD_ins5 hi, if_pos c]; exact e⟩
      · exact find5_iff.2 ⟨j + 1, by rw [len_ins5 hi]; omega, by rw [getD_ins5 hi, if_neg (by omega), if_neg (by omega), Nat.add_sub_cancel]; exact e⟩
    · rw [List.mem_singleton] at hk
      exact find5_iff.2 ⟨i, by rw [len_ins5 hi]; omega, by rw [getD_ins5 hi, if_neg (Nat.lt_irrefl _), if_pos rfl, hq, hk]⟩
  · rw [hks, List.length_append, len_ins5 hi, h.len]
    rfl
theorem Sim.perm {s : MS} {l : List P5} (h : Sim s l) (a : Nat) : perm5 l (a / 256 * 256) = s.perm a := by
  unfold perm5 MS.perm
  rw [pageOf_div]
  by_cases hf : find5 l (a / 256 * 256) < l.length
  · rw [if_pos hf, if_pos ((h.find _).2 hf)]
    exact (h.at hf).2.1
  · rw [if_neg hf, if_neg (fun e => hf ((h.find _).1 e))]
theorem Sim.peek {s : MS} {l : List P5} (h : Sim s l) (a : Nat) : peek5 l a = s.get a := by
  unfold peek5 MS.get
  rw [pageOf_div]
  by_cases hf : find5 l (a / 256 * 256) < l.length
  · rw [if_pos hf, if_pos ((h.find _).2 hf), (h.at hf).1]
  · rw [if_neg hf, if_neg (fun e => hf ((h.find _).1 e))]
def watch5 (l : List P5) (p : Nat) : Bool := decide (find5 l p < l.length) && (l.getD (find5 l p) nop5).watched
theorem Sim.watched {s : MS} {l : List P5} (h : Sim s l) (a : Nat) : watch5 l (a / 256 * 256) = s.watched a := by
  unfold watch5 MS.watched
  rw [pageOf_div]
  by_cases hf : find5 l (a / 256 * 256) < l.length
  · rw [decide_eq_true hf, decide_eq_true ((h.find _).2 hf), (h.at hf).2.2]
  · rw [decide_eq_false hf, decide_eq_false (fun e => hf ((h.find _).1 e)), Bool.false_and, Bool.false_and]
theorem Sim.mapped {s : MS} {l : List P5} (h : Sim s l) (a : Nat) : decide (find5 l (a / 256 * 256) < l.length) = decide (pageOf a ∈ s.ks) := by
  rw [pageOf_div]
  exact decide_eq_decide.2 (h.find _).symm
/-- The rising list of some keys is one. -/
theorem rising_eq : ∀ (l m : List Nat), (∀ i j, i < j → j < l.length → l.getD i 0 < l.getD j 0) → (∀ i j, i < j → j < m.length → m.getD i 0 < m.getD j 0) → (∀ x, x ∈ l ↔ x ∈ m) → l = m
  | [], [], _, _, _ => rfl
  | [], y :: m, _, _, h => by have := (h y).2 (List.mem_cons_self ..); simp at this
  | x :: l, [], _, _, h => by have := (h x).1 (List.mem_cons_self ..); simp at this
  | x :: l, y :: m, hl, hm, h => by
    have up : ∀ (z : Nat) (t : List Nat), (∀ i j, i < j → j < (z :: t).length → (z :: t).getD i 0 < (z :: t).getD j 0) → ∀ u ∈ t, z < u := fun z t ht u hu => by
      obtain ⟨j, hj, rfl⟩ := List.getElem_of_mem hu
      have := ht 0 (j + 1) (by omega) (by simpa using hj)
      simpa [List.getD_eq_getElem?_getD, hj] using this
    have ux := up x l hl
    have uy := up y m hm
    have e : x = y := by
      have h1 := (h x).1 (List.mem_cons_self ..)
      have h2 := (h y).2 (List.mem_cons_self ..)
      rcases List.mem_cons.1 h1 with h1 | h1
      · exact h1
      · rcases List.mem_cons.1 h2 with h2 | h2
        · exact h2.symm
        · have := ux y h2; have := uy x h1; omega
    subst e
    have tail : ∀ (t : List Nat), (∀ i j, i < j → j < (x :: t).length → (x :: t).getD i 0 < (x :: t).getD j 0) → ∀ i j, i < j → j < t.length → t.getD i 0 < t.getD j 0 := fun t ht i j hij hj => by
      have := ht (i + 1) (j + 1) (by omega) (by simpa using hj)
      simpa using this
    rw [rising_eq l m (tail l hl) (tail m hm) fun u => by
      constructor
      · intro hu
        have := (h u).1 (List.mem_cons_of_mem _ hu)
        rcases List.mem_cons.1 this with e | e
        · have := ux u hu; omega
        · exact e
      · intro hu
        have := (h u).2 (List.mem_cons_of_mem _ hu)
        rcases List.mem_cons.1 this with e | e
        · have := uy u hu; omega
        · exact e]
theorem Sim.pages {s : MS} {l : List P5} (h : Sim s l) {ks : List Nat} (hp : ks.Perm s.ks) (hr : Rising ks) : ks = l.map P5.at_ := by
  have hg : ∀ j, j < l.length → (l.map P5.at_).getD j 0 = (l.getD j nop5).at_ := fun j hj => by
    simp [List.getD_eq_getElem?_getD, hj]
  refine rising_eq _ _ hr (fun i j hij hj => ?_) fun x => ?_
  · rw [List.length_map] at hj
    rw [hg i (by omega), hg j hj]
    exact h.rise i j hij hj
  · rw [hp.mem_iff, h.find, find5_iff]
    constructor
    · rintro ⟨j, hj, e⟩
      rw [← e, ← hg j hj, List.getD_eq_getElem?_getD, List.getElem?_eq_getElem (by simpa using hj)]
      exact List.getElem_mem (by simpa using hj)
    · intro hx
      obtain ⟨j, hj, rfl⟩ := List.getElem_of_mem hx
      rw [List.length_map] at hj
      refine ⟨j, hj, ?_⟩
      rw [← hg j hj, List.getD_eq_getElem?_getD, List.getElem?_eq_getElem (by simpa using hj)]
      rfl
theorem ofInt_toNat (x : Int) : (BitVec.ofInt 64 x).toNat = (x % 18446744073709551616).toNat := by
  have h : ((2 ^ 64 : Nat) : Int) = 18446744073709551616 := by decide
  rw [BitVec.toNat_ofInt, h]
theorem bits_or (x y : Int) : bits .or .i64 x y = IntKind.i64.wrap ((BitVec.ofInt 64 x ||| BitVec.ofInt 64 y).toNat : Nat) := rfl
theorem or_mod8 (a n : Nat) (ha : a < 8) : (a ||| n) % 8 = a ||| n % 8 := by
  have h : (a ||| n) % 2 ^ 3 = a % 2 ^ 3 ||| n % 2 ^ 3 := Nat.or_mod_two_pow
  rw [show (2 : Nat) ^ 3 = 8 from rfl, Nat.mod_eq_of_lt ha] at h
  exact h
theorem wrap8 (n : Nat) : IntKind.i64.wrap ((n % 8 : Nat) : Int) = IntKind.i64.wrap (n : Int) % 8 := by
  rw [IntKind.wrap_i64, IntKind.wrap_i64]
  omega
theorem toNat8 (z : Int) : (BitVec.ofInt 64 (z % 8)).toNat = (BitVec.ofInt 64 z).toNat % 8 := by
  rw [ofInt_toNat, ofInt_toNat]
  omega
theorem toNatS (a : Nat) (h : a < 8) : (BitVec.ofInt 64 (a : Int)).toNat = a := by
  rw [ofInt_toNat]
  omega
theorem orP_small (p z : Int) (h0 : 0 ≤ p) (h8 : p < 8) : bits .or .i64 p (z % 8) = orP p z := by
  obtain ⟨a, rfl⟩ := Int.eq_ofNat_of_zero_le h0
  have ha : a < 8 := by omega
  rw [orP, bits_or, bits_or, BitVec.toNat_or, BitVec.toNat_or, toNatS a ha, toNat8, ← or_mod8 a _ ha]
  exact wrap8 _
/-- Both in one world, with no block in common, of the call's own. -/
structure Duo (w0 w : World) (s : MS) (t : S5) : Prop where
  own : Own w0 w s
  mem5 : M5 w t
  f5 : ∀ b, foot5 t b → w0.heap.size ≤ b
  apart : ∀ b, foot s b → ¬ foot5 t b
theorem M5.same {w w' : World} {t : S5} (h : M5 w t) (hb : ∀ b, foot5 t b → w'.heap[b]? = w.heap[b]?) : M5 w' t :=
  ⟨(hb _ (.inl rfl)).trans h.self, ownsRow_same h.pages fun g hg => hb g (.inr (.inl hg)), ownsRow_same h.touched fun g hg => hb g (.inr (.inr hg)), h.fit, h.few⟩
theorem M5.footLt {w : World} {t : S5} (h : M5 w t) {b : Nat} (hb : foot5 t b) : b < w.heap.size := by
  rcases hb with hb | hb | hb
  · rw [hb]; exact h.lt
  · obtain ⟨c, hc⟩ := h.blkP hb; exact hc.lt
  · obtain ⟨c, hc⟩ := h.blkT hb; exact hc.lt
theorem M5.keep {F : Nat → Prop} {w w' : World} {t : S5} (h : M5 w t) (k : Keep F w w') (hf : ∀ b, foot5 t b → ¬ F b) : M5 w' t := h.same fun b hb => k.block b (h.footLt hb) (hf b hb)
theorem M5.later {w w' : World} {t : S5} (h : M5 w t) (hb : Below w.heap.size w w') : M5 w' t := h.same fun b hf => hb.block b (h.footLt hf)
theorem Duo.code {w0 w w' : World} {s s' : MS} {t : S5} (h : Duo w0 w s t) (k : Step w s w' s') : Duo w0 w' s' t := by
  refine ⟨h.own.step k, h.mem5.keep k.keep fun b hb hf => h.apart b hf hb, h.f5, fun b hb h5 => ?_⟩
  rcases k.grow b hb with h1 | h1
  · exact h.apart b h1 h5
  · have := h.mem5.footLt h5
    omega
theorem Duo.model {w0 w w' : World} {s : MS} {t t' : S5} (h : Duo w0 w s t) (k : Step5 w t w' t') : Duo w0 w' s t' := by
  have hb : Below w0.heap.size w w' := k.keep.below h.own.below.size h.f5
  refine ⟨⟨h.own.mem.keep k.keep fun b hb h5 => h.apart b hb h5, h.own.below.trans hb, h.own.foot⟩, k.mem, fun b hb5 => ?_, fun b hb h5 => ?_⟩
  · rcases k.grow b hb5 with h1 | h1
    · exact h.f5 b h1
    · exact Nat.le_trans h.own.below.size h1
  · rcases k.grow b h5 with h1 | h1
    · exact h.apart b hb h1
    · have := h.own.mem.lt hb
      omega
theorem Duo.later {w0 w w' : World} {s : MS} {t : S5} (h : Duo w0 w s t) (hb : Below w.heap.size w w') : Duo w0 w' s t := h.code (Step.later h.own.mem hb)
end Go.Proofs.Ytodoenimlhldjaa
namespace Go.Proofs.Ytodoenimlhldjaa
open Go.ChangeShapes Go.WideShapes Go.ChangeAt Go.RowKit
set_option linter.unusedVariables false
theorem M5.findC {w : World} {s : S5} (h : M5 w s) (a : Nat) (ha : a < 4294967296) : Calls Try.prog 61 #[.pointer (some ⟨s.m, 0, none⟩), .int .u32 (a : Int)] w fun e w' => e = .returned (.int .i64 (find5I s.l (a / 256 * 256))) ∧ w' = w := by
  obtain ⟨ao, cap, hv, hps⟩ := h.ps
  exact find_any w s.m ao cap a s.l hps (by rw [h.cellP, hv]) h.few ha
theorem M5.permC {w : World} {s : S5} (h : M5 w s) (a : Nat) (ha : a < 4294967296) : Calls Try.prog 47 #[.pointer (some ⟨s.m, 0, none⟩), .int .u32 (a : Int)] w fun e w' => e = .returned (.int .i64 (perm5 s.l (a / 256 * 256))) ∧ w' = w := by
  obtain ⟨ao, cap, hv, hps⟩ := h.ps
  exact perm5_any w s.m ao cap a s.l hps (by rw [h.cellP, hv]) h.few ha
theorem M5.peekC {w : World} {s : S5} (h : M5 w s) (a : Nat) (ha : a < 4294967296) : Calls Try.prog 69 #[.pointer (some ⟨s.m, 0, none⟩), .int .u32 (a : Int)] w fun e w' => e = .returned (.int .u8 ((peek5 s.l a).toNat : Int)) ∧ w' = w := by
  obtain ⟨ao, cap, hv, hps⟩ := h.ps
  exact peek5_any w s.m ao cap a s.l hps (by rw [h.cellP, hv]) h.few ha
theorem M5.bytesC {w : World} {s : S5} (h : M5 w s) (a c : Nat) (ha : a < 4294967296) (hc : c ≤ 16384) : Calls Try.prog 48 #[.pointer (some ⟨s.m, 0, none⟩), .int .u32 (a : Int), .int .i64 (c : Int)] w fun e w' => ∃ v, e = .returned v ∧ w'.ownsRow w.heap.size 5 1 v (bytes5 s.l a c).length (cellsU (bytes5 s.l a c)) ∧ Below w.heap.size w w' := by
  obtain ⟨ao, cap, hv, hps⟩ := h.ps
  exact bytes5_any w s.m ao cap a c s.l hps h.lt (by rw [h.cellP, hv]) h.few ha hc
theorem M5.pagesC {w : World} {s : S5} (h : M5 w s) : Calls Try.prog 46 #[.pointer (some ⟨s.m, 0, none⟩)] w fun e w' => ∃ v, e = .returned v ∧ w'.ownsRow w.heap.size 23 1 v (s.l.map P5.at_).length (words (s.l.map P5.at_)) ∧ Below w.heap.size w w' := by
  obtain ⟨ao, cap, hv, hps⟩ := h.ps
  exact pages5_any w s.m ao cap s.l hps h.lt (by rw [h.cellP, hv]) h.few
def setW5 (l : List P5) (p : Nat) (b : Bool) : List P5 := if find5 l p < l.length then l.set (find5 l p) { l.getD (find5 l p) nop5 with watched := b } else l
theorem one5_setW {q : P5} (h : Fit5 q) (b : Bool) : one5 { q with watched := b } = (one5 q).set 258 (.bool b) := by
  have e : ∀ x : P5, one5 x = ([.int .u32 (x.at_ : Int), .int .i64 x.perm] ++ cellsU x.b) ++ [.bool x.watched] := fun x => by simp [one5]
  rw [e, e, List.set_append_right _ _ (by simp [cellsU, h.lb])]
  simp [cellsU, h.lb]
theorem one5_setP {q : P5} (z : Int) : one5 { q with perm := z } = (one5 q).set 1 (.int .i64 z) := rfl
set_option maxRecDepth 20000 in
set_option maxHeartbeats 2000000 in
theorem watch5_there (w : World) (m g off cap n k a : Nat) (ob b : Bool) (hC : Calls Try.prog 61 #[.pointer (some ⟨m, 0, none⟩), .int .u32 (a : Int)] w fun e w' => e = .returned (.int .i64 (k : Int)) ∧ w' = w) (hP : w.cell? ⟨m, 1, none⟩ = some (.slice (some ⟨g, off, none⟩) n cap)) (hB : w.cell? ⟨g, off + k * 259 + 258, none⟩ = some (.bool ob)) (hz : w.frozen? ⟨g, off + k * 259 + 258, none⟩ = false) (hne : ¬ m = g) (hkn : k < n) :
    Calls Try.prog 33 #[.pointer (some ⟨m, 0, none⟩), .int .u32 (a : Int), .bool b] w fun e w' => e = .returned (.tuple #[]) ∧ w' = w.setCell ⟨g, off + k * 259 + 258, none⟩ (.bool b) := by
  have C := hidden hC
  clear hC
  have hne' : ¬ g = m := fun e => hne e.symm
  have hk0 : (0 : Int) ≤ (k : Int) := by omega
  go_enter Try.func33, Try.ntmps33
  go_wp2_with ((go_at_call 61; with_reducible refine (Hid.out C).mono ?_; rintro e w4 ⟨rfl, hww⟩; rw [hww]; clear hww w4))
  go_end0
  exact ⟨rfl, rfl⟩
set_option maxRecDepth 20000 in
theorem M5.watchC {w : World} {s : S5} (h : M5 w s) (a : Nat) (b : Bool) (ha : a < 4294967296) : Calls Try.prog 33 #[.pointer (some ⟨s.m, 0, none⟩), .int .u32 (a : Int), .bool b] w fun e w' => e = .returned (.tuple #[]) ∧ ∃ s', Step5 w s w' s' ∧ s'.m = s.m ∧ s'.most = s.most ∧ s'.ts = s.ts ∧ s'.l = setW5 s.l (a / 256 * 256) b := by
  have hC := h.findC a ha
  unfold setW5
  obtain ⟨p, hp⟩ : ∃ p, a / 256 * 256 = p := ⟨_, rfl⟩
  rw [hp] at hC ⊢
  by_cases hf : find5 s.l p < s.l.length
  · rw [find5I_yes hf] at hC
    rw [if_pos hf]
    obtain ⟨k, hk⟩ : ∃ k, find5 s.l p = k := ⟨_, rfl⟩
    rw [hk] at hC hf ⊢
    obtain ⟨g, off, cap, h0, hv, hlt, hth, ⟨cur, hbg⟩, hc⟩ := h.row hf
    have hfit := h.fitAt hf
    refine (watch5_there w s.m g off cap s.l.length k a _ b hC (by rw [h.cellP, hv]) (hc k 258 _ hf (by omega) (one5_watch hfit)) (hth _) (blk_ne h.self hbg (by decide)) hf).mono ?_
    rintro e w' ⟨he, rfl⟩
    exact ⟨he, _, h.set hf (by omega) (one5_setW hfit b) ⟨hfit.lb, hfit.la⟩ hv h0, rfl, rfl, rfl, rfl⟩
  · rw [find5I_no hf] at hC
    rw [if_neg hf]
    have C := hidden hC
    have H := hidden h
    clear hC h hf hp
    go_enter Try.func33, Try.ntmps33
    go_wp2_with ((go_at_call 61; with_reducible refine (Hid.out C).mono ?_; rintro e w4 ⟨rfl, hww⟩; rw [hww]; clear hww w4))
    go_end0
    exact ⟨rfl, s, Step5.refl (Hid.out H), rfl, rfl, rfl, rfl⟩
set_option maxRecDepth 20000 in
theorem M5.takeC {w : World} {s : S5} (h : M5 w s) : Calls Try.prog 20 #[.pointer (some ⟨s.m, 0, none⟩)] w fun e w' => e = .returned s.vT ∧ Step5 w s w' { s with ts := [], vT := .slice none 0 0 } ∧ w'.ownsRow 0 23 1 s.vT s.ts.length (words s.ts) := by
  have h2 : w.cell? ⟨s.m, 2, none⟩ = some s.vT := h.self.cell rfl
  have hz : w.frozen? ⟨s.m, 2, none⟩ = false := frozen_of_row _ _ _ _ _ h.self
  have hlt := h.lt
  have out : ∀ t, t ≠ s.m → (w.setCell ⟨s.m, 2, none⟩ (.slice none 0 0)).heap[t]? = w.heap[t]? := fun t ht => Below.heap_setCell _ _ _ _ ht
  have hmP : ∀ t, s.vP.ownBlock = some t → t ≠ s.m := fun t ht => by
    obtain ⟨c, hb⟩ := h.blkP ht
    exact blk_ne hb h.self (by decide)
  have hmT : ∀ t, s.vT.ownBlock = some t → t ≠ s.m := fun t ht => by
    obtain ⟨c, hb⟩ := h.blkT ht
    exact blk_ne hb h.self (by decide)
  have HS : Hid (Step5 w s (w.setCell ⟨s.m, 2, none⟩ (.slice none 0 0)) { s with ts := [], vT := .slice none 0 0 } ∧ (w.setCell ⟨s.m, 2, none⟩ (.slice none 0 0)).ownsRow 0 23 1 s.vT s.ts.length (words s.ts)) := by
    refine ⟨⟨⟨?_, ownsRow_same h.pages fun t ht => out t (hmP t ht), World.ownsRow_nil _ _ _ _, h.fit, h.few⟩, (keep_set w _ _).mono fun b _ hb => .inl hb, ?_⟩, ownsRow_same h.touched fun t ht => out t (hmT t ht)⟩
    · show (w.setCell ⟨s.m, 2, none⟩ (.slice none 0 0)).heap[s.m]? = _
      rw [Lib.heap_setCell_same h.self]
      rfl
    · rintro b (hb | hb | hb)
      · exact .inl (.inl hb)
      · exact .inl (.inr (.inl hb))
      · simp [Value.ownBlock] at hb
  obtain ⟨vT, hvT⟩ : ∃ vT, s.vT = vT := ⟨_, rfl⟩
  rw [hvT] at h2 HS ⊢
  clear h out hmP hmT hvT
  go_enter Try.func20, Try.ntmps20
  go_wp2
  go_ret
  exact ⟨rfl, (Hid.out HS).1, (Hid.out HS).2⟩
def word5 (l : List P5) (a : Nat) : Nat := (peek5 l a).toNat * 16777216 + (peek5 l ((a + 1) % 4294967296)).toNat * 65536 + (peek5 l ((a + 2) % 4294967296)).toNat * 256 + (peek5 l ((a + 3) % 4294967296)).toNat
theorem Sim.word {s : MS} {l : List P5} (h : Sim s l) (a : Nat) (ha : a < 4294967296) : word5 l a = preW s a 4 := by
  unfold word5
  rw [h.peek, h.peek, h.peek, h.peek]
  simp only [preW, wrapAt]
  rw [show (a + 0) % 4294967296 = a by omega]
  omega
theorem Sim.bytes {s : MS} {l : List P5} (h : Sim s l) (a n : Nat) : bytes5 l a n = s.span a n := by
  unfold bytes5 MS.span
  refine List.map_congr_left fun i _ => ?_
  rw [h.peek]
  rfl
/-- What Map makes of the pages. -/
def Mapped5 (l l' : List P5) (p : Nat) (q : Int) (most : Nat) : Prop :=
  (find5 l p < l.length ∧ l' = l.set (find5 l p) { l.getD (find5 l p) nop5 with perm := bits .or .i64 (l.getD (find5 l p) nop5).perm q }) ∨
  (¬ find5 l p < l.length ∧ l.length < most ∧ ∃ i, i ≤ l.length ∧ l' = l.take i ++ page5 p q :: l.drop i ∧ (∀ k, i = k + 1 → ¬ p < (l.getD k nop5).at_) ∧ ∀ j, i ≤ j → j < l.length → p < (l.getD j nop5).at_) ∨
  (¬ find5 l p < l.length ∧ ¬ l.length < most ∧ l' = l)
def mapErr5 (l : List P5) (p most : Nat) : Int := if find5 l p < l.length ∨ l.length < most then 0 else 2
theorem M5.mapC {w : World} {s : S5} (h : M5 w s) (a : Nat) (z : Int) (ha : a < 4294967296) (hlen : s.l.length < 1000) : Calls Try.prog 31 #[.pointer (some ⟨s.m, 0, none⟩), .int .u32 (a : Int), .int .i64 z] w fun e w' => e = .returned (.int .i64 (mapErr5 s.l (a / 256 * 256) s.most)) ∧ ∃ s', Step5 w s w' s' ∧ s'.m = s.m ∧ s'.most = s.most ∧ s'.ts = s.ts ∧ Mapped5 s.l s'.l (a / 256 * 256) (z % 8) s.most := by
  have e7 := and7 z
  have hC := h.findC a ha
  by_cases hf : find5 s.l (a / 256 * 256) < s.l.length
  · have he : mapErr5 s.l (a / 256 * 256) s.most = 0 := if_pos (.inl hf)
    rw [find5I_yes hf] at hC
    rw [he]
    obtain ⟨g, off, cap, h0, hv, hlt, hth, ⟨cur, hbg⟩, hc⟩ := h.row hf
    have hfit := h.fitAt hf
    refine (map5_there w s.m g off cap s.l.length _ a _ z hC (by rw [h.cellP, hv]) (hc _ 1 _ hf (by omega) rfl) (hth _) (blk_ne h.self hbg (by decide)) hf).mono ?_
    rintro e w' ⟨he, r, rfl⟩
    rw [e7]
    have hs := (h.drewN r).set hf (show 1 < 259 by omega) (one5_setP (bits .or .i64 (s.l.getD (find5 s.l (a / 256 * 256)) nop5).perm (z % 8))) ⟨hfit.lb, hfit.la⟩ hv h0
    exact ⟨he, _, ⟨hs.mem, (Keep.refl _ w).drewN r |>.trans hs.keep fun b _ hb => hb, hs.grow⟩, rfl, rfl, rfl, .inl ⟨hf, rfl⟩⟩
  · by_cases hr : s.l.length < s.most
    · have he : mapErr5 s.l (a / 256 * 256) s.most = 0 := if_pos (.inr hr)
      rw [he]
      refine (map5_new w s h a z ha hf hr hlen).mono ?_
      rintro e w' ⟨he, s', h1, h2, h3, h4, i, h5, h6, h7, h8⟩
      rw [e7] at h6
      exact ⟨he, s', h1, h2, h3, h4, .inr (.inl ⟨hf, hr, i, h5, h6, h7, h8⟩)⟩
    · have he : mapErr5 s.l (a / 256 * 256) s.most = 2 := if_neg (fun h => h.elim hf hr)
      rw [find5I_no hf] at hC
      rw [he]
      obtain ⟨ao, cap, hv, hps⟩ := h.ps
      refine (map5_full w s.m cap s.l.length s.most a ao z hC (by rw [h.cellP, hv]) (h.self.cell rfl) (by omega)).mono ?_
      rintro e w' ⟨he, r, rfl⟩
      exact ⟨he, s, ⟨h.drewN r, (Keep.refl _ w).drewN r, fun _ hb => .inl hb⟩, rfl, rfl, rfl, .inr (.inr ⟨hf, hr, rfl⟩)⟩
theorem pokeAt_fields (s : MS) (a : Nat) (v : UInt8) (tv : Value) (k : Nat) (h : k ≠ pageOf a) : (s.pokeAt a v tv).data k = s.data k ∧ (s.pokeAt a v tv).pm k = s.pm k ∧ (s.pokeAt a v tv).on k = s.on k := by
  unfold MS.pokeAt
  split
  · simp [MS.poke, upd, h]
  · exact ⟨rfl, rfl, rfl⟩
theorem Sim.poke {s : MS} {l : List P5} (h : Sim s l) (a : Nat) (v : UInt8) (tv : Value) : Sim (s.pokeAt a v tv) (poke5 l a v) := by
  unfold poke5
  by_cases hf : find5 l (a / 256 * 256) < l.length
  · rw [if_pos hf]
    have hk : pageOf a ∈ s.ks := by rw [pageOf_div]; exact (h.find _).2 hf
    have hs : s.pokeAt a v tv = s.poke a v tv := by unfold MS.pokeAt; rw [if_pos hk]
    obtain ⟨a1, a2, a3⟩ := h.at hf
    refine h.set hf (find5_at hf) (pokeAt_ks _ _ _ _) ?_ ?_ ?_ fun k hk => pokeAt_fields s a v tv k (by rw [pageOf_div]; exact hk)
    · rw [hs]
      show (l.getD (find5 l (a / 256 * 256)) nop5).b.set (a % 256) v = _
      rw [a1]
      simp [MS.poke, upd, pageOf_div]
    · rw [hs]
      simpa [put5, MS.poke] using a2
    · rw [hs]
      simpa [put5, MS.poke] using a3
  · rw [if_neg hf]
    have hk : pageOf a ∉ s.ks := by rw [pageOf_div]; exact fun e => hf ((h.find _).1 e)
    have hs : s.pokeAt a v tv = s := by unfold MS.pokeAt; rw [if_neg hk]
    rw [hs]
    exact h
theorem Sim.touch {s : MS} {l : List P5} (h : Sim s l) (a : Nat) (v : UInt8) (tv : Value) : (s.pokeAt a v tv).ts = touch5 l s.ts a := by
  unfold touch5 MS.pokeAt
  by_cases hf : find5 l (a / 256 * 256) < l.length
  · rw [if_pos (by rw [pageOf_div]; exact (h.find _).2 hf)]
    simp only [MS.poke, pageOf_div, ← (h.at hf).2.2]
    by_cases hw : (l.getD (find5 l (a / 256 * 256)) nop5).watched = true
    · rw [if_pos hw, if_pos ⟨hf, hw⟩]
    · rw [if_neg hw, if_neg (fun e => hw e.2)]
  · rw [if_neg (by rw [pageOf_div]; exact fun e => hf ((h.find _).1 e)), if_neg (fun e => hf e.1)]
theorem Sim.watch {s : MS} {l : List P5} (h : Sim s l) (a : Nat) (b : Bool) : Sim (s.watchAt a b) (setW5 l (a / 256 * 256) b) := by
  unfold setW5 MS.watchAt
  by_cases hf : find5 l (a / 256 * 256) < l.length
  · rw [if_pos hf, if_pos (by rw [pageOf_div]; exact (h.find _).2 hf)]
    obtain ⟨a1, a2, a3⟩ := h.at hf
    refine h.set hf (find5_at hf) rfl (by simpa [MS.watch] using a1) (by simpa [MS.watch] using a2) (by simp [MS.watch, upd, pageOf_div]) fun k hk => ?_
    rw [pageOf_div]
    simp [MS.watch, upd, hk]
  · rw [if_neg hf, if_neg (by rw [pageOf_div]; exact fun e => hf ((h.find _).1 e))]
    exact h
theorem Sim.map {s : MS} {l l' : List P5} (h : Sim s l) (a : Nat) (z : Int) (b most : Nat) (hm : s.most = most) (hp : ∀ k ∈ s.ks, 0 ≤ s.pm k ∧ s.pm k < 8) (hM : Mapped5 l l' (a / 256 * 256) (z % 8) most) : Sim (s.mapped a z b) l' ∧ s.mapErr a = mapErr5 l (a / 256 * 256) most := by
  have hfi := h.find (a / 256 * 256)
  have herr : s.mapErr a = mapErr5 l (a / 256 * 256) most := by
    unfold MS.mapErr mapErr5
    rw [pageOf_div, hm, h.len]
    by_cases c : find5 l (a / 256 * 256) < l.length ∨ l.length < most
    · rw [if_pos c, if_pos (c.imp hfi.2 id)]
    · rw [if_neg c, if_neg (fun e => c (e.imp hfi.1 id))]
  refine ⟨?_, herr⟩
  unfold MS.mapped
  rw [pageOf_div, hm, h.len]
  rcases hM with ⟨hf, rfl⟩ | ⟨hf, hr, i, hi, rfl, h1, h2⟩ | ⟨hf, hr, rfl⟩
  · rw [if_pos (hfi.2 hf)]
    obtain ⟨a1, a2, a3⟩ := h.at hf
    have hb := hp _ (hfi.2 hf)
    refine h.set hf (find5_at hf) rfl a1 ?_ a3 fun k hk => by simp [MS.also, upd, hk]
    rw [a2, orP_small _ _ hb.1 hb.2]
    simp [MS.also, upd]
  · rw [if_neg (fun e => hf (hfi.1 e)), if_pos hr]
    exact h.ins hf hi rfl h1 h2 rfl (by simp [page5, MS.lay, upd]) (by simp [page5, MS.lay, upd]) (by simp [page5, MS.lay, upd]) fun k hk => by simp [MS.lay, upd, hk]
  · rw [if_neg (fun e => hf (hfi.1 e)), if_neg hr]
    exact h
theorem Sim.copy {s t : MS} {l : List P5} (h : Sim s l) (hc : CopyOf s t) : Sim t l := by
  refine ⟨h.rise, fun j hj => ?_, fun k hk => h.back k ((hc.ks k).1 hk), by rw [hc.len]; exact h.len⟩
  have g := h.here j hj
  have hk := (hc.ks _).2 g.1
  obtain ⟨d1, d2, d3⟩ := hc.data _ hk
  rw [d1, d2, d3]
  exact ⟨hk, g.2⟩
theorem Sim.none (s : MS) (h : s.ks = []) : Sim s [] := ⟨fun _ _ _ hj => by simp at hj, fun _ hj => by simp at hj, fun k hk => by rw [h] at hk; simp at hk, by rw [h]; rfl⟩
end Go.Proofs.Ytodoenimlhldjaa
namespace Go.Proofs.Ytodoenimlhldjaa
open Go.ChangeShapes Go.WideShapes Go.ChangeAt Go.RowKit
set_option linter.unusedVariables false
theorem perm_abs (s : MS) (a : Nat) : s.perm a = match s.abs (pageOf a) with | some x => x.2.1 | none => 0 := by
  unfold MS.perm MS.abs
  split <;> rfl
theorem bits_same (x : Int) (h0 : 0 ≤ x) (h1 : x < 8) : bits .or .i64 x x = x := by
  rcases (show x = 0 ∨ x = 1 ∨ x = 2 ∨ x = 3 ∨ x = 4 ∨ x = 5 ∨ x = 6 ∨ x = 7 by omega) with rfl | rfl | rfl | rfl | rfl | rfl | rfl | rfl <;> decide
theorem orP_same (z : Int) : orP (z % 8) z = z % 8 := by
  rw [← orP_small (z % 8) z (by omega) (by omega)]
  exact bits_same _ (by omega) (by omega)
/-- All pages may be the same. -/
def AllP (f : AM) (z : Int) : Prop := ∀ q x, f q = some x → x.2.1 = z % 8
theorem allP_none (z : Int) : AllP (fun _ => none) z := fun _ _ h => by cases h
theorem allP_amap {f : AM} {z : Int} (h : AllP f z) (a : Nat) : AllP (amap f a z) z := by
  intro q x hx
  unfold amap at hx
  by_cases e : q = pageOf a
  · rw [if_pos e] at hx
    cases hq : f q with
    | none =>
      rw [hq] at hx
      have := Option.some.inj hx
      rw [← this]
    | some y =>
      obtain ⟨l, p, o⟩ := y
      rw [hq] at hx
      have hp : p = z % 8 := h q _ hq
      have := Option.some.inj hx
      rw [← this]
      show orP p z = _
      rw [hp]
      exact orP_same z
  · rw [if_neg e] at hx
    exact h q x hx
theorem allP_apoke {f : AM} {z : Int} (h : AllP f z) (a : Nat) (v : UInt8) : AllP (apoke f a v) z := by
  intro q x hx
  unfold apoke at hx
  by_cases e : q = pageOf a
  · rw [if_pos e] at hx
    cases hq : f q with
    | none => rw [hq] at hx; cases hx
    | some y =>
      rw [hq] at hx
      have := Option.some.inj hx
      rw [← this]
      exact h q y hq
  · rw [if_neg e] at hx
    exact h q x hx
theorem allP_awatch {f : AM} {z : Int} (h : AllP f z) (a : Nat) (b : Bool) : AllP (awatch f a b) z := by
  intro q x hx
  unfold awatch at hx
  by_cases e : q = pageOf a
  · rw [if_pos e] at hx
    cases hq : f q with
    | none => rw [hq] at hx; cases hx
    | some y =>
      rw [hq] at hx
      have := Option.some.inj hx
      rw [← this]
      exact h q y hq
  · rw [if_neg e] at hx
    exact h q x hx
theorem allP_maps {f : AM} (p : Part4) (h : AllP f p.perm) : ∀ k, AllP (partMaps f p k) p.perm
  | 0 => h
  | k + 1 => allP_amap (allP_maps p h k) _
theorem allP_pokes {f : AM} {z : Int} (h : AllP f z) (p : Part4) : ∀ k, AllP (partPokes f p k) z
  | 0 => h
  | k + 1 => allP_apoke (allP_pokes h p k) _ _
theorem one_allP (p : Part4) : AllP (memOf [p]) p.perm := allP_awatch (allP_pokes (allP_maps p (allP_none _) _) p _) _ _
theorem two_allP (p q : Part4) (h : q.perm = p.perm) : AllP (memOf [p, q]) p.perm := by
  refine allP_awatch (allP_awatch ?_ _ _) _ _
  refine allP_pokes ?_ _ _
  rw [← h]
  refine allP_maps q ?_ _
  rw [h]
  exact allP_pokes (allP_maps p (allP_none _) _) p _
theorem perm_all {s : MS} {z : Int} (h : AllP s.abs z) (a : Nat) (hs : (s.abs (pageOf a)).isSome = true) : s.perm a = z % 8 := by
  rw [perm_abs]
  cases hq : s.abs (pageOf a) with
  | none => rw [hq] at hs; cases hs
  | some x => exact h _ _ hq
theorem perm_none {s : MS} (a : Nat) (hs : s.abs (pageOf a) = none) : s.perm a = 0 := by
  rw [perm_abs, hs]
/-- A part without bytes has one page. -/
theorem bare_some (p : Part4) (hl : p.data = []) (hat : p.at_ < 4294967296) (q : Nat) : (memOf [p] q).isSome = true ↔ q = pageOf p.at_ := by
  show (awatch (partDone (fun _ => none) p) p.at_ p.on q).isSome = true ↔ _
  rw [some_awatch]
  unfold partDone
  rw [some_pokes, hl, show max ([] : List UInt8).length 1 = 1 from rfl, some_maps]
  have e : wrapAt p.at_ 0 = p.at_ := by unfold wrapAt; omega
  constructor
  · rintro ⟨j, hj, e2⟩
    obtain rfl : j = 0 := by omega
    rw [e2, e]
  · intro h
    exact ⟨0, by omega, by rw [h, e]⟩
abbrev partC (a : Nat) (ao : Option Addr) (n cap : Nat) (z : Int) (on : Bool) : Array Value := #[.int .u32 (a : Int), .slice ao n cap, .int .i64 z, .bool on]
theorem buildPart (a : Int) (ao : Option Addr) (n cap : Nat) (z : Int) (w : World) : (Instr.build 52 #[(0, .int .u32 a), (1, .slice ao n cap), (2, .int .i64 z)]).run Try.prog w = .ok (.agg #[.int .u32 a, .slice ao n cap, .int .i64 z, .bool false]) w := by kernel_rfl
/-- One part, as it lies there. -/
theorem piece_new (w : World) (a : Nat) (ha : a < 4294967296) (ao : Option Addr) (l : List UInt8) (cap : Nat) (z : Int) (on : Bool) (hr : Row w ao l cap) : Pieces (w.alloc (.cells (partC a ao l.length cap z on) 52)) (some ⟨w.heap.size, 0, none⟩) [⟨a, l, z, on, ao, cap⟩] := by
  have hb := heap_alloc_new w (.cells (partC a ao l.length cap z on) 52)
  refine .inr ⟨w.heap.size, 0, rfl, (Array.getElem?_eq_some_iff.1 hb).1, fun j hj => ?_⟩
  obtain rfl : j = 0 := by simpa using hj
  refine ⟨?_, ?_, ?_, ?_, hr.later ((Below.refl _ w).alloc (Nat.le_refl _) _), ha⟩
  · rw [cell_of_row _ _ _ _ _ _ hb]; rfl
  · rw [cell_of_row _ _ _ _ _ _ hb]; rfl
  · rw [cell_of_row _ _ _ _ _ _ hb]; rfl
  · rw [cell_of_row _ _ _ _ _ _ hb]; rfl
theorem row_new (w : World) (l : List UInt8) (hl : l ≠ []) (hm : l.length ≤ 16384) : Row (w.alloc (.cells (cellsU l).toArray 5)) (some ⟨w.heap.size, 0, none⟩) l l.length :=
  Brow.row (heap_alloc_new w _) hm
end Go.Proofs.Ytodoenimlhldjaa
namespace Go.Proofs.Ytodoenimlhldjaa
open Go.ChangeShapes Go.WideShapes Go.ChangeAt Go.RowKit
set_option linter.unusedVariables false
section
variable {P : Program} {md : Region.Mode}
theorem wpAny_dep {R : World → World → Prop} (hR : Later R) {ops : Array Oper} {Q : Exit → Act → World → Prop} {F : List Value → Act} {Φ : Nat → List Value → World → Prop} {w0 : World} (hb : edgesB md ops = true)
    (hmono : ∀ i j xs v w w', Φ i xs w → R w w' → j ≠ i → waitsB md ops i j = false → Φ i (xs.set j v) w')
    (hstep : ∀ j, j < ops.size → ∀ xs w, xs.length = ops.size → R w0 w → (∀ i, waitsB md ops j i = true → Φ i xs w) →
      wpOp P ops Q j (fun a' w' => ∃ v, a' = F (xs.set j v) ∧ Φ j (xs.set j v) w' ∧ R w w') (F xs) w)
    (hfin : ∀ xs w, xs.length = ops.size → R w0 w → (∀ i, i < ops.size → Φ i xs w) → Q .normal (F xs) w) :
    ∀ (fuel : Nat) (L : Array Bool) (xs : List Value) (w : World), L.size = ops.size → xs.length = ops.size → R w0 w → (∀ i, L.getD i false = true → Φ i xs w) → (∀ i j, L.getD i false = true → waitsB md ops i j = true → L.getD j false = true) → L.toList.count false ≤ fuel → wpAny P md ops Q fuel L (F xs) w := by
  intro fuel
  induction fuel with
  | zero =>
    intro L xs w h1 h2 hB hΦ hcl hc
    have hno : Region.ready md ops L = [] := by
      rw [List.eq_nil_iff_forall_not_mem]
      intro i hi
      obtain ⟨hl, o, ho, _⟩ := mem_ready.1 hi
      have hlt : i < L.size := by have := (Array.getElem?_eq_some_iff.1 ho).1; omega
      have hf : L.toList[i]? = some false := by
        simp [Array.getElem?_eq_getElem hlt] at hl ⊢
        exact hl
      have := count_up L.toList i hf
      omega
    exact ⟨hno, hfin xs w h2 hB fun i hi => hΦ i (all_up hb h1 hno i hi)⟩
  | succ fuel ih =>
    intro L xs w h1 h2 hB hΦ hcl hc
    refine ⟨fun hno => hfin xs w h2 hB fun i hi => hΦ i (all_up hb h1 hno i hi), fun i hi => ?_⟩
    obtain ⟨hl, o, ho, hall⟩ := mem_ready.1 hi
    have hlt : i < L.size := by have := (Array.getElem?_eq_some_iff.1 ho).1; omega
    have hw : ∀ k, waitsB md ops i k = true → L.getD k false = true := by
      intro k hk
      simp only [waitsB, ho] at hk
      obtain ⟨e, he, hbb⟩ := Array.any_eq_true'.1 hk
      simp only [Bool.and_eq_true, beq_iff_eq] at hbb
      rw [← hbb.2]
      exact hall e he hbb.1
    refine wpOp_mono ?_ (hstep i (by omega) xs w h2 hB fun k hk => hΦ k (hw k hk))
    rintro a' w' ⟨v, rfl, hv, hB'⟩
    have hlf : L.getD i false = false := by
      simp [Array.getElem?_eq_getElem hlt] at hl ⊢
      exact hl
    refine ih (L.setIfInBounds i true) (xs.set i v) w' (by simpa using h1) (by simpa using h2) (hR.trans _ _ _ hB hB') ?_ ?_ ?_
    · intro k hk
      by_cases hik : i = k
      · subst hik
        exact hv
      · rw [getD_set_ne false hik] at hk
        refine hmono k i xs v w w' (hΦ k hk) hB' hik ?_
        cases hq : waitsB md ops k i with
        | false => rfl
        | true => have := hcl k i hk hq; rw [hlf] at this; exact this.symm
    · intro k j hk hj
      by_cases hij : i = j
      · subst hij
        simp [hlt]
      · rw [getD_set_ne false hij]
        by_cases hik : i = k
        · subst hik
          exact hw j hj
        · rw [getD_set_ne false hik] at hk
          exact hcl k j hk hj
    · have hf : L.toList[i]? = some false := by
        simp [Array.getElem?_eq_getElem hlt] at hl ⊢
        exact hl
      have := count_up L.toList i hf
      rw [Array.toList_setIfInBounds]
      omega
/-- The region whole: what an operation leaves may be said of the values it waited for. -/
theorem wp_region_dep {R : World → World → Prop} (hR : Later R) {id : Nat} {Q : Exit → Act → World → Prop} {a : Act} {w : World} {ops : Array Oper} (ds : List Nat) (n : Nat) (Φ : Nat → List Value → World → Prop) (hm : P.follows .mixedOrders = true) (hb : edgesB .any ops = true) (hn : ops.size = n) (hd : ds.length = n)
    (hmono : ∀ i j xs v w w', Φ i xs w → R w w' → j ≠ i → waitsB .any ops i j = false → Φ i (xs.set j v) w')
    (hstep : ∀ j, j < n → ∀ xs w', xs.length = n → R w w' → (∀ i, waitsB .any ops j i = true → Φ i xs w') →
      Runs P ops Q j (fun a' w'' => ∃ v, a' = slotsOn a ds (xs.set j v) ∧ Φ j (xs.set j v) w'' ∧ R w' w'') (slotsOn a ds xs) w')
    (hfin : ∀ xs w', xs.length = n → R w w' → (∀ i, i < n → Φ i xs w') → Q .normal (slotsOn a ds xs) w') :
    (Code.region id ops true).wp P Q a w := by
  subst hn
  rw [← slotsOn_self a ds]
  refine wp_region_any hm ?_
  have hd2 : (ds.map fun d => a.tmps.toList.getD d undef).length = ops.size := by simpa using hd
  rw [slotsOn_self] at *
  refine (slotsOn_self a ds) ▸ ?_
  refine wpAny_dep (F := slotsOn a ds) (Φ := Φ) (w0 := w) hR hb hmono (fun j hj xs w' h1 h2 h3 => (hstep j hj xs w' h1 h2 h3).out) hfin ops.size _ _ _ (by simp) hd2 (hR.drew w) ?_ ?_ ?_
  · intro i hi
    by_cases hlt : i < ops.size <;> simp [hlt] at hi
  · intro i j hi
    by_cases hlt : i < ops.size <;> simp [hlt] at hi
  · simp
end
end Go.Proofs.Ytodoenimlhldjaa
