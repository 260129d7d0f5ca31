/- A region that draws its order, whose first part is over before the rest begins: the first part by one quiet walk, the rest in whatever order. -/
import Derived.Deep.Quiet
import Derived.Orders
namespace Go.Proofs.Ytocajlafdmfamaa
open Go
section
variable {P : Program} {md : Region.Mode} {C : World → Prop}

theorem wpAny_more {ops : Array Oper} {Q : Exit → Act → World → Prop} : ∀ (m f : Nat) (L : Array Bool) (a : Act) (w : World), wpAny P md ops Q m L a w → wpAny P md ops Q (m + f) L a w
  | 0, 0, _, _, _, h => h
  | 0, f + 1, L, a, w, h => by
    rw [Nat.zero_add]
    exact ⟨fun _ => h.2, fun i hi => by rw [h.1] at hi; cases hi⟩
  | m + 1, f, L, a, w, h => by
    rw [Nat.add_right_comm]
    exact ⟨h.1, fun i hi => wpOp_mono (fun a' w' h' => wpAny_more m f _ a' w' h') (h.2 i hi)⟩

/-- Edges go back; guards go back. -/
def backB (md : Region.Mode) (ops : Array Oper) : Bool :=
  (List.range ops.size).all fun i => match ops[i]? with
    | some o => (o.after.all fun e => !Region.binds md e || decide (e.on < i)) && (match o.guard with | some (g, _) => decide (g < i) | none => true)
    | none => true
/-- From n on each operation waits for one from n on, or for the one ahead of n. -/
def cutB (md : Region.Mode) (ops : Array Oper) (n : Nat) : Bool :=
  (List.range ops.size).all fun j => decide (j < n) || match ops[j]? with
    | some o => o.after.any fun e => Region.binds md e && (decide (n ≤ e.on) || e.on + 1 == n)
    | none => true
/-- Ahead of n each but the last is waited for by a later one ahead of n. -/
def coverB (md : Region.Mode) (ops : Array Oper) (n : Nat) : Bool :=
  (List.range n).all fun i => i + 1 == n || (List.range 16).any fun d => decide (i + 1 + d < n) && match ops[i + 1 + d]? with
    | some o => o.after.any fun e => Region.binds md e && e.on == i
    | none => false

theorem back_edge {ops : Array Oper} (h : backB md ops = true) {i : Nat} {o : Oper} (hi : ops[i]? = some o) {e : Edge} (he : e ∈ o.after) (hb : Region.binds md e = true) : e.on < i := by
  simp only [backB, List.all_eq_true, List.mem_range] at h
  have h1 := h i (Array.getElem?_eq_some_iff.1 hi).1
  simp only [hi, Bool.and_eq_true] at h1
  have h2 := Array.all_eq_true'.1 h1.1 e he
  simpa [hb] using h2
theorem back_guard {ops : Array Oper} (h : backB md ops = true) {i : Nat} {o : Oper} (hi : ops[i]? = some o) {g : Nat} {b : Bool} (hg : o.guard = some (g, b)) : g < i := by
  simp only [backB, List.all_eq_true, List.mem_range] at h
  have h1 := h i (Array.getElem?_eq_some_iff.1 hi).1
  simp only [hi, Bool.and_eq_true, hg] at h1
  simpa using h1.2
theorem cut_edge {ops : Array Oper} {n : Nat} (h : cutB md ops n = true) {j : Nat} {o : Oper} (hj : ops[j]? = some o) (hn : n ≤ j) : ∃ e ∈ o.after, Region.binds md e = true ∧ (n ≤ e.on ∨ e.on + 1 = n) := by
  simp only [cutB, List.all_eq_true, List.mem_range] at h
  have h1 := h j (Array.getElem?_eq_some_iff.1 hj).1
  have : ¬ j < n := by omega
  simp only [hj, this, decide_false, Bool.false_or] at h1
  obtain ⟨e, he, hb⟩ := Array.any_eq_true'.1 h1
  simp only [Bool.and_eq_true, Bool.or_eq_true, decide_eq_true_eq, beq_iff_eq] at hb
  exact ⟨e, he, hb.1, hb.2⟩
theorem cover_edge {ops : Array Oper} {n : Nat} (h : coverB md ops n = true) {i : Nat} (hi : i + 1 < n) : ∃ k o, i < k ∧ k < n ∧ ops[k]? = some o ∧ ∃ e ∈ o.after, Region.binds md e = true ∧ e.on = i := by
  simp only [coverB, List.all_eq_true, List.mem_range] at h
  have h1 := h i (by omega)
  have : ¬ i + 1 = n := by omega
  simp only [Bool.or_eq_true, beq_iff_eq, this, false_or, List.any_eq_true, List.mem_range, Bool.and_eq_true, decide_eq_true_eq] at h1
  obtain ⟨d, _, hk, hm⟩ := h1
  cases ho : ops[i + 1 + d]? with
  | none => simp [ho] at hm
  | some o =>
    simp only [ho] at hm
    obtain ⟨e, he, hb⟩ := Array.any_eq_true'.1 hm
    simp only [Bool.and_eq_true, beq_iff_eq] at hb
    exact ⟨i + 1 + d, o, by omega, hk, ho, e, he, hb.1, hb.2⟩

/-- Whatever has come up, all that it waited for has. -/
def Shut (md : Region.Mode) (ops : Array Oper) (L : Array Bool) : Prop :=
  ∀ i o, ops[i]? = some o → L.getD i false = true → ∀ e ∈ o.after, Region.binds md e = true → L.getD e.on false = true
theorem shut_set {ops : Array Oper} {L : Array Bool} (h : Shut md ops L) {i : Nat} (hi : i ∈ Region.ready md ops L) : Shut md ops (L.setIfInBounds i true) := by
  intro k o hk hl e he hb
  obtain ⟨_, o', ho', hall⟩ := mem_ready.1 hi
  by_cases hki : i = k
  · subst hki
    rw [hk] at ho'
    cases ho'
    exact getD_set_true (hall e he hb)
  · rw [getD_set_ne false hki] at hl
    exact getD_set_true (h k o hk hl e he hb)
theorem shut_down {ops : Array Oper} {L : Array Bool} {n : Nat} (h : Shut md ops L) (hc : coverB md ops n = true) (hl : L.getD (n - 1) false = true) : ∀ d i, i + 1 + d = n → L.getD i false = true := by
  intro d
  induction d using Nat.strongRecOn with
  | ind d ih =>
    intro i hi
    by_cases h0 : d = 0
    · have : i = n - 1 := by omega
      rw [this]; exact hl
    · obtain ⟨k, o, hik, hkn, ho, e, he, hb, heq⟩ := cover_edge hc (show i + 1 < n by omega)
      have hk := ih (n - 1 - k) (by omega) k (by omega)
      rw [← heq]
      exact h k o ho hk e he hb

/-- The first n have come up, and no other. -/
def Whole (n : Nat) (L : Array Bool) : Prop := (∀ i, i < n → L.getD i false = true) ∧ ∀ j, n ≤ j → L.getD j false = false
theorem all_of_ready {ops : Array Oper} {n : Nat} {L : Array Bool} (hb : backB md ops = true) (hn : n ≤ ops.size) (hs : L.size = ops.size) (h : ∀ i, i < n → i ∉ Region.ready md ops L) : ∀ i, i < n → L.getD i false = true := by
  intro i
  induction i using Nat.strongRecOn with
  | ind i ih =>
    intro hi
    by_cases hl : L.getD i false = true
    · exact hl
    · exfalso
      have hlt : i < ops.size := by omega
      have ho : ops[i]? = some ops[i] := Array.getElem?_eq_getElem hlt
      refine h i hi (mem_ready.2 ⟨?_, ops[i], ho, fun e he hbb => ih e.on (back_edge hb ho he hbb) (by have := back_edge hb ho he hbb; omega)⟩)
      have hlt' : i < L.size := by omega
      simp [Array.getElem?_eq_getElem hlt'] at hl ⊢
      exact hl

theorem wanted_first {ops opsA : Array Oper} {n : Nat} (hA : ∀ i, i < n → opsA[i]? = ops[i]?) (hb : backB md ops = true) {i : Nat} {o : Oper} (hi : i < n) (ho : ops[i]? = some o) (tmps : Array Value) :
    Region.wanted o (yielded opsA tmps) = Region.wanted o (yielded ops tmps) := by
  unfold Region.wanted
  cases hg : o.guard with
  | none => rfl
  | some p =>
    obtain ⟨g, b⟩ := p
    have := back_guard hb ho hg
    simp only [yielded, hA g (by omega)]
theorem qOp_first {ops opsA : Array Oper} {n : Nat} (hA : ∀ i, i < n → opsA[i]? = ops[i]?) (hb : backB md ops = true) {i : Nat} (hi : i < n) {K : Act → Prop} {a : Act} (h : qOp P opsA C i K a) : qOp P ops C i K a := by
  unfold qOp at *
  rw [hA i hi] at h
  cases ho : ops[i]? with
  | none => rw [ho] at h; exact h
  | some o =>
    rw [ho] at h
    simp only at h ⊢
    rw [wanted_first hA hb hi ho] at h
    exact h

theorem wpAny_split {ops opsA : Array Oper} {n : Nat} {QA : Act → Prop} {Q : Exit → Act → World → Prop} {m : Nat} (hA : ∀ i, i < n → opsA[i]? = ops[i]?) (hAn : opsA.size = n) (hn : 0 < n) (hnN : n ≤ ops.size)
    (hb : backB md ops = true) (hcut : cutB md ops n = true) (hcov : coverB md ops n = true)
    (hfin : ∀ L a w, L.size = ops.size → Whole n L → C w → QA a → wpAny P md ops Q m L a w) :
    ∀ (fuel : Nat) (LA L : Array Bool) (a : Act) (w : World), LA.size = n → L.size = ops.size → (∀ i, i < n → L.getD i true = LA.getD i true) → (∀ j, n ≤ j → L.getD j false = false) → Shut md ops L → C w →
      wpAnyQ P md opsA C QA fuel LA a → wpAny P md ops Q (fuel + m) L a w := by
  have conv : ∀ {M : Array Bool} {k : Nat}, k < M.size → M.getD k false = M.getD k true := by
    intro M k hk; simp [Array.getElem?_eq_getElem hk]
  have rdy : ∀ {LA L : Array Bool}, LA.size = n → L.size = ops.size → (∀ i, i < n → L.getD i true = LA.getD i true) → ∀ i, i < n → (i ∈ Region.ready md ops L ↔ i ∈ Region.ready md opsA LA) := by
    intro LA L h1 h2 hR i hi
    rw [mem_ready, mem_ready, hR i hi, hA i hi]
    constructor
    · rintro ⟨hl, o, ho, hall⟩
      refine ⟨hl, o, ho, fun e he hbb => ?_⟩
      have hlt := back_edge hb ho he hbb
      have := hall e he hbb
      rw [conv (by omega), hR _ (by omega)] at this
      rw [conv (by omega)]; exact this
    · rintro ⟨hl, o, ho, hall⟩
      refine ⟨hl, o, ho, fun e he hbb => ?_⟩
      have hlt := back_edge hb ho he hbb
      have := hall e he hbb
      rw [conv (by omega)] at this
      rw [conv (by omega), hR _ (by omega)]; exact this
  have fin : ∀ {LA L : Array Bool}, LA.size = n → L.size = ops.size → (∀ i, i < n → L.getD i true = LA.getD i true) → (∀ j, n ≤ j → L.getD j false = false) → Region.ready md opsA LA = [] → Whole n L := by
    intro LA L h1 h2 hR hB h0
    refine ⟨all_of_ready hb hnN h2 (fun i hi hm => ?_), hB⟩
    have := (rdy h1 h2 hR i hi).1 hm
    rw [h0] at this
    cases this
  intro fuel
  induction fuel with
  | zero =>
    intro LA L a w h1 h2 hR hB _ hC h
    rw [Nat.zero_add]
    exact hfin L a w h2 (fin h1 h2 hR hB h.1) hC h.2
  | succ fuel ih =>
    intro LA L a w h1 h2 hR hB hS hC h
    by_cases h0 : Region.ready md opsA LA = []
    · have := wpAny_more m (fuel + 1) L a w (hfin L a w h2 (fin h1 h2 hR hB h0) hC (h.1 h0))
      rw [Nat.add_comm]; exact this
    · rw [Nat.add_right_comm]
      have hlow : ∀ i, i ∈ Region.ready md ops L → i < n := by
        intro i hi
        by_cases hlt : i < n
        · exact hlt
        · exfalso
          obtain ⟨_, o, ho, hall⟩ := mem_ready.1 hi
          obtain ⟨e, he, hbb, hor⟩ := cut_edge hcut ho (by omega)
          have hl := hall e he hbb
          rcases hor with hor | hor
          · rw [hB _ hor] at hl; cases hl
          · have hl' : L.getD (n - 1) false = true := by rw [show n - 1 = e.on by omega]; exact hl
            apply h0
            rw [List.eq_nil_iff_forall_not_mem]
            intro k hk
            obtain ⟨hkl, o', ho', _⟩ := mem_ready.1 hk
            have hkn : k < n := by have := (Array.getElem?_eq_some_iff.1 ho').1; omega
            have := shut_down hS hcov hl' (n - 1 - k) k (by omega)
            rw [conv (by omega), hR k hkn, hkl] at this
            cases this
      refine ⟨fun hr => ?_, fun i hi => ?_⟩
      · exfalso
        obtain ⟨k, hk⟩ := List.exists_mem_of_ne_nil _ h0
        have hkn : k < n := by obtain ⟨_, o', ho', _⟩ := mem_ready.1 hk; have := (Array.getElem?_eq_some_iff.1 ho').1; omega
        have := (rdy h1 h2 hR k hkn).2 hk
        rw [hr] at this
        cases this
      · have hin := hlow i hi
        have hq := qOp_first hA hb hin (h.2 i ((rdy h1 h2 hR i hin).1 hi))
        refine wpOp_of_qOp hC (fun a' w' hw' hk => ih (LA.setIfInBounds i true) (L.setIfInBounds i true) a' w' (by simpa using h1) (by simpa using h2) ?_ ?_ (shut_set hS hi) hw' hk) hq
        · intro k hk
          by_cases hik : i = k
          · subst hik
            have e1 : i < L.size := by omega
            have e2 : i < LA.size := by omega
            simp [e1, e2]
          · rw [getD_set_ne true hik, getD_set_ne true hik]; exact hR k hk
        · intro j hj
          rw [getD_set_ne false (by omega)]; exact hB j hj
/-- What has come up: the first n of N. -/
def upTo (n m : Nat) : Array Bool := (List.replicate n true ++ List.replicate m false).toArray
theorem whole_eq {n m : Nat} {L : Array Bool} (hs : L.size = n + m) (h : Whole n L) : L = upTo n m := by
  apply Array.ext
  · simp [upTo, hs]
  · intro i h1 h2
    by_cases hi : i < n
    · have := h.1 i hi
      simp [Array.getElem?_eq_getElem h1] at this
      simp [upTo, hi, this]
    · have := h.2 i (by omega)
      simp [Array.getElem?_eq_getElem h1] at this
      simp [upTo, List.getElem_append, hi, this]
theorem upTo_set (k m : Nat) : (upTo k (m + 1)).setIfInBounds k true = upTo (k + 1) m := by
  apply Array.ext
  · simp [upTo]; omega
  · intro i h1 h2
    simp only [upTo, Array.size_setIfInBounds, List.size_toArray, List.length_append, List.length_replicate] at h1 h2
    by_cases hi : i < k
    · have : i < k + 1 := by omega
      simp [upTo, hi, this]
    · by_cases hik : i = k
      · subst hik
        simp [upTo]
      · have h3 : ¬ i < k + 1 := by omega
        have h4 : ¬ k = i := by omega
        rw [Array.getElem_setIfInBounds_ne (by simp [upTo]; omega) h4]
        simp [upTo, List.getElem_append, hi, h3]
theorem upTo_low {k m i : Nat} (h : i < k) (d : Bool) : (upTo k m).getD i d = true := by
  have : i < k + m := by omega
  simp [upTo, List.getElem?_append, h]
theorem upTo_high {k m i : Nat} (h : k ≤ i) (h2 : i < k + m) (d : Bool) : (upTo k m).getD i d = false := by
  have h3 : ¬ i < k := by omega
  have h4 : i - k < m := by omega
  simp [upTo, List.getElem?_append, h3, h4]
/-- Each operation has a temporary of its own, in order from b on, and looks at such of those alone for whose operation it waits. -/
def linB (md : Region.Mode) (ops : Array Oper) (b : Nat) : Bool :=
  (List.range ops.size).all fun j => match ops[j]? with
    | some o => o.dst == some (b + j) && (o.looksAt ops).all (fun t => decide (t < b) || o.after.any fun e => Region.binds md e && decide (e.on < j) && e.on + b == t) && o.after.all (fun e => !Region.binds md e || decide (e.on < j))
    | none => true
theorem lin_spec {ops : Array Oper} {b : Nat} (h : linB md ops b = true) {j : Nat} {o : Oper} (hj : ops[j]? = some o) :
    o.dst = some (b + j) ∧ (∀ t ∈ o.looksAt ops, t < b ∨ ∃ e ∈ o.after, Region.binds md e = true ∧ e.on < j ∧ e.on + b = t) ∧ ∀ e ∈ o.after, Region.binds md e = true → e.on < j := by
  simp only [linB, List.all_eq_true, List.mem_range] at h
  have h1 := h j (Array.getElem?_eq_some_iff.1 hj).1
  simp only [hj, Bool.and_eq_true] at h1
  obtain ⟨⟨h2, h3⟩, h4⟩ := h1
  refine ⟨by simpa using h2, fun t ht => ?_, fun e he hb => ?_⟩
  · have := List.all_eq_true.1 h3 t ht
    simp only [Bool.or_eq_true, decide_eq_true_eq] at this
    rcases this with h5 | h5
    · exact .inl h5
    · obtain ⟨e, he, hb⟩ := Array.any_eq_true'.1 h5
      simp only [Bool.and_eq_true, decide_eq_true_eq, beq_iff_eq] at hb
      exact .inr ⟨e, he, hb.1.1, hb.1.2, hb.2⟩
  · have := Array.all_eq_true'.1 h4 e he
    simpa [hb] using this
theorem lex_of_lin {ops : Array Oper} {b : Nat} (h : linB md ops b = true) : ∀ (m k : Nat), k + m = ops.size → Region.lexFrom md ops m k (upTo k m) = true
  | 0, k, hk => by
    simp only [Region.lexFrom, List.isEmpty_iff]
    rw [List.eq_nil_iff_forall_not_mem]
    intro i hi
    obtain ⟨hl, o, ho, _⟩ := mem_ready.1 hi
    have := (Array.getElem?_eq_some_iff.1 ho).1
    rw [upTo_low (by omega)] at hl
    cases hl
  | m + 1, k, hk => by
    have hlt : k < ops.size := by omega
    have ho : ops[k]? = some ops[k] := Array.getElem?_eq_getElem hlt
    obtain ⟨hd, hlook, hedge⟩ := lin_spec h ho
    simp only [Region.lexFrom, Bool.and_eq_true]
    refine ⟨⟨?_, ?_⟩, ?_⟩
    · rw [List.contains_iff_mem]
      exact mem_ready.2 ⟨upTo_high (Nat.le_refl _) (by omega) _, ops[k], ho, fun e he hb => upTo_low (hedge e he hb) _⟩
    · simp only [Region.free, ho, List.all_eq_true, List.mem_range]
      intro j hj
      by_cases hjk : j = k
      · simp [hjk]
      · by_cases hjl : j < k
        · rw [upTo_low hjl]; simp
        · have hoj : ops[j]? = some ops[j] := Array.getElem?_eq_getElem hj
          obtain ⟨hdj, hlookj, _⟩ := lin_spec h hoj
          simp only [hoj, Bool.or_eq_true]
          right
          by_cases hmem : (b + k) ∈ (ops[j]).looksAt ops
          · left
            rcases hlookj _ hmem with h5 | ⟨e, he, hb, _, heq⟩
            · have h6 : b + k < b := h5
              omega
            · exact Array.any_eq_true'.2 ⟨e, he, by simp [hb]; omega⟩
          · right
            have hn : (b + j) ∉ (ops[k]).looksAt ops := by
              intro hm
              rcases hlook _ hm with h5 | ⟨e, he, hb, hek, heq⟩
              · have h6 : b + j < b := h5
                omega
              · have h6 : e.on + b = b + j := heq
                omega
            have hne : ¬ j = k := hjk
            simp [Oper.apart, hd, hdj, hmem, hn, hne]
    · rw [upTo_set]
      exact lex_of_lin h m (k + 1) (by omega)
theorem wp_region_split {id : Nat} {Q : Exit → Act → World → Prop} {a : Act} {w : World} {l : List Oper} (n m b : Nat) (hm : P.follows .mixedOrders = true) (hlen : l.length = n + m) (hn : 0 < n)
    (hb : backB .any l.toArray = true) (hcut : cutB .any l.toArray n = true) (hcov : coverB .any l.toArray n = true) (hns : Region.noSelect (l.take n).toArray = true) (hlin : linB .any (l.take n).toArray b = true)
    (h : wpQuiet P (l.take n).toArray (fun w' => ∃ k, w' = w.drewN k) (fun a' => ∀ w', (∃ k, w' = w.drewN k) → wpAny P .any l.toArray Q m (upTo n m) a' w') (l.take n) a) :
    (Code.region id l.toArray true).wp P Q a w := by
  have hsz : l.toArray.size = n + m := by simpa using hlen
  have htk : (l.take n).length = n := by simp; omega
  have hlex := lex_of_lin hlin n 0 (by simpa using htk.symm)
  have hq := wpAnyQ_lex (P := P) (C := fun w' => ∃ k, w' = w.drewN k) (md := .any) hns (l.take n) 0 (upTo 0 n) a (by intro j; simp) (by rw [htk]; exact hlex) h
  rw [htk] at hq
  refine wp_region_any hm ?_
  rw [hsz]
  refine wpAny_split (P := P) (C := fun w' => ∃ k, w' = w.drewN k) (ops := l.toArray) (opsA := (l.take n).toArray) (n := n) ?_ (by simpa using htk) hn (by omega) hb hcut hcov ?_ n (upTo 0 n) _ a _ (by simp [upTo]) (by simp [hlen]) ?_ ?_ ?_ ⟨1, rfl⟩ hq
  · intro i hi; simp [hi]
  · intro L a' w' hs hW hC hQ
    rw [whole_eq (by rw [hs]; exact hsz) hW]
    exact hQ w' hC
  · intro i hi
    have : i < n + m := by omega
    rw [upTo_high (by omega) (by omega)]
    simp [this]
  · intro j _
    by_cases hj : j < n + m
    · simp [hj]
    · simp [hj]
  · intro i o _ hl
    exfalso
    by_cases hj : i < n + m
    · simp [hj] at hl
    · simp [hj] at hl
end
end Go.Proofs.Ytocajlafdmfamaa
