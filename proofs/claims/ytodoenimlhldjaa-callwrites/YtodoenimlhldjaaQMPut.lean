/- Chapter 5's own memory: a whole page put in the place of another. -/
import Derived.Test.YtodoenimlhldjaaQMMore
import Derived.Deep.MidRow
import Derived.Deep.Upon
namespace Go.Proofs.Ytodoenimlhldjaa
open Go.ChangeShapes Go.WideShapes Go.ChangeAt Go.RowKit
set_option linter.unusedVariables false
def setL (l : List Value) : Nat → List Value → List Value
  | _, [] => l
  | o, v :: r => setL (l.set o v) (o + 1) r
theorem setL_len : ∀ (vs l : List Value) (o : Nat), (setL l o vs).length = l.length
  | [], _, _ => rfl
  | v :: r, l, o => by rw [setL, setL_len r, List.length_set]
theorem setL_take (n : Nat) : ∀ (vs l : List Value) (o : Nat), (setL l o vs).take n = setL (l.take n) o vs
  | [], _, _ => rfl
  | v :: r, l, o => by rw [setL, setL, setL_take n r, List.take_set]
theorem setL_mid : ∀ (vs a b c : List Value), b.length = vs.length → setL (a ++ (b ++ c)) a.length vs = a ++ (vs ++ c)
  | [], a, b, c, h => by rw [List.eq_nil_of_length_eq_zero h]; rfl
  | v :: r, a, b, c, h => by
    obtain ⟨x, t, rfl⟩ : ∃ x t, b = x :: t := by
      cases b with
      | nil => simp at h
      | cons x t => exact ⟨x, t, rfl⟩
    have e : (a ++ (x :: t ++ c)).set a.length v = (a ++ [v]) ++ (t ++ c) := by
      rw [List.set_append_right _ _ (Nat.le_refl _), Nat.sub_self]
      simp
    rw [setL, e, show a.length + 1 = (a ++ [v]).length by simp, setL_mid r (a ++ [v]) t c (by simpa using h)]
    simp
theorem heap_setCells_row {g : Nat} {T : TypeId} {fr : Nat × Nat} : ∀ (vs : List Value) (o : Nat) (w : World) (cs : Array Value), w.heap[g]? = some (.cells cs T fr) → (w.setCells g o vs).heap[g]? = some (.cells (setL cs.toList o vs).toArray T fr)
  | [], _, _, _, h => by simpa [World.setCells, setL] using h
  | v :: r, o, w, cs, h => by
    rw [World.setCells, heap_setCells_row r (o + 1) _ _ (Lib.heap_setCell_same h v), setL, Array.toList_setIfInBounds]
theorem size_setCells (g : Nat) : ∀ (vs : List Value) (o : Nat) (w : World), (w.setCells g o vs).heap.size = w.heap.size
  | [], _, _ => rfl
  | v :: r, o, w => by rw [World.setCells, size_setCells g r]; simp [World.setCell]
theorem tape_setCells (g : Nat) : ∀ (vs : List Value) (o : Nat) (w : World), (w.setCells g o vs).tape = w.tape
  | [], _, _ => rfl
  | v :: r, o, w => by rw [World.setCells, tape_setCells g r]; rfl
theorem keep_setCells (w : World) (g o : Nat) (vs : List Value) : Keep (· = g) w (w.setCells g o vs) :=
  ⟨World.os_setCells _ _ _ _, tape_setCells _ _ _ _, World.output_setCells _ _ _ _, Nat.le_of_eq (size_setCells g vs o w).symm, fun k hk hne => World.heap_setCells_other w g o vs hk hne⟩
theorem cells5_put {l : List P5} (hf : ∀ p ∈ l, Fit5 p) {k : Nat} (hk : k < l.length) {q : P5} (hq : Fit5 q) : setL (cells5 l) (k * 259) (one5 q) = cells5 (l.set k q) := by
  have e : l = l.take k ++ ([l[k]] ++ l.drop (k + 1)) := by simp
  have e2 : l.set k q = l.take k ++ ([q] ++ l.drop (k + 1)) := by rw [List.set_eq_take_append_cons_drop, if_pos hk]; rfl
  have e3 : (cells5 (l.take k)).length = k * 259 := by
    rw [cells5_len fun p hp => hf p (List.mem_of_mem_take hp), List.length_take, Nat.min_eq_left (Nat.le_of_lt hk)]
  have e4 : ∀ p : P5, cells5 [p] = one5 p := fun p => by simp [cells5]
  rw [e2]
  conv => lhs; rw [e]
  rw [cells5_append, cells5_append, cells5_append, cells5_append, e4, e4, ← e3, setL_mid _ _ _ _ (by rw [one5_len hq, one5_len (hf _ (List.getElem_mem hk))])]
/-- One page put in the place of another. -/
theorem M5.put {w : World} {s : S5} (h : M5 w s) {k : Nat} (hk : k < s.l.length) {q : P5} (hq : Fit5 q) {g off cap : Nat} (hv : s.vP = .slice (some ⟨g, off, none⟩) s.l.length cap) (h0 : off = 0) :
    Step5 w s (w.setCells g (off + k * 259) (one5 q)) { s with l := s.l.set k q } := by
  subst h0
  have hgP : s.vP.ownBlock = some g := by rw [hv]; rfl
  obtain ⟨c1, hb1⟩ := h.blkP hgP
  have hgm : s.m ≠ g := blk_ne h.self hb1 (by decide)
  have out : ∀ b, b < w.heap.size → b ≠ g → (w.setCells g (0 + k * 259) (one5 q)).heap[b]? = w.heap[b]? := fun b hb hne => World.heap_setCells_other _ _ _ _ hb hne
  refine ⟨⟨(out _ h.lt hgm).trans h.self, ?_, ownsRow_same h.touched fun t ht => ?_, ?_, ?_⟩, (keep_setCells w g _ _).mono fun b _ hb => ?_, fun b hb => .inl hb⟩
  · show (w.setCells g (0 + k * 259) (one5 q)).ownsRow 0 116 259 s.vP (s.l.set k q).length (cells5 (s.l.set k q))
    rw [List.length_set, ← cells5_put h.fit hk hq]
    refine ⟨by rw [setL_len]; exact h.pages.1, ?_⟩
    rcases h.pages.2 with ⟨e, hz⟩ | ⟨g', cap', cur, e, hb, hg, hnc, hcm, hsz, htk⟩
    · omega
    · rw [hv] at e
      simp at e
      obtain ⟨rfl, rfl⟩ := e
      refine .inr ⟨g, cap, _, hv, hb, heap_setCells_row _ _ _ _ hg, hnc, hcm, by rw [List.size_toArray, setL_len]; simpa using hsz, ?_⟩
      rw [← htk, setL_take, Nat.zero_add]
  · obtain ⟨c2, hb2⟩ := h.blkT ht
    exact out t hb2.lt (blk_ne hb2 hb1 (by decide))
  · intro p hp
    rcases List.mem_or_eq_of_mem_set hp with hp | rfl
    · exact h.fit p hp
    · exact hq
  · show (s.l.set k q).length ≤ 1000
    rw [List.length_set]
    exact h.few
  · exact .inr (.inl (by rw [hgP]; exact congrArg some hb.symm))
end Go.Proofs.Ytodoenimlhldjaa
