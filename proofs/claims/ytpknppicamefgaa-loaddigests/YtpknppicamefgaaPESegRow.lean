/- The segments of all rows. -/
import Derived.Test.YtpknppicamefgaaPEFiles
import Derived.Maps.AppendAt
import Derived.WalkMore
namespace Go.Proofs.Ytpknppicamefgaa
open Go.ChangeShapes Go.WideShapes Go.ChangeAt Go.RowKit
set_option linter.unusedVariables false
def segCells (l : List Sg) : List Value := l.flatMap fun s => [.int .u32 (s.at_ : Int), .string ⟨s.data.toArray⟩, .int .u32 (s.size : Int), .int .i64 s.perm]
theorem segCells_len : ∀ l : List Sg, (segCells l).length = l.length * 4
  | [] => rfl
  | s :: t => by
    have := segCells_len t
    unfold segCells at this ⊢
    rw [List.flatMap_cons, List.length_append, this, List.length_cons]
    simp
    omega
theorem segCells_append (l m : List Sg) : segCells (l ++ m) = segCells l ++ segCells m := by unfold segCells; rw [List.flatMap_append]
theorem segCells_get : ∀ (l : List Sg) (j i : Nat), j < l.length → i < 4 → (segCells l)[j * 4 + i]? = (#[Value.int .u32 ((l.getD j nosg).at_ : Int), .string ⟨(l.getD j nosg).data.toArray⟩, .int .u32 ((l.getD j nosg).size : Int), .int .i64 (l.getD j nosg).perm] : Array Value)[i]?
  | [], j, i, h, _ => by simp at h
  | s :: t, 0, i, _, hi => by
    have : segCells (s :: t) = [.int .u32 (s.at_ : Int), .string ⟨s.data.toArray⟩, .int .u32 (s.size : Int), .int .i64 s.perm] ++ segCells t := rfl
    rw [this, List.getElem?_append_left (by simp; omega)]
    simp
  | s :: t, j + 1, i, h, hi => by
    have ih := segCells_get t j i (by simpa using h) hi
    have : segCells (s :: t) = [.int .u32 (s.at_ : Int), .string ⟨s.data.toArray⟩, .int .u32 (s.size : Int), .int .i64 s.perm] ++ segCells t := rfl
    rw [this, List.getElem?_append_right (by simp; omega)]
    simp only [List.length_cons, List.length_nil]
    rw [show (j + 1) * 4 + i - (0 + 1 + 1 + 1 + 1) = j * 4 + i by omega, ih]
    simp
theorem segCells_one (l : List Sg) : ∀ u ∈ segCells l, u.oneCell' = true := by
  intro u hu
  simp only [segCells, List.mem_flatMap] at hu
  obtain ⟨s, _, hs⟩ := hu
  simp only [List.mem_cons, List.not_mem_nil, or_false] at hs
  rcases hs with rfl | rfl | rfl | rfl <;> rfl
def OutS (w : World) (base : Nat) (v : Value) (l : List Sg) : Prop := w.ownsRow base 44 4 v l.length (segCells l)
theorem info43 : (Try.prog.info? 44).map (fun i => (i.zero, i.size, i.bytes)) = some (some (.agg #[.int .u32 0, .string ⟨#[]⟩, .int .u32 0, .int .i64 0]), 4, 40) := by kernel_rfl
theorem OutS.later {w w' : World} {base : Nat} {v : Value} {l : List Sg} (h : OutS w base v l) (hb : Below w.heap.size w w') : OutS w' base v l := by
  refine ⟨h.1, ?_⟩
  rcases h.2 with h | ⟨g, cap, cur, h1, h2, h3, h4⟩
  · exact .inl h
  · exact .inr ⟨g, cap, cur, h1, h2, (hb.block g (Array.getElem?_eq_some_iff.1 h3).1).trans h3, h4⟩
theorem OutS.segs {w : World} {base : Nat} {v : Value} {l : List Sg} (h : OutS w base v l) (hf : ∀ j, j < l.length → Fit (l.getD j nosg)) : ∃ ao cap, v = .slice ao l.length cap ∧ Segs w ao l ∧ l.length ≤ cap ∧ cap ≤ 9223372036854775807 := by
  have h0 := h
  rcases h.2 with ⟨rfl, hz⟩ | ⟨g, cap, cur, rfl, _, hg, hnc, hcm, _, _⟩
  · rw [hz]
    exact ⟨none, 0, rfl, .inl (List.eq_nil_of_length_eq_zero hz), Nat.le_refl _, by omega⟩
  · refine ⟨_, cap, rfl, ?_, hnc, hcm⟩
    by_cases hl : l = []
    · exact .inl hl
    · refine .inr ⟨g, 0, rfl, (Array.getElem?_eq_some_iff.1 hg).1, fun j hj => ?_⟩
      have hc : ∀ i v, i < 4 → (#[Value.int .u32 ((l.getD j nosg).at_ : Int), .string ⟨(l.getD j nosg).data.toArray⟩, .int .u32 ((l.getD j nosg).size : Int), .int .i64 (l.getD j nosg).perm] : Array Value)[i]? = some v → w.cell? ⟨g, 0 + j * 4 + i, none⟩ = some v := by
        intro i v hi hv
        have := h0.cells (g := g) rfl (j * 4 + i) v (by rw [segCells_get l j i hj hi]; exact hv)
        rw [Addr.add_lit] at this
        rw [Nat.add_assoc]
        exact this
      exact ⟨hc 0 _ (by omega) rfl, hc 1 _ (by omega) rfl, hc 2 _ (by omega) rfl, hc 3 _ (by omega) rfl, hf j hj⟩
theorem run_moreS {w : World} {base : Nat} {v : Value} {l : List Sg} (h : OutS w base v l) (hb : base ≤ w.heap.size) (g : Nat) (s : Sg) (hs : Blk w g #[.int .u32 (s.at_ : Int), .string ⟨s.data.toArray⟩, .int .u32 (s.size : Int), .int .i64 s.perm] 44) (hlen : l.length ≤ 1000) :
    ∃ v' w', (Builtin.append_ #[23, 23] 23 #[v, .slice (some ⟨g, 0, none⟩) 1 1]).run Try.prog w = .ok v' w' ∧ OutS w' base v' (l ++ [s]) ∧ Below base w w' := by
  obtain ⟨i0, hi, hz0, hz1, hz2⟩ := info_parts info43
  obtain ⟨v', w', hr, h1, h2, _, _⟩ := run_append_own_at (P := Try.prog) w base 23 23 44 i0 _ 4 40 Try.underlying23 hi hz0 hz1 hz2 rfl (by decide) v l.length (segCells l) h ⟨g, 0, none⟩ 1 1 (segCells [s]) (by rw [segCells_len]; rfl) (by
    intro j u hu
    rw [Addr.add_lit, Nat.zero_add]
    exact hs.cell (by simpa [segCells] using hu)) (segCells_one _) (by unfold maxLen; omega) (by omega) hb
  refine ⟨v', w', hr, ?_, (Below.refl base w).grown h2 hb fun k hk => (h.lt k hk).1⟩
  rw [← segCells_append] at h1
  unfold OutS
  rw [List.length_append]
  exact h1
end Go.Proofs.Ytpknppicamefgaa
