/- Chapter 5's own memory as an object: its blocks, what a change of one cell is, New. -/
import Derived.Test.YtodoenimlhldjaaQMRows
import Derived.Lib.BufferMore
namespace Go.Proofs.Ytodoenimlhldjaa
open Go.ChangeShapes Go.WideShapes Go.ChangeAt Go.RowKit
set_option linter.unusedVariables false
def one5 (p : P5) : List Value := .int .u32 (p.at_ : Int) :: .int .i64 p.perm :: (cellsU p.b ++ [.bool p.watched])
def cells5 (l : List P5) : List Value := l.flatMap one5
structure Fit5 (p : P5) : Prop where
  lb : p.b.length = 256
  la : p.at_ < 4294967296
theorem one5_len {p : P5} (h : Fit5 p) : (one5 p).length = 259 := by simp [one5, cellsU, h.lb]
theorem one5_byte {p : P5} (h : Fit5 p) {i : Nat} (hi : i < 256) : (one5 p)[2 + i]? = some (.int .u8 ((p.b.getD i 0).toNat : Int)) := by
  have h2 : i < p.b.length := by rw [h.lb]; exact hi
  have : one5 p = [.int .u32 (p.at_ : Int), .int .i64 p.perm] ++ (cellsU p.b ++ [.bool p.watched]) := rfl
  rw [this, List.getElem?_append_right (by simp), List.getElem?_append_left (by simp [cellsU]; omega)]
  simp [cellsU, h2]
theorem one5_watch {p : P5} (h : Fit5 p) : (one5 p)[258]? = some (.bool p.watched) := by
  have : one5 p = ([.int .u32 (p.at_ : Int), .int .i64 p.perm] ++ cellsU p.b) ++ [.bool p.watched] := by simp [one5]
  rw [this, List.getElem?_append_right (by simp [cellsU, h.lb])]
  simp [cellsU, h.lb]
theorem cells5_cons (p : P5) (l : List P5) : cells5 (p :: l) = one5 p ++ cells5 l := rfl
theorem cells5_append (l k : List P5) : cells5 (l ++ k) = cells5 l ++ cells5 k := by unfold cells5; rw [List.flatMap_append]
theorem cells5_len : ∀ {l : List P5}, (∀ p ∈ l, Fit5 p) → (cells5 l).length = l.length * 259
  | [], _ => rfl
  | p :: l, h => by
    rw [cells5_cons, List.length_append, one5_len (h p (List.mem_cons_self ..)), cells5_len (fun q hq => h q (List.mem_cons_of_mem _ hq)), List.length_cons]
    omega
theorem cells5_get : ∀ {l : List P5}, (∀ p ∈ l, Fit5 p) → ∀ (j i : Nat), j < l.length → i < 259 → (cells5 l)[j * 259 + i]? = (one5 (l.getD j nop5))[i]?
  | [], _, j, i, h, _ => by simp at h
  | p :: l, hf, 0, i, _, hi => by
    rw [cells5_cons, List.getElem?_append_left (by rw [one5_len (hf p (List.mem_cons_self ..))]; omega)]
    simp
  | p :: l, hf, j + 1, i, h, hi => by
    have hl := one5_len (hf p (List.mem_cons_self ..))
    rw [cells5_cons, List.getElem?_append_right (by rw [hl]; omega), hl, show (j + 1) * 259 + i - 259 = j * 259 + i by omega, cells5_get (fun q hq => hf q (List.mem_cons_of_mem _ hq)) j i (by simpa using h) hi]
    simp
theorem cells5_set : ∀ {l : List P5}, (∀ p ∈ l, Fit5 p) → ∀ (j i : Nat) (q : P5) (v : Value), j < l.length → i < 259 → one5 q = (one5 (l.getD j nop5)).set i v → (cells5 l).set (j * 259 + i) v = cells5 (l.set j q)
  | [], _, j, i, _, _, h, _, _ => by simp at h
  | p :: l, hf, 0, i, q, v, _, hi, he => by
    rw [cells5_cons, List.set_append_left _ _ (by rw [one5_len (hf p (List.mem_cons_self ..))]; omega), List.set_cons_zero, cells5_cons, he]
    simp
  | p :: l, hf, j + 1, i, q, v, h, hi, he => by
    have hl := one5_len (hf p (List.mem_cons_self ..))
    rw [cells5_cons, List.set_append_right _ _ (by rw [hl]; omega), hl, show (j + 1) * 259 + i - 259 = j * 259 + i by omega, List.set_cons_succ, cells5_cons, cells5_set (fun q hq => hf q (List.mem_cons_of_mem _ hq)) j i q v (by simpa using h) hi (by simpa using he)]
/-- A memory of chapter 5's own: where it lies and what it holds. -/
structure S5 where
  m : Nat
  most : Nat
  l : List P5
  vP : Value
  ts : List Nat
  vT : Value
structure M5 (w : World) (s : S5) : Prop where
  self : Blk w s.m #[.int .i64 (s.most : Int), s.vP, s.vT] 96
  pages : w.ownsRow 0 116 259 s.vP s.l.length (cells5 s.l)
  touched : w.ownsRow 0 23 1 s.vT s.ts.length (words s.ts)
  fit : ∀ p ∈ s.l, Fit5 p
  few : s.l.length ≤ 1000
def foot5 (s : S5) (b : Nat) : Prop := b = s.m ∨ s.vP.ownBlock = some b ∨ s.vT.ownBlock = some b
structure Step5 (w : World) (s : S5) (w' : World) (s' : S5) : Prop where
  mem : M5 w' s'
  keep : Keep (foot5 s) w w'
  grow : ∀ b, foot5 s' b → foot5 s b ∨ w.heap.size ≤ b
theorem M5.fitAt {w : World} {s : S5} (h : M5 w s) {k : Nat} (hk : k < s.l.length) : Fit5 (s.l.getD k nop5) := by
  rw [List.getD_eq_getElem?_getD, List.getElem?_eq_getElem hk]
  exact h.fit _ (List.getElem_mem hk)
/-- The row of pages, where there is one. -/
theorem M5.row {w : World} {s : S5} (h : M5 w s) {k : Nat} (hk : k < s.l.length) : ∃ g off cap, off = 0 ∧ s.vP = .slice (some ⟨g, off, none⟩) s.l.length cap ∧ g < w.heap.size ∧ (∀ j, w.frozen? ⟨g, j, none⟩ = false) ∧ (∃ cur, Blk w g cur 116) ∧ ∀ j i v, j < s.l.length → i < 259 → (one5 (s.l.getD j nop5))[i]? = some v → w.cell? ⟨g, off + j * 259 + i, none⟩ = some v := by
  have hp := h.pages
  rcases hp.2 with ⟨_, hz⟩ | ⟨g, cap, cur, e, _, hg, hnc, hcm, _, _⟩
  · omega
  · refine ⟨g, 0, cap, rfl, e, (Array.getElem?_eq_some_iff.1 hg).1, fun j => frozen_of_row _ _ _ _ _ hg, ⟨cur, hg⟩, fun j i v hj hi hv => ?_⟩
    rw [e] at hp
    have := hp.cells (g := g) rfl (j * 259 + i) v (by rw [cells5_get h.fit j i hj hi]; exact hv)
    rw [Addr.add_lit] at this
    rw [Nat.add_assoc]
    exact this
theorem M5.ps {w : World} {s : S5} (h : M5 w s) : ∃ ao cap, s.vP = .slice ao s.l.length cap ∧ Ps5 w ao s.l := by
  by_cases hl : s.l = []
  · rcases h.pages.2 with ⟨e, hz⟩ | ⟨g, cap, cur, e, _⟩
    · exact ⟨none, 0, by rw [e, hz], .inl hl⟩
    · exact ⟨_, cap, e, .inl hl⟩
  · obtain ⟨g, off, cap, h0, e, hlt, _, _, hc⟩ := h.row (k := 0) (List.length_pos_iff.2 hl)
    refine ⟨_, cap, e, .inr ⟨g, off, rfl, hlt, fun j hj => ?_⟩⟩
    have hf := h.fitAt hj
    refine ⟨hc j 0 _ hj (by omega) rfl, hc j 1 _ hj (by omega) rfl, fun i hi => ?_, hc j 258 _ hj (by omega) ?_, hf.la⟩
    · rw [Nat.add_assoc _ 2 i]
      exact hc j (2 + i) _ hj (by omega) (one5_byte hf hi)
    · exact one5_watch hf
theorem M5.cellP {w : World} {s : S5} (h : M5 w s) : w.cell? ⟨s.m, 1, none⟩ = some s.vP := h.self.cell rfl
theorem M5.lt {w : World} {s : S5} (h : M5 w s) : s.m < w.heap.size := h.self.lt
set_option maxRecDepth 20000 in
theorem new5_any (most : Nat) (z : Int) (hz : min (max z 0) 64 = (most : Int)) (w : World) : Calls Try.prog 30 #[.int .i64 z] w fun e w' => e = .returned (.pointer (some ⟨w.heap.size, 0, none⟩)) ∧ Below w.heap.size w w' ∧ M5 w' ⟨w.heap.size, most, [], .slice none 0 0, [], .slice none 0 0⟩ := by
  have HE : Hid (∀ q : Int, q = (most : Int) → Below w.heap.size w (w.alloc (.cells #[.int .i64 q, .slice none 0 0, .slice none 0 0] 96)) ∧ M5 (w.alloc (.cells #[.int .i64 q, .slice none 0 0, .slice none 0 0] 96)) ⟨w.heap.size, most, [], .slice none 0 0, [], .slice none 0 0⟩) := by
    rintro q rfl
    exact ⟨below_new w _, Blk.new w _ _, World.ownsRow_nil _ _ _ _, World.ownsRow_nil _ _ _ _, by simp, by simp⟩
  have HZ := hidden hz
  clear hz
  go_enter Try.func30, Try.ntmps30
  go_wp2
  all_goals go_wp2
  all_goals go_ret
  all_goals exact ⟨rfl, (Hid.out HE _ (by have := Hid.out HZ; omega)).1, (Hid.out HE _ (by have := Hid.out HZ; omega)).2⟩
end Go.Proofs.Ytodoenimlhldjaa
