/- A memory's map: its keys in the order in which they came, each with the block of what is held there; looked up, laid into, gone through. -/
import Derived.Test.YtpknppicamefgaaParts
import Derived.Maps.RangeWalk
namespace Go.Proofs.Ytpknppicamefgaa
open Go.ChangeShapes Go.WideShapes Go.ChangeAt Go.RowKit
set_option linter.unusedVariables false
/-- The entries of keys, the first one born at i. -/
def entsFrom (hb : Nat → Nat) : Nat → List Nat → List MapEntry
  | _, [] => []
  | i, k :: ks => { key := .int .u32 (k : Int), val := .pointer (some ⟨hb k, 0, none⟩), born := i } :: entsFrom hb (i + 1) ks
def mapObj (hb : Nat → Nat) (ks : List Nat) : Obj := .map (entsFrom hb 0 ks).toArray ks.length
theorem ents_append (hb : Nat → Nat) : ∀ (ks : List Nat) (i k : Nat), entsFrom hb i (ks ++ [k]) = entsFrom hb i ks ++ [{ key := .int .u32 (k : Int), val := .pointer (some ⟨hb k, 0, none⟩), born := i + ks.length }]
  | [], i, k => by simp [entsFrom]
  | a :: ks, i, k => by
    simp only [List.cons_append, entsFrom, ents_append hb ks (i + 1) k, List.length_cons]
    rw [show i + 1 + ks.length = i + (ks.length + 1) by omega]
theorem ents_congr {hb hb' : Nat → Nat} : ∀ (ks : List Nat) (i : Nat), (∀ k ∈ ks, hb k = hb' k) → entsFrom hb i ks = entsFrom hb' i ks
  | [], _, _ => rfl
  | a :: ks, i, h => by
    simp only [entsFrom]
    rw [h a (by simp), ents_congr ks (i + 1) fun k hk => h k (by simp [hk])]
theorem ents_length (hb : Nat → Nat) : ∀ (ks : List Nat) (i : Nat), (entsFrom hb i ks).length = ks.length
  | [], _ => rfl
  | _ :: ks, i => by simp [entsFrom, ents_length hb ks (i + 1)]
theorem ents_mem {hb : Nat → Nat} : ∀ {ks : List Nat} {i : Nat} {e : MapEntry}, e ∈ entsFrom hb i ks → ∃ j k : Nat, ks[j]? = some k ∧ e = { key := .int .u32 (k : Int), val := .pointer (some ⟨hb k, 0, none⟩), born := i + j }
  | [], _, _, h => by simp [entsFrom] at h
  | a :: ks, i, e, h => by
    rcases List.mem_cons.1 h with rfl | h
    · exact ⟨0, a, rfl, rfl⟩
    · obtain ⟨j, k, h1, h2⟩ := ents_mem h
      exact ⟨j + 1, k, by simpa using h1, by rw [h2]; simp; omega⟩
theorem ents_get {hb : Nat → Nat} : ∀ {ks : List Nat} {i j k : Nat}, ks[j]? = some k → ({ key := .int .u32 (k : Int), val := .pointer (some ⟨hb k, 0, none⟩), born := i + j } : MapEntry) ∈ entsFrom hb i ks
  | [], _, _, _, h => by simp at h
  | a :: ks, i, 0, k, h => by
    simp at h
    subst h
    simp [entsFrom]
  | a :: ks, i, j + 1, k, h => by
    have := ents_get (hb := hb) (ks := ks) (i := i + 1) (j := j) (k := k) (by simpa using h)
    rw [show i + 1 + j = i + (j + 1) by omega] at this
    exact List.mem_cons_of_mem _ this
theorem ents_born (hb : Nat → Nat) : ∀ (ks : List Nat) (i : Nat), ((entsFrom hb i ks).map (·.born)) = List.range' i ks.length
  | [], _ => rfl
  | a :: ks, i => by simp [entsFrom, ents_born hb ks (i + 1), List.range'_succ]
theorem find_in_ents (hb : Nat → Nat) (k : Nat) : ∀ (ks : List Nat) (i j : Nat), k ∈ ks → ∃ q, Instr.findNow (.int .u32) (.int .u32 (k : Int)) (entsFrom hb i ks) j = some (some (q, .pointer (some ⟨hb k, 0, none⟩)))
  | [], _, _, h => by simp at h
  | a :: ks, i, j, h => by
    by_cases e : k = a
    · subst e
      exact ⟨j, by simp [entsFrom, Instr.findNow, Instr.sameNow]⟩
    · obtain ⟨q, hq⟩ := find_in_ents hb k ks (i + 1) (j + 1) (by simpa [e] using h)
      refine ⟨q, ?_⟩
      have e' : ((k : Int) == (a : Int)) = false := by simp; omega
      simp only [entsFrom, Instr.findNow, Instr.sameNow, if_true, e']
      exact hq
theorem find_out_ents (hb : Nat → Nat) (k : Nat) : ∀ (ks : List Nat) (i j : Nat), k ∉ ks → Instr.findNow (.int .u32) (.int .u32 (k : Int)) (entsFrom hb i ks) j = some none
  | [], _, _, _ => rfl
  | a :: ks, i, j, h => by
    have e : k ≠ a := fun e => h (by simp [e])
    have e' : ((k : Int) == (a : Int)) = false := by simp; omega
    simp only [entsFrom, Instr.findNow, Instr.sameNow, if_true, e']
    exact find_out_ents hb k ks (i + 1) (j + 1) fun h' => h (by simp [h'])
theorem zero71 (w : World) : (zeroValue 71).run Try.prog w = .ok (.pointer none) w := by kernel_rfl
theorem key27 (e : Bool) (k : Nat) (w : World) : (Instr.checkKey e 10000 22 (.int .u32 (k : Int))).run Try.prog w = .ok () w := MapKept.run_checkKey (k := .int .u32 (k : Int)) Try.underlying22 (by simp [MapKept.IsKey]) e 9999
theorem run_look_in {w : World} {bm : Nat} {hb : Nat → Nat} {ks : List Nat} (h : w.heap[bm]? = some (mapObj hb ks)) {k : Nat} (hk : k ∈ ks) : (Instr.lookup 78 (.map (some bm)) (.int .u32 (k : Int)) false).run Try.prog w = .ok (.pointer (some ⟨hb k, 0, none⟩)) w := by
  obtain ⟨q, hq⟩ := find_in_ents hb k ks 0 0 hk
  have hg : (getObj bm).run Try.prog w = .ok (mapObj hb ks) w := by simp [getObj, Sem.run, h]; rfl
  have hf := MapKept.run_findKey (P := Try.prog) (w := w) Try.underlying22 hq
  unfold Instr.lookup
  simp only [Sem.run_bind, run_underlying Try.underlying78, Result.andThen_ok, hg, mapObj, Sem.run_pure, key27, hf]
  rfl
theorem run_look_out {w : World} {bm : Nat} {hb : Nat → Nat} {ks : List Nat} (h : w.heap[bm]? = some (mapObj hb ks)) {k : Nat} (hk : k ∉ ks) : (Instr.lookup 78 (.map (some bm)) (.int .u32 (k : Int)) false).run Try.prog w = .ok (.pointer none) w := by
  have hg : (getObj bm).run Try.prog w = .ok (mapObj hb ks) w := by simp [getObj, Sem.run, h]; rfl
  have hf := MapKept.run_findKey (P := Try.prog) (w := w) Try.underlying22 (find_out_ents hb k ks 0 0 hk)
  unfold Instr.lookup
  simp only [Sem.run_bind, run_underlying Try.underlying78, Result.andThen_ok, hg, mapObj, Sem.run_pure, key27, hf, zero71]
  rfl
/-- What stands at a key, and another one there. -/
def upd {α : Type} (f : Nat → α) (k : Nat) (x : α) : Nat → α := fun j => if j = k then x else f j
theorem upd_same {α : Type} (f : Nat → α) (k : Nat) (x : α) : upd f k x k = x := by simp [upd]
theorem upd_other {α : Type} (f : Nat → α) {k j : Nat} (x : α) (h : j ≠ k) : upd f k x j = f j := by simp [upd, h]
theorem run_lay {w : World} {bm : Nat} {hb : Nat → Nat} {ks : List Nat} (h : w.heap[bm]? = some (mapObj hb ks)) {k : Nat} (hk : k ∉ ks) (b : Nat) :
    (Instr.mapUpdate 78 (.map (some bm)) (.int .u32 (k : Int)) (.pointer (some ⟨b, 0, none⟩))).run Try.prog w = .ok () (ChangeMaps.setBlock w bm (mapObj (upd hb k b) (ks ++ [k]))) := by
  have hg : (getObj bm).run Try.prog w = .ok (mapObj hb ks) w := by simp [getObj, Sem.run, h]; rfl
  have hf := MapKept.run_findKey (P := Try.prog) (w := w) Try.underlying22 (find_out_ents hb k ks 0 0 hk)
  have he : (entsFrom hb 0 ks).toArray.push { key := .int .u32 (k : Int), val := .pointer (some ⟨b, 0, none⟩), born := ks.length } = (entsFrom (upd hb k b) 0 (ks ++ [k])).toArray := by
    rw [ents_append, upd_same, Nat.zero_add, ← ents_congr (hb := hb) ks 0 (fun j hj => (upd_other hb b (fun e => hk (by rw [← e]; exact hj))).symm)]
    simp
  unfold Instr.mapUpdate
  simp only [Sem.run_bind, run_underlying Try.underlying78, Result.andThen_ok, hg, mapObj, key27, hf, he]
  simp [setObj, Sem.run, h, mapObj, ChangeMaps.setBlock]
/-- The map is gone through: these keys are still to come. -/
structure It (w : World) (r bm : Nat) (ks todo : List Nat) : Prop where
  now : ∃ seen c0, w.heap[r]? = some (.mapIter (some bm) ks.length seen c0) ∧ ks.length ≤ c0 ∧ ∀ i k, ks[i]? = some k → (k ∈ todo ↔ seen.contains i = false)
  nodup : todo.Nodup
  sub : ∀ k ∈ todo, k ∈ ks
theorem It.lt {w : World} {r bm : Nat} {ks todo : List Nat} (h : It w r bm ks todo) : r < w.heap.size := by
  obtain ⟨seen, c0, h1, _⟩ := h.now
  exact (Array.getElem?_eq_some_iff.1 h1).1
theorem It.same {w w' : World} {r bm : Nat} {ks todo : List Nat} (h : It w r bm ks todo) (hb : w'.heap[r]? = w.heap[r]?) : It w' r bm ks todo := by
  obtain ⟨seen, c0, h1, h2, h3⟩ := h.now
  exact ⟨⟨seen, c0, hb.trans h1, h2, h3⟩, h.nodup, h.sub⟩
theorem run_range {w : World} {bm : Nat} {hb : Nat → Nat} {ks : List Nat} (h : w.heap[bm]? = some (mapObj hb ks)) : (Instr.range 78 (.map (some bm))).run Try.prog w = .ok (.pointer (some ⟨w.heap.size, 0, none⟩)) (w.alloc (.mapIter (some bm) ks.length #[] ks.length)) :=
  run_range_map w 78 22 71 bm _ _ Try.underlying78 h
theorem it_start {w : World} {bm : Nat} {ks : List Nat} (hn : ks.Nodup) : It (w.alloc (.mapIter (some bm) ks.length #[] ks.length)) w.heap.size bm ks ks :=
  ⟨⟨#[], ks.length, heap_alloc_new w _, Nat.le_refl _, fun i k hk => by simp [List.mem_of_getElem? hk]⟩, hn, fun _ h => h⟩
theorem nodup_at {ks : List Nat} (hn : ks.Nodup) {i j k : Nat} (hi : ks[i]? = some k) (hj : ks[j]? = some k) : i = j := by
  obtain ⟨h1, e1⟩ := List.getElem?_eq_some_iff.1 hi
  obtain ⟨h2, e2⟩ := List.getElem?_eq_some_iff.1 hj
  rcases Nat.lt_trichotomy i j with h | h | h
  · exact absurd (e1.trans e2.symm) (List.pairwise_iff_getElem.1 hn i j h1 h2 h)
  · exact h
  · exact absurd (e2.trans e1.symm) (List.pairwise_iff_getElem.1 hn j i h2 h1 h)
theorem run_next {w : World} {r bm : Nat} {hb : Nat → Nat} {ks todo : List Nat} (h : It w r bm ks todo) (hm : w.heap[bm]? = some (mapObj hb ks)) (hn : ks.Nodup) (ty : TypeId) :
    (todo = [] ∧ (Instr.next (.pointer (some ⟨r, 0, none⟩)) false ty).run Try.prog w = .ok (.tuple #[.bool false]) w) ∨
    ∃ k w', k ∈ todo ∧ (Instr.next (.pointer (some ⟨r, 0, none⟩)) false ty).run Try.prog w = .ok (.tuple #[.bool true, .int .u32 (k : Int), .pointer (some ⟨hb k, 0, none⟩)]) w' ∧
      It w' r bm ks (todo.erase k) ∧ Only r w w' ∧ (Instr.entry (.pointer (some ⟨r, 0, none⟩))).run Try.prog w' = .ok (.tuple #[.int .u32 (k : Int), .pointer (some ⟨hb k, 0, none⟩)]) w' := by
  obtain ⟨seen, c0, h1, h2, h3⟩ := h.now
  have hne : bm ≠ r := fun e => by rw [e, h1] at hm; simp [mapObj] at hm
  have hborn : ∀ x ∈ (entsFrom hb 0 ks).toArray.toList, x.born < ks.length := by
    intro x hx
    obtain ⟨j, k, hj, rfl⟩ := ents_mem (by simpa using hx)
    have := (List.getElem?_eq_some_iff.1 hj).1
    simpa using this
  rcases run_next_at (P := Try.prog) w ty r bm ks.length c0 seen _ _ h1 hm hborn h2 with ⟨h0, hrun⟩ | ⟨e, he, w1, hw1, hrun⟩
  · refine .inl ⟨?_, hrun⟩
    rw [List.eq_nil_iff_forall_not_mem]
    intro k hk
    obtain ⟨j, hj⟩ := List.getElem?_of_mem (h.sub k hk)
    have hs := (h3 j k hj).1 hk
    have hmem := ents_get (hb := hb) (i := 0) hj
    have hl : leftOf (entsFrom hb 0 ks).toArray seen = #[] := Array.eq_empty_of_size_eq_zero h0
    have : ({ key := .int .u32 (k : Int), val := .pointer (some ⟨hb k, 0, none⟩), born := 0 + j } : MapEntry) ∈ leftOf (entsFrom hb 0 ks).toArray seen := by
      unfold leftOf
      rw [Array.mem_filter]
      exact ⟨by simpa using hmem, by simpa using hs⟩
    rw [hl] at this
    simp at this
  · obtain ⟨hem, hes⟩ := mem_left he
    obtain ⟨j, k, hj, rfl⟩ := ents_mem (by simpa using hem)
    simp only [Nat.zero_add] at hes hrun hem
    have hr1 : w1.heap[r]? = some (.mapIter (some bm) ks.length seen c0) := by rcases hw1 with rfl | rfl <;> exact h1
    have hb1 : w1.heap[bm]? = some (mapObj hb ks) := by rcases hw1 with rfl | rfl <;> exact hm
    have hset := MapKept.heap_set (o' := .mapIter (some bm) ks.length (seen.push j) ks.length) hr1
    have hk : k ∈ todo := (h3 j k hj).2 hes
    refine .inr ⟨k, _, hk, hrun, ⟨⟨_, _, hset.1, Nat.le_refl _, ?_⟩, h.nodup.erase k, fun q hq => h.sub q (List.mem_of_mem_erase hq)⟩, ?_, ?_⟩
    · intro i q hq
      rw [List.Nodup.mem_erase_iff h.nodup, h3 i q hq]
      by_cases e : q = k
      · subst e
        have := nodup_at hn hq hj
        subst this
        simp
      · have hij : i ≠ j := fun e' => by subst e'; rw [hj] at hq; exact e (by simpa using hq.symm)
        simp [e, hij]
    · have ho : Only r w1 (ChangeMaps.setBlock w1 r (.mapIter (some bm) ks.length (seen.push j) ks.length)) := ⟨rfl, rfl, rfl, by simp [ChangeMaps.setBlock], fun q hq => hset.2 q hq⟩
      rcases hw1 with rfl | rfl
      · exact ho
      · exact ((Only.refl r w).drew).trans ho
    · refine run_entry_at (P := Try.prog) _ r bm ks.length seen (entsFrom hb 0 ks).toArray ks.length _ ?_ ((hset.2 bm hne).trans hb1) hem ?_
      · exact hset.1
      · simp only [ents_born]
        exact List.nodup_range'
end Go.Proofs.Ytpknppicamefgaa
