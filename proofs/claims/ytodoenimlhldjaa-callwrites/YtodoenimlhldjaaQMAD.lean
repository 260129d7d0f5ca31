/- Some bytes of a page. -/
import Derived.Test.YtodoenimlhldjaaQMAC
import Derived.Outline
import Derived.Maps.RangeWalk
import Derived.Maps.AppendAt
import Derived.Deep.Draws
namespace Go.Proofs.Ytodoenimlhldjaa
open Go.ChangeShapes Go.WideShapes Go.ChangeAt Go.RowKit
set_option linter.unusedVariables false
theorem made_any (M : Int) (h0 : 0 ≤ M) (h1 : M ≤ 256) (w : World) : (Instr.makeSlice 50 (.int .i64 M) (.int .i64 M)).run Try.prog w = .ok (.slice (some ⟨w.heap.size, 0, none⟩) M.toNat M.toNat) (w.alloc (.cells (madeCells #[.int .u8 0] M.toNat) 5)) := by
  obtain ⟨i0, hi, hz0, hz1, hz2⟩ := info_parts info5
  have h := run_make (P := Try.prog) w 50 5 i0 (.int .u8 0) Try.underlying50 hi hz0 .i64 .i64 M M h0 (Int.le_refl _) (by rw [hz2]; omega) (by omega)
  rw [hz1, Nat.mul_one] at h
  exact h
theorem arrayLen31 : Try.prog.arrayLen 114 = 256 := by kernel_rfl
theorem elemSize31 (w : World) : (sizeOf (Try.prog.elem 114)).run Try.prog w = .ok 1 w := by kernel_rfl
theorem sliced_any (b : Nat) (i m : Int) (h0 : 0 ≤ i) (h1 : i < 256) (h2 : i ≤ m) (h3 : m ≤ 256) (w : World) : (Instr.sliceAt 114 (.pointer (some ⟨b, 0, none⟩)) (some (.int .i64 i)) (some (.int .i64 m)) none).run Try.prog w = .ok (.slice (some ⟨b, i.toNat, none⟩) (m.toNat - i.toNat) (256 - i.toNat)) w := by
  have h := run_sliceAt_array_lh (P := Try.prog) w 114 ⟨b, 0, none⟩ (by kernel_rfl) .i64 .i64 i m h0 h2 (by rw [arrayLen31]; exact h3)
  rw [h, elemSize31, arrayLen31]
  simp only [Result.andThen_ok, slicedAt, Nat.mul_one]
  rw [if_neg (by omega), Addr.add_lit, Nat.zero_add]
theorem partB_len (l : List UInt8) (i M : Int) (hl : l.length = 256) (h0 : 0 ≤ i) (h1 : 0 ≤ M) (h2 : i + M ≤ 256) : (partB l i M).length = M.toNat := by
  unfold partB
  rw [List.length_take, List.length_drop, hl]
  omega
theorem partB_get (l : List UInt8) (i M : Int) (j : Nat) (hj : j < M.toNat) : (partB l i M).getD j 0 = l.getD (i.toNat + j) 0 := by
  unfold partB
  rw [List.getD_eq_getElem?_getD, List.getElem?_take_of_lt hj, List.getElem?_drop, List.getD_eq_getElem?_getD]
theorem part_cells {T : TypeId} {w : World} {b : Nat} {l : List UInt8} {p c : Int} (h : Pg T w b l p c) (i M : Int) (h0 : 0 ≤ i) (h1 : 0 ≤ M) (h2 : i + M ≤ 256) : ∀ j v, (cellsU (partB l i M))[j]? = some v → w.cell? ((⟨b, i.toNat, none⟩ : Addr).add j) = some v := by
  have hl := partB_len l i M h.len h0 h1 h2
  refine Lies.cells (fun j hj => ?_)
  rw [hl] at hj
  rw [partB_get l i M j hj]
  exact h.byte (by omega)
theorem copied {w : World} {g : Nat} {l : List UInt8} {i M : Int} {z : Array Value} (hl : (partB l i M).length = M.toNat) (hz : z.size = M.toNat) (hM : M ≤ 256) (h : w.heap[g]? = some (.cells (splice z.toList 0 (cellsU (partB l i M))).toArray 5 (0, 0))) : Row w (some ⟨g, 0, none⟩) (partB l i M) M.toNat := by
  refine ⟨Nat.le_of_eq hl, by simp only [maxLen]; omega, by simp, .inr ⟨g, 0, rfl, fun j hj => ?_⟩⟩
  rw [Nat.zero_add, cell_of_row _ _ _ _ _ _ h, List.getElem?_toArray, splice, List.take_zero, List.nil_append, List.getElem?_append_left (by rw [cellsU_len]; exact hj), cellsU_get _ _ hj]
theorem size5 : (Try.prog.info? 5).map (·.size) = some 1 := by kernel_rfl
theorem run_part {w : World} {b : Nat} {l : List UInt8} {p c : Int} (h : Pg 127 w b l p c) (i M : Int) (S : Nat) (h0 : 0 ≤ i) (h1 : 0 ≤ M) (h2 : i + M ≤ 256) (hS : S = M.toNat) :
    ∃ v w2, (Builtin.copy_ #[50, 50] 3 #[.slice (some ⟨w.heap.size, 0, none⟩) M.toNat M.toNat, .slice (some ⟨b, i.toNat, none⟩) S (256 - i.toNat)]).run Try.prog (w.alloc (.cells (madeCells #[.int .u8 0] M.toNat) 5)) = .ok v w2 ∧ Row w2 (some ⟨w.heap.size, 0, none⟩) (partB l i M) M.toNat ∧ Below w.heap.size w w2 := by
  have hpl := partB_len l i M h.len h0 h1 h2
  have hcl := part_cells (h.later ((Below.refl _ _).alloc (Nat.le_refl _) (.cells (madeCells #[.int .u8 0] M.toNat) 5))) i M h0 h1 h2
  have hms := size_madeCells #[.int .u8 0] M.toNat
  have hg := heap_alloc_new w (.cells (madeCells #[.int .u8 0] M.toNat) 5)
  have hr := run_copy_row (P := Try.prog) (w.alloc (.cells (madeCells #[.int .u8 0] M.toNat) 5)) 50 50 3 5 w.heap.size 0 M.toNat M.toNat ⟨b, i.toNat, none⟩ S (256 - i.toNat) _ 5 (cellsU (partB l i M)) Try.underlying50 size5 hg (by rw [cellsU_len, hpl, hS]; show _ = min _ _; omega) hcl (by rw [cellsU_len, hpl, hms]; omega) (cellsU_one _)
  refine ⟨_, _, hr, ?_, below_setRow ((Below.refl _ _).alloc (Nat.le_refl _) _) (Nat.le_refl _) _⟩
  refine copied hpl hms (by omega) ?_
  rw [setRow_heap _ _ _ _ 5 _ hg]
  rfl
end Go.Proofs.Ytodoenimlhldjaa
namespace Go.Proofs.Ytodoenimlhldjaa
open Go.ChangeShapes Go.WideShapes Go.ChangeAt Go.RowKit
set_option linter.unusedVariables false
/-- The entries of keys, the first one born at i. -/
def entsFrom (hb : Nat → Nat) : Nat → List Nat → List MapEntry
  | _, [] => []
  | i, k :: ks => { key := .int .u32 (k : Int), val := .pointer (some ⟨hb k, 0, none⟩), born := i } :: entsFrom hb (i + 1) ks
def mapObj (hb : Nat → Nat) (ks : List Nat) : Obj := .map (entsFrom hb 0 ks).toArray ks.length
theorem ents_append (hb : Nat → Nat) : ∀ (ks : List Nat) (i k : Nat), entsFrom hb i (ks ++ [k]) = entsFrom hb i ks ++ [{ key := .int .u32 (k : Int), val := .pointer (some ⟨hb k, 0, none⟩), born := i + ks.length }]
  | [], i, k => by simp [entsFrom]
  | a :: ks, i, k => by
    simp only [List.cons_append, entsFrom, ents_append hb ks (i + 1) k, List.length_cons]
    rw [show i + 1 + ks.length = i + (ks.length + 1) by omega]
theorem ents_congr {hb hb' : Nat → Nat} : ∀ (ks : List Nat) (i : Nat), (∀ k ∈ ks, hb k = hb' k) → entsFrom hb i ks = entsFrom hb' i ks
  | [], _, _ => rfl
  | a :: ks, i, h => by
    simp only [entsFrom]
    rw [h a (by simp), ents_congr ks (i + 1) fun k hk => h k (by simp [hk])]
theorem ents_length (hb : Nat → Nat) : ∀ (ks : List Nat) (i : Nat), (entsFrom hb i ks).length = ks.length
  | [], _ => rfl
  | _ :: ks, i => by simp [entsFrom, ents_length hb ks (i + 1)]
theorem ents_mem {hb : Nat → Nat} : ∀ {ks : List Nat} {i : Nat} {e : MapEntry}, e ∈ entsFrom hb i ks → ∃ j k : Nat, ks[j]? = some k ∧ e = { key := .int .u32 (k : Int), val := .pointer (some ⟨hb k, 0, none⟩), born := i + j }
  | [], _, _, h => by simp [entsFrom] at h
  | a :: ks, i, e, h => by
    rcases List.mem_cons.1 h with rfl | h
    · exact ⟨0, a, rfl, rfl⟩
    · obtain ⟨j, k, h1, h2⟩ := ents_mem h
      exact ⟨j + 1, k, by simpa using h1, by rw [h2]; simp; omega⟩
theorem ents_get {hb : Nat → Nat} : ∀ {ks : List Nat} {i j k : Nat}, ks[j]? = some k → ({ key := .int .u32 (k : Int), val := .pointer (some ⟨hb k, 0, none⟩), born := i + j } : MapEntry) ∈ entsFrom hb i ks
  | [], _, _, _, h => by simp at h
  | a :: ks, i, 0, k, h => by
    simp at h
    subst h
    simp [entsFrom]
  | a :: ks, i, j + 1, k, h => by
    have := ents_get (hb := hb) (ks := ks) (i := i + 1) (j := j) (k := k) (by simpa using h)
    rw [show i + 1 + j = i + (j + 1) by omega] at this
    exact List.mem_cons_of_mem _ this
theorem ents_born (hb : Nat → Nat) : ∀ (ks : List Nat) (i : Nat), ((entsFrom hb i ks).map (·.born)) = List.range' i ks.length
  | [], _ => rfl
  | a :: ks, i => by simp [entsFrom, ents_born hb ks (i + 1), List.range'_succ]
theorem find_in_ents (hb : Nat → Nat) (k : Nat) : ∀ (ks : List Nat) (i j : Nat), k ∈ ks → ∃ q, Instr.findNow (.int .u32) (.int .u32 (k : Int)) (entsFrom hb i ks) j = some (some (q, .pointer (some ⟨hb k, 0, none⟩)))
  | [], _, _, h => by simp at h
  | a :: ks, i, j, h => by
    by_cases e : k = a
    · subst e
      exact ⟨j, by simp [entsFrom, Instr.findNow, Instr.sameNow]⟩
    · obtain ⟨q, hq⟩ := find_in_ents hb k ks (i + 1) (j + 1) (by simpa [e] using h)
      refine ⟨q, ?_⟩
      have e' : ((k : Int) == (a : Int)) = false := by simp; omega
      simp only [entsFrom, Instr.findNow, Instr.sameNow, if_true, e']
      exact hq
theorem find_out_ents (hb : Nat → Nat) (k : Nat) : ∀ (ks : List Nat) (i j : Nat), k ∉ ks → Instr.findNow (.int .u32) (.int .u32 (k : Int)) (entsFrom hb i ks) j = some none
  | [], _, _, _ => rfl
  | a :: ks, i, j, h => by
    have e : k ≠ a := fun e => h (by simp [e])
    have e' : ((k : Int) == (a : Int)) = false := by simp; omega
    simp only [entsFrom, Instr.findNow, Instr.sameNow, if_true, e']
    exact find_out_ents hb k ks (i + 1) (j + 1) fun h' => h (by simp [h'])
theorem zero71 (w : World) : (zeroValue 103).run Try.prog w = .ok (.pointer none) w := by kernel_rfl
theorem key27 (e : Bool) (k : Nat) (w : World) : (Instr.checkKey e 10000 23 (.int .u32 (k : Int))).run Try.prog w = .ok () w := MapKept.run_checkKey (k := .int .u32 (k : Int)) Try.underlying23 (by simp [MapKept.IsKey]) e 9999
theorem run_look_in {w : World} {bm : Nat} {hb : Nat → Nat} {ks : List Nat} (h : w.heap[bm]? = some (mapObj hb ks)) {k : Nat} (hk : k ∈ ks) : (Instr.lookup 86 (.map (some bm)) (.int .u32 (k : Int)) false).run Try.prog w = .ok (.pointer (some ⟨hb k, 0, none⟩)) w := by
  obtain ⟨q, hq⟩ := find_in_ents hb k ks 0 0 hk
  have hg : (getObj bm).run Try.prog w = .ok (mapObj hb ks) w := by simp [getObj, Sem.run, h]; rfl
  have hf := MapKept.run_findKey (P := Try.prog) (w := w) Try.underlying23 hq
  unfold Instr.lookup
  simp only [Sem.run_bind, run_underlying Try.underlying86, Result.andThen_ok, hg, mapObj, Sem.run_pure, key27, hf]
  rfl
theorem run_look_out {w : World} {bm : Nat} {hb : Nat → Nat} {ks : List Nat} (h : w.heap[bm]? = some (mapObj hb ks)) {k : Nat} (hk : k ∉ ks) : (Instr.lookup 86 (.map (some bm)) (.int .u32 (k : Int)) false).run Try.prog w = .ok (.pointer none) w := by
  have hg : (getObj bm).run Try.prog w = .ok (mapObj hb ks) w := by simp [getObj, Sem.run, h]; rfl
  have hf := MapKept.run_findKey (P := Try.prog) (w := w) Try.underlying23 (find_out_ents hb k ks 0 0 hk)
  unfold Instr.lookup
  simp only [Sem.run_bind, run_underlying Try.underlying86, Result.andThen_ok, hg, mapObj, Sem.run_pure, key27, hf, zero71]
  rfl
/-- What stands at a key, and another one there. -/
def upd {α : Type} (f : Nat → α) (k : Nat) (x : α) : Nat → α := fun j => if j = k then x else f j
theorem upd_same {α : Type} (f : Nat → α) (k : Nat) (x : α) : upd f k x k = x := by simp [upd]
theorem upd_other {α : Type} (f : Nat → α) {k j : Nat} (x : α) (h : j ≠ k) : upd f k x j = f j := by simp [upd, h]
theorem run_lay {w : World} {bm : Nat} {hb : Nat → Nat} {ks : List Nat} (h : w.heap[bm]? = some (mapObj hb ks)) {k : Nat} (hk : k ∉ ks) (b : Nat) :
    (Instr.mapUpdate 86 (.map (some bm)) (.int .u32 (k : Int)) (.pointer (some ⟨b, 0, none⟩))).run Try.prog w = .ok () (ChangeMaps.setBlock w bm (mapObj (upd hb k b) (ks ++ [k]))) := by
  have hg : (getObj bm).run Try.prog w = .ok (mapObj hb ks) w := by simp [getObj, Sem.run, h]; rfl
  have hf := MapKept.run_findKey (P := Try.prog) (w := w) Try.underlying23 (find_out_ents hb k ks 0 0 hk)
  have he : (entsFrom hb 0 ks).toArray.push { key := .int .u32 (k : Int), val := .pointer (some ⟨b, 0, none⟩), born := ks.length } = (entsFrom (upd hb k b) 0 (ks ++ [k])).toArray := by
    rw [ents_append, upd_same, Nat.zero_add, ← ents_congr (hb := hb) ks 0 (fun j hj => (upd_other hb b (fun e => hk (by rw [← e]; exact hj))).symm)]
    simp
  unfold Instr.mapUpdate
  simp only [Sem.run_bind, run_underlying Try.underlying86, Result.andThen_ok, hg, mapObj, key27, hf, he]
  simp [setObj, Sem.run, h, mapObj, ChangeMaps.setBlock]
/-- The map is gone through: these keys are still to come. -/
structure It (w : World) (r bm : Nat) (ks todo : List Nat) : Prop where
  now : ∃ seen c0, w.heap[r]? = some (.mapIter (some bm) ks.length seen c0) ∧ ks.length ≤ c0 ∧ ∀ i k, ks[i]? = some k → (k ∈ todo ↔ seen.contains i = false)
  nodup : todo.Nodup
  sub : ∀ k ∈ todo, k ∈ ks
theorem It.lt {w : World} {r bm : Nat} {ks todo : List Nat} (h : It w r bm ks todo) : r < w.heap.size := by
  obtain ⟨seen, c0, h1, _⟩ := h.now
  exact (Array.getElem?_eq_some_iff.1 h1).1
theorem It.same {w w' : World} {r bm : Nat} {ks todo : List Nat} (h : It w r bm ks todo) (hb : w'.heap[r]? = w.heap[r]?) : It w' r bm ks todo := by
  obtain ⟨seen, c0, h1, h2, h3⟩ := h.now
  exact ⟨⟨seen, c0, hb.trans h1, h2, h3⟩, h.nodup, h.sub⟩
theorem run_range {w : World} {bm : Nat} {hb : Nat → Nat} {ks : List Nat} (h : w.heap[bm]? = some (mapObj hb ks)) : (Instr.range 86 (.map (some bm))).run Try.prog w = .ok (.pointer (some ⟨w.heap.size, 0, none⟩)) (w.alloc (.mapIter (some bm) ks.length #[] ks.length)) :=
  run_range_map w 86 23 103 bm _ _ Try.underlying86 h
theorem it_start {w : World} {bm : Nat} {ks : List Nat} (hn : ks.Nodup) : It (w.alloc (.mapIter (some bm) ks.length #[] ks.length)) w.heap.size bm ks ks :=
  ⟨⟨#[], ks.length, heap_alloc_new w _, Nat.le_refl _, fun i k hk => by simp [List.mem_of_getElem? hk]⟩, hn, fun _ h => h⟩
theorem nodup_at {ks : List Nat} (hn : ks.Nodup) {i j k : Nat} (hi : ks[i]? = some k) (hj : ks[j]? = some k) : i = j := by
  obtain ⟨h1, e1⟩ := List.getElem?_eq_some_iff.1 hi
  obtain ⟨h2, e2⟩ := List.getElem?_eq_some_iff.1 hj
  rcases Nat.lt_trichotomy i j with h | h | h
  · exact absurd (e1.trans e2.symm) (List.pairwise_iff_getElem.1 hn i j h1 h2 h)
  · exact h
  · exact absurd (e2.trans e1.symm) (List.pairwise_iff_getElem.1 hn j i h2 h1 h)
theorem run_next {w : World} {r bm : Nat} {hb : Nat → Nat} {ks todo : List Nat} (h : It w r bm ks todo) (hm : w.heap[bm]? = some (mapObj hb ks)) (hn : ks.Nodup) (ty : TypeId) :
    (todo = [] ∧ (Instr.next (.pointer (some ⟨r, 0, none⟩)) false ty).run Try.prog w = .ok (.tuple #[.bool false]) w) ∨
    ∃ k w', k ∈ todo ∧ (Instr.next (.pointer (some ⟨r, 0, none⟩)) false ty).run Try.prog w = .ok (.tuple #[.bool true, .int .u32 (k : Int), .pointer (some ⟨hb k, 0, none⟩)]) w' ∧
      It w' r bm ks (todo.erase k) ∧ Only r w w' ∧ (Instr.entry (.pointer (some ⟨r, 0, none⟩))).run Try.prog w' = .ok (.tuple #[.int .u32 (k : Int), .pointer (some ⟨hb k, 0, none⟩)]) w' := by
  obtain ⟨seen, c0, h1, h2, h3⟩ := h.now
  have hne : bm ≠ r := fun e => by rw [e, h1] at hm; simp [mapObj] at hm
  have hborn : ∀ x ∈ (entsFrom hb 0 ks).toArray.toList, x.born < ks.length := by
    intro x hx
    obtain ⟨j, k, hj, rfl⟩ := ents_mem (by simpa using hx)
    have := (List.getElem?_eq_some_iff.1 hj).1
    simpa using this
  rcases run_next_at (P := Try.prog) w ty r bm ks.length c0 seen _ _ h1 hm hborn h2 with ⟨h0, hrun⟩ | ⟨e, he, w1, hw1, hrun⟩
  · refine .inl ⟨?_, hrun⟩
    rw [List.eq_nil_iff_forall_not_mem]
    intro k hk
    obtain ⟨j, hj⟩ := List.getElem?_of_mem (h.sub k hk)
    have hs := (h3 j k hj).1 hk
    have hmem := ents_get (hb := hb) (i := 0) hj
    have hl : leftOf (entsFrom hb 0 ks).toArray seen = #[] := Array.eq_empty_of_size_eq_zero h0
    have : ({ key := .int .u32 (k : Int), val := .pointer (some ⟨hb k, 0, none⟩), born := 0 + j } : MapEntry) ∈ leftOf (entsFrom hb 0 ks).toArray seen := by
      unfold leftOf
      rw [Array.mem_filter]
      exact ⟨by simpa using hmem, by simpa using hs⟩
    rw [hl] at this
    simp at this
  · obtain ⟨hem, hes⟩ := mem_left he
    obtain ⟨j, k, hj, rfl⟩ := ents_mem (by simpa using hem)
    simp only [Nat.zero_add] at hes hrun hem
    have hr1 : w1.heap[r]? = some (.mapIter (some bm) ks.length seen c0) := by rcases hw1 with rfl | rfl <;> exact h1
    have hb1 : w1.heap[bm]? = some (mapObj hb ks) := by rcases hw1 with rfl | rfl <;> exact hm
    have hset := MapKept.heap_set (o' := .mapIter (some bm) ks.length (seen.push j) ks.length) hr1
    have hk : k ∈ todo := (h3 j k hj).2 hes
    refine .inr ⟨k, _, hk, hrun, ⟨⟨_, _, hset.1, Nat.le_refl _, ?_⟩, h.nodup.erase k, fun q hq => h.sub q (List.mem_of_mem_erase hq)⟩, ?_, ?_⟩
    · intro i q hq
      rw [List.Nodup.mem_erase_iff h.nodup, h3 i q hq]
      by_cases e : q = k
      · subst e
        have := nodup_at hn hq hj
        subst this
        simp
      · have hij : i ≠ j := fun e' => by subst e'; rw [hj] at hq; exact e (by simpa using hq.symm)
        simp [e, hij]
    · have ho : Only r w1 (ChangeMaps.setBlock w1 r (.mapIter (some bm) ks.length (seen.push j) ks.length)) := ⟨rfl, rfl, rfl, by simp [ChangeMaps.setBlock], fun q hq => hset.2 q hq⟩
      rcases hw1 with rfl | rfl
      · exact ho
      · exact ((Only.refl r w).drew).trans ho
    · refine run_entry_at (P := Try.prog) _ r bm ks.length seen (entsFrom hb 0 ks).toArray ks.length _ ?_ ((hset.2 bm hne).trans hb1) hem ?_
      · exact hset.1
      · simp only [ents_born]
        exact List.nodup_range'
end Go.Proofs.Ytodoenimlhldjaa
namespace Go.Proofs.Ytodoenimlhldjaa
open Go.ChangeShapes Go.WideShapes Go.ChangeAt Go.RowKit
set_option linter.unusedVariables false
/-- Nothing has turned but blocks of F, and new ones. -/
structure Keep (F : Nat → Prop) (w w' : World) : Prop where
  os : w'.os = w.os
  tape : w'.tape = w.tape
  output : w'.output = w.output
  size : w.heap.size ≤ w'.heap.size
  block : ∀ k, k < w.heap.size → ¬ F k → w'.heap[k]? = w.heap[k]?
def nought : Nat → Prop := fun _ => False
theorem Keep.refl (F : Nat → Prop) (w : World) : Keep F w w := ⟨rfl, rfl, rfl, Nat.le_refl _, fun _ _ _ => rfl⟩
theorem Keep.trans {F G : Nat → Prop} {u v w : World} (h : Keep F u v) (k : Keep G v w) (hg : ∀ b, b < u.heap.size → G b → F b) : Keep F u w :=
  ⟨k.os.trans h.os, k.tape.trans h.tape, k.output.trans h.output, Nat.le_trans h.size k.size, fun b hb hf => (k.block b (Nat.lt_of_lt_of_le hb h.size) fun hgb => hf (hg b hb hgb)).trans (h.block b hb hf)⟩
theorem Keep.mono {F G : Nat → Prop} {w w' : World} (h : Keep F w w') (hg : ∀ b, b < w.heap.size → F b → G b) : Keep G w w' := ⟨h.os, h.tape, h.output, h.size, fun b hb hn => h.block b hb fun hf => hn (hg b hb hf)⟩
theorem Keep.below {F : Nat → Prop} {w w' : World} {B : Nat} (h : Keep F w w') (hB : B ≤ w.heap.size) (hf : ∀ b, F b → B ≤ b) : Below B w w' :=
  ⟨h.os, h.tape, h.output, h.size, fun b hb => h.block b (by omega) fun hF => by have := hf b hF; omega⟩
theorem Keep.of_below {F : Nat → Prop} {w w' : World} (h : Below w.heap.size w w') : Keep F w w' := ⟨h.os, h.tape, h.output, h.size, fun b hb _ => h.block b hb⟩
theorem Keep.of_only {b : Nat} {w w' : World} (h : Only b w w') : Keep (· = b) w w' := ⟨h.os, h.tape, h.output, Nat.le_of_eq h.size.symm, fun k _ hk => h.block k hk⟩
theorem Keep.drewN {F : Nat → Prop} {u w : World} (h : Keep F u w) (n : Nat) : Keep F u (w.drewN n) := ⟨h.os, h.tape, h.output, h.size, h.block⟩
theorem Keep.grown {w w' : World} {row : Option Nat} (h : w.grownBy w' row) : Keep (fun b => row = some b) w w' := ⟨h.os, h.tape, h.output, h.size, fun b hb hn => h.block b hb fun e => hn e.symm⟩
theorem below_drewN {B : Nat} {u w : World} (h : Below B u w) (n : Nat) : Below B u (w.drewN n) := ⟨h.os, h.tape, h.output, h.size, h.block⟩
theorem keep_alloc (F : Nat → Prop) (w : World) (o : Obj) : Keep F w (w.alloc o) := Keep.of_below ((Below.refl _ _).alloc (Nat.le_refl _) o)
theorem keep_setCell (w : World) (b j : Nat) (v : Value) : Keep (· = b) w (w.setCell ⟨b, j, none⟩ v) := Keep.of_only ((Only.refl b w).setCell j v)
theorem keep_setBlock {w : World} {b : Nat} {o : Obj} (h : w.heap[b]? = some o) (o' : Obj) : Keep (· = b) w (ChangeMaps.setBlock w b o') :=
  ⟨rfl, rfl, rfl, by simp [ChangeMaps.setBlock], fun k _ hk => (MapKept.heap_set (o' := o') h).2 k hk⟩
/-- A memory: its blocks, and what it says. -/
structure MS where
  mb : Nat
  bm : Nat
  ks : List Nat
  hb : Nat → Nat
  pb : Nat → Nat
  data : Nat → List UInt8
  pm : Nat → Int
  on : Nat → Bool
  most : Nat
  tv : Value
  ts : List Nat
  c : Nat
def words (ts : List Nat) : List Value := ts.map fun a : Nat => Value.int .u32 (a : Int)
theorem words_len (ts : List Nat) : (words ts).length = ts.length := by simp [words]
theorem words_append (ts us : List Nat) : words (ts ++ us) = words ts ++ words us := by simp [words]
theorem words_get (l : List Nat) (j : Nat) (h : j < l.length) : (words l)[j]? = some (Value.int .u32 ((l.getD j 0 : Nat) : Int)) := by
  simp [words, List.getD_eq_getElem?_getD, List.getElem?_eq_getElem h]
theorem words_one (l : List Nat) : ∀ u ∈ words l, u.oneCell' = true := by
  intro u hu
  simp only [words, List.mem_map] at hu
  obtain ⟨n, _, rfl⟩ := hu
  rfl
def mcells (s : MS) : Array Value := #[.map (some s.bm), .int .i64 (s.ks.length : Int), .int .i64 (s.most : Int), s.tv]
def hcells (s : MS) (k : Nat) : Array Value := #[.pointer (some ⟨s.pb k, 0, none⟩), .bool (s.on k)]
structure MemW (w : World) (s : MS) : Prop where
  self : w.heap[s.mb]? = some (.cells (mcells s) 93 (0, 0))
  map : w.heap[s.bm]? = some (mapObj s.hb s.ks)
  held : ∀ k ∈ s.ks, w.heap[s.hb k]? = some (.cells (hcells s k) 107 (0, 0))
  page : ∀ k ∈ s.ks, ∃ n : Int, 0 ≤ n ∧ n ≤ (s.c : Int) ∧ Pg 127 w (s.pb k) (s.data k) (s.pm k) n
  nodup : s.ks.Nodup
  hbi : ∀ k ∈ s.ks, ∀ j ∈ s.ks, s.hb k = s.hb j → k = j
  pbi : ∀ k ∈ s.ks, ∀ j ∈ s.ks, s.pb k = s.pb j → k = j
  key : ∀ k ∈ s.ks, k < 4294967296 ∧ k % 256 = 0
  perm : ∀ k ∈ s.ks, 0 ≤ s.pm k ∧ s.pm k < 8
  room : s.ks.length ≤ s.most
  great : s.most ≤ 64
  touched : w.ownsRow 0 23 1 s.tv s.ts.length (words s.ts)
  few : s.ts.length ≤ s.c
/-- The blocks of a memory. -/
def foot (s : MS) (b : Nat) : Prop := b = s.mb ∨ b = s.bm ∨ (∃ k ∈ s.ks, b = s.hb k) ∨ (∃ k ∈ s.ks, b = s.pb k) ∨ s.tv.ownBlock = some b
theorem ownsRow_same {w w' : World} {v : Value} {n : Nat} {xs : List Value} {base size : Nat} {e : TypeId} (h : w.ownsRow base e size v n xs) (hb : ∀ g, v.ownBlock = some g → w'.heap[g]? = w.heap[g]?) : w'.ownsRow base e size v n xs := by
  refine ⟨h.1, ?_⟩
  rcases h.2 with h | ⟨g, cap, cur, rfl, h1, h2, h3⟩
  · exact .inl h
  · exact .inr ⟨g, cap, cur, rfl, h1, (hb g rfl).trans h2, h3⟩
theorem MemW.same {w w' : World} {s : MS} (h : MemW w s) (hb : ∀ b, foot s b → w'.heap[b]? = w.heap[b]?) : MemW w' s :=
  ⟨(hb _ (.inl rfl)).trans h.self, (hb _ (.inr (.inl rfl))).trans h.map, fun k hk => (hb _ (.inr (.inr (.inl ⟨k, hk, rfl⟩)))).trans (h.held k hk),
    fun k hk => let ⟨n, h0, h1, h2⟩ := h.page k hk; ⟨n, h0, h1, h2.same (hb _ (.inr (.inr (.inr (.inl ⟨k, hk, rfl⟩)))))⟩,
    h.nodup, h.hbi, h.pbi, h.key, h.perm, h.room, h.great, ownsRow_same h.touched fun g hg => hb g (.inr (.inr (.inr (.inr hg)))), h.few⟩
theorem MemW.lt {w : World} {s : MS} (h : MemW w s) {b : Nat} (hb : foot s b) : b < w.heap.size := by
  rcases hb with rfl | rfl | ⟨k, hk, rfl⟩ | ⟨k, hk, rfl⟩ | hb
  · exact (Array.getElem?_eq_some_iff.1 h.self).1
  · exact (Array.getElem?_eq_some_iff.1 h.map).1
  · exact (Array.getElem?_eq_some_iff.1 (h.held k hk)).1
  · obtain ⟨n, _, _, hp⟩ := h.page k hk
    exact hp.lt
  · rcases h.touched.2 with ⟨e, _⟩ | ⟨g, cap, cur, e, _, hg, _⟩
    · rw [e] at hb; simp [Value.ownBlock] at hb
    · rw [e] at hb
      simp [Value.ownBlock] at hb
      subst hb
      exact (Array.getElem?_eq_some_iff.1 hg).1
theorem MemW.keep {F : Nat → Prop} {w w' : World} {s : MS} (h : MemW w s) (hk : Keep F w w') (hf : ∀ b, foot s b → ¬ F b) : MemW w' s := h.same fun b hb => hk.block b (h.lt hb) (hf b hb)
theorem MemW.later {w w' : World} {s : MS} (h : MemW w s) (hb : Below w.heap.size w w') : MemW w' s := h.same fun b hf => hb.block b (h.lt hf)
theorem MemW.drewN {w : World} {s : MS} (h : MemW w s) (n : Nat) : MemW (w.drewN n) s := h.same fun _ _ => rfl
/-- A memory's blocks are of several kinds, so one is none of another kind. -/
theorem MemW.hb_ne_mb {w : World} {s : MS} (h : MemW w s) {k : Nat} (hk : k ∈ s.ks) : s.hb k ≠ s.mb := fun e => by have h1 := h.held k hk; rw [e, h.self] at h1; simp at h1
theorem MemW.hb_ne_bm {w : World} {s : MS} (h : MemW w s) {k : Nat} (hk : k ∈ s.ks) : s.hb k ≠ s.bm := fun e => by have h1 := h.held k hk; rw [e, h.map] at h1; simp [mapObj] at h1
theorem MemW.mb_ne_bm {w : World} {s : MS} (h : MemW w s) : s.mb ≠ s.bm := fun e => by have h1 := h.self; rw [e, h.map] at h1; simp [mapObj] at h1
theorem MemW.pb_ne_mb {w : World} {s : MS} (h : MemW w s) {k : Nat} (hk : k ∈ s.ks) : s.pb k ≠ s.mb := fun e => by obtain ⟨n, _, _, h1⟩ := h.page k hk; have h1 := h1.blk; rw [e, h.self] at h1; simp at h1
theorem MemW.pb_ne_bm {w : World} {s : MS} (h : MemW w s) {k : Nat} (hk : k ∈ s.ks) : s.pb k ≠ s.bm := fun e => by obtain ⟨n, _, _, h1⟩ := h.page k hk; have h1 := h1.blk; rw [e, h.map] at h1; simp [mapObj] at h1
theorem MemW.pb_ne_hb {w : World} {s : MS} (h : MemW w s) {k j : Nat} (hk : k ∈ s.ks) (hj : j ∈ s.ks) : s.pb k ≠ s.hb j := fun e => by obtain ⟨n, _, _, h1⟩ := h.page k hk; have h1 := h1.blk; rw [e, h.held j hj] at h1; simp at h1
theorem MemW.tv_cells {w : World} {s : MS} (h : MemW w s) {g : Nat} (hg : s.tv.ownBlock = some g) : ∃ cur, w.heap[g]? = some (.cells cur 23 (0, 0)) := by
  rcases h.touched.2 with ⟨e, _⟩ | ⟨g', cap, cur, e, _, hc, _⟩
  · rw [e] at hg; simp [Value.ownBlock] at hg
  · rw [e] at hg
    simp [Value.ownBlock] at hg
    subst hg
    exact ⟨cur, hc⟩
theorem MemW.tv_ne_mb {w : World} {s : MS} (h : MemW w s) {g : Nat} (hg : s.tv.ownBlock = some g) : g ≠ s.mb := fun e => by obtain ⟨cur, h1⟩ := h.tv_cells hg; rw [e, h.self] at h1; simp at h1
theorem MemW.tv_ne_bm {w : World} {s : MS} (h : MemW w s) {g : Nat} (hg : s.tv.ownBlock = some g) : g ≠ s.bm := fun e => by obtain ⟨cur, h1⟩ := h.tv_cells hg; rw [e, h.map] at h1; simp [mapObj] at h1
theorem MemW.tv_ne_hb {w : World} {s : MS} (h : MemW w s) {g k : Nat} (hg : s.tv.ownBlock = some g) (hk : k ∈ s.ks) : g ≠ s.hb k := fun e => by obtain ⟨cur, h1⟩ := h.tv_cells hg; rw [e, h.held k hk] at h1; simp at h1
theorem MemW.tv_ne_pb {w : World} {s : MS} (h : MemW w s) {g k : Nat} (hg : s.tv.ownBlock = some g) (hk : k ∈ s.ks) : g ≠ s.pb k := fun e => by obtain ⟨cur, h1⟩ := h.tv_cells hg; obtain ⟨n, _, _, h2⟩ := h.page k hk; rw [e, h2.blk] at h1; simp at h1
theorem MemW.cell0 {w : World} {s : MS} (h : MemW w s) : w.cell? ⟨s.mb, 0, none⟩ = some (.map (some s.bm)) := by rw [cell_of_row _ _ _ _ _ _ h.self]; rfl
theorem MemW.cell1 {w : World} {s : MS} (h : MemW w s) : w.cell? ⟨s.mb, 1, none⟩ = some (.int .i64 (s.ks.length : Int)) := by rw [cell_of_row _ _ _ _ _ _ h.self]; rfl
theorem MemW.cell2 {w : World} {s : MS} (h : MemW w s) : w.cell? ⟨s.mb, 2, none⟩ = some (.int .i64 (s.most : Int)) := by rw [cell_of_row _ _ _ _ _ _ h.self]; rfl
theorem MemW.cell3 {w : World} {s : MS} (h : MemW w s) : w.cell? ⟨s.mb, 3, none⟩ = some s.tv := by rw [cell_of_row _ _ _ _ _ _ h.self]; rfl
theorem MemW.thaw {w : World} {s : MS} (h : MemW w s) (j : Nat) : w.frozen? ⟨s.mb, j, none⟩ = false := frozen_of_row _ _ _ _ _ h.self
theorem MemW.held0 {w : World} {s : MS} (h : MemW w s) {k : Nat} (hk : k ∈ s.ks) : w.cell? ⟨s.hb k, 0, none⟩ = some (.pointer (some ⟨s.pb k, 0, none⟩)) := by rw [cell_of_row _ _ _ _ _ _ (h.held k hk)]; rfl
theorem MemW.held1 {w : World} {s : MS} (h : MemW w s) {k : Nat} (hk : k ∈ s.ks) : w.cell? ⟨s.hb k, 1, none⟩ = some (.bool (s.on k)) := by rw [cell_of_row _ _ _ _ _ _ (h.held k hk)]; rfl
theorem MemW.heldThaw {w : World} {s : MS} (h : MemW w s) {k : Nat} (hk : k ∈ s.ks) (j : Nat) : w.frozen? ⟨s.hb k, j, none⟩ = false := frozen_of_row _ _ _ _ _ (h.held k hk)
/-- A place's page. -/
def pageOf (a : Nat) : Nat := a - a % 256
theorem pageOf_mod (a : Nat) : pageOf a % 256 = 0 := by unfold pageOf; omega
theorem pageOf_le (a : Nat) : pageOf a ≤ a := by unfold pageOf; omega
/-- The byte at a place. -/
def MS.get (s : MS) (a : Nat) : UInt8 := if pageOf a ∈ s.ks then (s.data (pageOf a)).getD (a % 256) 0 else 0
end Go.Proofs.Ytodoenimlhldjaa
