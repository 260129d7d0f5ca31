/- A memory's map: its keys in the order in which they came, each with the block of what is held there; looked up, laid into, gone through. -/
import Derived.Test.YtodoenimlhldjaaBMAB
import Derived.Maps.RangeWalk
import Derived.Maps.AppendAt
import Derived.Deep.Draws
import Derived.Deep.QuietTactic
import Derived.BigQuiet
import Derived.Outline
import Derived.StillTail
namespace Go.Proofs.Ytodoenimlhldjaa
open Go.ChangeShapes Go.WideShapes Go.ChangeAt Go.RowKit
set_option linter.unusedVariables false
/-- The entries of keys, the first one born at i. -/
def entsFrom (hb : Nat → Nat) : Nat → List Nat → List MapEntry
  | _, [] => []
  | i, k :: ks => { key := .int .u32 (k : Int), val := .pointer (some ⟨hb k, 0, none⟩), born := i } :: entsFrom hb (i + 1) ks
def mapObj (hb : Nat → Nat) (ks : List Nat) : Obj := .map (entsFrom hb 0 ks).toArray ks.length
theorem ents_append (hb : Nat → Nat) : ∀ (ks : List Nat) (i k : Nat), entsFrom hb i (ks ++ [k]) = entsFrom hb i ks ++ [{ key := .int .u32 (k : Int), val := .pointer (some ⟨hb k, 0, none⟩), born := i + ks.length }]
  | [], i, k => by simp [entsFrom]
  | a :: ks, i, k => by
    simp only [List.cons_append, entsFrom, ents_append hb ks (i + 1) k, List.length_cons]
    rw [show i + 1 + ks.length = i + (ks.length + 1) by omega]
theorem ents_congr {hb hb' : Nat → Nat} : ∀ (ks : List Nat) (i : Nat), (∀ k ∈ ks, hb k = hb' k) → entsFrom hb i ks = entsFrom hb' i ks
  | [], _, _ => rfl
  | a :: ks, i, h => by
    simp only [entsFrom]
    rw [h a (by simp), ents_congr ks (i + 1) fun k hk => h k (by simp [hk])]
theorem ents_length (hb : Nat → Nat) : ∀ (ks : List Nat) (i : Nat), (entsFrom hb i ks).length = ks.length
  | [], _ => rfl
  | _ :: ks, i => by simp [entsFrom, ents_length hb ks (i + 1)]
theorem ents_mem {hb : Nat → Nat} : ∀ {ks : List Nat} {i : Nat} {e : MapEntry}, e ∈ entsFrom hb i ks → ∃ j k : Nat, ks[j]? = some k ∧ e = { key := .int .u32 (k : Int), val := .pointer (some ⟨hb k, 0, none⟩), born := i + j }
  | [], _, _, h => by simp [entsFrom] at h
  | a :: ks, i, e, h => by
    rcases List.mem_cons.1 h with rfl | h
    · exact ⟨0, a, rfl, rfl⟩
    · obtain ⟨j, k, h1, h2⟩ := ents_mem h
      exact ⟨j + 1, k, by simpa using h1, by rw [h2]; simp; omega⟩
theorem ents_get {hb : Nat → Nat} : ∀ {ks : List Nat} {i j k : Nat}, ks[j]? = some k → ({ key := .int .u32 (k : Int), val := .pointer (some ⟨hb k, 0, none⟩), born := i + j } : MapEntry) ∈ entsFrom hb i ks
  | [], _, _, _, h => by simp at h
  | a :: ks, i, 0, k, h => by
    simp at h
    subst h
    simp [entsFrom]
  | a :: ks, i, j + 1, k, h => by
    have := ents_get (hb := hb) (ks := ks) (i := i + 1) (j := j) (k := k) (by simpa using h)
    rw [show i + 1 + j = i + (j + 1) by omega] at this
    exact List.mem_cons_of_mem _ this
theorem ents_born (hb : Nat → Nat) : ∀ (ks : List Nat) (i : Nat), ((entsFrom hb i ks).map (·.born)) = List.range' i ks.length
  | [], _ => rfl
  | a :: ks, i => by simp [entsFrom, ents_born hb ks (i + 1), List.range'_succ]
theorem find_in_ents (hb : Nat → Nat) (k : Nat) : ∀ (ks : List Nat) (i j : Nat), k ∈ ks → ∃ q, Instr.findNow (.int .u32) (.int .u32 (k : Int)) (entsFrom hb i ks) j = some (some (q, .pointer (some ⟨hb k, 0, none⟩)))
  | [], _, _, h => by simp at h
  | a :: ks, i, j, h => by
    by_cases e : k = a
    · subst e
      exact ⟨j, by simp [entsFrom, Instr.findNow, Instr.sameNow]⟩
    · obtain ⟨q, hq⟩ := find_in_ents hb k ks (i + 1) (j + 1) (by simpa [e] using h)
      refine ⟨q, ?_⟩
      have e' : ((k : Int) == (a : Int)) = false := by simp; omega
      simp only [entsFrom, Instr.findNow, Instr.sameNow, if_true, e']
      exact hq
theorem find_out_ents (hb : Nat → Nat) (k : Nat) : ∀ (ks : List Nat) (i j : Nat), k ∉ ks → Instr.findNow (.int .u32) (.int .u32 (k : Int)) (entsFrom hb i ks) j = some none
  | [], _, _, _ => rfl
  | a :: ks, i, j, h => by
    have e : k ≠ a := fun e => h (by simp [e])
    have e' : ((k : Int) == (a : Int)) = false := by simp; omega
    simp only [entsFrom, Instr.findNow, Instr.sameNow, if_true, e']
    exact find_out_ents hb k ks (i + 1) (j + 1) fun h' => h (by simp [h'])
theorem zero71 (w : World) : (zeroValue 103).run Try.prog w = .ok (.pointer none) w := by kernel_rfl
theorem key27 (e : Bool) (k : Nat) (w : World) : (Instr.checkKey e 10000 23 (.int .u32 (k : Int))).run Try.prog w = .ok () w := MapKept.run_checkKey (k := .int .u32 (k : Int)) Try.underlying23 (by simp [MapKept.IsKey]) e 9999
theorem run_look_in {w : World} {bm : Nat} {hb : Nat → Nat} {ks : List Nat} (h : w.heap[bm]? = some (mapObj hb ks)) {k : Nat} (hk : k ∈ ks) : (Instr.lookup 86 (.map (some bm)) (.int .u32 (k : Int)) false).run Try.prog w = .ok (.pointer (some ⟨hb k, 0, none⟩)) w := by
  obtain ⟨q, hq⟩ := find_in_ents hb k ks 0 0 hk
  have hg : (getObj bm).run Try.prog w = .ok (mapObj hb ks) w := by simp [getObj, Sem.run, h]; rfl
  have hf := MapKept.run_findKey (P := Try.prog) (w := w) Try.underlying23 hq
  unfold Instr.lookup
  simp only [Sem.run_bind, run_underlying Try.underlying86, Result.andThen_ok, hg, mapObj, Sem.run_pure, key27, hf]
  rfl
theorem run_look_out {w : World} {bm : Nat} {hb : Nat → Nat} {ks : List Nat} (h : w.heap[bm]? = some (mapObj hb ks)) {k : Nat} (hk : k ∉ ks) : (Instr.lookup 86 (.map (some bm)) (.int .u32 (k : Int)) false).run Try.prog w = .ok (.pointer none) w := by
  have hg : (getObj bm).run Try.prog w = .ok (mapObj hb ks) w := by simp [getObj, Sem.run, h]; rfl
  have hf := MapKept.run_findKey (P := Try.prog) (w := w) Try.underlying23 (find_out_ents hb k ks 0 0 hk)
  unfold Instr.lookup
  simp only [Sem.run_bind, run_underlying Try.underlying86, Result.andThen_ok, hg, mapObj, Sem.run_pure, key27, hf, zero71]
  rfl
/-- What stands at a key, and another one there. -/
def upd {α : Type} (f : Nat → α) (k : Nat) (x : α) : Nat → α := fun j => if j = k then x else f j
theorem upd_same {α : Type} (f : Nat → α) (k : Nat) (x : α) : upd f k x k = x := by simp [upd]
theorem upd_other {α : Type} (f : Nat → α) {k j : Nat} (x : α) (h : j ≠ k) : upd f k x j = f j := by simp [upd, h]
theorem run_lay {w : World} {bm : Nat} {hb : Nat → Nat} {ks : List Nat} (h : w.heap[bm]? = some (mapObj hb ks)) {k : Nat} (hk : k ∉ ks) (b : Nat) :
    (Instr.mapUpdate 86 (.map (some bm)) (.int .u32 (k : Int)) (.pointer (some ⟨b, 0, none⟩))).run Try.prog w = .ok () (ChangeMaps.setBlock w bm (mapObj (upd hb k b) (ks ++ [k]))) := by
  have hg : (getObj bm).run Try.prog w = .ok (mapObj hb ks) w := by simp [getObj, Sem.run, h]; rfl
  have hf := MapKept.run_findKey (P := Try.prog) (w := w) Try.underlying23 (find_out_ents hb k ks 0 0 hk)
  have he : (entsFrom hb 0 ks).toArray.push { key := .int .u32 (k : Int), val := .pointer (some ⟨b, 0, none⟩), born := ks.length } = (entsFrom (upd hb k b) 0 (ks ++ [k])).toArray := by
    rw [ents_append, upd_same, Nat.zero_add, ← ents_congr (hb := hb) ks 0 (fun j hj => (upd_other hb b (fun e => hk (by rw [← e]; exact hj))).symm)]
    simp
  unfold Instr.mapUpdate
  simp only [Sem.run_bind, run_underlying Try.underlying86, Result.andThen_ok, hg, mapObj, key27, hf, he]
  simp [setObj, Sem.run, h, mapObj, ChangeMaps.setBlock]
/-- The map is gone through: these keys are still to come. -/
structure It (w : World) (r bm : Nat) (ks todo : List Nat) : Prop where
  now : ∃ seen c0, w.heap[r]? = some (.mapIter (some bm) ks.length seen c0) ∧ ks.length ≤ c0 ∧ ∀ i k, ks[i]? = some k → (k ∈ todo ↔ seen.contains i = false)
  nodup : todo.Nodup
  sub : ∀ k ∈ todo, k ∈ ks
theorem It.lt {w : World} {r bm : Nat} {ks todo : List Nat} (h : It w r bm ks todo) : r < w.heap.size := by
  obtain ⟨seen, c0, h1, _⟩ := h.now
  exact (Array.getElem?_eq_some_iff.1 h1).1
theorem It.same {w w' : World} {r bm : Nat} {ks todo : List Nat} (h : It w r bm ks todo) (hb : w'.heap[r]? = w.heap[r]?) : It w' r bm ks todo := by
  obtain ⟨seen, c0, h1, h2, h3⟩ := h.now
  exact ⟨⟨seen, c0, hb.trans h1, h2, h3⟩, h.nodup, h.sub⟩
theorem run_range {w : World} {bm : Nat} {hb : Nat → Nat} {ks : List Nat} (h : w.heap[bm]? = some (mapObj hb ks)) : (Instr.range 86 (.map (some bm))).run Try.prog w = .ok (.pointer (some ⟨w.heap.size, 0, none⟩)) (w.alloc (.mapIter (some bm) ks.length #[] ks.length)) :=
  run_range_map w 86 23 103 bm _ _ Try.underlying86 h
theorem it_start {w : World} {bm : Nat} {ks : List Nat} (hn : ks.Nodup) : It (w.alloc (.mapIter (some bm) ks.length #[] ks.length)) w.heap.size bm ks ks :=
  ⟨⟨#[], ks.length, heap_alloc_new w _, Nat.le_refl _, fun i k hk => by simp [List.mem_of_getElem? hk]⟩, hn, fun _ h => h⟩
theorem nodup_at {ks : List Nat} (hn : ks.Nodup) {i j k : Nat} (hi : ks[i]? = some k) (hj : ks[j]? = some k) : i = j := by
  obtain ⟨h1, e1⟩ := List.getElem?_eq_some_iff.1 hi
  obtain ⟨h2, e2⟩ := List.getElem?_eq_some_iff.1 hj
  rcases Nat.lt_trichotomy i j with h | h | h
  · exact absurd (e1.trans e2.symm) (List.pairwise_iff_getElem.1 hn i j h1 h2 h)
  · exact h
  · exact absurd (e2.trans e1.symm) (List.pairwise_iff_getElem.1 hn j i h2 h1 h)
theorem run_next {w : World} {r bm : Nat} {hb : Nat → Nat} {ks todo : List Nat} (h : It w r bm ks todo) (hm : w.heap[bm]? = some (mapObj hb ks)) (hn : ks.Nodup) (ty : TypeId) :
    (todo = [] ∧ (Instr.next (.pointer (some ⟨r, 0, none⟩)) false ty).run Try.prog w = .ok (.tuple #[.bool false]) w) ∨
    ∃ k w', k ∈ todo ∧ (Instr.next (.pointer (some ⟨r, 0, none⟩)) false ty).run Try.prog w = .ok (.tuple #[.bool true, .int .u32 (k : Int), .pointer (some ⟨hb k, 0, none⟩)]) w' ∧
      It w' r bm ks (todo.erase k) ∧ Only r w w' ∧ (Instr.entry (.pointer (some ⟨r, 0, none⟩))).run Try.prog w' = .ok (.tuple #[.int .u32 (k : Int), .pointer (some ⟨hb k, 0, none⟩)]) w' := by
  obtain ⟨seen, c0, h1, h2, h3⟩ := h.now
  have hne : bm ≠ r := fun e => by rw [e, h1] at hm; simp [mapObj] at hm
  have hborn : ∀ x ∈ (entsFrom hb 0 ks).toArray.toList, x.born < ks.length := by
    intro x hx
    obtain ⟨j, k, hj, rfl⟩ := ents_mem (by simpa using hx)
    have := (List.getElem?_eq_some_iff.1 hj).1
    simpa using this
  rcases run_next_at (P := Try.prog) w ty r bm ks.length c0 seen _ _ h1 hm hborn h2 with ⟨h0, hrun⟩ | ⟨e, he, w1, hw1, hrun⟩
  · refine .inl ⟨?_, hrun⟩
    rw [List.eq_nil_iff_forall_not_mem]
    intro k hk
    obtain ⟨j, hj⟩ := List.getElem?_of_mem (h.sub k hk)
    have hs := (h3 j k hj).1 hk
    have hmem := ents_get (hb := hb) (i := 0) hj
    have hl : leftOf (entsFrom hb 0 ks).toArray seen = #[] := Array.eq_empty_of_size_eq_zero h0
    have : ({ key := .int .u32 (k : Int), val := .pointer (some ⟨hb k, 0, none⟩), born := 0 + j } : MapEntry) ∈ leftOf (entsFrom hb 0 ks).toArray seen := by
      unfold leftOf
      rw [Array.mem_filter]
      exact ⟨by simpa using hmem, by simpa using hs⟩
    rw [hl] at this
    simp at this
  · obtain ⟨hem, hes⟩ := mem_left he
    obtain ⟨j, k, hj, rfl⟩ := ents_mem (by simpa using hem)
    simp only [Nat.zero_add] at hes hrun hem
    have hr1 : w1.heap[r]? = some (.mapIter (some bm) ks.length seen c0) := by rcases hw1 with rfl | rfl <;> exact h1
    have hb1 : w1.heap[bm]? = some (mapObj hb ks) := by rcases hw1 with rfl | rfl <;> exact hm
    have hset := MapKept.heap_set (o' := .mapIter (some bm) ks.length (seen.push j) ks.length) hr1
    have hk : k ∈ todo := (h3 j k hj).2 hes
    refine .inr ⟨k, _, hk, hrun, ⟨⟨_, _, hset.1, Nat.le_refl _, ?_⟩, h.nodup.erase k, fun q hq => h.sub q (List.mem_of_mem_erase hq)⟩, ?_, ?_⟩
    · intro i q hq
      rw [List.Nodup.mem_erase_iff h.nodup, h3 i q hq]
      by_cases e : q = k
      · subst e
        have := nodup_at hn hq hj
        subst this
        simp
      · have hij : i ≠ j := fun e' => by subst e'; rw [hj] at hq; exact e (by simpa using hq.symm)
        simp [e, hij]
    · have ho : Only r w1 (ChangeMaps.setBlock w1 r (.mapIter (some bm) ks.length (seen.push j) ks.length)) := ⟨rfl, rfl, rfl, by simp [ChangeMaps.setBlock], fun q hq => hset.2 q hq⟩
      rcases hw1 with rfl | rfl
      · exact ho
      · exact ((Only.refl r w).drew).trans ho
    · refine run_entry_at (P := Try.prog) _ r bm ks.length seen (entsFrom hb 0 ks).toArray ks.length _ ?_ ((hset.2 bm hne).trans hb1) hem ?_
      · exact hset.1
      · simp only [ents_born]
        exact List.nodup_range'
end Go.Proofs.Ytodoenimlhldjaa
namespace Go.Proofs.Ytodoenimlhldjaa
open Go.ChangeShapes Go.WideShapes Go.ChangeAt Go.RowKit
set_option linter.unusedVariables false
/-- Nothing has turned but blocks of F, and new ones. -/
structure Keep (F : Nat → Prop) (w w' : World) : Prop where
  os : w'.os = w.os
  tape : w'.tape = w.tape
  output : w'.output = w.output
  size : w.heap.size ≤ w'.heap.size
  block : ∀ k, k < w.heap.size → ¬ F k → w'.heap[k]? = w.heap[k]?
def nought : Nat → Prop := fun _ => False
theorem Keep.refl (F : Nat → Prop) (w : World) : Keep F w w := ⟨rfl, rfl, rfl, Nat.le_refl _, fun _ _ _ => rfl⟩
theorem Keep.trans {F G : Nat → Prop} {u v w : World} (h : Keep F u v) (k : Keep G v w) (hg : ∀ b, b < u.heap.size → G b → F b) : Keep F u w :=
  ⟨k.os.trans h.os, k.tape.trans h.tape, k.output.trans h.output, Nat.le_trans h.size k.size, fun b hb hf => (k.block b (Nat.lt_of_lt_of_le hb h.size) fun hgb => hf (hg b hb hgb)).trans (h.block b hb hf)⟩
theorem Keep.mono {F G : Nat → Prop} {w w' : World} (h : Keep F w w') (hg : ∀ b, b < w.heap.size → F b → G b) : Keep G w w' := ⟨h.os, h.tape, h.output, h.size, fun b hb hn => h.block b hb fun hf => hn (hg b hb hf)⟩
theorem Keep.below {F : Nat → Prop} {w w' : World} {B : Nat} (h : Keep F w w') (hB : B ≤ w.heap.size) (hf : ∀ b, F b → B ≤ b) : Below B w w' :=
  ⟨h.os, h.tape, h.output, h.size, fun b hb => h.block b (by omega) fun hF => by have := hf b hF; omega⟩
theorem Keep.of_below {F : Nat → Prop} {w w' : World} (h : Below w.heap.size w w') : Keep F w w' := ⟨h.os, h.tape, h.output, h.size, fun b hb _ => h.block b hb⟩
theorem Keep.of_only {b : Nat} {w w' : World} (h : Only b w w') : Keep (· = b) w w' := ⟨h.os, h.tape, h.output, Nat.le_of_eq h.size.symm, fun k _ hk => h.block k hk⟩
theorem Keep.drewN {F : Nat → Prop} {u w : World} (h : Keep F u w) (n : Nat) : Keep F u (w.drewN n) := ⟨h.os, h.tape, h.output, h.size, h.block⟩
theorem Keep.grown {w w' : World} {row : Option Nat} (h : w.grownBy w' row) : Keep (fun b => row = some b) w w' := ⟨h.os, h.tape, h.output, h.size, fun b hb hn => h.block b hb fun e => hn e.symm⟩
theorem below_drewN {B : Nat} {u w : World} (h : Below B u w) (n : Nat) : Below B u (w.drewN n) := ⟨h.os, h.tape, h.output, h.size, h.block⟩
theorem keep_alloc (F : Nat → Prop) (w : World) (o : Obj) : Keep F w (w.alloc o) := Keep.of_below ((Below.refl _ _).alloc (Nat.le_refl _) o)
theorem keep_setCell (w : World) (b j : Nat) (v : Value) : Keep (· = b) w (w.setCell ⟨b, j, none⟩ v) := Keep.of_only ((Only.refl b w).setCell j v)
theorem keep_setBlock {w : World} {b : Nat} {o : Obj} (h : w.heap[b]? = some o) (o' : Obj) : Keep (· = b) w (ChangeMaps.setBlock w b o') :=
  ⟨rfl, rfl, rfl, by simp [ChangeMaps.setBlock], fun k _ hk => (MapKept.heap_set (o' := o') h).2 k hk⟩
/-- A memory: its blocks, and what it says. -/
structure MS where
  mb : Nat
  bm : Nat
  ks : List Nat
  hb : Nat → Nat
  pb : Nat → Nat
  data : Nat → List UInt8
  pm : Nat → Int
  on : Nat → Bool
  most : Nat
  tv : Value
  ts : List Nat
  c : Nat
def words (ts : List Nat) : List Value := ts.map fun a : Nat => Value.int .u32 (a : Int)
theorem words_len (ts : List Nat) : (words ts).length = ts.length := by simp [words]
theorem words_append (ts us : List Nat) : words (ts ++ us) = words ts ++ words us := by simp [words]
theorem words_get (l : List Nat) (j : Nat) (h : j < l.length) : (words l)[j]? = some (Value.int .u32 ((l.getD j 0 : Nat) : Int)) := by
  simp [words, List.getD_eq_getElem?_getD, List.getElem?_eq_getElem h]
theorem words_one (l : List Nat) : ∀ u ∈ words l, u.oneCell' = true := by
  intro u hu
  simp only [words, List.mem_map] at hu
  obtain ⟨n, _, rfl⟩ := hu
  rfl
def mcells (s : MS) : Array Value := #[.map (some s.bm), .int .i64 (s.ks.length : Int), .int .i64 (s.most : Int), s.tv]
def hcells (s : MS) (k : Nat) : Array Value := #[.pointer (some ⟨s.pb k, 0, none⟩), .bool (s.on k)]
structure MemW (w : World) (s : MS) : Prop where
  self : w.heap[s.mb]? = some (.cells (mcells s) 93 (0, 0))
  map : w.heap[s.bm]? = some (mapObj s.hb s.ks)
  held : ∀ k ∈ s.ks, w.heap[s.hb k]? = some (.cells (hcells s k) 107 (0, 0))
  page : ∀ k ∈ s.ks, ∃ n : Int, 0 ≤ n ∧ n ≤ (s.c : Int) ∧ Pg 127 w (s.pb k) (s.data k) (s.pm k) n
  nodup : s.ks.Nodup
  hbi : ∀ k ∈ s.ks, ∀ j ∈ s.ks, s.hb k = s.hb j → k = j
  pbi : ∀ k ∈ s.ks, ∀ j ∈ s.ks, s.pb k = s.pb j → k = j
  key : ∀ k ∈ s.ks, k < 4294967296 ∧ k % 256 = 0
  perm : ∀ k ∈ s.ks, 0 ≤ s.pm k ∧ s.pm k < 8
  room : s.ks.length ≤ s.most
  great : s.most ≤ 64
  touched : w.ownsRow 0 23 1 s.tv s.ts.length (words s.ts)
  few : s.ts.length ≤ s.c
/-- The blocks of a memory. -/
def foot (s : MS) (b : Nat) : Prop := b = s.mb ∨ b = s.bm ∨ (∃ k ∈ s.ks, b = s.hb k) ∨ (∃ k ∈ s.ks, b = s.pb k) ∨ s.tv.ownBlock = some b
theorem ownsRow_same {w w' : World} {v : Value} {n : Nat} {xs : List Value} {base size : Nat} {e : TypeId} (h : w.ownsRow base e size v n xs) (hb : ∀ g, v.ownBlock = some g → w'.heap[g]? = w.heap[g]?) : w'.ownsRow base e size v n xs := by
  refine ⟨h.1, ?_⟩
  rcases h.2 with h | ⟨g, cap, cur, rfl, h1, h2, h3⟩
  · exact .inl h
  · exact .inr ⟨g, cap, cur, rfl, h1, (hb g rfl).trans h2, h3⟩
theorem MemW.same {w w' : World} {s : MS} (h : MemW w s) (hb : ∀ b, foot s b → w'.heap[b]? = w.heap[b]?) : MemW w' s :=
  ⟨(hb _ (.inl rfl)).trans h.self, (hb _ (.inr (.inl rfl))).trans h.map, fun k hk => (hb _ (.inr (.inr (.inl ⟨k, hk, rfl⟩)))).trans (h.held k hk),
    fun k hk => let ⟨n, h0, h1, h2⟩ := h.page k hk; ⟨n, h0, h1, h2.same (hb _ (.inr (.inr (.inr (.inl ⟨k, hk, rfl⟩)))))⟩,
    h.nodup, h.hbi, h.pbi, h.key, h.perm, h.room, h.great, ownsRow_same h.touched fun g hg => hb g (.inr (.inr (.inr (.inr hg)))), h.few⟩
theorem MemW.lt {w : World} {s : MS} (h : MemW w s) {b : Nat} (hb : foot s b) : b < w.heap.size := by
  rcases hb with rfl | rfl | ⟨k, hk, rfl⟩ | ⟨k, hk, rfl⟩ | hb
  · exact (Array.getElem?_eq_some_iff.1 h.self).1
  · exact (Array.getElem?_eq_some_iff.1 h.map).1
  · exact (Array.getElem?_eq_some_iff.1 (h.held k hk)).1
  · obtain ⟨n, _, _, hp⟩ := h.page k hk
    exact hp.lt
  · rcases h.touched.2 with ⟨e, _⟩ | ⟨g, cap, cur, e, _, hg, _⟩
    · rw [e] at hb; simp [Value.ownBlock] at hb
    · rw [e] at hb
      simp [Value.ownBlock] at hb
      subst hb
      exact (Array.getElem?_eq_some_iff.1 hg).1
theorem MemW.keep {F : Nat → Prop} {w w' : World} {s : MS} (h : MemW w s) (hk : Keep F w w') (hf : ∀ b, foot s b → ¬ F b) : MemW w' s := h.same fun b hb => hk.block b (h.lt hb) (hf b hb)
theorem MemW.later {w w' : World} {s : MS} (h : MemW w s) (hb : Below w.heap.size w w') : MemW w' s := h.same fun b hf => hb.block b (h.lt hf)
theorem MemW.drewN {w : World} {s : MS} (h : MemW w s) (n : Nat) : MemW (w.drewN n) s := h.same fun _ _ => rfl
/-- A memory's blocks are of several kinds, so one is none of another kind. -/
theorem MemW.hb_ne_mb {w : World} {s : MS} (h : MemW w s) {k : Nat} (hk : k ∈ s.ks) : s.hb k ≠ s.mb := fun e => by have h1 := h.held k hk; rw [e, h.self] at h1; simp at h1
theorem MemW.hb_ne_bm {w : World} {s : MS} (h : MemW w s) {k : Nat} (hk : k ∈ s.ks) : s.hb k ≠ s.bm := fun e => by have h1 := h.held k hk; rw [e, h.map] at h1; simp [mapObj] at h1
theorem MemW.mb_ne_bm {w : World} {s : MS} (h : MemW w s) : s.mb ≠ s.bm := fun e => by have h1 := h.self; rw [e, h.map] at h1; simp [mapObj] at h1
theorem MemW.pb_ne_mb {w : World} {s : MS} (h : MemW w s) {k : Nat} (hk : k ∈ s.ks) : s.pb k ≠ s.mb := fun e => by obtain ⟨n, _, _, h1⟩ := h.page k hk; have h1 := h1.blk; rw [e, h.self] at h1; simp at h1
theorem MemW.pb_ne_bm {w : World} {s : MS} (h : MemW w s) {k : Nat} (hk : k ∈ s.ks) : s.pb k ≠ s.bm := fun e => by obtain ⟨n, _, _, h1⟩ := h.page k hk; have h1 := h1.blk; rw [e, h.map] at h1; simp [mapObj] at h1
theorem MemW.pb_ne_hb {w : World} {s : MS} (h : MemW w s) {k j : Nat} (hk : k ∈ s.ks) (hj : j ∈ s.ks) : s.pb k ≠ s.hb j := fun e => by obtain ⟨n, _, _, h1⟩ := h.page k hk; have h1 := h1.blk; rw [e, h.held j hj] at h1; simp at h1
theorem MemW.tv_cells {w : World} {s : MS} (h : MemW w s) {g : Nat} (hg : s.tv.ownBlock = some g) : ∃ cur, w.heap[g]? = some (.cells cur 23 (0, 0)) := by
  rcases h.touched.2 with ⟨e, _⟩ | ⟨g', cap, cur, e, _, hc, _⟩
  · rw [e] at hg; simp [Value.ownBlock] at hg
  · rw [e] at hg
    simp [Value.ownBlock] at hg
    subst hg
    exact ⟨cur, hc⟩
theorem MemW.tv_ne_mb {w : World} {s : MS} (h : MemW w s) {g : Nat} (hg : s.tv.ownBlock = some g) : g ≠ s.mb := fun e => by obtain ⟨cur, h1⟩ := h.tv_cells hg; rw [e, h.self] at h1; simp at h1
theorem MemW.tv_ne_bm {w : World} {s : MS} (h : MemW w s) {g : Nat} (hg : s.tv.ownBlock = some g) : g ≠ s.bm := fun e => by obtain ⟨cur, h1⟩ := h.tv_cells hg; rw [e, h.map] at h1; simp [mapObj] at h1
theorem MemW.tv_ne_hb {w : World} {s : MS} (h : MemW w s) {g k : Nat} (hg : s.tv.ownBlock = some g) (hk : k ∈ s.ks) : g ≠ s.hb k := fun e => by obtain ⟨cur, h1⟩ := h.tv_cells hg; rw [e, h.held k hk] at h1; simp at h1
theorem MemW.tv_ne_pb {w : World} {s : MS} (h : MemW w s) {g k : Nat} (hg : s.tv.ownBlock = some g) (hk : k ∈ s.ks) : g ≠ s.pb k := fun e => by obtain ⟨cur, h1⟩ := h.tv_cells hg; obtain ⟨n, _, _, h2⟩ := h.page k hk; rw [e, h2.blk] at h1; simp at h1
theorem MemW.cell0 {w : World} {s : MS} (h : MemW w s) : w.cell? ⟨s.mb, 0, none⟩ = some (.map (some s.bm)) := by rw [cell_of_row _ _ _ _ _ _ h.self]; rfl
theorem MemW.cell1 {w : World} {s : MS} (h : MemW w s) : w.cell? ⟨s.mb, 1, none⟩ = some (.int .i64 (s.ks.length : Int)) := by rw [cell_of_row _ _ _ _ _ _ h.self]; rfl
theorem MemW.cell2 {w : World} {s : MS} (h : MemW w s) : w.cell? ⟨s.mb, 2, none⟩ = some (.int .i64 (s.most : Int)) := by rw [cell_of_row _ _ _ _ _ _ h.self]; rfl
theorem MemW.cell3 {w : World} {s : MS} (h : MemW w s) : w.cell? ⟨s.mb, 3, none⟩ = some s.tv := by rw [cell_of_row _ _ _ _ _ _ h.self]; rfl
theorem MemW.thaw {w : World} {s : MS} (h : MemW w s) (j : Nat) : w.frozen? ⟨s.mb, j, none⟩ = false := frozen_of_row _ _ _ _ _ h.self
theorem MemW.held0 {w : World} {s : MS} (h : MemW w s) {k : Nat} (hk : k ∈ s.ks) : w.cell? ⟨s.hb k, 0, none⟩ = some (.pointer (some ⟨s.pb k, 0, none⟩)) := by rw [cell_of_row _ _ _ _ _ _ (h.held k hk)]; rfl
theorem MemW.held1 {w : World} {s : MS} (h : MemW w s) {k : Nat} (hk : k ∈ s.ks) : w.cell? ⟨s.hb k, 1, none⟩ = some (.bool (s.on k)) := by rw [cell_of_row _ _ _ _ _ _ (h.held k hk)]; rfl
theorem MemW.heldThaw {w : World} {s : MS} (h : MemW w s) {k : Nat} (hk : k ∈ s.ks) (j : Nat) : w.frozen? ⟨s.hb k, j, none⟩ = false := frozen_of_row _ _ _ _ _ (h.held k hk)
/-- A place's page. -/
def pageOf (a : Nat) : Nat := a - a % 256
theorem pageOf_mod (a : Nat) : pageOf a % 256 = 0 := by unfold pageOf; omega
theorem pageOf_le (a : Nat) : pageOf a ≤ a := by unfold pageOf; omega
/-- The byte at a place. -/
def MS.get (s : MS) (a : Nat) : UInt8 := if pageOf a ∈ s.ks then (s.data (pageOf a)).getD (a % 256) 0 else 0
end Go.Proofs.Ytodoenimlhldjaa
namespace Go.Proofs.Ytodoenimlhldjaa
open Go.ChangeShapes Go.WideShapes Go.ChangeAt Go.RowKit
set_option linter.unusedVariables false
theorem drewN_two {w w1 : World} {n : Nat} (h : w1 = w.drewN n) (m : Nat) : ∃ k, w1.drewN m = w.drewN k := ⟨n + m, by rw [h, World.drewN_drewN]⟩
theorem first_any (a : Nat) (h : a < 4294967296) (w : World) : Calls Try.prog 74 #[.int .u32 (a : Int)] w fun e w' => e = .returned (.int .u32 (pageOf a : Int)) ∧ w' = w := by
  have e : Ending.returned (.int .u32 ((pageOf a : Nat) : Int)) = .returned (.int .u32 ((a : Int) - (a : Int) % 256)) := ret_int (by unfold pageOf; omega)
  rw [e]
  clear e
  go_enter Try.func74, Try.ntmps74
  go_wp2
  go_ret
  exact ⟨rfl, rfl⟩
theorem within_any (a : Nat) (h : a < 4294967296) (w : World) : Calls Try.prog 60 #[.int .u32 (a : Int)] w fun e w' => e = .returned (.int .i64 ((a % 256 : Nat) : Int)) ∧ w' = w := by
  have e : Ending.returned (.int .i64 ((a % 256 : Nat) : Int)) = .returned (.int .i64 ((a : Int) % 256)) := ret_int (by omega)
  rw [e]
  clear e
  go_enter Try.func60, Try.ntmps60
  go_wp2
  go_ret
  exact ⟨rfl, rfl⟩
theorem find_in (w : World) (s : MS) (a : Nat) (h : MemW w s) (ha : a < 4294967296) (hk : pageOf a ∈ s.ks) : Calls Try.prog 53 #[.pointer (some ⟨s.mb, 0, none⟩), .int .u32 (a : Int)] w fun e w' => e = .returned (.pointer (some ⟨s.hb (pageOf a), 0, none⟩)) ∧ ∃ n, w' = w.drewN n := by
  have hc := h.cell0
  have hl := fun n => run_look_in (w := w.drewN n) h.map hk
  have H := fun w => hidden (first_any a ha w)
  clear h hk ha
  generalize pageOf a = k at hl H
  go_enter Try.func53, Try.ntmps53
  go_wp2
  go_quiet ((go_at_call 74; exact Calls.quiet_of_same (Hid.out (H _))))
  go_wp2
  go_ret
  exact ⟨rfl, _, rfl⟩
theorem find_out (w : World) (s : MS) (a : Nat) (h : MemW w s) (ha : a < 4294967296) (hk : pageOf a ∉ s.ks) : Calls Try.prog 53 #[.pointer (some ⟨s.mb, 0, none⟩), .int .u32 (a : Int)] w fun e w' => e = .returned (.pointer none) ∧ ∃ n, w' = w.drewN n := by
  have hc := h.cell0
  have hl := fun n => run_look_out (w := w.drewN n) h.map hk
  have H := fun w => hidden (first_any a ha w)
  clear h hk ha
  generalize pageOf a = k at hl H
  go_enter Try.func53, Try.ntmps53
  go_wp2
  go_quiet ((go_at_call 74; exact Calls.quiet_of_same (Hid.out (H _))))
  go_wp2
  go_ret
  exact ⟨rfl, _, rfl⟩
def MS.perm (s : MS) (a : Nat) : Int := if pageOf a ∈ s.ks then s.pm (pageOf a) else 0
theorem permOf_any (w : World) (s : MS) (a : Nat) (h : MemW w s) (ha : a < 4294967296) : Calls Try.prog 25 #[.pointer (some ⟨s.mb, 0, none⟩), .int .u32 (a : Int)] w fun e w' => e = .returned (.int .i64 (s.perm a)) ∧ ∃ n, w' = w.drewN n := by
  by_cases hk : pageOf a ∈ s.ks
  · have e : s.perm a = s.pm (pageOf a) := by unfold MS.perm; rw [if_pos hk]
    rw [e]
    have H := hidden (find_in w s a h ha hk)
    have hc := h.held0 hk
    obtain ⟨c, _, _, hp⟩ := h.page _ hk
    have H2 := fun n => hidden (perm_any (w.drewN n) _ _ _ _ (hp.same rfl))
    clear h hk ha e hp
    generalize pageOf a = k at hc H H2
    go_enter Try.func25, Try.ntmps25
    go_wp2_with (first | (go_at_call 53; refine (Hid.out H).mono ?_; rintro e w1 ⟨rfl, n, hww⟩; rw [hww]; clear hww w1) | (go_at_call 54; refine (Hid.out (H2 _)).mono ?_; rintro e w1 ⟨rfl, hww⟩; rw [hww]; clear hww w1))
    go_ret
    exact ⟨rfl, _, rfl⟩
  · have e : s.perm a = 0 := by unfold MS.perm; rw [if_neg hk]
    rw [e]
    have H := hidden (find_out w s a h ha hk)
    clear h hk ha e
    go_enter Try.func25, Try.ntmps25
    go_wp2_with (go_at_call 53; refine (Hid.out H).mono ?_; rintro e w1 ⟨rfl, n, hww⟩; rw [hww]; clear hww w1)
    go_ret
    exact ⟨rfl, _, rfl⟩
theorem getB_nat (l : List UInt8) (j : Nat) (h : j < 256) : getB l (j : Int) = l.getD j 0 := by
  unfold getB
  rw [if_pos ⟨by omega, by omega⟩, Int.toNat_natCast]
theorem peek_any (w : World) (s : MS) (a : Nat) (h : MemW w s) (ha : a < 4294967296) : Calls Try.prog 50 #[.pointer (some ⟨s.mb, 0, none⟩), .int .u32 (a : Int)] w fun e w' => e = .returned (.int .u8 ((s.get a).toNat : Int)) ∧ ∃ n, w' = w.drewN n := by
  by_cases hk : pageOf a ∈ s.ks
  · have e : s.get a = (s.data (pageOf a)).getD (a % 256) 0 := by unfold MS.get; rw [if_pos hk]
    rw [e]
    have H := hidden (find_in w s a h ha hk)
    have H3 := fun w => hidden (within_any a ha w)
    obtain ⟨c, _, _, hp⟩ := h.page _ hk
    have HC : Hid (∀ w1 n, w1 = w.drewN n → w1.cell? ⟨s.hb (pageOf a), 0, none⟩ = some (.pointer (some ⟨s.pb (pageOf a), 0, none⟩)) ∧ Pg 127 w1 (s.pb (pageOf a)) (s.data (pageOf a)) (s.pm (pageOf a)) c) := by
      intro w1 n e
      subst e
      exact ⟨h.held0 hk, hp.same rfl⟩
    have H2 : Hid (∀ w1, Pg 127 w1 (s.pb (pageOf a)) (s.data (pageOf a)) (s.pm (pageOf a)) c → Calls Try.prog 70 #[.pointer (some ⟨s.pb (pageOf a), 0, none⟩), .int .i64 ((a % 256 : Nat) : Int)] w1 fun e w' => e = .returned (.int .u8 (((s.data (pageOf a)).getD (a % 256) 0).toNat : Int)) ∧ w' = w1) := by
      intro w1 hp1
      have := byte_any w1 _ _ _ _ ((a % 256 : Nat) : Int) hp1
      rw [getB_nat _ _ (Nat.mod_lt _ (by omega))] at this
      exact this
    clear h hk ha e hp
    generalize a % 256 = j at H3 H2
    generalize pageOf a = k at H H2 HC
    generalize (s.data k).getD j 0 = x at H2
    go_enter Try.func50, Try.ntmps50
    go_wp2_with (go_at_call 53; refine (Hid.out H).mono ?_; rintro e w1 ⟨rfl, n, hww⟩; obtain ⟨hc, hp1⟩ := Hid.out HC w1 n hww; have HP := hidden hp1; have HW := hidden hww; clear hww hp1 HC)
    go_quiet (first | (go_at_call 60; exact Calls.quiet_of_same (Hid.out (H3 _))) | (go_at_call 70; exact Calls.quiet_of_same (Hid.out H2 _ (Pg.same (Hid.out HP) rfl))))
    go_wp2
    go_ret
    exact ⟨rfl, drewN_two (Hid.out HW) _⟩
  · have e : s.get a = 0 := by unfold MS.get; rw [if_neg hk]
    rw [e]
    have H := hidden (find_out w s a h ha hk)
    clear h hk ha e
    go_enter Try.func50, Try.ntmps50
    go_wp2_with (go_at_call 53; refine (Hid.out H).mono ?_; rintro e w1 ⟨rfl, n, hww⟩; rw [hww]; clear hww w1)
    go_ret
    exact ⟨rfl, _, rfl⟩
def MS.watched (s : MS) (a : Nat) : Bool := decide (pageOf a ∈ s.ks) && s.on (pageOf a)
end Go.Proofs.Ytodoenimlhldjaa
namespace Go.Proofs.Ytodoenimlhldjaa
open Go Go.RowKit
set_option linter.unusedVariables false
section
variable {P : Program} {ops : Array Oper} {md : Region.Mode} {C : World → Prop}
/-- So many rounds of the head, whatever is picked; then J. -/
def headAny (P : Program) (md : Region.Mode) (ops : Array Oper) (C : World → Prop) (n : Nat) (J : Array Bool → Act → Prop) : Nat → Array Bool → Act → Prop
  | 0, L, a => J L a
  | f + 1, L, a => Region.ready md ops L ≠ [] ∧ ∀ i ∈ Region.ready md ops L, i < n ∧ qOp P ops C i (headAny P md ops C n J f (L.setIfInBounds i true)) a
theorem any_of_head {n g : Nat} {J : Array Bool → Act → Prop} {Q : Exit → Act → World → Prop} (hJ : ∀ L a w, C w → J L a → wpAny P md ops Q g L a w) :
    ∀ (f : Nat) (L : Array Bool) (a : Act) (w : World), C w → headAny P md ops C n J f L a → wpAny P md ops Q (f + g) L a w := by
  intro f
  induction f with
  | zero =>
    intro L a w hw h
    rw [Nat.zero_add]
    exact hJ L a w hw h
  | succ f ih =>
    intro L a w hw h
    rw [show f + 1 + g = (f + g) + 1 by omega]
    exact ⟨fun h0 => absurd h0 h.1, fun i hi => wpOp_of_qOp hw (fun a' w' hw' h' => ih _ a' w' hw' h') (h.2 i hi).2⟩
/-- What may come up now may as well come first. -/
theorem head_first {n i : Nat} {oi : Oper} {v : Value} {J : Array Bool → Act → Prop} (hi : ops[i]? = some oi) (hsel : Region.noSelect ops = true) (hs : Region.sinkB md ops n = true) (hc : Region.chainB md ops n = true) (hn : n < ops.size) (hin : i < n)
    (hdone : ∀ L a, J L a → ∀ j ∈ Region.ready md ops L, n ≤ j) : ∀ (f : Nat) (L : Array Bool) (a : Act), HeadInv md ops n L →
      (∀ j oj, ops[j]? = some oj → j ≠ i → L.getD j true = false → (∀ e ∈ oj.after, Region.binds md e = true → e.on ≠ i) → oi.apart ops oj = true) →
      i ∈ Region.ready md ops L → YieldsIn P ops C oi v a → headAny P md ops C n J f (L.setIfInBounds i true) (a.put oi.dst v) → headAny P md ops C n J (f + 1) L a := by
  have nosel := Region.noSelect_spec hsel
  intro f
  induction f with
  | zero =>
    intro L a inv hfree hr hy H
    have hun := (mem_ready.1 hr).1
    refine ⟨fun h => (by rw [h] at hr; cases hr), fun j hj => ?_⟩
    have hjn : j < n := Nat.lt_of_not_le fun h => tail_waits hs hc hn inv _ i rfl hin hun j h hj
    refine ⟨hjn, ?_⟩
    by_cases e : j = i
    · subst e
      exact hy.qOp hi H
    · exact absurd (hdone _ _ H j (ready_mono hj e)) (by omega)
  | succ f ih =>
    intro L a inv hfree hr hy H
    have hun := (mem_ready.1 hr).1
    refine ⟨fun h => (by rw [h] at hr; cases hr), fun j hj => ?_⟩
    have hjn : j < n := Nat.lt_of_not_le fun h => tail_waits hs hc hn inv _ i rfl hin hun j h hj
    refine ⟨hjn, ?_⟩
    by_cases e : j = i
    · subst e
      exact hy.qOp hi H
    · obtain ⟨hjun, oj, hoj, hall⟩ := mem_ready.1 hj
      have hnot : ∀ x ∈ oj.after, Region.binds md x = true → x.on ≠ i := by
        intro x hx hb hon
        have h1 := hall x hx hb
        rw [hon, getD_both hun] at h1
        cases h1
      have h2 := qOp_put hoj (hfree j oj hoj e hjun hnot) (fun cs b => nosel i oi cs b hi) (fun cs b => nosel j oj cs b hoj) hy (H.2 j (ready_mono hj e)).2
      refine qOp_mono (fun a' h3 => ih (L.setIfInBounds j true) a' (inv.set hj hjn) ?_ (ready_mono hr (Ne.symm e)) h3.1 ?_) h2
      · intro k ok hk hki hunk hno
        refine hfree k ok hk hki ?_ hno
        by_cases hjk : j = k
        · subst hjk
          exact hjun
        · rw [getD_set_ne true hjk] at hunk
          exact hunk
      · rw [Array.setIfInBounds_comm _ _ e]
        exact h3.2
theorem head_lex {n g : Nat} {J : Act → Prop} (hsel : Region.noSelect ops = true) (hs : Region.sinkB md ops n = true) (hc : Region.chainB md ops n = true) (hn : n < ops.size) :
    ∀ (l : List Oper) (k : Nat) (L : Array Bool) (a : Act), (∀ j, j < l.length → l[j]? = ops[k + j]?) → k + l.length = n → HeadInv md ops n L → Region.lexHead md ops g l.length k L = true → wpQuiet P ops C J l a →
      headAny P md ops C n (fun L' a' => Region.seqB md ops g n L' = true ∧ J a') l.length L a := by
  intro l
  induction l with
  | nil =>
    intro k L a _ hk _ hB h
    obtain rfl : k = n := by simpa using hk
    exact ⟨by simpa [Region.lexHead] using hB, h⟩
  | cons o l ih =>
    intro k L a hl hk inv hB h
    have h0 : ops[k]? = some o := by simpa using (hl 0 (by simp)).symm
    have hkn : k < n := by simp only [List.length_cons] at hk; omega
    simp only [List.length_cons, Region.lexHead, Bool.and_eq_true] at hB
    have hr : k ∈ Region.ready md ops L := by simpa using hB.1.1
    have hq : qOp P ops C k (wpQuiet P ops C J l) a := by unfold qOp; simp only [h0]; exact h
    obtain ⟨v, hy, hK⟩ := yieldsIn_of_qOp h0 hq
    refine head_first h0 hsel hs hc hn hkn (fun L' a' hJ => seqB_ready hJ.1) l.length L a inv (Region.free_spec h0 hB.1.2) hr hy ?_
    refine ih (k + 1) _ _ (fun j hj => ?_) (by simp only [List.length_cons] at hk; omega) (inv.set hr hkn) hB.2 hK
    have := hl (j + 1) (by simp; omega)
    simpa [Nat.add_assoc, Nat.add_comm 1 j] using this
/-- The first n only read; the others come behind them, one by one. -/
theorem wp_region_tail {id : Nat} {Q : Exit → Act → World → Prop} {a : Act} {w : World} {l : List Oper} (n : Nat) (hm : P.follows .mixedOrders = true) (hB : Region.lexTailB .any l.toArray n = true)
    (h : wpQuiet P l.toArray (fun w' => ∃ m, w' = w.drewN m) (fun a' => ∀ w', (∃ m, w' = w.drewN m) → wpList P l.toArray Q (l.drop n) a' w') (l.take n) a) : (Code.region id l.toArray true).wp P Q a w := by
  simp only [Region.lexTailB, Bool.and_eq_true, decide_eq_true_eq] at hB
  obtain ⟨⟨⟨⟨hsel, hn⟩, hs⟩, hc⟩, hlex⟩ := hB
  have hn' : n < l.length := by simpa using hn
  have htl : (l.take n).length = n := by simp; omega
  have hdl : (l.drop n).length = l.toArray.size - n := by simp
  have inv0 : HeadInv .any l.toArray n (Array.replicate l.toArray.size false) :=
    ⟨by simp, fun j oj _ hl => (by rw [getD_replicate_false] at hl; cases hl), fun t _ ht => getD_in (by simpa using ht) (getD_replicate_false _ _)⟩
  have H := head_lex (C := fun w' => ∃ m, w' = w.drewN m) (md := .any) (g := l.toArray.size - n) hsel hs hc hn (l.take n) 0 _ a (fun j hj => by
    have hj' : j < n := by rw [htl] at hj; exact hj
    simp [hj']) (by simpa using htl) inv0 (by rw [htl]; exact hlex) h
  refine wp_region_any hm ?_
  have := any_of_head (Q := Q) (g := l.toArray.size - n) (fun L a' w' hw' hJ => by
    have := wpAny_of_seq (md := .any) (Q' := Q) (l.drop n) n L a' w' (fun j => by simp [List.getElem?_drop]) (by rw [hdl]; exact hJ.1) (hJ.2 w' hw')
    rwa [hdl] at this) _ _ _ _ ⟨1, rfl⟩ H
  rw [htl, show n + (l.toArray.size - n) = l.toArray.size by omega] at this
  exact this
end
end Go.Proofs.Ytodoenimlhldjaa
