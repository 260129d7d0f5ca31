/- A memory in the world: its block, its map, what is held, the pages; which blocks are its own, and what stays of it. -/
import Derived.Test.YtpknppicamefgaaMapy
import Derived.Maps.AppendAt
import Derived.Deep.Draws
namespace Go.Proofs.Ytpknppicamefgaa
open Go.ChangeShapes Go.WideShapes Go.ChangeAt Go.RowKit
set_option linter.unusedVariables false
/-- Nothing has turned but blocks of F, and new ones. -/
structure Keep (F : Nat → Prop) (w w' : World) : Prop where
  os : w'.os = w.os
  tape : w'.tape = w.tape
  output : w'.output = w.output
  size : w.heap.size ≤ w'.heap.size
  block : ∀ k, k < w.heap.size → ¬ F k → w'.heap[k]? = w.heap[k]?
def nought : Nat → Prop := fun _ => False
theorem Keep.refl (F : Nat → Prop) (w : World) : Keep F w w := ⟨rfl, rfl, rfl, Nat.le_refl _, fun _ _ _ => rfl⟩
theorem Keep.trans {F G : Nat → Prop} {u v w : World} (h : Keep F u v) (k : Keep G v w) (hg : ∀ b, b < u.heap.size → G b → F b) : Keep F u w :=
  ⟨k.os.trans h.os, k.tape.trans h.tape, k.output.trans h.output, Nat.le_trans h.size k.size, fun b hb hf => (k.block b (Nat.lt_of_lt_of_le hb h.size) fun hgb => hf (hg b hb hgb)).trans (h.block b hb hf)⟩
theorem Keep.mono {F G : Nat → Prop} {w w' : World} (h : Keep F w w') (hg : ∀ b, b < w.heap.size → F b → G b) : Keep G w w' := ⟨h.os, h.tape, h.output, h.size, fun b hb hn => h.block b hb fun hf => hn (hg b hb hf)⟩
theorem Keep.below {F : Nat → Prop} {w w' : World} {B : Nat} (h : Keep F w w') (hB : B ≤ w.heap.size) (hf : ∀ b, F b → B ≤ b) : Below B w w' :=
  ⟨h.os, h.tape, h.output, h.size, fun b hb => h.block b (by omega) fun hF => by have := hf b hF; omega⟩
theorem Keep.of_below {F : Nat → Prop} {w w' : World} (h : Below w.heap.size w w') : Keep F w w' := ⟨h.os, h.tape, h.output, h.size, fun b hb _ => h.block b hb⟩
theorem Keep.of_only {b : Nat} {w w' : World} (h : Only b w w') : Keep (· = b) w w' := ⟨h.os, h.tape, h.output, Nat.le_of_eq h.size.symm, fun k _ hk => h.block k hk⟩
theorem Keep.drewN {F : Nat → Prop} {u w : World} (h : Keep F u w) (n : Nat) : Keep F u (w.drewN n) := ⟨h.os, h.tape, h.output, h.size, h.block⟩
theorem Keep.grown {w w' : World} {row : Option Nat} (h : w.grownBy w' row) : Keep (fun b => row = some b) w w' := ⟨h.os, h.tape, h.output, h.size, fun b hb hn => h.block b hb fun e => hn e.symm⟩
theorem below_drewN {B : Nat} {u w : World} (h : Below B u w) (n : Nat) : Below B u (w.drewN n) := ⟨h.os, h.tape, h.output, h.size, h.block⟩
theorem keep_alloc (F : Nat → Prop) (w : World) (o : Obj) : Keep F w (w.alloc o) := Keep.of_below ((Below.refl _ _).alloc (Nat.le_refl _) o)
theorem keep_setCell (w : World) (b j : Nat) (v : Value) : Keep (· = b) w (w.setCell ⟨b, j, none⟩ v) := Keep.of_only ((Only.refl b w).setCell j v)
theorem keep_setBlock {w : World} {b : Nat} {o : Obj} (h : w.heap[b]? = some o) (o' : Obj) : Keep (· = b) w (ChangeMaps.setBlock w b o') :=
  ⟨rfl, rfl, rfl, by simp [ChangeMaps.setBlock], fun k _ hk => (MapKept.heap_set (o' := o') h).2 k hk⟩
/-- A memory: its blocks, and what it says. -/
structure MS where
  mb : Nat
  bm : Nat
  ks : List Nat
  hb : Nat → Nat
  pb : Nat → Nat
  data : Nat → List UInt8
  pm : Nat → Int
  on : Nat → Bool
  most : Nat
  tv : Value
  ts : List Nat
  c : Nat
def words (ts : List Nat) : List Value := ts.map fun a : Nat => Value.int .u32 (a : Int)
theorem words_len (ts : List Nat) : (words ts).length = ts.length := by simp [words]
theorem words_append (ts us : List Nat) : words (ts ++ us) = words ts ++ words us := by simp [words]
theorem words_get (l : List Nat) (j : Nat) (h : j < l.length) : (words l)[j]? = some (Value.int .u32 ((l.getD j 0 : Nat) : Int)) := by
  simp [words, List.getD_eq_getElem?_getD, List.getElem?_eq_getElem h]
theorem words_one (l : List Nat) : ∀ u ∈ words l, u.oneCell' = true := by
  intro u hu
  simp only [words, List.mem_map] at hu
  obtain ⟨n, _, rfl⟩ := hu
  rfl
def mcells (s : MS) : Array Value := #[.map (some s.bm), .int .i64 (s.ks.length : Int), .int .i64 (s.most : Int), s.tv]
def hcells (s : MS) (k : Nat) : Array Value := #[.pointer (some ⟨s.pb k, 0, none⟩), .bool (s.on k)]
structure MemW (w : World) (s : MS) : Prop where
  self : w.heap[s.mb]? = some (.cells (mcells s) 85 (0, 0))
  map : w.heap[s.bm]? = some (mapObj s.hb s.ks)
  held : ∀ k ∈ s.ks, w.heap[s.hb k]? = some (.cells (hcells s k) 75 (0, 0))
  page : ∀ k ∈ s.ks, ∃ n : Int, 0 ≤ n ∧ n ≤ (s.c : Int) ∧ Pg 109 w (s.pb k) (s.data k) (s.pm k) n
  nodup : s.ks.Nodup
  hbi : ∀ k ∈ s.ks, ∀ j ∈ s.ks, s.hb k = s.hb j → k = j
  pbi : ∀ k ∈ s.ks, ∀ j ∈ s.ks, s.pb k = s.pb j → k = j
  key : ∀ k ∈ s.ks, k < 4294967296 ∧ k % 256 = 0
  perm : ∀ k ∈ s.ks, 0 ≤ s.pm k ∧ s.pm k < 8
  room : s.ks.length ≤ s.most
  great : s.most ≤ 64
  touched : w.ownsRow 0 22 1 s.tv s.ts.length (words s.ts)
  few : s.ts.length ≤ s.c
/-- The blocks of a memory. -/
def foot (s : MS) (b : Nat) : Prop := b = s.mb ∨ b = s.bm ∨ (∃ k ∈ s.ks, b = s.hb k) ∨ (∃ k ∈ s.ks, b = s.pb k) ∨ s.tv.ownBlock = some b
theorem ownsRow_same {w w' : World} {v : Value} {n : Nat} {xs : List Value} {base size : Nat} {e : TypeId} (h : w.ownsRow base e size v n xs) (hb : ∀ g, v.ownBlock = some g → w'.heap[g]? = w.heap[g]?) : w'.ownsRow base e size v n xs := by
  refine ⟨h.1, ?_⟩
  rcases h.2 with h | ⟨g, cap, cur, rfl, h1, h2, h3⟩
  · exact .inl h
  · exact .inr ⟨g, cap, cur, rfl, h1, (hb g rfl).trans h2, h3⟩
theorem MemW.same {w w' : World} {s : MS} (h : MemW w s) (hb : ∀ b, foot s b → w'.heap[b]? = w.heap[b]?) : MemW w' s :=
  ⟨(hb _ (.inl rfl)).trans h.self, (hb _ (.inr (.inl rfl))).trans h.map, fun k hk => (hb _ (.inr (.inr (.inl ⟨k, hk, rfl⟩)))).trans (h.held k hk),
    fun k hk => let ⟨n, h0, h1, h2⟩ := h.page k hk; ⟨n, h0, h1, h2.same (hb _ (.inr (.inr (.inr (.inl ⟨k, hk, rfl⟩)))))⟩,
    h.nodup, h.hbi, h.pbi, h.key, h.perm, h.room, h.great, ownsRow_same h.touched fun g hg => hb g (.inr (.inr (.inr (.inr hg)))), h.few⟩
theorem MemW.lt {w : World} {s : MS} (h : MemW w s) {b : Nat} (hb : foot s b) : b < w.heap.size := by
  rcases hb with rfl | rfl | ⟨k, hk, rfl⟩ | ⟨k, hk, rfl⟩ | hb
  · exact (Array.getElem?_eq_some_iff.1 h.self).1
  · exact (Array.getElem?_eq_some_iff.1 h.map).1
  · exact (Array.getElem?_eq_some_iff.1 (h.held k hk)).1
  · obtain ⟨n, _, _, hp⟩ := h.page k hk
    exact hp.lt
  · rcases h.touched.2 with ⟨e, _⟩ | ⟨g, cap, cur, e, _, hg, _⟩
    · rw [e] at hb; simp [Value.ownBlock] at hb
    · rw [e] at hb
      simp [Value.ownBlock] at hb
      subst hb
      exact (Array.getElem?_eq_some_iff.1 hg).1
theorem MemW.keep {F : Nat → Prop} {w w' : World} {s : MS} (h : MemW w s) (hk : Keep F w w') (hf : ∀ b, foot s b → ¬ F b) : MemW w' s := h.same fun b hb => hk.block b (h.lt hb) (hf b hb)
theorem MemW.later {w w' : World} {s : MS} (h : MemW w s) (hb : Below w.heap.size w w') : MemW w' s := h.same fun b hf => hb.block b (h.lt hf)
theorem MemW.drewN {w : World} {s : MS} (h : MemW w s) (n : Nat) : MemW (w.drewN n) s := h.same fun _ _ => rfl
/-- A memory's blocks are of several kinds, so one is none of another kind. -/
theorem MemW.hb_ne_mb {w : World} {s : MS} (h : MemW w s) {k : Nat} (hk : k ∈ s.ks) : s.hb k ≠ s.mb := fun e => by have h1 := h.held k hk; rw [e, h.self] at h1; simp at h1
theorem MemW.hb_ne_bm {w : World} {s : MS} (h : MemW w s) {k : Nat} (hk : k ∈ s.ks) : s.hb k ≠ s.bm := fun e => by have h1 := h.held k hk; rw [e, h.map] at h1; simp [mapObj] at h1
theorem MemW.mb_ne_bm {w : World} {s : MS} (h : MemW w s) : s.mb ≠ s.bm := fun e => by have h1 := h.self; rw [e, h.map] at h1; simp [mapObj] at h1
theorem MemW.pb_ne_mb {w : World} {s : MS} (h : MemW w s) {k : Nat} (hk : k ∈ s.ks) : s.pb k ≠ s.mb := fun e => by obtain ⟨n, _, _, h1⟩ := h.page k hk; have h1 := h1.blk; rw [e, h.self] at h1; simp at h1
theorem MemW.pb_ne_bm {w : World} {s : MS} (h : MemW w s) {k : Nat} (hk : k ∈ s.ks) : s.pb k ≠ s.bm := fun e => by obtain ⟨n, _, _, h1⟩ := h.page k hk; have h1 := h1.blk; rw [e, h.map] at h1; simp [mapObj] at h1
theorem MemW.pb_ne_hb {w : World} {s : MS} (h : MemW w s) {k j : Nat} (hk : k ∈ s.ks) (hj : j ∈ s.ks) : s.pb k ≠ s.hb j := fun e => by obtain ⟨n, _, _, h1⟩ := h.page k hk; have h1 := h1.blk; rw [e, h.held j hj] at h1; simp at h1
theorem MemW.tv_cells {w : World} {s : MS} (h : MemW w s) {g : Nat} (hg : s.tv.ownBlock = some g) : ∃ cur, w.heap[g]? = some (.cells cur 22 (0, 0)) := by
  rcases h.touched.2 with ⟨e, _⟩ | ⟨g', cap, cur, e, _, hc, _⟩
  · rw [e] at hg; simp [Value.ownBlock] at hg
  · rw [e] at hg
    simp [Value.ownBlock] at hg
    subst hg
    exact ⟨cur, hc⟩
theorem MemW.tv_ne_mb {w : World} {s : MS} (h : MemW w s) {g : Nat} (hg : s.tv.ownBlock = some g) : g ≠ s.mb := fun e => by obtain ⟨cur, h1⟩ := h.tv_cells hg; rw [e, h.self] at h1; simp at h1
theorem MemW.tv_ne_bm {w : World} {s : MS} (h : MemW w s) {g : Nat} (hg : s.tv.ownBlock = some g) : g ≠ s.bm := fun e => by obtain ⟨cur, h1⟩ := h.tv_cells hg; rw [e, h.map] at h1; simp [mapObj] at h1
theorem MemW.tv_ne_hb {w : World} {s : MS} (h : MemW w s) {g k : Nat} (hg : s.tv.ownBlock = some g) (hk : k ∈ s.ks) : g ≠ s.hb k := fun e => by obtain ⟨cur, h1⟩ := h.tv_cells hg; rw [e, h.held k hk] at h1; simp at h1
theorem MemW.tv_ne_pb {w : World} {s : MS} (h : MemW w s) {g k : Nat} (hg : s.tv.ownBlock = some g) (hk : k ∈ s.ks) : g ≠ s.pb k := fun e => by obtain ⟨cur, h1⟩ := h.tv_cells hg; obtain ⟨n, _, _, h2⟩ := h.page k hk; rw [e, h2.blk] at h1; simp at h1
theorem MemW.cell0 {w : World} {s : MS} (h : MemW w s) : w.cell? ⟨s.mb, 0, none⟩ = some (.map (some s.bm)) := by rw [cell_of_row _ _ _ _ _ _ h.self]; rfl
theorem MemW.cell1 {w : World} {s : MS} (h : MemW w s) : w.cell? ⟨s.mb, 1, none⟩ = some (.int .i64 (s.ks.length : Int)) := by rw [cell_of_row _ _ _ _ _ _ h.self]; rfl
theorem MemW.cell2 {w : World} {s : MS} (h : MemW w s) : w.cell? ⟨s.mb, 2, none⟩ = some (.int .i64 (s.most : Int)) := by rw [cell_of_row _ _ _ _ _ _ h.self]; rfl
theorem MemW.cell3 {w : World} {s : MS} (h : MemW w s) : w.cell? ⟨s.mb, 3, none⟩ = some s.tv := by rw [cell_of_row _ _ _ _ _ _ h.self]; rfl
theorem MemW.thaw {w : World} {s : MS} (h : MemW w s) (j : Nat) : w.frozen? ⟨s.mb, j, none⟩ = false := frozen_of_row _ _ _ _ _ h.self
theorem MemW.held0 {w : World} {s : MS} (h : MemW w s) {k : Nat} (hk : k ∈ s.ks) : w.cell? ⟨s.hb k, 0, none⟩ = some (.pointer (some ⟨s.pb k, 0, none⟩)) := by rw [cell_of_row _ _ _ _ _ _ (h.held k hk)]; rfl
theorem MemW.held1 {w : World} {s : MS} (h : MemW w s) {k : Nat} (hk : k ∈ s.ks) : w.cell? ⟨s.hb k, 1, none⟩ = some (.bool (s.on k)) := by rw [cell_of_row _ _ _ _ _ _ (h.held k hk)]; rfl
theorem MemW.heldThaw {w : World} {s : MS} (h : MemW w s) {k : Nat} (hk : k ∈ s.ks) (j : Nat) : w.frozen? ⟨s.hb k, j, none⟩ = false := frozen_of_row _ _ _ _ _ (h.held k hk)
/-- A place's page. -/
def pageOf (a : Nat) : Nat := a - a % 256
theorem pageOf_mod (a : Nat) : pageOf a % 256 = 0 := by unfold pageOf; omega
theorem pageOf_le (a : Nat) : pageOf a ≤ a := by unfold pageOf; omega
/-- The byte at a place. -/
def MS.get (s : MS) (a : Nat) : UInt8 := if pageOf a ∈ s.ks then (s.data (pageOf a)).getD (a % 256) 0 else 0
end Go.Proofs.Ytpknppicamefgaa
