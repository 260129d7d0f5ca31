/- What a memory says, by itself: pages by their first places. -/
import Derived.Test.YtpknppicamefgaaQMAU
namespace Go.Proofs.Ytpknppicamefgaa
open Go.ChangeShapes Go.WideShapes Go.ChangeAt Go.RowKit
set_option linter.unusedVariables false
abbrev AM := Nat → Option (List UInt8 × Int × Bool)
def MS.abs (s : MS) : AM := fun k => if k ∈ s.ks then some (s.data k, s.pm k, s.on k) else none
def amap (f : AM) (a : Nat) (z : Int) : AM := fun j => if j = pageOf a then (match f j with | some (l, p, o) => some (l, orP p z, o) | none => some (zeros, z % 8, false)) else f j
def apoke (f : AM) (a : Nat) (v : UInt8) : AM := fun j => if j = pageOf a then (f j).map fun x => (x.1.set (a % 256) v, x.2.1, x.2.2) else f j
def awatch (f : AM) (a : Nat) (b : Bool) : AM := fun j => if j = pageOf a then (f j).map fun x => (x.1, x.2.1, b) else f j
theorem abs_in {s : MS} {k : Nat} (h : k ∈ s.ks) : s.abs k = some (s.data k, s.pm k, s.on k) := by unfold MS.abs; rw [if_pos h]
theorem abs_out {s : MS} {k : Nat} (h : k ∉ s.ks) : s.abs k = none := by unfold MS.abs; rw [if_neg h]
theorem mem_abs {s : MS} {k : Nat} : k ∈ s.ks ↔ (s.abs k).isSome = true := by
  by_cases h : k ∈ s.ks
  · simp [abs_in h, h]
  · simp [abs_out h, h]
theorem abs_mapped {s : MS} {a : Nat} {z : Int} {b : Nat} (h : pageOf a ∈ s.ks ∨ s.ks.length < s.most) : (s.mapped a z b).abs = amap s.abs a z := by
  funext j
  unfold MS.mapped amap
  by_cases hk : pageOf a ∈ s.ks
  · rw [if_pos hk]
    by_cases e : j = pageOf a
    · subst e
      rw [if_pos rfl, abs_in (s := s.also _ z) hk, abs_in hk]
      simp [MS.also, upd]
    · rw [if_neg e]
      by_cases hj : j ∈ s.ks
      · rw [abs_in (s := s.also _ z) hj, abs_in hj]
        simp [MS.also, upd, e]
      · rw [abs_out (s := s.also _ z) hj, abs_out hj]
  · have hr := h.resolve_left hk
    rw [if_neg hk, if_pos hr]
    by_cases e : j = pageOf a
    · subst e
      rw [if_pos rfl, abs_in (s := s.lay _ _ _ _ _ _) (by simp [MS.lay]), abs_out hk]
      simp [MS.lay, upd]
    · rw [if_neg e]
      by_cases hj : j ∈ s.ks
      · rw [abs_in (s := s.lay _ _ _ _ _ _) (by simp [MS.lay, hj]), abs_in hj]
        simp [MS.lay, upd, e]
      · rw [abs_out (s := s.lay _ _ _ _ _ _) (by simp [MS.lay, hj, e]), abs_out hj]
theorem abs_pokeAt (s : MS) (a : Nat) (v : UInt8) (tv : Value) : (s.pokeAt a v tv).abs = apoke s.abs a v := by
  funext j
  unfold MS.pokeAt apoke
  by_cases hk : pageOf a ∈ s.ks
  · rw [if_pos hk]
    by_cases e : j = pageOf a
    · subst e
      rw [if_pos rfl, abs_in (s := s.poke a v tv) hk, abs_in hk]
      simp [MS.poke, upd]
    · rw [if_neg e]
      by_cases hj : j ∈ s.ks
      · rw [abs_in (s := s.poke a v tv) hj, abs_in hj]
        simp [MS.poke, upd, e]
      · rw [abs_out (s := s.poke a v tv) hj, abs_out hj]
  · rw [if_neg hk]
    by_cases e : j = pageOf a
    · subst e
      rw [if_pos rfl, abs_out hk]
      rfl
    · rw [if_neg e]
theorem abs_watchAt (s : MS) (a : Nat) (b : Bool) : (s.watchAt a b).abs = awatch s.abs a b := by
  funext j
  unfold MS.watchAt awatch
  by_cases hk : pageOf a ∈ s.ks
  · rw [if_pos hk]
    by_cases e : j = pageOf a
    · subst e
      rw [if_pos rfl, abs_in (s := s.watch _ b) hk, abs_in hk]
      simp [MS.watch, upd]
    · rw [if_neg e]
      by_cases hj : j ∈ s.ks
      · rw [abs_in (s := s.watch _ b) hj, abs_in hj]
        simp [MS.watch, upd, e]
      · rw [abs_out (s := s.watch _ b) hj, abs_out hj]
  · rw [if_neg hk]
    by_cases e : j = pageOf a
    · subst e
      rw [if_pos rfl, abs_out hk]
      rfl
    · rw [if_neg e]
theorem get_abs (s : MS) (a : Nat) : s.get a = match s.abs (pageOf a) with | some (l, _, _) => l.getD (a % 256) 0 | none => 0 := by
  unfold MS.get
  by_cases h : pageOf a ∈ s.ks
  · rw [if_pos h, abs_in h]
  · rw [if_neg h, abs_out h]
theorem get_congr {s t : MS} (h : s.abs = t.abs) (a : Nat) : s.get a = t.get a := by rw [get_abs, get_abs, h]
/-- A part of a memory. -/
structure Part4 where
  at_ : Nat
  data : List UInt8
  perm : Int
  on : Bool
  da : Option Addr
  dcap : Nat
def wrapAt (a k : Nat) : Nat := (a + k) % 4294967296
theorem wrapAt_lt (a k : Nat) : wrapAt a k < 4294967296 := Nat.mod_lt _ (by omega)
def partMaps (f : AM) (p : Part4) : Nat → AM
  | 0 => f
  | k + 1 => amap (partMaps f p k) (wrapAt p.at_ k) p.perm
def partPokes (f : AM) (p : Part4) : Nat → AM
  | 0 => f
  | k + 1 => apoke (partPokes f p k) (wrapAt p.at_ k) (p.data.getD k 0)
def partDone (f : AM) (p : Part4) : AM := partPokes (partMaps f p (max p.data.length 1)) p p.data.length
def partsDone : List Part4 → AM → AM
  | [], f => f
  | p :: ps, f => partsDone ps (partDone f p)
def watches : List Part4 → AM → AM
  | [], f => f
  | p :: ps, f => watches ps (awatch f p.at_ p.on)
def memOf (ps : List Part4) : AM := watches ps (partsDone ps fun _ => none)
theorem partsDone_snoc (ps : List Part4) (p : Part4) : ∀ f, partsDone (ps ++ [p]) f = partDone (partsDone ps f) p := by
  induction ps with
  | nil => intro f; rfl
  | cons q ps ih => intro f; exact ih _
theorem watches_snoc (ps : List Part4) (p : Part4) : ∀ f, watches (ps ++ [p]) f = awatch (watches ps f) p.at_ p.on := by
  induction ps with
  | nil => intro f; rfl
  | cons q ps ih => intro f; exact ih _
theorem take_snoc {α : Type} (l : List α) (k : Nat) (h : k < l.length) : l.take (k + 1) = l.take k ++ [l[k]] := by
  rw [List.take_add_one, List.getElem?_eq_getElem h]
  rfl
/-- A memory on the way. -/
structure MI (w wr : World) (s : MS) (mb : Nat) (f : AM) (C : Nat) : Prop where
  own : Own w wr s
  mb : s.mb = mb
  most : s.most = 64
  abs : s.abs = f
  off : ∀ k ∈ s.ks, s.on k = false
  ts : s.ts = []
  c : s.c ≤ C
theorem MI.poke {w wr wr' : World} {s : MS} {mb C a : Nat} {f : AM} {v : UInt8} {tv : Value} (h : MI w wr s mb f C) (st : Step wr s wr' (s.pokeAt a v tv)) : MI w wr' (s.pokeAt a v tv) mb (apoke f a v) (C + 1) ∧ (s.pokeAt a v tv).ks = s.ks := by
  have hc := pokeAt_c s a v tv
  have hc' := h.c
  have hw : s.watched a = false := by
    unfold MS.watched
    by_cases hk : pageOf a ∈ s.ks
    · rw [h.off _ hk, Bool.and_false]
    · rw [decide_eq_false hk, Bool.false_and]
  refine ⟨⟨h.own.step st, by rw [pokeAt_mb]; exact h.mb, by rw [pokeAt_most]; exact h.most, by rw [abs_pokeAt, h.abs], ?_, by rw [pokeAt_ts, hw]; simpa using h.ts, by omega⟩, pokeAt_ks _ _ _ _⟩
  rw [pokeAt_ks, pokeAt_on]
  exact h.off
/-- So many pages at most. -/
def MapB (s : MS) (a k L : Nat) : Prop := (k = 0 → s.ks.length ≤ L) ∧ (1 ≤ k → pageOf (wrapAt a (k - 1)) ∈ s.ks ∧ s.ks.length ≤ L + (a % 256 + (k - 1)) / 256 + 1)
theorem mapped_ks (s : MS) (a : Nat) (z : Int) (b : Nat) : (∀ j, j ∈ s.ks → j ∈ (s.mapped a z b).ks) ∧ (s.mapped a z b).ks.length ≤ s.ks.length + 1 ∧ (pageOf a ∈ s.ks → (s.mapped a z b).ks = s.ks) ∧ (pageOf a ∈ s.ks ∨ s.ks.length < s.most → pageOf a ∈ (s.mapped a z b).ks) := by
  unfold MS.mapped
  by_cases hk : pageOf a ∈ s.ks
  · rw [if_pos hk]
    exact ⟨fun j h => h, by simp [MS.also], fun _ => rfl, fun _ => hk⟩
  · rw [if_neg hk]
    by_cases hr : s.ks.length < s.most
    · rw [if_pos hr]
      exact ⟨fun j h => by simp [MS.lay, h], by simp [MS.lay], fun h => absurd h hk, fun _ => by simp [MS.lay]⟩
    · rw [if_neg hr]
      exact ⟨fun j h => h, by omega, fun _ => rfl, fun h => h.elim (fun h => absurd h hk) fun h => absurd h hr⟩
theorem mapped_on {s : MS} {a : Nat} {z : Int} {b : Nat} (h : ∀ k ∈ s.ks, s.on k = false) : ∀ k ∈ (s.mapped a z b).ks, (s.mapped a z b).on k = false := by
  unfold MS.mapped
  by_cases hk : pageOf a ∈ s.ks
  · rw [if_pos hk]; exact h
  · rw [if_neg hk]
    by_cases hr : s.ks.length < s.most
    · rw [if_pos hr]
      intro k hk'
      by_cases e : k = pageOf a
      · subst e; simp [MS.lay, upd]
      · simp only [MS.lay, upd_other _ _ e]
        exact h k (by simpa [MS.lay, e] using hk')
    · rw [if_neg hr]; exact h
theorem page_next (a k : Nat) (hk : 1 ≤ k) (h : (a % 256 + k) % 256 ≠ 0) : pageOf (wrapAt a k) = pageOf (wrapAt a (k - 1)) := by
  unfold pageOf wrapAt
  omega
theorem MI.map {w wr wr' : World} {s : MS} {mb C a k L b : Nat} {f : AM} {z : Int} (h : MI w wr s mb f C) (hB : MapB s a k L) (hk : k < 600) (hL : L ≤ 28) (st : Step wr s wr' (s.mapped (wrapAt a k) z b)) : MI w wr' (s.mapped (wrapAt a k) z b) mb (amap f (wrapAt a k) z) C ∧ MapB (s.mapped (wrapAt a k) z b) a (k + 1) L := by
  obtain ⟨m1, m2, m3, m4⟩ := mapped_ks s (wrapAt a k) z b
  have hroom : pageOf (wrapAt a k) ∈ s.ks ∨ s.ks.length < s.most := by
    right
    rw [h.most]
    by_cases h0 : k = 0
    · have := hB.1 h0
      omega
    · have := (hB.2 (by omega)).2
      omega
  refine ⟨⟨h.own.step st, by rw [mapped_mb]; exact h.mb, by rw [mapped_most]; exact h.most, by rw [abs_mapped hroom, h.abs], mapped_on h.off, by rw [mapped_ts]; exact h.ts, by rw [mapped_c]; exact h.c⟩, fun h0 => by omega, fun _ => ⟨by simpa using m4 hroom, ?_⟩⟩
  rw [Nat.add_sub_cancel]
  by_cases h0 : k = 0
  · have := hB.1 h0
    omega
  · have hb := hB.2 (by omega)
    by_cases hm : (a % 256 + k) % 256 = 0
    · omega
    · have := page_next a k (by omega) hm
      rw [m3 (by rw [this]; exact hb.1)]
      have h2 := hb.2
      have : (a % 256 + (k - 1)) / 256 ≤ (a % 256 + k) / 256 := Nat.div_le_div_right (by omega)
      omega
end Go.Proofs.Ytpknppicamefgaa
namespace Go.Proofs.Ytpknppicamefgaa
open Go.ChangeShapes Go.WideShapes Go.ChangeAt Go.RowKit
set_option linter.unusedVariables false
structure PartAt (w : World) (b o : Nat) (p : Part4) : Prop where
  c0 : w.cell? ⟨b, o, none⟩ = some (.int .u32 (p.at_ : Int))
  c1 : w.cell? ⟨b, o + 1, none⟩ = some (.slice p.da p.data.length p.dcap)
  c2 : w.cell? ⟨b, o + 2, none⟩ = some (.int .i64 p.perm)
  c3 : w.cell? ⟨b, o + 3, none⟩ = some (.bool p.on)
  row : Row w p.da p.data p.dcap
  lt : p.at_ < 4294967296
def Pieces (w : World) (ao : Option Addr) (ps : List Part4) : Prop := ps = [] ∨ ∃ b off, ao = some ⟨b, off, none⟩ ∧ b < w.heap.size ∧ ∀ j (h : j < ps.length), PartAt w b (off + j * 4) ps[j]
theorem PartAt.later {w w' : World} {b o : Nat} {p : Part4} (h : PartAt w b o p) (hlt : b < w.heap.size) (hb : Below w.heap.size w w') : PartAt w' b o p :=
  ⟨(hb.cell (p := ⟨b, o, none⟩) hlt).trans h.c0, (hb.cell (p := ⟨b, o + 1, none⟩) hlt).trans h.c1, (hb.cell (p := ⟨b, o + 2, none⟩) hlt).trans h.c2, (hb.cell (p := ⟨b, o + 3, none⟩) hlt).trans h.c3, h.row.later hb, h.lt⟩
theorem Pieces.later {w w' : World} {ao : Option Addr} {ps : List Part4} (h : Pieces w ao ps) (hb : Below w.heap.size w w') : Pieces w' ao ps := by
  rcases h with h | ⟨b, off, e, hlt, h⟩
  · exact .inl h
  · exact .inr ⟨b, off, e, Nat.lt_of_lt_of_le hlt hb.size, fun j hj => (h j hj).later hlt hb⟩
theorem Pieces.at {w : World} {ao : Option Addr} {ps : List Part4} (h : Pieces w ao ps) {k : Nat} (hk : k < ps.length) : ∃ b off, ao = some ⟨b, off, none⟩ ∧ b < w.heap.size ∧ PartAt w b (off + k * 4) ps[k] := by
  rcases h with h | ⟨b, off, e, hlt, h⟩
  · rw [h] at hk; simp at hk
  · exact ⟨b, off, e, hlt, h k hk⟩
def few (ps : List Part4) : Bool := (ps.take 8).all (fun p => decide (p.data.length ≤ 600)) && decide (ps.length ≤ 8)
end Go.Proofs.Ytpknppicamefgaa
namespace Go.Proofs.Ytpknppicamefgaa
open Go.ChangeShapes Go.WideShapes Go.ChangeAt Go.RowKit
set_option linter.unusedVariables false
theorem getD_in_row {w : World} {ao : Option Addr} {l : List UInt8} {cap k : Nat} (h : Row w ao l cap) (hk : k < l.length) : ∃ b off, ao = some ⟨b, off, none⟩ ∧ w.cell? ⟨b, off + k, none⟩ = some (.int .u8 ((l.getD k 0).toNat : Int)) := by
  rcases h.lies with h | ⟨b, off, e, h⟩
  · rw [h] at hk; simp at hk
  · exact ⟨b, off, e, h k hk⟩
theorem MI.mapCall {w wr : World} {s : MS} {mb C a k L : Nat} {f : AM} {z : Int} (h : MI w wr s mb f C) (hB : MapB s a k L) (hk : k < 600) (hL : L ≤ 28) (m : Nat) : Calls Try.prog 57 #[.pointer (some ⟨mb, 0, none⟩), .int .u32 (((a : Int) + (k : Int)) % 4294967296), .int .i64 z] (wr.drewN m) fun e w' =>
    ∃ n, e = .returned (.int .i64 n) ∧ ∃ s', MI w w' s' mb (amap f (wrapAt a k) z) C ∧ MapB s' a (k + 1) L := by
  have h12 := map_any (wr.drewN m) s (wrapAt a k) z (h.own.mem.drewN m) (wrapAt_lt _ _)
  rw [h.mb, show ((wrapAt a k : Nat) : Int) = ((a : Int) + (k : Int)) % 4294967296 by unfold wrapAt; omega] at h12
  refine h12.mono ?_
  rintro e w' ⟨he, st⟩
  exact ⟨_, he, _, h.map hB hk hL ((Step.drew h.own.mem ⟨m, rfl⟩).trans st)⟩
theorem MI.pokeCall {w wr : World} {s : MS} {mb C a k : Nat} {f : AM} {v : UInt8} (h : MI w wr s mb f C) (hC : C < 1099511627776) (m : Nat) : Calls Try.prog 58 #[.pointer (some ⟨mb, 0, none⟩), .int .u32 (((a : Int) + (k : Int)) % 4294967296), .int .u8 (v.toNat : Int)] (wr.drewN m) fun e w' =>
    ∃ b, e = .returned (.bool b) ∧ ∃ s', MI w w' s' mb (apoke f (wrapAt a k) v) (C + 1) ∧ s'.ks = s.ks := by
  have hc := h.c
  have h21 := poke_any (wr.drewN m) s (wrapAt a k) v (h.own.mem.drewN m) (wrapAt_lt _ _) (by omega)
  rw [h.mb, show ((wrapAt a k : Nat) : Int) = ((a : Int) + (k : Int)) % 4294967296 by unfold wrapAt; omega] at h21
  refine h21.mono ?_
  rintro e w' ⟨he, tv, st⟩
  exact ⟨_, he, _, h.poke ((Step.drew h.own.mem ⟨m, rfl⟩).trans st)⟩
/-- A memory that is made, and then watched. -/
structure MW (w wr : World) (s : MS) (mb : Nat) (f : AM) : Prop where
  own : Own w wr s
  mb : s.mb = mb
  abs : s.abs = f
  most : s.most = 64
  few : s.ks.length ≤ 32
  ts : s.ts = []
  c : s.c ≤ 4800
end Go.Proofs.Ytpknppicamefgaa
