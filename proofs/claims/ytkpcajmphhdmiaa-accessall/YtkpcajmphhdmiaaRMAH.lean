/- A memory's copy. -/
import Derived.Test.YtkpcajmphhdmiaaRMAF
import Derived.Test.YtkpcajmphhdmiaaRMAG
namespace Go.Proofs.Ytkpcajmphhdmiaa
open Go.ChangeShapes Go.WideShapes Go.ChangeAt Go.RowKit
set_option linter.unusedVariables false
theorem load73 {w : World} {a : Addr} {v : Value} (hc : w.cell? a = some v) : (loadVar 91 a).run Try.prog w = .ok v w := by
  simp [loadVar, isAgg, Sem.run_bind, run_underlying Try.underlying91, hc, go_sem]
theorem load4 {w : World} {a : Addr} {v : Value} (hc : w.cell? a = some v) : (loadVar 4 a).run Try.prog w = .ok v w := by
  simp [loadVar, isAgg, Sem.run_bind, run_underlying Try.underlying4, hc, go_sem]
theorem build75b (b : Nat) (on : Bool) (w : World) : (Instr.build 93 #[(0, .pointer (some ⟨b, 0, none⟩)), (1, .bool on)]).run Try.prog w = .ok (.agg #[.pointer (some ⟨b, 0, none⟩), .bool on]) w := by kernel_rfl
/-- A memory that is the same. -/
structure CopyOf (s t : MS) : Prop where
  ks : ∀ k, k ∈ t.ks ↔ k ∈ s.ks
  len : t.ks.length = s.ks.length
  data : ∀ k ∈ t.ks, t.data k = s.data k ∧ t.pm k = s.pm k ∧ t.on k = s.on k
  most : t.most = s.most
  ts : t.ts = []
  c : t.c = s.c
/-- On the way there. -/
structure CopyInv (w0 w : World) (s : MS) (mb r : Nat) (todo : List Nat) (t : MS) : Prop where
  own : Own w0 w t
  at_ : w0.heap.size ≤ r
  mb : t.mb = mb
  ks : ∀ k, k ∈ t.ks ↔ k ∈ s.ks ∧ k ∉ todo
  len : t.ks.length + todo.length = s.ks.length
  data : ∀ k ∈ t.ks, t.data k = s.data k ∧ t.pm k = s.pm k ∧ t.on k = s.on k
  most : t.most = s.most
  ts : t.ts = []
  c : t.c = s.c
theorem It.notFoot {w : World} {r bm : Nat} {ks todo : List Nat} {t : MS} (h : It w r bm ks todo) (ht : MemW w t) : ¬ foot t r := by
  obtain ⟨seen, c0, h1, _⟩ := h.now
  rintro (e | e | ⟨k, hk, e⟩ | ⟨k, hk, e⟩ | e)
  · rw [e, ht.self] at h1; simp at h1
  · rw [e, ht.map] at h1; simp [mapObj] at h1
  · rw [e, ht.held k hk] at h1; simp at h1
  · obtain ⟨n, _, _, hp⟩ := ht.page k hk
    rw [e, hp.blk] at h1; simp at h1
  · obtain ⟨cur, hc⟩ := ht.tv_cells e
    rw [hc] at h1; simp at h1
theorem MemW.raise {w : World} {s : MS} (h : MemW w s) (c : Nat) (hc : s.c ≤ c) : MemW w { s with c := c } :=
  ⟨h.self, h.map, h.held, fun k hk => let ⟨n, h0, h1, h2⟩ := h.page k hk; ⟨n, h0, by show n ≤ (c : Int); omega, h2⟩, h.nodup, h.hbi, h.pbi, h.key, h.perm, h.room, h.great, h.touched, Nat.le_trans h.few hc⟩
theorem foot_raise {s : MS} {c b : Nat} (h : foot { s with c := c } b) : foot s b := h
/-- The last step of a round: what was copied is laid. -/
theorem copy_add {w0 w2 w3 : World} {s t : MS} {mb r k q g : Nat} {todo : List Nat} (hv : CopyInv w0 w2 s mb r todo t) (hR : Below w2.heap.size w2 w3) (hs0 : MemW w0 s) (hks : k ∈ s.ks) (hk : k ∈ todo) (hH : Held w3 q g (s.data k) (s.pm k) (s.on k) s.c) (hq : w2.heap.size ≤ q) (hg : w2.heap.size ≤ g) (hI2 : It w2 r s.bm s.ks (todo.erase k)) (hnd : todo.Nodup) :
    Calls Try.prog 54 #[.pointer (some ⟨mb, 0, none⟩), .int .u32 (k : Int), .pointer (some ⟨q, 0, none⟩)] w3 fun e w4 => e = .returned (.tuple #[]) ∧ It w4 r s.bm s.ks (todo.erase k) ∧ ∃ t', CopyInv w0 w4 s mb r (todo.erase k) t' := by
  have hm := hv.own.mem
  have hm3 := hm.later hR
  have hkk := hs0.key k hks
  have hkt : k ∉ t.ks := fun h => ((hv.ks k).1 h).2 hk
  have hlt : t.ks.length < t.most := by
    have h1 := hv.len
    have h2 := List.length_pos_of_mem hk
    have h3 := hs0.room
    rw [hv.most]
    omega
  have hc := addPage_any w3 t k q g (s.data k) (s.pm k) (s.on k) hm3 hkk.1 (by rw [pageOf_key hkk.2]; exact hkt) (by rw [hv.c]; exact hH) hlt (fun hf => by have := hm.lt hf; omega) (fun hf => by have := hm.lt hf; omega)
  rw [hv.mb, pageOf_key hkk.2] at hc
  refine hc.mono ?_
  rintro e w4 ⟨he, hm4, hkp⟩
  refine ⟨he, ?_⟩
  have hlay : ∀ b, foot (t.lay k q g (s.data k) (s.pm k) (s.on k)) b → foot t b ∨ b = q ∨ b = g := by
    rintro b (hb | hb | ⟨j, hj, hb⟩ | ⟨j, hj, hb⟩ | hb)
    · exact .inl (.inl hb)
    · exact .inl (.inr (.inl hb))
    · by_cases e : j = k
      · subst e
        simp only [MS.lay, upd_same] at hb
        exact .inr (.inl hb)
      · simp only [MS.lay, upd_other _ _ e] at hb
        exact .inl (.inr (.inr (.inl ⟨j, by simpa [MS.lay, e] using hj, hb⟩)))
    · by_cases e : j = k
      · subst e
        simp only [MS.lay, upd_same] at hb
        exact .inr (.inr hb)
      · simp only [MS.lay, upd_other _ _ e] at hb
        exact .inl (.inr (.inr (.inr (.inl ⟨j, by simpa [MS.lay, e] using hj, hb⟩))))
    · exact .inl (.inr (.inr (.inr (.inr hb))))
  have hw02 := hv.own.below.size
  have hb3 : Below w0.heap.size w0 w3 := hv.own.below.trans (hR.mono hw02)
  have hb4 : Below w0.heap.size w0 w4 := hb3.trans (hkp.below hb3.size fun b hb => hb.elim (fun e => hv.own.foot b (.inl (e.trans hv.mb.symm))) fun e => hv.own.foot b (.inr (.inl e)))
  have hr : w4.heap[r]? = w2.heap[r]? := by
    refine (hkp.block r (Nat.lt_of_lt_of_le hI2.lt hR.size) ?_).trans (hR.block r hI2.lt)
    rintro (e | e)
    · exact hI2.notFoot hm (.inl (e.trans hv.mb.symm))
    · exact hI2.notFoot hm (.inr (.inl e))
  refine ⟨hI2.same hr, t.lay k q g (s.data k) (s.pm k) (s.on k), ⟨hm4, hb4, fun b hb => ?_⟩, hv.at_, hv.mb, fun j => ?_, ?_, fun j hj => ?_, hv.most, hv.ts, hv.c⟩
  · rcases hlay b hb with h | h | h
    · exact hv.own.foot b h
    · omega
    · omega
  · have := hv.ks j
    rw [List.Nodup.mem_erase_iff hnd]
    simp only [MS.lay, List.mem_append, List.mem_singleton]
    by_cases e : j = k
    · subst e
      simp [hks]
    · simp [e, this]
  · have h1 := hv.len
    have h2 := List.length_erase_of_mem hk
    have h3 := List.length_pos_of_mem hk
    simp only [MS.lay, List.length_append, List.length_singleton]
    omega
  · by_cases e : j = k
    · subst e
      simp only [MS.lay, upd_same, and_self]
    · simp only [MS.lay, upd_other _ _ e]
      exact hv.data j (by simpa [MS.lay, e] using hj)
/-- What the slots of the region hold, whatever the order. -/
def phiCp (cm k hb pb m : Nat) (on : Bool) (l : List UInt8) (p n : Int) : Nat → Value → World → Prop
  | 0, x, _ => x = .pointer (some ⟨cm, 0, none⟩)
  | 1, x, _ => x = .int .u32 (k : Int)
  | 2, x, _ => x = .pointer (some ⟨hb, 0, none⟩)
  | 3, x, _ => x = .pointer (some ⟨hb, 0, none⟩)
  | 4, x, _ => x = .pointer (some ⟨hb, 0, none⟩)
  | 5, x, _ => x = .pointer (some ⟨pb, 0, none⟩)
  | 6, x, w => ∃ g, x = .pointer (some ⟨g, 0, none⟩) ∧ m ≤ g ∧ Pg 116 w g l p n
  | 7, x, _ => x = .pointer (some ⟨hb, 0, none⟩)
  | 8, x, _ => x = .pointer (some ⟨hb, 0, none⟩)
  | 9, x, _ => x = .pointer (some ⟨hb, 1, none⟩)
  | 10, x, _ => x = .bool on
  | 11, x, w => ∃ g, x = .agg #[.pointer (some ⟨g, 0, none⟩), .bool on] ∧ m ≤ g ∧ Pg 116 w g l p n
  | 12, x, w => ∃ g q, x = .pointer (some ⟨q, 0, none⟩) ∧ m ≤ g ∧ m ≤ q ∧ Pg 116 w g l p n ∧ w.heap[q]? = some (.cells #[.pointer (some ⟨g, 0, none⟩), .bool on] 93 (0, 0))
  | _ + 13, _, _ => True
theorem phiCp_mono (cm k hb pb m : Nat) (on : Bool) (l : List UInt8) (p n : Int) : ∀ i x w w', phiCp cm k hb pb m on l p n i x w → Below w.heap.size w w' → phiCp cm k hb pb m on l p n i x w'
  | 0, _, _, _, h, _ => h
  | 1, _, _, _, h, _ => h
  | 2, _, _, _, h, _ => h
  | 3, _, _, _, h, _ => h
  | 4, _, _, _, h, _ => h
  | 5, _, _, _, h, _ => h
  | 6, x, w, w', h, hbl => by obtain ⟨g, e, h1, h2⟩ := h; exact ⟨g, e, h1, h2.later hbl⟩
  | 7, _, _, _, h, _ => h
  | 8, _, _, _, h, _ => h
  | 9, _, _, _, h, _ => h
  | 10, _, _, _, h, _ => h
  | 11, x, w, w', h, hbl => by obtain ⟨g, e, h1, h2⟩ := h; exact ⟨g, e, h1, h2.later hbl⟩
  | 12, x, w, w', h, hbl => by obtain ⟨g, q, e, h1, h2, h3, h4⟩ := h; exact ⟨g, q, e, h1, h2, h3.later hbl, (hbl.block q (Array.getElem?_eq_some_iff.1 h4).1).trans h4⟩
  | _ + 13, _, _, _, _, _ => trivial
theorem list13 : ∀ xs : List Value, xs.length = 13 → ∃ x0 x1 x2 x3 x4 x5 x6 x7 x8 x9 x10 x11 x12, xs = [x0, x1, x2, x3, x4, x5, x6, x7, x8, x9, x10, x11, x12]
  | [x0, x1, x2, x3, x4, x5, x6, x7, x8, x9, x10, x11, x12], _ => ⟨_, _, _, _, _, _, _, _, _, _, _, _, _, rfl⟩
end Go.Proofs.Ytkpcajmphhdmiaa
namespace Go.Proofs.Ytkpcajmphhdmiaa
open Go.ChangeShapes Go.WideShapes Go.ChangeAt Go.RowKit
set_option linter.unusedVariables false
abbrev AM := Nat → Option (List UInt8 × Int × Bool)
def MS.abs (s : MS) : AM := fun k => if k ∈ s.ks then some (s.data k, s.pm k, s.on k) else none
def amap (f : AM) (a : Nat) (z : Int) : AM := fun j => if j = pageOf a then (match f j with | some (l, p, o) => some (l, orP p z, o) | none => some (zeros, z % 8, false)) else f j
def apoke (f : AM) (a : Nat) (v : UInt8) : AM := fun j => if j = pageOf a then (f j).map fun x => (x.1.set (a % 256) v, x.2.1, x.2.2) else f j
def awatch (f : AM) (a : Nat) (b : Bool) : AM := fun j => if j = pageOf a then (f j).map fun x => (x.1, x.2.1, b) else f j
theorem abs_in {s : MS} {k : Nat} (h : k ∈ s.ks) : s.abs k = some (s.data k, s.pm k, s.on k) := by unfold MS.abs; rw [if_pos h]
theorem abs_out {s : MS} {k : Nat} (h : k ∉ s.ks) : s.abs k = none := by unfold MS.abs; rw [if_neg h]
theorem mem_abs {s : MS} {k : Nat} : k ∈ s.ks ↔ (s.abs k).isSome = true := by
  by_cases h : k ∈ s.ks
  · simp [abs_in h, h]
  · simp [abs_out h, h]
theorem abs_mapped {s : MS} {a : Nat} {z : Int} {b : Nat} (h : pageOf a ∈ s.ks ∨ s.ks.length < s.most) : (s.mapped a z b).abs = amap s.abs a z := by
  funext j
  unfold MS.mapped amap
  by_cases hk : pageOf a ∈ s.ks
  · rw [if_pos hk]
    by_cases e : j = pageOf a
    · subst e
      rw [if_pos rfl, abs_in (s := s.also _ z) hk, abs_in hk]
      simp [MS.also, upd]
    · rw [if_neg e]
      by_cases hj : j ∈ s.ks
      · rw [abs_in (s := s.also _ z) hj, abs_in hj]
        simp [MS.also, upd, e]
      · rw [abs_out (s := s.also _ z) hj, abs_out hj]
  · have hr := h.resolve_left hk
    rw [if_neg hk, if_pos hr]
    by_cases e : j = pageOf a
    · subst e
      rw [if_pos rfl, abs_in (s := s.lay _ _ _ _ _ _) (by simp [MS.lay]), abs_out hk]
      simp [MS.lay, upd]
    · rw [if_neg e]
      by_cases hj : j ∈ s.ks
      · rw [abs_in (s := s.lay _ _ _ _ _ _) (by simp [MS.lay, hj]), abs_in hj]
        simp [MS.lay, upd, e]
      · rw [abs_out (s := s.lay _ _ _ _ _ _) (by simp [MS.lay, hj, e]), abs_out hj]
theorem abs_pokeAt (s : MS) (a : Nat) (v : UInt8) (tv : Value) : (s.pokeAt a v tv).abs = apoke s.abs a v := by
  funext j
  unfold MS.pokeAt apoke
  by_cases hk : pageOf a ∈ s.ks
  · rw [if_pos hk]
    by_cases e : j = pageOf a
    · subst e
      rw [if_pos rfl, abs_in (s := s.poke a v tv) hk, abs_in hk]
      simp [MS.poke, upd]
    · rw [if_neg e]
      by_cases hj : j ∈ s.ks
      · rw [abs_in (s := s.poke a v tv) hj, abs_in hj]
        simp [MS.poke, upd, e]
      · rw [abs_out (s := s.poke a v tv) hj, abs_out hj]
  · rw [if_neg hk]
    by_cases e : j = pageOf a
    · subst e
      rw [if_pos rfl, abs_out hk]
      rfl
    · rw [if_neg e]
theorem abs_watchAt (s : MS) (a : Nat) (b : Bool) : (s.watchAt a b).abs = awatch s.abs a b := by
  funext j
  unfold MS.watchAt awatch
  by_cases hk : pageOf a ∈ s.ks
  · rw [if_pos hk]
    by_cases e : j = pageOf a
    · subst e
      rw [if_pos rfl, abs_in (s := s.watch _ b) hk, abs_in hk]
      simp [MS.watch, upd]
    · rw [if_neg e]
      by_cases hj : j ∈ s.ks
      · rw [abs_in (s := s.watch _ b) hj, abs_in hj]
        simp [MS.watch, upd, e]
      · rw [abs_out (s := s.watch _ b) hj, abs_out hj]
  · rw [if_neg hk]
    by_cases e : j = pageOf a
    · subst e
      rw [if_pos rfl, abs_out hk]
      rfl
    · rw [if_neg e]
theorem get_abs (s : MS) (a : Nat) : s.get a = match s.abs (pageOf a) with | some (l, _, _) => l.getD (a % 256) 0 | none => 0 := by
  unfold MS.get
  by_cases h : pageOf a ∈ s.ks
  · rw [if_pos h, abs_in h]
  · rw [if_neg h, abs_out h]
theorem get_congr {s t : MS} (h : s.abs = t.abs) (a : Nat) : s.get a = t.get a := by rw [get_abs, get_abs, h]
/-- A part of a memory. -/
structure Part4 where
  at_ : Nat
  data : List UInt8
  perm : Int
  on : Bool
  da : Option Addr
  dcap : Nat
def wrapAt (a k : Nat) : Nat := (a + k) % 4294967296
theorem wrapAt_lt (a k : Nat) : wrapAt a k < 4294967296 := Nat.mod_lt _ (by omega)
def partMaps (f : AM) (p : Part4) : Nat → AM
  | 0 => f
  | k + 1 => amap (partMaps f p k) (wrapAt p.at_ k) p.perm
def partPokes (f : AM) (p : Part4) : Nat → AM
  | 0 => f
  | k + 1 => apoke (partPokes f p k) (wrapAt p.at_ k) (p.data.getD k 0)
def partDone (f : AM) (p : Part4) : AM := partPokes (partMaps f p (max p.data.length 1)) p p.data.length
def partsDone : List Part4 → AM → AM
  | [], f => f
  | p :: ps, f => partsDone ps (partDone f p)
def watches : List Part4 → AM → AM
  | [], f => f
  | p :: ps, f => watches ps (awatch f p.at_ p.on)
def memOf (ps : List Part4) : AM := watches ps (partsDone ps fun _ => none)
theorem partsDone_snoc (ps : List Part4) (p : Part4) : ∀ f, partsDone (ps ++ [p]) f = partDone (partsDone ps f) p := by
  induction ps with
  | nil => intro f; rfl
  | cons q ps ih => intro f; exact ih _
theorem watches_snoc (ps : List Part4) (p : Part4) : ∀ f, watches (ps ++ [p]) f = awatch (watches ps f) p.at_ p.on := by
  induction ps with
  | nil => intro f; rfl
  | cons q ps ih => intro f; exact ih _
theorem take_snoc {α : Type} (l : List α) (k : Nat) (h : k < l.length) : l.take (k + 1) = l.take k ++ [l[k]] := by
  rw [List.take_add_one, List.getElem?_eq_getElem h]
  rfl
/-- A memory on the way. -/
structure MI (w wr : World) (s : MS) (mb : Nat) (f : AM) (C : Nat) : Prop where
  own : Own w wr s
  mb : s.mb = mb
  most : s.most = 64
  abs : s.abs = f
  off : ∀ k ∈ s.ks, s.on k = false
  ts : s.ts = []
  c : s.c ≤ C
theorem MI.poke {w wr wr' : World} {s : MS} {mb C a : Nat} {f : AM} {v : UInt8} {tv : Value} (h : MI w wr s mb f C) (st : Step wr s wr' (s.pokeAt a v tv)) : MI w wr' (s.pokeAt a v tv) mb (apoke f a v) (C + 1) ∧ (s.pokeAt a v tv).ks = s.ks := by
  have hc := pokeAt_c s a v tv
  have hc' := h.c
  have hw : s.watched a = false := by
    unfold MS.watched
    by_cases hk : pageOf a ∈ s.ks
    · rw [h.off _ hk, Bool.and_false]
    · rw [decide_eq_false hk, Bool.false_and]
  refine ⟨⟨h.own.step st, by rw [pokeAt_mb]; exact h.mb, by rw [pokeAt_most]; exact h.most, by rw [abs_pokeAt, h.abs], ?_, by rw [pokeAt_ts, hw]; simpa using h.ts, by omega⟩, pokeAt_ks _ _ _ _⟩
  rw [pokeAt_ks, pokeAt_on]
  exact h.off
/-- So many pages at most. -/
def MapB (s : MS) (a k L : Nat) : Prop := (k = 0 → s.ks.length ≤ L) ∧ (1 ≤ k → pageOf (wrapAt a (k - 1)) ∈ s.ks ∧ s.ks.length ≤ L + (a % 256 + (k - 1)) / 256 + 1)
theorem mapped_ks (s : MS) (a : Nat) (z : Int) (b : Nat) : (∀ j, j ∈ s.ks → j ∈ (s.mapped a z b).ks) ∧ (s.mapped a z b).ks.length ≤ s.ks.length + 1 ∧ (pageOf a ∈ s.ks → (s.mapped a z b).ks = s.ks) ∧ (pageOf a ∈ s.ks ∨ s.ks.length < s.most → pageOf a ∈ (s.mapped a z b).ks) := by
  unfold MS.mapped
  by_cases hk : pageOf a ∈ s.ks
  · rw [if_pos hk]
    exact ⟨fun j h => h, by simp [MS.also], fun _ => rfl, fun _ => hk⟩
  · rw [if_neg hk]
    by_cases hr : s.ks.length < s.most
    · rw [if_pos hr]
      exact ⟨fun j h => by simp [MS.lay, h], by simp [MS.lay], fun h => absurd h hk, fun _ => by simp [MS.lay]⟩
    · rw [if_neg hr]
      exact ⟨fun j h => h, by omega, fun _ => rfl, fun h => h.elim (fun h => absurd h hk) fun h => absurd h hr⟩
theorem mapped_on {s : MS} {a : Nat} {z : Int} {b : Nat} (h : ∀ k ∈ s.ks, s.on k = false) : ∀ k ∈ (s.mapped a z b).ks, (s.mapped a z b).on k = false := by
  unfold MS.mapped
  by_cases hk : pageOf a ∈ s.ks
  · rw [if_pos hk]; exact h
  · rw [if_neg hk]
    by_cases hr : s.ks.length < s.most
    · rw [if_pos hr]
      intro k hk'
      by_cases e : k = pageOf a
      · subst e; simp [MS.lay, upd]
      · simp only [MS.lay, upd_other _ _ e]
        exact h k (by simpa [MS.lay, e] using hk')
    · rw [if_neg hr]; exact h
theorem page_next (a k : Nat) (hk : 1 ≤ k) (h : (a % 256 + k) % 256 ≠ 0) : pageOf (wrapAt a k) = pageOf (wrapAt a (k - 1)) := by
  unfold pageOf wrapAt
  omega
theorem MI.map {w wr wr' : World} {s : MS} {mb C a k L b : Nat} {f : AM} {z : Int} (h : MI w wr s mb f C) (hB : MapB s a k L) (hk : k < 600) (hL : L ≤ 28) (st : Step wr s wr' (s.mapped (wrapAt a k) z b)) : MI w wr' (s.mapped (wrapAt a k) z b) mb (amap f (wrapAt a k) z) C ∧ MapB (s.mapped (wrapAt a k) z b) a (k + 1) L := by
  obtain ⟨m1, m2, m3, m4⟩ := mapped_ks s (wrapAt a k) z b
  have hroom : pageOf (wrapAt a k) ∈ s.ks ∨ s.ks.length < s.most := by
    right
    rw [h.most]
    by_cases h0 : k = 0
    · have := hB.1 h0
      omega
    · have := (hB.2 (by omega)).2
      omega
  refine ⟨⟨h.own.step st, by rw [mapped_mb]; exact h.mb, by rw [mapped_most]; exact h.most, by rw [abs_mapped hroom, h.abs], mapped_on h.off, by rw [mapped_ts]; exact h.ts, by rw [mapped_c]; exact h.c⟩, fun h0 => by omega, fun _ => ⟨by simpa using m4 hroom, ?_⟩⟩
  rw [Nat.add_sub_cancel]
  by_cases h0 : k = 0
  · have := hB.1 h0
    omega
  · have hb := hB.2 (by omega)
    by_cases hm : (a % 256 + k) % 256 = 0
    · omega
    · have := page_next a k (by omega) hm
      rw [m3 (by rw [this]; exact hb.1)]
      have h2 := hb.2
      have : (a % 256 + (k - 1)) / 256 ≤ (a % 256 + k) / 256 := Nat.div_le_div_right (by omega)
      omega
end Go.Proofs.Ytkpcajmphhdmiaa
namespace Go.Proofs.Ytkpcajmphhdmiaa
open Go.ChangeShapes Go.WideShapes Go.ChangeAt Go.RowKit
set_option linter.unusedVariables false
structure PartAt (w : World) (b o : Nat) (p : Part4) : Prop where
  c0 : w.cell? ⟨b, o, none⟩ = some (.int .u32 (p.at_ : Int))
  c1 : w.cell? ⟨b, o + 1, none⟩ = some (.slice p.da p.data.length p.dcap)
  c2 : w.cell? ⟨b, o + 2, none⟩ = some (.int .i64 p.perm)
  c3 : w.cell? ⟨b, o + 3, none⟩ = some (.bool p.on)
  row : Row w p.da p.data p.dcap
  lt : p.at_ < 4294967296
def Pieces (w : World) (ao : Option Addr) (ps : List Part4) : Prop := ps = [] ∨ ∃ b off, ao = some ⟨b, off, none⟩ ∧ b < w.heap.size ∧ ∀ j (h : j < ps.length), PartAt w b (off + j * 4) ps[j]
theorem PartAt.later {w w' : World} {b o : Nat} {p : Part4} (h : PartAt w b o p) (hlt : b < w.heap.size) (hb : Below w.heap.size w w') : PartAt w' b o p :=
  ⟨(hb.cell (p := ⟨b, o, none⟩) hlt).trans h.c0, (hb.cell (p := ⟨b, o + 1, none⟩) hlt).trans h.c1, (hb.cell (p := ⟨b, o + 2, none⟩) hlt).trans h.c2, (hb.cell (p := ⟨b, o + 3, none⟩) hlt).trans h.c3, h.row.later hb, h.lt⟩
theorem Pieces.later {w w' : World} {ao : Option Addr} {ps : List Part4} (h : Pieces w ao ps) (hb : Below w.heap.size w w') : Pieces w' ao ps := by
  rcases h with h | ⟨b, off, e, hlt, h⟩
  · exact .inl h
  · exact .inr ⟨b, off, e, Nat.lt_of_lt_of_le hlt hb.size, fun j hj => (h j hj).later hlt hb⟩
theorem Pieces.at {w : World} {ao : Option Addr} {ps : List Part4} (h : Pieces w ao ps) {k : Nat} (hk : k < ps.length) : ∃ b off, ao = some ⟨b, off, none⟩ ∧ b < w.heap.size ∧ PartAt w b (off + k * 4) ps[k] := by
  rcases h with h | ⟨b, off, e, hlt, h⟩
  · rw [h] at hk; simp at hk
  · exact ⟨b, off, e, hlt, h k hk⟩
def few (ps : List Part4) : Bool := (ps.take 8).all (fun p => decide (p.data.length ≤ 600)) && decide (ps.length ≤ 8)
set_option maxRecDepth 20000 in
theorem few_any (w : World) (ao : Option Addr) (cap : Nat) (ps : List Part4) (h : Pieces w ao ps) (hlen : ps.length ≤ 9223372036854775807) : Calls Try.prog 7 #[.slice ao ps.length cap] w fun e w' => e = .returned (.bool (few ps)) ∧ w' = w := by
  have H := hidden h
  clear h
  go_enter Try.func7, Try.ntmps7
  go_wp2
  go_loopw [3] (fun i wr => ∃ k : Nat, k ≤ ps.length ∧ k ≤ 8 ∧ i = .int .i64 (k : Int) ∧ wr = w ∧ ∀ p ∈ ps.take k, p.data.length ≤ 600) (fun i _ => 8 - (intOf i).toNat)
  case atStart => exact ⟨0, by omega, by omega, rfl, rfl, by simp⟩
  case round =>
    obtain ⟨k, hk1, hk2, rfl, rfl, hall⟩ := hrel
    have HA := hidden hall
    clear hall
    by_cases hkl : k < ps.length
    · by_cases hk8 : k < 8
      · obtain ⟨b, off, rfl, hlt, hp⟩ := (Hid.out H).at hkl
        have hc := hp.c1
        have hrl := hp.row.len
        have hrm := hp.row.max
        simp only [maxLen] at hrm
        have hmem : ps[k] ∈ ps.take 8 := by
          rw [List.mem_iff_getElem?]
          exact ⟨k, by rw [List.getElem?_take_of_lt hk8, List.getElem?_eq_getElem hkl]⟩
        have HN := hidden (take_snoc ps k hkl)
        clear hp
        by_cases h6 : ps[k].data.length ≤ 600
        · have HN2 : Hid (∀ p ∈ ps.take (k + 1), p.data.length ≤ 600) := by
            intro p hp
            rw [Hid.out HN] at hp
            rcases List.mem_append.1 hp with hp | hp
            · exact Hid.out HA p hp
            · simp at hp; subst hp; exact h6
          have h6' : ¬ (600 : Int) < (ps[k].data.length : Int) := by omega
          clear HN hmem
          generalize ps[k].data.length = x at hc h6' hrl
          generalize ps[k].da = da at hc
          generalize ps[k].dcap = dc at hc hrl hrm
          go_wp2
          go_roundw
          case rel => exact ⟨k + 1, by omega, by omega, by simp, by simp, Hid.out HN2⟩
          case measure => simp [intOf]; omega
        · have h6' : (600 : Int) < (ps[k].data.length : Int) := by omega
          have HF : Hid (few ps = false) := by
            show few ps = false
            unfold few
            rw [Bool.and_eq_false_iff]
            left
            rw [← Bool.not_eq_true, List.all_eq_true]
            intro h
            have := h _ hmem
            simp at this
            omega
          clear HN hmem h6
          generalize ps[k].data.length = x at hc h6' hrl
          generalize ps[k].da = da at hc
          generalize ps[k].dcap = dc at hc hrl hrm
          go_wp2
          go_ret
          exact ⟨ret_bool (Hid.out HF).symm, rfl⟩
      · have hk8' : ¬ (k : Int) < 8 := by omega
        obtain rfl : k = 8 := by omega
        have hl8 : ¬ (ps.length : Int) ≤ 8 := by omega
        have HF : Hid (few ps = false) := by
          show few ps = false
          unfold few
          rw [Bool.and_eq_false_iff]
          right
          simp
          omega
        go_wp2
        go_ret
        exact ⟨ret_bool (Hid.out HF).symm, rfl⟩
    · have hkl' : decide ((k : Int) < (ps.length : Int)) = false := by simp; omega
      have hl8 : (ps.length : Int) ≤ 8 := by omega
      have HF : Hid (few ps = true) := by
        show few ps = true
        unfold few
        rw [Bool.and_eq_true]
        refine ⟨List.all_eq_true.2 fun p hp => ?_, by simp; omega⟩
        have := Hid.out HA p (by rw [List.take_of_length_le (by omega)]; exact List.mem_of_mem_take hp)
        simpa using this
      go_wp2
      go_ret
      exact ⟨ret_bool (Hid.out HF).symm, rfl⟩
end Go.Proofs.Ytkpcajmphhdmiaa
