/- Same: two pages, two memories held against each other. -/
import Derived.Test.YtpknppicamefgaaQMAF
import Derived.Deep.LoopGhost
import Derived.Laws.Strings
import Derived.Test.YtpknppicamefgaaQMAB
import Derived.Outline
import Derived.Test.YtpknppicamefgaaQMAN
namespace Go.Proofs.Ytpknppicamefgaa
open Go.ChangeShapes Go.WideShapes Go.ChangeAt Go.RowKit
set_option linter.unusedVariables false
theorem bytes_ne {l m : List UInt8} (h : l ≠ m) : ((⟨l.toArray⟩ : ByteArray).toList == (⟨m.toArray⟩ : ByteArray).toList) = false := by
  rw [ByteArray.toList_eq, ByteArray.toList_eq]
  simpa using h
theorem partB_all (l : List UInt8) (h : l.length = 256) : partB l 0 256 = l := by
  unfold partB
  simp [List.take_of_length_le, h]
def goodAt (s t : MS) (k : Nat) : Bool := decide (k ∈ t.ks) && decide (s.pm k = t.pm k ∧ s.data k = t.data k)
def sameM (s t : MS) : Bool := decide (s.ks.length = t.ks.length) && s.ks.all (goodAt s t)
theorem pageOf_key {k : Nat} (h : k % 256 = 0) : pageOf k = k := by unfold pageOf; omega
end Go.Proofs.Ytpknppicamefgaa
namespace Go.Proofs.Ytpknppicamefgaa
open Go.ChangeShapes Go.WideShapes Go.ChangeAt Go.RowKit
set_option linter.unusedVariables false
/-- What the store into the copy's counter leaves. -/
structure R2 (c : Nat) (l : List UInt8) (p n : Int) (w w' : World) : Prop where
  only : Only c w w'
  any : (∃ m, Pg 109 w c l p m) → ∃ m, Pg 109 w' c l p m
  fin : Pg 109 w c l p n → Pg 109 w' c l p n
theorem R2.refl {c : Nat} {l : List UInt8} {p n : Int} (w : World) : R2 c l p n w w := ⟨Only.refl _ _, id, id⟩
theorem R2.later (c : Nat) (l : List UInt8) (p n : Int) : Later (R2 c l p n) :=
  ⟨fun w => R2.refl w, fun u v w h k => ⟨h.only.trans k.only, fun x => k.any (h.any x), fun x => k.fin (h.fin x)⟩, fun w => ⟨(Only.refl _ w).drew, fun ⟨m, h⟩ => ⟨m, h.same rfl⟩, fun h => h.same rfl⟩⟩
theorem r2_store {c : Nat} {l : List UInt8} {p n m : Int} {w : World} (h : Pg 109 w c l p m) : R2 c l p n w (w.setCell ⟨c, 257, none⟩ (.int .i64 n)) :=
  ⟨(Only.refl _ _).setCell _ _, fun _ => ⟨n, h.setCount n⟩, fun _ => h.setCount n⟩
/-- What the slots of the region hold, whatever the order. -/
def phiBox (b m : Nat) (l : List UInt8) (p : Int) : Nat → Value → World → Prop
  | 0, x, _ => x = .pointer (some ⟨b, 0, none⟩)
  | 1, x, _ => x = .pointer (some ⟨b, 0, none⟩)
  | 2, x, _ => x = .pointer (some ⟨b, 0, none⟩)
  | 3, x, _ => x = .agg (cellsU l).toArray
  | 4, x, _ => x = .pointer (some ⟨b, 0, none⟩)
  | 5, x, _ => x = .pointer (some ⟨b, 0, none⟩)
  | 6, x, _ => x = .pointer (some ⟨b, 256, none⟩)
  | 7, x, _ => x = .int .i64 p
  | 8, x, _ => x = .agg (pcells l p 0)
  | 9, x, w => ∃ g, x = .pointer (some ⟨g, 0, none⟩) ∧ m ≤ g ∧ Pg 109 w g l p 0
  | 10, x, w => ∃ g, x = .pointer (some ⟨g, 0, none⟩) ∧ m ≤ g ∧ Pg 109 w g l p 0
  | _ + 11, _, _ => True
theorem phiBox_mono (b m : Nat) (l : List UInt8) (p : Int) : ∀ i x w w', phiBox b m l p i x w → Below w.heap.size w w' → phiBox b m l p i x w'
  | 0, _, _, _, h, _ => h
  | 1, _, _, _, h, _ => h
  | 2, _, _, _, h, _ => h
  | 3, _, _, _, h, _ => h
  | 4, _, _, _, h, _ => h
  | 5, _, _, _, h, _ => h
  | 6, _, _, _, h, _ => h
  | 7, _, _, _, h, _ => h
  | 8, _, _, _, h, _ => h
  | 9, x, w, w', h, hb => by obtain ⟨g, e, h1, h2⟩ := h; exact ⟨g, e, h1, h2.later hb⟩
  | 10, x, w, w', h, hb => by obtain ⟨g, e, h1, h2⟩ := h; exact ⟨g, e, h1, h2.later hb⟩
  | _ + 11, _, _, _, _, _ => trivial
/-- What the slots of the region hold, whatever the order. -/
def phiStore (b c : Nat) (l : List UInt8) (p n : Int) : Nat → Value → World → Prop
  | 0, x, _ => x = .pointer (some ⟨c, 0, none⟩)
  | 1, x, _ => x = .pointer (some ⟨c, 0, none⟩)
  | 2, x, _ => x = .pointer (some ⟨c, 257, none⟩)
  | 3, x, _ => x = .pointer (some ⟨b, 0, none⟩)
  | 4, x, _ => x = .pointer (some ⟨b, 0, none⟩)
  | 5, x, _ => x = .pointer (some ⟨b, 257, none⟩)
  | 6, x, _ => x = .int .i64 n
  | 7, x, w => x = .tuple #[] ∧ Pg 109 w c l p n
  | _ + 8, _, _ => True
theorem phiStore_mono (b c : Nat) (l : List UInt8) (p n : Int) : ∀ i x w w', phiStore b c l p n i x w → R2 c l p n w w' → phiStore b c l p n i x w'
  | 0, _, _, _, h, _ => h
  | 1, _, _, _, h, _ => h
  | 2, _, _, _, h, _ => h
  | 3, _, _, _, h, _ => h
  | 4, _, _, _, h, _ => h
  | 5, _, _, _, h, _ => h
  | 6, _, _, _, h, _ => h
  | 7, x, w, w', h, hb => ⟨h.1, hb.fin h.2⟩
  | _ + 8, _, _, _, _, _ => trivial
theorem list11 : ∀ xs : List Value, xs.length = 11 → ∃ x0 x1 x2 x3 x4 x5 x6 x7 x8 x9 x10, xs = [x0, x1, x2, x3, x4, x5, x6, x7, x8, x9, x10]
  | [x0, x1, x2, x3, x4, x5, x6, x7, x8, x9, x10], _ => ⟨_, _, _, _, _, _, _, _, _, _, _, rfl⟩
theorem list8 : ∀ xs : List Value, xs.length = 8 → ∃ x0 x1 x2 x3 x4 x5 x6 x7, xs = [x0, x1, x2, x3, x4, x5, x6, x7]
  | [x0, x1, x2, x3, x4, x5, x6, x7], _ => ⟨_, _, _, _, _, _, _, _, rfl⟩
end Go.Proofs.Ytpknppicamefgaa
namespace Go.Proofs.Ytpknppicamefgaa
open Go.ChangeShapes Go.WideShapes Go.ChangeAt Go.RowKit
set_option linter.unusedVariables false
theorem load73 {w : World} {a : Addr} {v : Value} (hc : w.cell? a = some v) : (loadVar 73 a).run Try.prog w = .ok v w := by
  simp [loadVar, isAgg, Sem.run_bind, run_underlying Try.underlying73, hc, go_sem]
theorem load4 {w : World} {a : Addr} {v : Value} (hc : w.cell? a = some v) : (loadVar 4 a).run Try.prog w = .ok v w := by
  simp [loadVar, isAgg, Sem.run_bind, run_underlying Try.underlying4, hc, go_sem]
theorem build75b (b : Nat) (on : Bool) (w : World) : (Instr.build 75 #[(0, .pointer (some ⟨b, 0, none⟩)), (1, .bool on)]).run Try.prog w = .ok (.agg #[.pointer (some ⟨b, 0, none⟩), .bool on]) w := by kernel_rfl
/-- A memory that is the same. -/
structure CopyOf (s t : MS) : Prop where
  ks : ∀ k, k ∈ t.ks ↔ k ∈ s.ks
  len : t.ks.length = s.ks.length
  data : ∀ k ∈ t.ks, t.data k = s.data k ∧ t.pm k = s.pm k ∧ t.on k = s.on k
  most : t.most = s.most
  ts : t.ts = []
  c : t.c = s.c
/-- On the way there. -/
structure CopyInv (w0 w : World) (s : MS) (mb r : Nat) (todo : List Nat) (t : MS) : Prop where
  own : Own w0 w t
  at_ : w0.heap.size ≤ r
  mb : t.mb = mb
  ks : ∀ k, k ∈ t.ks ↔ k ∈ s.ks ∧ k ∉ todo
  len : t.ks.length + todo.length = s.ks.length
  data : ∀ k ∈ t.ks, t.data k = s.data k ∧ t.pm k = s.pm k ∧ t.on k = s.on k
  most : t.most = s.most
  ts : t.ts = []
  c : t.c = s.c
theorem It.notFoot {w : World} {r bm : Nat} {ks todo : List Nat} {t : MS} (h : It w r bm ks todo) (ht : MemW w t) : ¬ foot t r := by
  obtain ⟨seen, c0, h1, _⟩ := h.now
  rintro (e | e | ⟨k, hk, e⟩ | ⟨k, hk, e⟩ | e)
  · rw [e, ht.self] at h1; simp at h1
  · rw [e, ht.map] at h1; simp [mapObj] at h1
  · rw [e, ht.held k hk] at h1; simp at h1
  · obtain ⟨n, _, _, hp⟩ := ht.page k hk
    rw [e, hp.blk] at h1; simp at h1
  · obtain ⟨cur, hc⟩ := ht.tv_cells e
    rw [hc] at h1; simp at h1
theorem MemW.raise {w : World} {s : MS} (h : MemW w s) (c : Nat) (hc : s.c ≤ c) : MemW w { s with c := c } :=
  ⟨h.self, h.map, h.held, fun k hk => let ⟨n, h0, h1, h2⟩ := h.page k hk; ⟨n, h0, by show n ≤ (c : Int); omega, h2⟩, h.nodup, h.hbi, h.pbi, h.key, h.perm, h.room, h.great, h.touched, Nat.le_trans h.few hc⟩
theorem foot_raise {s : MS} {c b : Nat} (h : foot { s with c := c } b) : foot s b := h
/-- The last step of a round: what was copied is laid. -/
theorem copy_add {w0 w2 w3 : World} {s t : MS} {mb r k q g : Nat} {todo : List Nat} (hv : CopyInv w0 w2 s mb r todo t) (hR : Below w2.heap.size w2 w3) (hs0 : MemW w0 s) (hks : k ∈ s.ks) (hk : k ∈ todo) (hH : Held w3 q g (s.data k) (s.pm k) (s.on k) s.c) (hq : w2.heap.size ≤ q) (hg : w2.heap.size ≤ g) (hI2 : It w2 r s.bm s.ks (todo.erase k)) (hnd : todo.Nodup) :
    Calls Try.prog 79 #[.pointer (some ⟨mb, 0, none⟩), .int .u32 (k : Int), .pointer (some ⟨q, 0, none⟩)] w3 fun e w4 => e = .returned (.tuple #[]) ∧ It w4 r s.bm s.ks (todo.erase k) ∧ ∃ t', CopyInv w0 w4 s mb r (todo.erase k) t' := by
  have hm := hv.own.mem
  have hm3 := hm.later hR
  have hkk := hs0.key k hks
  have hkt : k ∉ t.ks := fun h => ((hv.ks k).1 h).2 hk
  have hlt : t.ks.length < t.most := by
    have h1 := hv.len
    have h2 := List.length_pos_of_mem hk
    have h3 := hs0.room
    rw [hv.most]
    omega
  have hc := addPage_any w3 t k q g (s.data k) (s.pm k) (s.on k) hm3 hkk.1 (by rw [pageOf_key hkk.2]; exact hkt) (by rw [hv.c]; exact hH) hlt (fun hf => by have := hm.lt hf; omega) (fun hf => by have := hm.lt hf; omega)
  rw [hv.mb, pageOf_key hkk.2] at hc
  refine hc.mono ?_
  rintro e w4 ⟨he, hm4, hkp⟩
  refine ⟨he, ?_⟩
  have hlay : ∀ b, foot (t.lay k q g (s.data k) (s.pm k) (s.on k)) b → foot t b ∨ b = q ∨ b = g := by
    rintro b (hb | hb | ⟨j, hj, hb⟩ | ⟨j, hj, hb⟩ | hb)
    · exact .inl (.inl hb)
    · exact .inl (.inr (.inl hb))
    · by_cases e : j = k
      · subst e
        simp only [MS.lay, upd_same] at hb
        exact .inr (.inl hb)
      · simp only [MS.lay, upd_other _ _ e] at hb
        exact .inl (.inr (.inr (.inl ⟨j, by simpa [MS.lay, e] using hj, hb⟩)))
    · by_cases e : j = k
      · subst e
        simp only [MS.lay, upd_same] at hb
        exact .inr (.inr hb)
      · simp only [MS.lay, upd_other _ _ e] at hb
        exact .inl (.inr (.inr (.inr (.inl ⟨j, by simpa [MS.lay, e] using hj, hb⟩))))
    · exact .inl (.inr (.inr (.inr (.inr hb))))
  have hw02 := hv.own.below.size
  have hb3 : Below w0.heap.size w0 w3 := hv.own.below.trans (hR.mono hw02)
  have hb4 : Below w0.heap.size w0 w4 := hb3.trans (hkp.below hb3.size fun b hb => hb.elim (fun e => hv.own.foot b (.inl (e.trans hv.mb.symm))) fun e => hv.own.foot b (.inr (.inl e)))
  have hr : w4.heap[r]? = w2.heap[r]? := by
    refine (hkp.block r (Nat.lt_of_lt_of_le hI2.lt hR.size) ?_).trans (hR.block r hI2.lt)
    rintro (e | e)
    · exact hI2.notFoot hm (.inl (e.trans hv.mb.symm))
    · exact hI2.notFoot hm (.inr (.inl e))
  refine ⟨hI2.same hr, t.lay k q g (s.data k) (s.pm k) (s.on k), ⟨hm4, hb4, fun b hb => ?_⟩, hv.at_, hv.mb, fun j => ?_, ?_, fun j hj => ?_, hv.most, hv.ts, hv.c⟩
  · rcases hlay b hb with h | h | h
    · exact hv.own.foot b h
    · omega
    · omega
  · have := hv.ks j
    rw [List.Nodup.mem_erase_iff hnd]
    simp only [MS.lay, List.mem_append, List.mem_singleton]
    by_cases e : j = k
    · subst e
      simp [hks]
    · simp [e, this]
  · have h1 := hv.len
    have h2 := List.length_erase_of_mem hk
    have h3 := List.length_pos_of_mem hk
    simp only [MS.lay, List.length_append, List.length_singleton]
    omega
  · by_cases e : j = k
    · subst e
      simp only [MS.lay, upd_same, and_self]
    · simp only [MS.lay, upd_other _ _ e]
      exact hv.data j (by simpa [MS.lay, e] using hj)
/-- What the slots of the region hold, whatever the order. -/
def phiCp (cm k hb pb m : Nat) (on : Bool) (l : List UInt8) (p n : Int) : Nat → Value → World → Prop
  | 0, x, _ => x = .pointer (some ⟨cm, 0, none⟩)
  | 1, x, _ => x = .int .u32 (k : Int)
  | 2, x, _ => x = .pointer (some ⟨hb, 0, none⟩)
  | 3, x, _ => x = .pointer (some ⟨hb, 0, none⟩)
  | 4, x, _ => x = .pointer (some ⟨hb, 0, none⟩)
  | 5, x, _ => x = .pointer (some ⟨pb, 0, none⟩)
  | 6, x, w => ∃ g, x = .pointer (some ⟨g, 0, none⟩) ∧ m ≤ g ∧ Pg 109 w g l p n
  | 7, x, _ => x = .pointer (some ⟨hb, 0, none⟩)
  | 8, x, _ => x = .pointer (some ⟨hb, 0, none⟩)
  | 9, x, _ => x = .pointer (some ⟨hb, 1, none⟩)
  | 10, x, _ => x = .bool on
  | 11, x, w => ∃ g, x = .agg #[.pointer (some ⟨g, 0, none⟩), .bool on] ∧ m ≤ g ∧ Pg 109 w g l p n
  | 12, x, w => ∃ g q, x = .pointer (some ⟨q, 0, none⟩) ∧ m ≤ g ∧ m ≤ q ∧ Pg 109 w g l p n ∧ w.heap[q]? = some (.cells #[.pointer (some ⟨g, 0, none⟩), .bool on] 75 (0, 0))
  | _ + 13, _, _ => True
theorem phiCp_mono (cm k hb pb m : Nat) (on : Bool) (l : List UInt8) (p n : Int) : ∀ i x w w', phiCp cm k hb pb m on l p n i x w → Below w.heap.size w w' → phiCp cm k hb pb m on l p n i x w'
  | 0, _, _, _, h, _ => h
  | 1, _, _, _, h, _ => h
  | 2, _, _, _, h, _ => h
  | 3, _, _, _, h, _ => h
  | 4, _, _, _, h, _ => h
  | 5, _, _, _, h, _ => h
  | 6, x, w, w', h, hbl => by obtain ⟨g, e, h1, h2⟩ := h; exact ⟨g, e, h1, h2.later hbl⟩
  | 7, _, _, _, h, _ => h
  | 8, _, _, _, h, _ => h
  | 9, _, _, _, h, _ => h
  | 10, _, _, _, h, _ => h
  | 11, x, w, w', h, hbl => by obtain ⟨g, e, h1, h2⟩ := h; exact ⟨g, e, h1, h2.later hbl⟩
  | 12, x, w, w', h, hbl => by obtain ⟨g, q, e, h1, h2, h3, h4⟩ := h; exact ⟨g, q, e, h1, h2, h3.later hbl, (hbl.block q (Array.getElem?_eq_some_iff.1 h4).1).trans h4⟩
  | _ + 13, _, _, _, _, _ => trivial
theorem list13 : ∀ xs : List Value, xs.length = 13 → ∃ x0 x1 x2 x3 x4 x5 x6 x7 x8 x9 x10 x11 x12, xs = [x0, x1, x2, x3, x4, x5, x6, x7, x8, x9, x10, x11, x12]
  | [x0, x1, x2, x3, x4, x5, x6, x7, x8, x9, x10, x11, x12], _ => ⟨_, _, _, _, _, _, _, _, _, _, _, _, _, rfl⟩
end Go.Proofs.Ytpknppicamefgaa
