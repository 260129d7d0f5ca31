/- A memory's copy. -/
import Derived.Test.YtpknppicamefgaaSames
import Derived.Test.YtpknppicamefgaaCopyWalk
import Derived.Test.YtpknppicamefgaaHead
import Derived.Test.YtpknppicamefgaaOwns
namespace Go.Proofs.Ytpknppicamefgaa
open Go.ChangeShapes Go.WideShapes Go.ChangeAt Go.RowKit
set_option linter.unusedVariables false
theorem load73 {w : World} {a : Addr} {v : Value} (hc : w.cell? a = some v) : (loadVar 73 a).run Try.prog w = .ok v w := by
  simp [loadVar, isAgg, Sem.run_bind, run_underlying Try.underlying73, hc, go_sem]
theorem load4 {w : World} {a : Addr} {v : Value} (hc : w.cell? a = some v) : (loadVar 4 a).run Try.prog w = .ok v w := by
  simp [loadVar, isAgg, Sem.run_bind, run_underlying Try.underlying4, hc, go_sem]
theorem build75b (b : Nat) (on : Bool) (w : World) : (Instr.build 75 #[(0, .pointer (some ⟨b, 0, none⟩)), (1, .bool on)]).run Try.prog w = .ok (.agg #[.pointer (some ⟨b, 0, none⟩), .bool on]) w := by kernel_rfl
/-- A memory that is the same. -/
structure CopyOf (s t : MS) : Prop where
  ks : ∀ k, k ∈ t.ks ↔ k ∈ s.ks
  len : t.ks.length = s.ks.length
  data : ∀ k ∈ t.ks, t.data k = s.data k ∧ t.pm k = s.pm k ∧ t.on k = s.on k
  most : t.most = s.most
  ts : t.ts = []
  c : t.c = s.c
/-- On the way there. -/
structure CopyInv (w0 w : World) (s : MS) (mb r : Nat) (todo : List Nat) (t : MS) : Prop where
  own : Own w0 w t
  at_ : w0.heap.size ≤ r
  mb : t.mb = mb
  ks : ∀ k, k ∈ t.ks ↔ k ∈ s.ks ∧ k ∉ todo
  len : t.ks.length + todo.length = s.ks.length
  data : ∀ k ∈ t.ks, t.data k = s.data k ∧ t.pm k = s.pm k ∧ t.on k = s.on k
  most : t.most = s.most
  ts : t.ts = []
  c : t.c = s.c
theorem It.notFoot {w : World} {r bm : Nat} {ks todo : List Nat} {t : MS} (h : It w r bm ks todo) (ht : MemW w t) : ¬ foot t r := by
  obtain ⟨seen, c0, h1, _⟩ := h.now
  rintro (e | e | ⟨k, hk, e⟩ | ⟨k, hk, e⟩ | e)
  · rw [e, ht.self] at h1; simp at h1
  · rw [e, ht.map] at h1; simp [mapObj] at h1
  · rw [e, ht.held k hk] at h1; simp at h1
  · obtain ⟨n, _, _, hp⟩ := ht.page k hk
    rw [e, hp.blk] at h1; simp at h1
  · obtain ⟨cur, hc⟩ := ht.tv_cells e
    rw [hc] at h1; simp at h1
theorem MemW.raise {w : World} {s : MS} (h : MemW w s) (c : Nat) (hc : s.c ≤ c) : MemW w { s with c := c } :=
  ⟨h.self, h.map, h.held, fun k hk => let ⟨n, h0, h1, h2⟩ := h.page k hk; ⟨n, h0, by show n ≤ (c : Int); omega, h2⟩, h.nodup, h.hbi, h.pbi, h.key, h.perm, h.room, h.great, h.touched, Nat.le_trans h.few hc⟩
theorem foot_raise {s : MS} {c b : Nat} (h : foot { s with c := c } b) : foot s b := h
/-- The last step of a round: what was copied is laid. -/
theorem copy_add {w0 w2 w3 : World} {s t : MS} {mb r k q g : Nat} {todo : List Nat} (hv : CopyInv w0 w2 s mb r todo t) (hR : Below w2.heap.size w2 w3) (hs0 : MemW w0 s) (hks : k ∈ s.ks) (hk : k ∈ todo) (hH : Held w3 q g (s.data k) (s.pm k) (s.on k) s.c) (hq : w2.heap.size ≤ q) (hg : w2.heap.size ≤ g) (hI2 : It w2 r s.bm s.ks (todo.erase k)) (hnd : todo.Nodup) :
    Calls Try.prog 79 #[.pointer (some ⟨mb, 0, none⟩), .int .u32 (k : Int), .pointer (some ⟨q, 0, none⟩)] w3 fun e w4 => e = .returned (.tuple #[]) ∧ It w4 r s.bm s.ks (todo.erase k) ∧ ∃ t', CopyInv w0 w4 s mb r (todo.erase k) t' := by
  have hm := hv.own.mem
  have hm3 := hm.later hR
  have hkk := hs0.key k hks
  have hkt : k ∉ t.ks := fun h => ((hv.ks k).1 h).2 hk
  have hlt : t.ks.length < t.most := by
    have h1 := hv.len
    have h2 := List.length_pos_of_mem hk
    have h3 := hs0.room
    rw [hv.most]
    omega
  have hc := addPage_any w3 t k q g (s.data k) (s.pm k) (s.on k) hm3 hkk.1 (by rw [pageOf_key hkk.2]; exact hkt) (by rw [hv.c]; exact hH) hlt (fun hf => by have := hm.lt hf; omega) (fun hf => by have := hm.lt hf; omega)
  rw [hv.mb, pageOf_key hkk.2] at hc
  refine hc.mono ?_
  rintro e w4 ⟨he, hm4, hkp⟩
  refine ⟨he, ?_⟩
  have hlay : ∀ b, foot (t.lay k q g (s.data k) (s.pm k) (s.on k)) b → foot t b ∨ b = q ∨ b = g := by
    rintro b (hb | hb | ⟨j, hj, hb⟩ | ⟨j, hj, hb⟩ | hb)
    · exact .inl (.inl hb)
    · exact .inl (.inr (.inl hb))
    · by_cases e : j = k
      · subst e
        simp only [MS.lay, upd_same] at hb
        exact .inr (.inl hb)
      · simp only [MS.lay, upd_other _ _ e] at hb
        exact .inl (.inr (.inr (.inl ⟨j, by simpa [MS.lay, e] using hj, hb⟩)))
    · by_cases e : j = k
      · subst e
        simp only [MS.lay, upd_same] at hb
        exact .inr (.inr hb)
      · simp only [MS.lay, upd_other _ _ e] at hb
        exact .inl (.inr (.inr (.inr (.inl ⟨j, by simpa [MS.lay, e] using hj, hb⟩))))
    · exact .inl (.inr (.inr (.inr (.inr hb))))
  have hw02 := hv.own.below.size
  have hb3 : Below w0.heap.size w0 w3 := hv.own.below.trans (hR.mono hw02)
  have hb4 : Below w0.heap.size w0 w4 := hb3.trans (hkp.below hb3.size fun b hb => hb.elim (fun e => hv.own.foot b (.inl (e.trans hv.mb.symm))) fun e => hv.own.foot b (.inr (.inl e)))
  have hr : w4.heap[r]? = w2.heap[r]? := by
    refine (hkp.block r (Nat.lt_of_lt_of_le hI2.lt hR.size) ?_).trans (hR.block r hI2.lt)
    rintro (e | e)
    · exact hI2.notFoot hm (.inl (e.trans hv.mb.symm))
    · exact hI2.notFoot hm (.inr (.inl e))
  refine ⟨hI2.same hr, t.lay k q g (s.data k) (s.pm k) (s.on k), ⟨hm4, hb4, fun b hb => ?_⟩, hv.at_, hv.mb, fun j => ?_, ?_, fun j hj => ?_, hv.most, hv.ts, hv.c⟩
  · rcases hlay b hb with h | h | h
    · exact hv.own.foot b h
    · omega
    · omega
  · have := hv.ks j
    rw [List.Nodup.mem_erase_iff hnd]
    simp only [MS.lay, List.mem_append, List.mem_singleton]
    by_cases e : j = k
    · subst e
      simp [hks]
    · simp [e, this]
  · have h1 := hv.len
    have h2 := List.length_erase_of_mem hk
    have h3 := List.length_pos_of_mem hk
    simp only [MS.lay, List.length_append, List.length_singleton]
    omega
  · by_cases e : j = k
    · subst e
      simp only [MS.lay, upd_same, and_self]
    · simp only [MS.lay, upd_other _ _ e]
      exact hv.data j (by simpa [MS.lay, e] using hj)
/-- What the slots of the region hold, whatever the order. -/
def phiCp (cm k hb pb m : Nat) (on : Bool) (l : List UInt8) (p n : Int) : Nat → Value → World → Prop
  | 0, x, _ => x = .pointer (some ⟨cm, 0, none⟩)
  | 1, x, _ => x = .int .u32 (k : Int)
  | 2, x, _ => x = .pointer (some ⟨hb, 0, none⟩)
  | 3, x, _ => x = .pointer (some ⟨hb, 0, none⟩)
  | 4, x, _ => x = .pointer (some ⟨hb, 0, none⟩)
  | 5, x, _ => x = .pointer (some ⟨pb, 0, none⟩)
  | 6, x, w => ∃ g, x = .pointer (some ⟨g, 0, none⟩) ∧ m ≤ g ∧ Pg 109 w g l p n
  | 7, x, _ => x = .pointer (some ⟨hb, 0, none⟩)
  | 8, x, _ => x = .pointer (some ⟨hb, 0, none⟩)
  | 9, x, _ => x = .pointer (some ⟨hb, 1, none⟩)
  | 10, x, _ => x = .bool on
  | 11, x, w => ∃ g, x = .agg #[.pointer (some ⟨g, 0, none⟩), .bool on] ∧ m ≤ g ∧ Pg 109 w g l p n
  | 12, x, w => ∃ g q, x = .pointer (some ⟨q, 0, none⟩) ∧ m ≤ g ∧ m ≤ q ∧ Pg 109 w g l p n ∧ w.heap[q]? = some (.cells #[.pointer (some ⟨g, 0, none⟩), .bool on] 75 (0, 0))
  | _ + 13, _, _ => True
theorem phiCp_mono (cm k hb pb m : Nat) (on : Bool) (l : List UInt8) (p n : Int) : ∀ i x w w', phiCp cm k hb pb m on l p n i x w → Below w.heap.size w w' → phiCp cm k hb pb m on l p n i x w'
  | 0, _, _, _, h, _ => h
  | 1, _, _, _, h, _ => h
  | 2, _, _, _, h, _ => h
  | 3, _, _, _, h, _ => h
  | 4, _, _, _, h, _ => h
  | 5, _, _, _, h, _ => h
  | 6, x, w, w', h, hbl => by obtain ⟨g, e, h1, h2⟩ := h; exact ⟨g, e, h1, h2.later hbl⟩
  | 7, _, _, _, h, _ => h
  | 8, _, _, _, h, _ => h
  | 9, _, _, _, h, _ => h
  | 10, _, _, _, h, _ => h
  | 11, x, w, w', h, hbl => by obtain ⟨g, e, h1, h2⟩ := h; exact ⟨g, e, h1, h2.later hbl⟩
  | 12, x, w, w', h, hbl => by obtain ⟨g, q, e, h1, h2, h3, h4⟩ := h; exact ⟨g, q, e, h1, h2, h3.later hbl, (hbl.block q (Array.getElem?_eq_some_iff.1 h4).1).trans h4⟩
  | _ + 13, _, _, _, _, _ => trivial
theorem list13 : ∀ xs : List Value, xs.length = 13 → ∃ x0 x1 x2 x3 x4 x5 x6 x7 x8 x9 x10 x11 x12, xs = [x0, x1, x2, x3, x4, x5, x6, x7, x8, x9, x10, x11, x12]
  | [x0, x1, x2, x3, x4, x5, x6, x7, x8, x9, x10, x11, x12], _ => ⟨_, _, _, _, _, _, _, _, _, _, _, _, _, rfl⟩
end Go.Proofs.Ytpknppicamefgaa
