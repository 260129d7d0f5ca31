/- MemPlays: a copy, what is told. -/
import Derived.Test.YtfbmkgdpejgjpaaPPlaysA
namespace Go.Proofs.Ytfbmkgdpejgjpaa
open Go.ChangeShapes Go.WideShapes Go.ChangeAt Go.RowKit
set_option linter.unusedVariables false
theorem watchAt_most (s : MS) (a : Nat) (b : Bool) : (s.watchAt a b).most = s.most := by unfold MS.watchAt; split <;> rfl
theorem watchAt_ts (s : MS) (a : Nat) (b : Bool) : (s.watchAt a b).ts = s.ts := by unfold MS.watchAt; split <;> rfl
theorem watchAt_c (s : MS) (a : Nat) (b : Bool) : (s.watchAt a b).c = s.c := by unfold MS.watchAt; split <;> rfl
theorem DB.o0 {w u : World} {s : MS} {t : S5} {ob : Nat} {a b c d : Value} (h : DB w u s t ob #[a, b, c, d]) : u.cell? ⟨ob, 0, none⟩ = some a := h.blk.cell rfl
theorem copy_abs {s c : MS} (h : CopyOf s c) : c.abs = s.abs := by
  funext k
  by_cases hk : k ∈ c.ks
  · obtain ⟨d1, d2, d3⟩ := h.data k hk
    rw [abs_in hk, abs_in ((h.ks k).1 hk), d1, d2, d3]
  · rw [abs_out hk, abs_out (fun e => hk ((h.ks k).2 e))]
/-- A copy beside both. -/
structure CC (w wo u : World) (s : MS) (t : S5) (c : MS) (ob : Nat) (cs : Array Value) : Prop where
  db : DB w u s t ob cs
  mem : MemW u c
  foot : ∀ b, foot c b → wo.heap.size ≤ b
  low : ∀ b, Go.Proofs.Ytfbmkgdpejgjpaa.foot s b → b < wo.heap.size
  low5 : ∀ b, foot5 t b → b < wo.heap.size
  lob : ob < wo.heap.size
  size : wo.heap.size ≤ u.heap.size
theorem CC.later {w wo u v : World} {s c : MS} {t : S5} {ob : Nat} {cs : Array Value} (h : CC w wo u s t c ob cs) (hb : Below u.heap.size u v) : CC w wo v s t c ob cs := ⟨h.db.later hb, h.mem.later hb, h.foot, h.low, h.low5, h.lob, Nat.le_trans h.size hb.size⟩
theorem CC.told {w wo u v : World} {s c c' : MS} {t : S5} {ob : Nat} {cs : Array Value} (h : CC w wo u s t c ob cs) (k : Step u c v c') : CC w wo v s t c' ob cs := by
  have hw : w.heap.size ≤ wo.heap.size := by
    have h1 := h.db.duo.f5 t.m (.inl rfl)
    have h2 := h.low5 t.m (.inl rfl)
    omega
  have hbl : Below w.heap.size u v := k.keep.below h.db.duo.own.below.size fun b hb => Nat.le_trans hw (h.foot b hb)
  refine ⟨⟨⟨⟨h.db.duo.own.mem.keep k.keep fun b hb hf => ?_, h.db.duo.own.below.trans hbl, h.db.duo.own.foot⟩, h.db.duo.mem5.keep k.keep fun b hb hf => ?_, h.db.duo.f5, h.db.duo.apart⟩, (k.keep.block ob (Nat.lt_of_lt_of_le h.lob h.size) fun hf => ?_).trans h.db.blk, h.db.n1, h.db.n2⟩, k.mem, fun b hb => ?_, h.low, h.low5, h.lob, Nat.le_trans h.size k.keep.size⟩
  · have := h.low b hb; have := h.foot b hf; omega
  · have := h.low5 b hb; have := h.foot b hf; omega
  · have := h.foot ob hf; have := h.lob; omega
  · rcases k.grow b hb with h1 | h1
    · exact h.foot b h1
    · exact Nat.le_trans h.size h1
theorem CC.end {w wo u v z : World} {s s' c : MS} {t t2 : S5} {ob : Nat} {cs : Array Value} (h : CC w wo u s t c ob cs) (k : Step u s v s') (hb : Below v.heap.size v z) (h2 : M5 z t2) (hf2 : ∀ b, foot5 t2 b → v.heap.size ≤ b) : DB w z c t2 ob cs := by
  have hw : w.heap.size ≤ wo.heap.size := by
    have h1 := h.db.duo.f5 t.m (.inl rfl)
    have h2 := h.low5 t.m (.inl rfl)
    omega
  have hd := (h.db.code k).later hb
  have hc : MemW v c := h.mem.keep k.keep fun b hb hf => by
    have := h.low b hf; have := h.foot b hb; omega
  have hsz := Nat.le_trans h.size k.keep.size
  refine ⟨⟨⟨hc.later hb, hd.duo.own.below, fun b hb => Nat.le_trans hw (h.foot b hb)⟩, h2, fun b h5 => Nat.le_trans hw (Nat.le_trans hsz (hf2 b h5)), fun b hb h5 => ?_⟩, hd.blk, fun hf => ?_, fun hf => ?_⟩
  · have := hc.lt hb; have := hf2 b h5; omega
  · have := h.foot ob hf; have := h.lob; omega
  · have := hf2 ob hf; have := h.lob; omega
theorem tv_none {w : World} {c : MS} (h : MemW w c) (hts : c.ts = []) : ∃ ao cap, c.tv = .slice ao 0 cap := by
  have ht := h.touched
  rw [hts] at ht
  rcases ht.2 with ⟨e, _⟩ | ⟨g, cap, cur, e, _⟩
  · exact ⟨_, _, e⟩
  · exact ⟨_, _, e⟩
theorem cc_start {w wo w1 : World} {s c : MS} {t : S5} {ob : Nat} {cs : Array Value} (h : DB w wo s t ob cs) (ho : Own wo w1 c) : CC w wo w1 s t c ob cs := ⟨h.later ho.below, ho.mem, ho.foot, fun b hb => h.duo.own.mem.lt hb, fun b hb => h.duo.mem5.footLt hb, h.lt, ho.below.size⟩
theorem cc_same {w wo u : World} {s c : MS} {t : S5} {ob : Nat} {cs : Array Value} (h : CC w wo u s t c ob cs) (hc : CopyOf s c) : Hid (Calls Try.prog 20 #[.pointer (some ⟨s.mb, 0, none⟩), .pointer (some ⟨c.mb, 0, none⟩)] u fun e w' => e = .returned (.bool true) ∧ Below u.heap.size u w') := by
  have := same_any u s c h.db.duo.own.mem h.mem
  rw [sameM_eq h.db.duo.own.mem h.mem (by rw [copy_abs hc])] at this
  exact this
theorem cc_same2 {w wo u : World} {s c : MS} {t : S5} {ob : Nat} {cs : Array Value} (h : CC w wo u s t c ob cs) (hc : CopyOf s c) : Hid (Calls Try.prog 20 #[.pointer (some ⟨c.mb, 0, none⟩), .pointer (some ⟨s.mb, 0, none⟩)] u fun e w' => e = .returned (.bool true) ∧ Below u.heap.size u w') := by
  have := same_any u c s h.mem h.db.duo.own.mem
  rw [sameM_eq h.mem h.db.duo.own.mem (by rw [copy_abs hc])] at this
  exact this
theorem cc_told {w wo u : World} {s c : MS} {t : S5} {ob tc : Nat} {ta : Option Addr} {cs : Array Value} (h : CC w wo u s t c ob cs) (htv : c.tv = .slice ta 0 tc) : Hid (Calls Try.prog 17 #[.pointer (some ⟨c.mb, 0, none⟩)] u fun e w' => e = .returned (.slice ta 0 tc) ∧ Step u c w' c.told) := (told_any u c h.mem).mono fun e w' ⟨he, hst, _, _⟩ => ⟨by rw [← htv]; exact he, hst⟩
theorem cc_poke {w wo u : World} {s c : MS} {t : S5} {ob a : Nat} {cs : Array Value} (h : CC w wo u s t c ob cs) (v : UInt8) (ha : a < 4294967296) (hcc : s.c < 1099511627776) : Hid (Calls Try.prog 21 #[.pointer (some ⟨s.mb, 0, none⟩), .int .u32 (a : Int), .int .u8 (((v.toNat : Int) + 1) % 256)] u fun e w' => ∃ b tv, e = .returned (.bool b) ∧ Step u s w' (s.pokeAt a (v + 1) tv)) := by
  have := poke_any u s a (v + 1) h.db.duo.own.mem ha hcc
  have e : (((v + 1 : UInt8).toNat : Nat) : Int) = ((v.toNat : Int) + 1) % 256 := by
    rw [UInt8.toNat_add]
    simp
  rw [e] at this
  exact this.mono fun e w' ⟨he, tv, hst⟩ => ⟨_, tv, he, hst⟩
theorem told_sim {s : MS} {l : List P5} (h : Sim s l) : Sim s.told l := ⟨h.rise, h.here, h.back, h.len⟩
theorem drew_below {w u v : World} {n : Nat} (h : Below w.heap.size w u) (e : v = u.drewN n) : Below w.heap.size w v := by rw [e]; exact below_drewN h n
theorem take_same {w1 w2 : World} {s : MS} {t t' : S5} {k : Nat} (hp : PI s t k) (hap : ∀ b, foot s b → ¬ foot5 t b) (hrow : w1.ownsRow 0 27 1 s.tv s.ts.length (words s.ts)) (hst : Step5 w1 t w2 t') (hrow2 : w2.ownsRow 0 27 1 t.vT t.ts.length (words t.ts)) (htt : t.ts.length < 1000000) : Calls Try.prog 16 #[s.tv, t.vT] w2 fun e w' => e = .returned (.bool true) ∧ ∃ n, w' = w2.drewN n := by
  have h1 : w2.ownsRow 0 27 1 s.tv s.ts.length (words s.ts) := ownsRow_same hrow fun g hg => hst.keep.block g (World.ownsRow.lt hrow g hg).2 fun hf => hap g (.inr (.inr (.inr (.inr hg)))) hf
  have w1' := wds_of_row h1
  have w2' := wds_of_row hrow2
  rw [hp.ts] at w1'
  exact sameWords_any w2 _ _ t.ts w1' w2' (by omega)
end Go.Proofs.Ytfbmkgdpejgjpaa
