/- MemCopies, walked. -/
import Derived.Test.YtfbmkgdpejgjpaaTwos
import Derived.Test.YtfbmkgdpejgjpaaPages
import Derived.Test.YtfbmkgdpejgjpaaSameWalk
namespace Go.Proofs.Ytfbmkgdpejgjpaa
open Go.ChangeShapes Go.WideShapes Go.ChangeAt Go.RowKit
set_option linter.unusedVariables false
/-- A memory that was made of parts. -/
structure MadeM (w wr : World) (m : MS) (F : AM) : Prop where
  own : Own w wr m
  abs : m.abs = F
  most : m.most = 64
  few : m.ks.length ≤ 32
  c : m.c ≤ 4800
/-- Beside it another one, which came of it. -/
structure CQ (w wr : World) (mc mm : Nat) (F : AM) (c : MS) : Prop where
  a : Own w wr c
  mc : c.mb = mc
  m : ∃ m, Own w wr m ∧ m.mb = mm ∧ m.abs = F ∧ Apart c m
theorem CQ.below {w u : World} {mc mm : Nat} {F : AM} {c : MS} (h : CQ w u mc mm F c) : Below w.heap.size w u := h.a.below
theorem CQ.later {w u v : World} {mc mm : Nat} {F : AM} {c : MS} (h : CQ w u mc mm F c) (hb : Below u.heap.size u v) : CQ w v mc mm F c := by
  obtain ⟨m, h1, h2, h3, h4⟩ := h.m
  exact ⟨h.a.later hb, h.mc, m, h1.later hb, h2, h3, h4⟩
theorem CQ.step {w u v : World} {mc mm : Nat} {F : AM} {c c' : MS} (h : CQ w u mc mm F c) (st : Step u c v c') (e : c'.mb = c.mb) : CQ w v mc mm F c' := by
  obtain ⟨m, h1, h2, h3, h4⟩ := h.m
  have hp := st.apart h1.mem h4
  exact ⟨h.a.step st, e.trans h.mc, m, ⟨hp.1, (h.a.step st).below, h1.foot⟩, h2, h3, hp.2⟩
theorem below_drew {u v : World} (h : ∃ n, v = u.drewN n) : Below u.heap.size u v := by
  obtain ⟨n, rfl⟩ := h
  exact below_drewN (Below.refl _ _) n
theorem MadeM.peek {w u : World} {m : MS} {F : AM} {a : Nat} (h : MadeM w u m F) (ha : a < 4294967296) : Calls Try.prog 28 #[.pointer (some ⟨m.mb, 0, none⟩), .int .u32 (a : Int)] u fun e w' => e = .returned (.int .u8 ((getA F a).toNat : Int)) ∧ MadeM w w' m F := by
  have := peek_any u m a h.own.mem ha
  rw [get_getA, h.abs] at this
  exact this.mono fun e w' ⟨he, hd⟩ => ⟨he, h.own.step (Step.drew h.own.mem hd), h.abs, h.most, h.few, h.c⟩
theorem MadeM.copy {w u : World} {m : MS} {F : AM} (h : MadeM w u m F) : Calls Try.prog 19 #[.pointer (some ⟨m.mb, 0, none⟩)] u fun e w' => ∃ c, e = .returned (.pointer (some ⟨c.mb, 0, none⟩)) ∧ CQ w w' c.mb m.mb F c ∧ c.most = 64 ∧ c.ks.length ≤ 32 ∧ c.c ≤ 4800 := by
  refine (copyMem_any u m h.own.mem).mono ?_
  rintro e w' ⟨c, he, ho, hc⟩
  exact ⟨c, he, ⟨ho.wide h.own.below, rfl, m, h.own.later ho.below, rfl, h.abs, (apart_new h.own ho).symm⟩, by rw [hc.most]; exact h.most, by rw [hc.len]; exact h.few, by rw [hc.c]; exact h.c⟩
theorem CQ.poke {w u : World} {mc mm : Nat} {F : AM} {c : MS} {a : Nat} (h : CQ w u mc mm F c) (hc : c.c ≤ 4800) (ha : a < 4294967296) (v : UInt8) : Calls Try.prog 21 #[.pointer (some ⟨mc, 0, none⟩), .int .u32 (a : Int), .int .u8 (v.toNat : Int)] u fun e w' => ∃ b c', e = .returned (.bool b) ∧ CQ w w' mc mm F c' ∧ c'.most = c.most ∧ c'.ks = c.ks := by
  have h21 := poke_any u c a v h.a.mem ha (by omega)
  rw [h.mc] at h21
  refine h21.mono ?_
  rintro e w' ⟨he, tv, st⟩
  exact ⟨_, _, he, h.step st (pokeAt_mb _ _ _ _), pokeAt_most _ _ _ _, pokeAt_ks _ _ _ _⟩
theorem CQ.map {w u : World} {mc mm : Nat} {F : AM} {c : MS} {a : Nat} (h : CQ w u mc mm F c) (ha : a < 4294967296) (z : Int) (hr : c.ks.length < c.most) : Calls Try.prog 12 #[.pointer (some ⟨mc, 0, none⟩), .int .u32 (a : Int), .int .i64 z] u fun e w' => ∃ n c', e = .returned (.int .i64 n) ∧ CQ w w' mc mm F c' ∧ pageOf a ∈ c'.ks := by
  have h12 := map_any u c a z h.a.mem ha
  rw [h.mc] at h12
  refine h12.mono ?_
  rintro e w' ⟨he, st⟩
  exact ⟨_, _, he, h.step st (mapped_mb _ _ _ _), (mapped_ks c a z _).2.2.2 (.inr hr)⟩
theorem CQ.watch {w u : World} {mc mm : Nat} {F : AM} {c : MS} {a : Nat} (h : CQ w u mc mm F c) (ha : a < 4294967296) (b : Bool) : Calls Try.prog 14 #[.pointer (some ⟨mc, 0, none⟩), .int .u32 (a : Int), .bool b] u fun e w' => ∃ c', e = .returned (.tuple #[]) ∧ CQ w w' mc mm F c' ∧ c'.ks = c.ks := by
  have h14 := watch_any u c a b h.a.mem ha
  rw [h.mc] at h14
  refine h14.mono ?_
  rintro e w' ⟨he, st⟩
  exact ⟨_, he, h.step st (watchAt_mb _ _ _), by unfold MS.watchAt; split <;> rfl⟩
theorem CQ.peekM {w u : World} {mc mm : Nat} {F : AM} {c : MS} {a : Nat} (h : CQ w u mc mm F c) (ha : a < 4294967296) : Calls Try.prog 28 #[.pointer (some ⟨mm, 0, none⟩), .int .u32 (a : Int)] u fun e w' => e = .returned (.int .u8 ((getA F a).toNat : Int)) ∧ Below u.heap.size u w' := by
  obtain ⟨m, h1, h2, h3, h4⟩ := h.m
  have := peek_any u m a h1.mem ha
  rw [get_getA, h3, h2] at this
  exact this.mono fun e w' ⟨he, hd⟩ => ⟨he, below_drew hd⟩
theorem CQ.sameM {w u : World} {mc mm : Nat} {F : AM} {c n : MS} (h : CQ w u mc mm F c) (hn : MemW u n) (hf : n.abs = F) : Calls Try.prog 20 #[.pointer (some ⟨mm, 0, none⟩), .pointer (some ⟨n.mb, 0, none⟩)] u fun e w' => e = .returned (.bool true) ∧ Below u.heap.size u w' := by
  obtain ⟨m, h1, h2, h3, h4⟩ := h.m
  have := same_any u m n h1.mem hn
  rw [h2, sameM_eq h1.mem hn (by rw [h3, hf])] at this
  exact this
theorem CQ.mappedC {w u : World} {mc mm : Nat} {F : AM} {c : MS} {a : Nat} (h : CQ w u mc mm F c) (ha : a < 4294967296) (hk : pageOf a ∈ c.ks) : Calls Try.prog 24 #[.pointer (some ⟨mc, 0, none⟩), .int .u32 (a : Int)] u fun e w' => e = .returned (.bool true) ∧ Below u.heap.size u w' := by
  have := mapped_any u c a h.a.mem ha
  rw [h.mc, decide_eq_true hk] at this
  exact this.mono fun e w' ⟨he, hd⟩ => ⟨he, below_drew hd⟩
theorem pages_none (u : World) (mb bm : Nat) (h : MemW u (fresh mb bm (cutMost 64))) : Calls Try.prog 38 #[.pointer (some ⟨mb, 0, none⟩)] u fun e w' => ∃ ao cap, e = .returned (.slice ao 0 cap) ∧ Below u.heap.size u w' := by
  refine (pages_small u _ h (Nat.zero_le _)).mono ?_
  rintro e w' ⟨ao, cap, l, he, hp, _, _, hb⟩
  obtain rfl := List.Perm.eq_nil hp
  exact ⟨ao, cap, he, hb⟩
theorem room_of {c c4 : MS} (h1 : c4.most = c.most) (h2 : c4.ks = c.ks) (h3 : c.most = 64) (h4 : c.ks.length ≤ 32) : c4.ks.length < c4.most := by
  rw [h1, h2, h3]
  omega
theorem mem_cast {c c' : MS} {k : Nat} (h : c'.ks = c.ks) (hk : k ∈ c.ks) : k ∈ c'.ks := by rw [h]; exact hk
set_option maxRecDepth 20000 in
set_option maxHeartbeats 4000000 in
theorem copies_walk (ao : Option Addr) (cap : Nat) (ps : List Part4) (a : Nat) (v : UInt8) (w : World) (h : Pieces w ao ps) (hlen : ps.length ≤ 9223372036854775807) (ha : a < 4294967296) :
    Calls Try.prog 8 #[.slice ao ps.length cap, .int .u32 (a : Int), .int .u8 (v.toNat : Int)] w fun e w' => e = .returned (.bool true) ∧ Below w.heap.size w w' := by
  have H39 := hidden (few_any w ao cap ps h hlen)
  cases hfew : few ps with
  | false =>
    rw [hfew] at H39
    clear hfew h
    go_enter Try.func8, Try.ntmps8
    go_wp2_with (first | (go_at_call 39; with_reducible refine (Hid.out H39).mono ?_; rintro e w0 ⟨rfl, hww⟩; rw [hww]; clear hww w0) | (go_at_call 37; with_reducible refine (awake_any _).mono ?_; rintro e w1 ⟨rfl, hb⟩; have HB1 := hidden hb; clear hb))
    go_ret
    exact ⟨rfl, Hid.out HB1⟩
  | true =>
    rw [hfew] at H39
    obtain ⟨h8, hd⟩ := few_true hfew
    have H40 : Hid (∀ u, Below w.heap.size w u → Calls Try.prog 40 #[.slice ao ps.length cap] u fun e w' => ∃ s, e = .returned (.pointer (some ⟨s.mb, 0, none⟩)) ∧ Own u w' s ∧ s.abs = memOf ps ∧ s.most = 64 ∧ s.ks.length ≤ 32 ∧ s.ts = [] ∧ s.c ≤ 4800) := fun u hu => memory_any u ao cap ps (h.later hu) h8 hd
    have HFIRST := hidden trivial
    have hv2 : (v.toNat : Int) < 256 := by have := UInt8.toNat_lt v; omega
    clear hfew h h8 hd hlen
    generalize memOf ps = F at H40
    have hval : (((getA F a + 1 : UInt8)).toNat : Int) = (((getA F a).toNat : Int) + 1) % 256 := by
      rw [UInt8.toNat_add]
      show ((((getA F a).toNat + 1) % 256 : Nat) : Int) = _
      omega
    have hx := UInt8.toNat_lt (getA F a)
    go_enter Try.func8, Try.ntmps8
    go_wp2_with (first | (go_at_call 39; with_reducible refine (Hid.out H39).mono ?_; rintro e w0 ⟨rfl, hww⟩; rw [hww]; clear hww w0) | (go_at_call 40; with_reducible refine (Hid.out H40 _ (Below.refl _ _)).mono ?_; rintro e w1 ⟨m, rfl, ho, hab, hmo, hfw, _, hcc⟩; have HM1 := hidden (MadeM.mk ho hab hmo hfw hcc); clear ho hab hmo hfw hcc HFIRST) | (go_at_call 28; with_reducible refine (MadeM.peek (Hid.out HM1) ha).mono ?_; rintro e w2 ⟨rfl, hm⟩; have HM2 := hidden hm; clear hm HM1) | (go_at_call 19; with_reducible refine (MadeM.copy (Hid.out HM2)).mono ?_; rintro e w3 ⟨c, rfl, hp, h1, h2, h3⟩; have HP3 := hidden hp; have HMO := hidden h1; have HFW := hidden h2; have H21 := hidden (CQ.poke hp h3 ha (getA F a + 1)); rw [hval] at H21; clear hp h1 h2 h3 HM2) | (go_at_call 21; with_reducible refine (Hid.out H21).mono ?_; rintro e w4 ⟨bb, c4, rfl, hp, h1, h2⟩; have HP4 := hidden hp; have HRM := hidden (room_of h1 h2 (Hid.out HMO) (Hid.out HFW)); clear hp h1 h2 HP3 H21) | (go_at_call 12; with_reducible refine (CQ.map (Hid.out HP4) ha 7 (Hid.out HRM)).mono ?_; rintro e w5 ⟨nn, c5, rfl, hp, hk⟩; have HP5 := hidden hp; have HK5 := hidden hk; clear hp hk HP4) | (go_at_call 14; with_reducible refine (CQ.watch (Hid.out HP5) ha true).mono ?_; rintro e w6 ⟨c6, rfl, hp, hk⟩; have HP6 := hidden hp; have HK6 := hidden (mem_cast hk (Hid.out HK5)); clear hp hk HP5 HK5) | (go_at_call 9; with_reducible refine (newMem_step 64 w6).mono ?_; rintro e w7 ⟨db, dm, rfl, hd, hb, hf⟩; have HD7 := hidden hd; have HP7 := hidden (CQ.later (Hid.out HP6) hb); clear hd hb hf HP6) | (go_at_call 28; with_reducible refine (CQ.peekM (Hid.out HP7) ha).mono ?_; rintro e w8 ⟨rfl, hd⟩; have H38 := hidden (pages_none w8 db dm (MemW.later (Hid.out HD7) hd)); have HP8 := hidden (CQ.later (Hid.out HP7) hd); clear hd HP7 HD7) | (go_at_call 38; with_reducible refine (Hid.out H38).mono ?_; rintro e w9 ⟨pa, pc, rfl, hb⟩; have HP9 := hidden (CQ.later (Hid.out HP8) hb); clear hb HP8 H38) | (go_at_call 40; with_reducible refine (Hid.out H40 _ (CQ.below (Hid.out HP9))).mono ?_; rintro e w10 ⟨n, rfl, ho, hab, _, _, _, _⟩; have HO10 := hidden ho; have HA10 := hidden hab; have HP10 := hidden (CQ.later (Hid.out HP9) (Own.below ho)); clear ho hab HP9) | (go_at_call 20; with_reducible refine (CQ.sameM (Hid.out HP10) (Own.mem (Hid.out HO10)) (Hid.out HA10)).mono ?_; rintro e w11 ⟨rfl, hb⟩; have HP11 := hidden (CQ.later (Hid.out HP10) hb); clear hb HP10 HO10) | (go_at_call 24; with_reducible refine (CQ.mappedC (Hid.out HP11) ha (Hid.out HK6)).mono ?_; rintro e w12 ⟨rfl, hb⟩; have HP12 := hidden (CQ.later (Hid.out HP11) hb); clear hb HP11) | (go_at_call 37; with_reducible refine (awake_any _).mono ?_; rintro e w13 ⟨rfl, hb⟩; have HB13 := hidden (Below.trans (CQ.below (Hid.out HP12)) (Below.mono hb (CQ.below (Hid.out HP12)).size)); clear hb))
    go_ret
    exact ⟨rfl, Hid.out HB13⟩
end Go.Proofs.Ytfbmkgdpejgjpaa
