/- LoadBytes: the walk where the file is loaded. -/
import Derived.Test.YtpknppicamefgaaLoadNo
namespace Go.Proofs.Ytpknppicamefgaa
open Go.ChangeShapes Go.WideShapes Go.ChangeAt Go.RowKit
set_option linter.unusedVariables false
/-- A loaded file, beside the file's and the state's boxes. -/
structure Lb (w w4 : World) (n q : Nat) (fl st : Array Value) (l : List Sg) (s : MS) : Prop where
  mem : MemW w4 s
  below : Below n w w4
  low : ∀ b, foot s b → n < b
  nq : ¬ foot s q
  file : Blk w4 n fl 25
  state : Blk w4 q st 31
  abs : s.abs = allAm l
  ts : s.ts = []
set_option maxRecDepth 20000 in
set_option maxHeartbeats 8000000 in
theorem lb_yes (w : World) (ao : Option Addr) (cap ent : Nat) (l : List Sg) (v : Int) (h : Segs w ao l) (hcap : l.length ≤ cap) (hmax : cap ≤ 9223372036854775807) (he : ent < 4294967296) (hf : fewB l = true) (hc : checkE ent l = 0) (hal : allKs 64 l ≠ none) : Calls Try.prog 4 #[.agg #[.int .u32 (ent : Int), .slice ao l.length cap], .int .i64 v] w fun e w' => e = .returned (.bool true) ∧ Below w.heap.size w w' := by
  obtain ⟨h8, hok, _, _⟩ := check_facts hc
  have hen := enter_small hc
  obtain ⟨n, hn⟩ : ∃ n, w.heap.size = n := ⟨_, rfl⟩
  obtain ⟨wa, hwa⟩ : ∃ wa, w.alloc (.cells #[.int .u32 (ent : Int), .slice ao l.length cap] 25) = wa := ⟨_, rfl⟩
  have hba : Below n w wa := by rw [← hwa, ← hn]; exact below_new w _
  have hka : Blk wa n #[.int .u32 (ent : Int), .slice ao l.length cap] 25 := by rw [← hwa, ← hn]; exact Blk.new w _ _
  have q0 : wa.cell? ⟨n, 0, none⟩ = some (.int .u32 (ent : Int)) := hka.cell rfl
  have q1 : wa.cell? ⟨n, 1, none⟩ = some (.slice ao l.length cap) := hka.cell rfl
  have hs : n < wa.heap.size := hka.lt
  have H7 : Hid (Calls Try.prog 7 #[.agg #[.int .u32 (ent : Int), .slice ao l.length cap]] wa fun e w1 => e = .returned (.bool true) ∧ w1.cell? ⟨n, 0, none⟩ = some (.int .u32 (ent : Int)) ∧ w1.cell? ⟨n, 1, none⟩ = some (.slice ao l.length cap) ∧ Calls Try.prog 9 #[.agg #[.int .u32 (ent : Int), .slice ao l.length cap], .int .i64 64] w1 fun e w2 => ∃ s q, e = .returned (.tuple #[.pointer (some ⟨s.mb, 0, none⟩), .agg (stC 2147479536 (ent : Int) ((ent : Int) + 4)), .int .i64 0]) ∧ w2.heap.size = q ∧ ∀ w3 w4, Below q w2 w3 → Only q w3 w4 → Blk w4 q (stC 2147479536 (ent : Int) ((ent : Int) + 4)) 31 → Lb w w4 n q #[.int .u32 (ent : Int), .slice ao l.length cap] (stC 2147479536 (ent : Int) ((ent : Int) + 4)) l s) := by
    refine (fewFile_any wa ao cap ent l (h.later (by rw [hn]; exact hba)) hcap hmax).mono ?_
    rintro e w1 ⟨h1, h2⟩
    rw [hf] at h1
    have b1 : Below n w w1 := hba.trans (h2.mono (by omega))
    have k1 : Blk w1 n #[.int .u32 (ent : Int), .slice ao l.length cap] 25 := hka.later h2
    refine ⟨h1, k1.cell rfl, k1.cell rfl, (load_file w1 ao cap ent l 64 (h.later (by rw [hn]; exact b1)) hcap hmax he).mono ?_⟩
    rintro e w2 (⟨hx, _⟩ | ⟨_, hx, _⟩ | ⟨_, s, h3, hL⟩)
    · exact absurd hc hx
    · exact absurd hx (by rw [show cutMost 64 = 64 by decide]; exact hal)
    · have k2 : Blk w2 n #[.int .u32 (ent : Int), .slice ao l.length cap] 25 := k1.later (hL.own.below.mono (Nat.le_refl _))
      have b2 : Below n w w2 := b1.trans (hL.own.below.mono (by have := k1.lt; omega))
      refine ⟨s, w2.heap.size, h3, rfl, fun w3 w4 hb3 ho4 hk4 => ?_⟩
      have hnq : ¬ foot s w2.heap.size := fun hx => by have := hL.own.mem.lt hx; omega
      have o3 := hL.own.step (Step.later hL.own.mem hb3)
      have o4 := own_only o3 ho4 hL.own.below.size hnq
      have k3 : Blk w3 n #[.int .u32 (ent : Int), .slice ao l.length cap] 25 := k2.later hb3
      have b3 : Below n w w3 := b2.trans (hb3.mono (by have := k2.lt; omega))
      exact ⟨o4.mem, only_below b3 ho4 (by have := k2.lt; omega), fun b hb => by have := hL.own.foot b hb; have := k1.lt; omega, hnq, k3.only ho4 (by have := k2.lt; omega), hk4, hL.abs, hL.ts⟩
  have H := hidden h
  have HOK := hidden hok
  have HC := hidden hc
  clear h hba hka hf hal hc hok
  go_enter Try.func4, Try.ntmps4
  go_wp2_with (first
    | (go_at_call 7; with_reducible refine (Hid.out H7).mono ?_; rintro e w1 ⟨rfl, p0, p1, h9⟩; have H9 := hidden h9; clear h9)
    | (go_at_call 9; with_reducible refine (Hid.out H9).mono ?_; rintro e w2 ⟨s, q, rfl, hq2, hlb⟩; have HLB := hidden hlb; clear hlb)
    | (refine wpList_allocSt rfl rfl ?_; rw [hq2]; rintro w3 hk3 hs3 hb3; have HK3 := hidden hk3; have HB3 := hidden hb3; clear hk3 hb3)
    | (refine wpList_storeSt rfl _ _ rfl q (stC 2147479536 (ent : Int) ((ent : Int) + 4)) rfl rfl (stC 0 0 0) (Hid.out HK3) (stC_size _ _ _) (stC_size _ _ _) (stC_one _ _ _) ?_; rintro w4 hk4 ho4; have HL4 := hidden (Hid.out HLB w3 w4 (Hid.out HB3) ho4 hk4); clear hk4 ho4))
  clear H7 H9 HLB HK3 HB3 p0 p1 q0 q1
  go_loopw [8] (fun x8 wr => ∃ k : Nat, k ≤ l.length ∧ x8 = .int .i64 (k : Int) ∧ Below w4.heap.size w4 wr) (fun x8 _ => l.length - (intOf x8).toNat)
  case atStart => exact ⟨0, by omega, rfl, Below.refl _ _⟩
  case round =>
    obtain ⟨k, hk, rfl, hbr⟩ := hrel
    have hL := Hid.out HL4
    have HBR := hidden hbr
    have hm : MemW wr s := hL.mem.later hbr
    have hfl : Blk wr n #[.int .u32 (ent : Int), .slice ao l.length cap] 25 := hL.file.later hbr
    have hst : Blk wr q (stC 2147479536 (ent : Int) ((ent : Int) + 4)) 31 := hL.state.later hbr
    have hbw : Below n w wr := hL.below.trans (hbr.mono (by have := hL.file.lt; omega))
    have f0 : wr.cell? ⟨n, 0, none⟩ = some (.int .u32 (ent : Int)) := hfl.cell rfl
    have f1 : wr.cell? ⟨n, 1, none⟩ = some (.slice ao l.length cap) := hfl.cell rfl
    by_cases hkl : k < l.length
    · have hok := Hid.out HOK k hkl
      obtain ⟨b, off, rfl, hlt, hcc⟩ := ((Hid.out H).later (by rw [hn]; exact hbw)).at hkl
      obtain ⟨g, hg⟩ : ∃ g, g = l.getD k nosg := ⟨_, rfl⟩
      have hat := hcc k hkl
      rw [← hg] at hat hok
      obtain ⟨c0, c1, c2, c3, fit⟩ := hat
      obtain ⟨g1, g2, g3, g4, g5, g6⟩ := ok_size hok
      have hkl2 : (k : Int) < (l.length : Int) := by omega
      have hmx : max (g.size : Int) 1 = (g.size : Int) := by omega
      have hds : (ByteArray.mk g.data.toArray).size = g.data.length := by simp [ByteArray.size]
      obtain ⟨j, hj⟩ : ∃ j : Nat, v % (g.size : Int) = (j : Int) := ⟨(v % (g.size : Int)).toNat, by have := Int.emod_nonneg v (show (g.size : Int) ≠ 0 by omega); omega⟩
      have hjs : j < g.size := by have := Int.emod_lt_of_pos v (show (0 : Int) < (g.size : Int) by omega); omega
      obtain ⟨wo, hwo⟩ : ∃ wo, wr.alloc (.cells #[.int .u32 (g.at_ : Int), .string ⟨g.data.toArray⟩, .int .u32 (g.size : Int), .int .i64 g.perm] 44) = wo := ⟨_, rfl⟩
      have hbo : Below wr.heap.size wr wo := by rw [← hwo]; exact below_new wr _
      have hqb : Blk wo wr.heap.size #[.int .u32 (g.at_ : Int), .string ⟨g.data.toArray⟩, .int .u32 (g.size : Int), .int .i64 g.perm] 44 := by rw [← hwo]; exact Blk.new wr _ _
      have hw4o : Below w4.heap.size w4 wo := hbr.trans (hbo.mono hbr.size)
      have hin := all_at (Hid.out HC) hkl (k := j) (by rw [← hg]; exact hjs)
      rw [← hg, ← hL.abs] at hin
      obtain ⟨hand, hbyte⟩ := hin
      have H16 : Hid (Calls Try.prog 16 #[.int .i64 v, .int .i64 (g.size : Int)] wo fun e w' => e = .returned (.int .i64 (j : Int)) ∧ w' = wo) := by
        have := place_any v (g.size : Int) (by omega) (by omega) wo
        rw [hj] at this
        exact this
      obtain ⟨pv, hpv⟩ : ∃ pv, pv = permA s.abs (g.at_ + j) := ⟨_, rfl⟩
      obtain ⟨bb, hbb⟩ : ∃ bb, bb = byteA s.abs (g.at_ + j) := ⟨_, rfl⟩
      rw [← hpv] at hand
      rw [← hbb] at hbyte
      have H17 : Hid (Calls Try.prog 17 #[.pointer (some ⟨s.mb, 0, none⟩), .int .u32 ((g.at_ : Int) + (j : Int))] wo fun e w5 => e = .returned (.int .i64 pv) ∧ w5.cell? ⟨wr.heap.size, 0, none⟩ = some (.int .u32 (g.at_ : Int)) ∧ Calls Try.prog 18 #[.pointer (some ⟨s.mb, 0, none⟩), .int .u32 ((g.at_ : Int) + (j : Int))] w5 fun e w6 => e = .returned (.int .u8 (bb.toNat : Int)) ∧ w6.cell? ⟨wr.heap.size, 3, none⟩ = some (.int .i64 g.perm) ∧ Below w4.heap.size w4 w6) := by
        have hp := permOf_any wo s (g.at_ + j) (hm.later hbo) (by omega)
        rw [perm_permA, ← hpv, show ((g.at_ + j : Nat) : Int) = (g.at_ : Int) + (j : Int) by omega] at hp
        refine hp.mono ?_
        rintro e w5 ⟨e5, m5, rfl⟩
        have hq5 : Blk (wo.drewN m5) wr.heap.size #[.int .u32 (g.at_ : Int), .string ⟨g.data.toArray⟩, .int .u32 (g.size : Int), .int .i64 g.perm] 44 := hqb
        have hp2 := peek_any (wo.drewN m5) s (g.at_ + j) ((hm.later hbo).drewN m5) (by omega)
        rw [get_byteA, ← hbb, show ((g.at_ + j : Nat) : Int) = (g.at_ : Int) + (j : Int) by omega] at hp2
        refine ⟨e5, hq5.cell rfl, hp2.mono ?_⟩
        rintro e w6 ⟨e6, m6, rfl⟩
        have hq6 : Blk ((wo.drewN m5).drewN m6) wr.heap.size #[.int .u32 (g.at_ : Int), .string ⟨g.data.toArray⟩, .int .u32 (g.size : Int), .int .i64 g.perm] 44 := hqb
        exact ⟨e6, hq6.cell rfl, below_drewN (below_drewN hw4o m5) m6⟩
      have k0 : wo.cell? ⟨wr.heap.size, 0, none⟩ = some (.int .u32 (g.at_ : Int)) := hqb.cell rfl
      have k1 : wo.cell? ⟨wr.heap.size, 1, none⟩ = some (.string ⟨g.data.toArray⟩) := hqb.cell rfl
      have k2 : wo.cell? ⟨wr.heap.size, 2, none⟩ = some (.int .u32 (g.size : Int)) := hqb.cell rfl
      by_cases hjd : j < g.data.length
      · have hjd2 : (j : Int) < (g.data.length : Int) := by omega
        rw [if_pos hjd] at hbyte
        have hix : ∀ w2, (Instr.index 9 (.string ⟨g.data.toArray⟩) (.int .i64 (j : Int))).run Try.prog w2 = .ok (.int .u8 (bb.toNat : Int)) w2 := by rw [hbyte]; exact str_index g.data j hjd
        clear hL hbr hm hfl hst hbw hok hcc fit hg hj hbo hqb hw4o hpv hbb hbyte
        go_wp2_with (first
          | (go_at_call 16; with_reducible refine (Hid.out H16).mono ?_; rintro e w5 ⟨rfl, hww⟩; rw [hww]; clear hww w5)
          | (go_at_call 17; with_reducible refine (Hid.out H17).mono ?_; rintro e w5 ⟨rfl, r0, h18⟩; have H18 := hidden h18; clear h18)
          | (go_at_call 18; with_reducible refine (Hid.out H18).mono ?_; rintro e w6 ⟨rfl, r3, hb6⟩; have HB6 := hidden hb6; clear hb6))
        go_roundw
        case rel => first | exact ⟨k + 1, by omega, by simp, Hid.out HB6⟩ | ((repeat apply Exists.intro); exact ⟨⟨k + 1, by omega, by simp, Hid.out HB6⟩, rfl⟩)
        case measure => simp [intOf]; omega
      · have hjd2 : ¬ (j : Int) < (g.data.length : Int) := by omega
        rw [if_neg hjd] at hbyte
        subst hbyte
        have hb0 : (((0 : UInt8).toNat : Nat) : Int) = 0 := by decide
        rw [hb0] at H17
        clear hL hbr hm hfl hst hbw hok hcc fit hg hj hbo hqb hw4o hpv hbb hb0
        go_wp2_with (first
          | (go_at_call 16; with_reducible refine (Hid.out H16).mono ?_; rintro e w5 ⟨rfl, hww⟩; rw [hww]; clear hww w5)
          | (go_at_call 17; with_reducible refine (Hid.out H17).mono ?_; rintro e w5 ⟨rfl, r0, h18⟩; have H18 := hidden h18; clear h18)
          | (go_at_call 18; with_reducible refine (Hid.out H18).mono ?_; rintro e w6 ⟨rfl, r3, hb6⟩; have HB6 := hidden hb6; clear hb6))
        go_roundw
        case rel => first | exact ⟨k + 1, by omega, by simp, Hid.out HB6⟩ | ((repeat apply Exists.intro); exact ⟨⟨k + 1, by omega, by simp, Hid.out HB6⟩, rfl⟩)
        case measure => simp [intOf]; omega
    · have hkl2 : ¬ (k : Int) < (l.length : Int) := by omega
      obtain rfl : k = l.length := by omega
      obtain ⟨ta, tc, htv⟩ := tv_nil hm hL.ts
      obtain ⟨pv, hpv⟩ : ∃ pv, pv = permA (allAm l) 2147479551 := ⟨_, rfl⟩
      have hand := stack_perm l
      rw [← hpv] at hand
      have H19 : Hid (Calls Try.prog 19 #[.pointer (some ⟨s.mb, 0, none⟩)] wr fun e w5 => e = .returned (.slice ta 0 tc) ∧ (w5.cell? ⟨q, 34, none⟩ = some (.int .u32 (ent : Int)) ∧ w5.cell? ⟨q, 35, none⟩ = some (.int .u32 ((ent : Int) + 4)) ∧ w5.cell? ⟨q, 36, none⟩ = some (.bool false) ∧ w5.cell? ⟨n, 0, none⟩ = some (.int .u32 (ent : Int))) ∧ Calls Try.prog 17 #[.pointer (some ⟨s.mb, 0, none⟩), .int .u32 2147479551] w5 fun e w6 => e = .returned (.int .i64 pv) ∧ Calls Try.prog 8 #[] w6 fun e w7 => e = .returned (.bool true) ∧ Below n w w7) := by
        have ht := told_any wr s hm
        rw [htv] at ht
        refine ht.mono ?_
        rintro e w5 ⟨e5, st, _, _⟩
        have hq5 : Blk w5 q (stC 2147479536 (ent : Int) ((ent : Int) + 4)) 31 := (st.keep.block q hst.lt hL.nq).trans hst
        have hf5 : Blk w5 n #[.int .u32 (ent : Int), .slice ao l.length cap] 25 := (st.keep.block n hfl.lt (fun hx => by have := hL.low n hx; omega)).trans hfl
        have b5 : Below n w w5 := hbw.trans (st.keep.below (by have := hfl.lt; omega) (fun b hb => by have := hL.low b hb; omega))
        have hp := permOf_any w5 s.told 2147479551 st.mem (by omega)
        rw [told_perm, perm_permA, hL.abs, ← hpv] at hp
        refine ⟨e5, ⟨hq5.cell rfl, hq5.cell rfl, hq5.cell rfl, hf5.cell rfl⟩, Calls.mono hp ?_⟩
        rintro e w6 ⟨e6, m6, rfl⟩
        refine ⟨e6, (wake_any (w5.drewN m6)).mono ?_⟩
        rintro e w7 ⟨e7, b7⟩
        exact ⟨e7, (below_drewN b5 m6).trans (b7.mono (by have := hf5.lt; show n ≤ (w5.drewN m6).heap.size; show n ≤ w5.heap.size; omega))⟩
      clear hL hbr hm hfl hst hbw htv hpv
      go_wp2_with (first
        | (go_at_call 19; with_reducible refine (Hid.out H19).mono ?_; rintro e w5 ⟨rfl, ⟨r34, r35, r36, r0⟩, h17⟩; have H17 := hidden h17; clear h17)
        | (go_at_call 17; with_reducible refine (Hid.out H17).mono ?_; rintro e w6 ⟨rfl, h8⟩; have H8 := hidden h8; clear h8)
        | (go_at_call 8; with_reducible refine (Hid.out H8).mono ?_; rintro e w7 ⟨rfl, hb7⟩; have HB7 := hidden hb7; clear hb7))
      go_ret
      exact ⟨rfl, by rw [hn]; exact Hid.out HB7⟩
theorem loadBytes_any (w : World) (ao : Option Addr) (cap ent : Nat) (l : List Sg) (v : Int) (h : Segs w ao l) (hcap : l.length ≤ cap) (hmax : cap ≤ 9223372036854775807) (he : ent < 4294967296) : Calls Try.prog 4 #[.agg #[.int .u32 (ent : Int), .slice ao l.length cap], .int .i64 v] w fun e w' => e = .returned (.bool true) ∧ Below w.heap.size w w' := by
  cases hf : fewB l with
  | false => exact lb_many w ao cap ent l v h hcap hmax he hf
  | true =>
    by_cases hc : checkE ent l = 0
    · by_cases hal : allKs 64 l = none
      · refine lb_no w ao cap ent l v h hcap hmax he hf 2 (by omega) (.inr rfl) fun w1 hs => ?_
        refine (load_file w1 ao cap ent l 64 hs hcap hmax he).mono ?_
        rintro e w2 (⟨hx, _⟩ | ⟨_, _, hx⟩ | ⟨_, s, _, hL⟩)
        · exact absurd hc hx
        · exact hx
        · have := hL.ks
          rw [show cutMost 64 = 64 by decide, hal] at this
          cases this
      · exact lb_yes w ao cap ent l v h hcap hmax he hf hc hal
    · refine lb_no w ao cap ent l v h hcap hmax he hf (checkE ent l : Int) (by omega) (.inl (by omega)) fun w1 hs => ?_
      refine (load_file w1 ao cap ent l 64 hs hcap hmax he).mono ?_
      rintro e w2 (⟨_, hx⟩ | ⟨hx, _⟩ | ⟨hx, _⟩)
      · exact hx
      · exact absurd hx hc
      · exact absurd hx hc
end Go.Proofs.Ytpknppicamefgaa
