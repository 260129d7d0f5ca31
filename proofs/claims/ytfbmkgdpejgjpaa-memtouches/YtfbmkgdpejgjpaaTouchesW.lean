/- MemTouches, walked. -/
import Derived.Test.YtfbmkgdpejgjpaaOwns
namespace Go.Proofs.Ytfbmkgdpejgjpaa
open Go.ChangeShapes Go.WideShapes Go.ChangeAt Go.RowKit
set_option linter.unusedVariables false
theorem pages4 (k : Nat) (hk : k < 4) : pageOf (k * 256) ∉ ([0, 256, 512, 768] : List Nat).take k ∧ ([0, 256, 512, 768] : List Nat).take k ++ [pageOf (k * 256)] = ([0, 256, 512, 768] : List Nat).take (k + 1) := by
  rcases (show k = 0 ∨ k = 1 ∨ k = 2 ∨ k = 3 by omega) with rfl | rfl | rfl | rfl <;> decide
theorem mem4 (a : Nat) : pageOf a ∈ ([0, 256, 512, 768] : List Nat) ↔ a < 1024 := by
  unfold pageOf
  simp
  omega
structure T1 (s : MS) (mb k : Nat) : Prop where
  mb : s.mb = mb
  ks : s.ks = ([0, 256, 512, 768] : List Nat).take k
  on : ∀ j ∈ s.ks, s.on j = false
  most : s.most = 8
  c : s.c = 0
  ts : s.ts = []
theorem T1.step {s : MS} {mb k : Nat} (h : T1 s mb k) (hk : k < 4) (z : Int) (b : Nat) : T1 (s.mapped (k * 256) z b) mb (k + 1) := by
  have hp := pages4 k hk
  have e : s.mapped (k * 256) z b = s.lay (pageOf (k * 256)) (b + 1) b zeros (z % 8) false := by
    unfold MS.mapped
    rw [if_neg (by rw [h.ks]; exact hp.1), if_pos (by rw [h.ks, h.most, List.length_take]; simp; omega)]
  rw [e]
  refine ⟨h.mb, by simp only [MS.lay]; rw [h.ks, hp.2], fun j hj => ?_, h.most, h.c, h.ts⟩
  by_cases e : j = pageOf (k * 256)
  · subst e
    simp only [MS.lay, upd_same]
  · simp only [MS.lay, upd_other _ _ e]
    exact h.on j (by simpa [MS.lay, e] using hj)
structure T2 (s : MS) (mb : Nat) (p : Nat) (on : Bool) (k : Nat) (ts : List Nat) : Prop where
  mb : s.mb = mb
  ks : s.ks = [0, 256, 512, 768]
  on : ∀ j ∈ s.ks, s.on j = (decide (j = p) && on)
  c : s.c ≤ k
  ts : s.ts = ts
theorem T2.start {s : MS} {mb a : Nat} {on : Bool} (h : T1 s mb 4) (ha : a < 1024) : T2 (s.watchAt a on) mb (pageOf a) on 0 [] := by
  have hk : pageOf a ∈ s.ks := by rw [h.ks]; exact (mem4 a).2 ha
  have e : s.watchAt a on = s.watch (pageOf a) on := by unfold MS.watchAt; rw [if_pos hk]
  rw [e]
  refine ⟨h.mb, h.ks, fun j hj => ?_, Nat.le_of_eq h.c, h.ts⟩
  by_cases e : j = pageOf a
  · subst e
    simp [MS.watch, upd_same]
  · simp only [MS.watch, upd_other _ _ e, decide_eq_false e, Bool.false_and]
    exact h.on j hj
theorem T2.watched {s : MS} {mb a : Nat} {on : Bool} {k : Nat} {ts : List Nat} (h : T2 s mb (pageOf a) on k ts) (ha : a < 1024) (x : Nat) : s.watched x = (on && decide (x < 1024) && decide (x / 256 = a / 256)) := by
  unfold MS.watched
  by_cases hx : x < 1024
  · have hk : pageOf x ∈ s.ks := by rw [h.ks]; exact (mem4 x).2 hx
    rw [decide_eq_true hk, decide_eq_true hx, h.on _ hk]
    have : (pageOf x = pageOf a) ↔ (x / 256 = a / 256) := by unfold pageOf; omega
    simp only [this]
    cases on <;> simp
  · have hk : pageOf x ∉ s.ks := by rw [h.ks]; exact fun h' => hx ((mem4 x).1 h')
    rw [decide_eq_false hk, decide_eq_false hx]
    simp
theorem T2.step {s : MS} {mb p : Nat} {on : Bool} {k : Nat} {ts : List Nat} (h : T2 s mb p on k ts) (x : Nat) (v : UInt8) (tv : Value) : T2 (s.pokeAt x v tv) mb p on (k + 1) (if s.watched x then ts ++ [x] else ts) := by
  have hc := pokeAt_c s x v tv
  have hc' := h.c
  refine ⟨by rw [pokeAt_mb]; exact h.mb, by rw [pokeAt_ks]; exact h.ks, fun j hj => ?_, by omega, by rw [pokeAt_ts, h.ts]⟩
  rw [pokeAt_on]
  rw [pokeAt_ks] at hj
  exact h.on j hj
set_option maxRecDepth 20000 in
set_option maxHeartbeats 4000000 in
theorem touches_walk (ao : Option Addr) (cap : Nat) (l : List Nat) (wt : Nat) (on : Bool) (w : World) (hl : Wds w (.slice ao l.length cap) l) (hcap : l.length ≤ 9223372036854775807) (hw : wt < 4294967296) :
    Calls Try.prog 5 #[.slice ao l.length cap, .int .u32 (wt : Int), .bool on] w fun e w' => e = .returned (.bool true) ∧ Below w.heap.size w w' := by
  have HL := hidden hl
  have H9 := hidden (newMem_step 8 w)
  have ec : cutMost 8 = 8 := by decide
  rw [ec] at H9
  clear ec hl
  go_enter Try.func5, Try.ntmps5
  go_wp2_with (go_at_call 9; refine (Hid.out H9).mono ?_; rintro e w1 ⟨mb, bm, rfl, hm, hb, hf⟩; have HO := hidden (Own.mk hm hb hf); clear hm hb hf H9)
  go_loopw [8] (fun i wr => ∃ (k : Nat) (s : MS), k ≤ 4 ∧ i = .int .u32 (k : Int) ∧ T1 s mb k ∧ Own w wr s) (fun i _ => 4 - (intOf i).toNat)
  case atStart => exact ⟨0, _, by omega, rfl, ⟨rfl, rfl, by simp [fresh], rfl, rfl, rfl⟩, Hid.out HO⟩
  case round =>
    obtain ⟨k, s, hk, rfl, ht, ho⟩ := hrel
    have HT := hidden ht
    have HO1 := hidden ho
    clear ht ho
    by_cases hk4 : k < 4
    · have H12 := hidden (map_any wr s (k * 256) 7 (Own.mem (Hid.out HO1)) (by omega))
      rw [show ((k * 256 : Nat) : Int) = (k : Int) * 256 by omega, T1.mb (Hid.out HT)] at H12
      have e0 : s.mapErr (k * 256) = 0 := by
        unfold MS.mapErr
        rw [if_pos (.inr (by rw [(Hid.out HT).ks, (Hid.out HT).most, List.length_take]; simp; omega))]
      rw [e0] at H12
      clear e0
      go_wp2_with (go_at_call 12; refine (Hid.out H12).mono ?_; rintro e w2 ⟨rfl, hs⟩; have HO2 := hidden (Own.step (Hid.out HO1) hs); clear hs)
      go_roundw
      case rel => exact ⟨k + 1, _, by omega, by simp, (Hid.out HT).step hk4 7 _, Hid.out HO2⟩
      case measure => simp [intOf]; omega
    · obtain rfl : k = 4 := by omega
      have ha : wt % 1024 < 1024 := Nat.mod_lt _ (by omega)
      have H14 := hidden (watch_any wr s (wt % 1024) on (Own.mem (Hid.out HO1)) (by omega))
      rw [show ((wt % 1024 : Nat) : Int) = (wt : Int) % 1024 by omega, T1.mb (Hid.out HT)] at H14
      have HT2 := hidden (T2.start (on := on) (Hid.out HT) ha)
      go_wp2_with (go_at_call 14; refine (Hid.out H14).mono ?_; rintro e w2 ⟨rfl, hs⟩; have HO2 := hidden (Own.step (Hid.out HO1) hs); clear hs)
      have hsz : Hid (∀ u : World, w2.heap.size ≤ u.heap.size → w.heap.size ≤ u.heap.size) := fun u hu => Nat.le_trans (Own.below (Hid.out HO2)).size hu
      go_loopw [9, 10, 11] (fun v i x wr => ∃ (k : Nat) (s : MS) (ts : List Nat), k ≤ l.length ∧ k ≤ 50 ∧ i = .int .i64 (k : Int) ∧ T2 s mb (pageOf (wt % 1024)) on k ts ∧ Own w wr s ∧ wr.ownsRow w.heap.size 27 1 v ts.length (words ts) ∧ (∀ g, v.ownBlock = some g → ¬ foot s g) ∧ ts.length ≤ k) (fun v i x _ => 50 - (intOf i).toNat)
      case atStart => exact ⟨0, _, [], by omega, by omega, rfl, Hid.out HT2, Hid.out HO2, World.ownsRow_nil _ _ _ _, by simp [Value.ownBlock], by simp⟩
      case round =>
        obtain ⟨k, s3, ts, hk1, hk2, rfl, ht3, ho3, hrow, hap, hfew⟩ := hrel
        have HT3 := hidden ht3
        have HO3 := hidden ho3
        have HR3 := hidden hrow
        have HA3 := hidden hap
        have hc3 := ht3.c
        have hws : w.heap.size ≤ wr.heap.size := ho3.below.size
        have hmb := ht3.mb
        clear ht3 ho3 hrow hap
        by_cases hkl : k < l.length ∧ k < 50
        · obtain ⟨hkl, hk50⟩ := hkl
          obtain ⟨b, off, rfl, hc⟩ : ∃ b off, ao = some ⟨b, off, none⟩ ∧ wr.cell? ⟨b, off + k, none⟩ = some (.int .u32 ((l.getD k 0 : Nat) : Int)) := by
            obtain ⟨ao', cap', e, h⟩ := Hid.out HL
            simp only [Value.slice.injEq, true_and] at e
            obtain ⟨rfl, rfl⟩ := e
            rcases h with h | ⟨b, off, e, hlt, h⟩
            · rw [h] at hkl; simp at hkl
            · exact ⟨b, off, e, ((Own.below (Hid.out HO3)).cell (p := ⟨b, off + k, none⟩) hlt).trans (h k hkl)⟩
          generalize l.getD k 0 = x at hc
          have hx := Nat.mod_lt x (show 1500 > 0 by omega)
          have H21 := hidden (poke_any wr s3 (x % 1500) (UInt8.ofNat k) (Own.mem (Hid.out HO3)) (by omega) (by omega))
          have HW := hidden ((Hid.out HT3).watched ha (x % 1500))
          have hks : (pageOf (x % 1500) ∈ s3.ks) = (x % 1500 < 1024) := by rw [(Hid.out HT3).ks]; exact propext (mem4 _)
          rw [show ((x % 1500 : Nat) : Int) = (x : Int) % 1500 by omega, show ((UInt8.ofNat k).toNat : Int) = (k : Int) by rw [UInt8.toNat_ofNat']; omega, hmb] at H21
          simp only [hks] at H21
          have HT4 := fun tv => hidden ((Hid.out HT3).step (x % 1500) (UInt8.ofNat k) tv)
          clear hks hmb
          have hts : ts.length < 1099511627776 := by omega
          by_cases hat : x % 1500 < 1024
          · have hat2 : (x : Int) % 1500 < 1024 := by omega
            rw [decide_eq_true hat] at H21
            cases on with
            | true =>
              by_cases heq : (x % 1500) / 256 = (wt % 1024) / 256
              · have heq2 : (x : Int) % 1500 / 256 = (wt : Int) % 1024 / 256 := by omega
                go_wp2_with (first | (go_at_call 21; refine (Hid.out H21).mono ?_; rintro e w4 ⟨rfl, tv, hs⟩; have HO4 := hidden (Own.step (Hid.out HO3) hs); have HR4 := hidden (Step.row hs (Hid.out HR3) (Hid.out HA3)); have hws4 := Below.size (Own.below (Hid.out HO4)); clear hs H21) | (at_builtin; refine wpList_pushW rfl _ _ rfl w.heap.size _ ts ((x : Int) % 1500) w4 rfl rfl rfl (Hid.out HR4).1 hts hws4 ?_; intro v5 w5 hown hgrow hloc; have HO5 := hidden hown; have HG := hidden hgrow; have HL5 := hidden hloc; clear hown hgrow hloc))
                go_roundw
                case rel =>
                  have hrow5 : w5.ownsRow w.heap.size 27 1 v5 (ts ++ [x % 1500]).length (words (ts ++ [x % 1500])) := by
                    rw [List.length_append, List.length_singleton, words_append, show words [x % 1500] = [Value.int .u32 ((x : Int) % 1500)] from rfl]
                    exact Hid.out HO5
                  have ht4 := Hid.out (HT4 tv)
                  rw [Hid.out HW, show (true && decide (x % 1500 < 1024) && decide (x % 1500 / 256 = wt % 1024 / 256)) = true by simp [hat, heq]] at ht4
                  simp only [if_true] at ht4
                  have hg5 := row_grown (Hid.out HO4) (Hid.out HR4).2 (Hid.out HG) (Hid.out HL5) (row_base (Hid.out HR4).1)
                  exact ⟨k + 1, _, ts ++ [x % 1500], by omega, by omega, by simp, ht4, hg5.1, hrow5, hg5.2, by simp; omega⟩
                case measure => simp [intOf]; omega
              · have heq2 : ¬ (x : Int) % 1500 / 256 = (wt : Int) % 1024 / 256 := by omega
                go_wp2_with (first | (go_at_call 21; refine (Hid.out H21).mono ?_; rintro e w4 ⟨rfl, tv, hs⟩; have HO4 := hidden (Own.step (Hid.out HO3) hs); have HR4 := hidden (Step.row hs (Hid.out HR3) (Hid.out HA3)); have hws4 := Below.size (Own.below (Hid.out HO4)); clear hs H21))
                go_roundw
                case rel =>
                  have ht4 := Hid.out (HT4 tv)
                  rw [Hid.out HW, show (true && decide (x % 1500 < 1024) && decide (x % 1500 / 256 = wt % 1024 / 256)) = false by simp [heq]] at ht4
                  simp only [Bool.false_eq_true, if_false] at ht4
                  exact ⟨k + 1, _, ts, by omega, by omega, by simp, ht4, Hid.out HO4, (Hid.out HR4).1, (Hid.out HR4).2, by omega⟩
                case measure => simp [intOf]; omega
            | false =>
              go_wp2_with (first | (go_at_call 21; refine (Hid.out H21).mono ?_; rintro e w4 ⟨rfl, tv, hs⟩; have HO4 := hidden (Own.step (Hid.out HO3) hs); have HR4 := hidden (Step.row hs (Hid.out HR3) (Hid.out HA3)); have hws4 := Below.size (Own.below (Hid.out HO4)); clear hs H21))
              go_roundw
              case rel =>
                have ht4 := Hid.out (HT4 tv)
                rw [Hid.out HW, show (false && decide (x % 1500 < 1024) && decide (x % 1500 / 256 = wt % 1024 / 256)) = false by simp] at ht4
                simp only [Bool.false_eq_true, if_false] at ht4
                exact ⟨k + 1, _, ts, by omega, by omega, by simp, ht4, Hid.out HO4, (Hid.out HR4).1, (Hid.out HR4).2, by omega⟩
              case measure => simp [intOf]; omega
          · have hat2 : ¬ (x : Int) % 1500 < 1024 := by omega
            have hat3 : decide ((x : Int) % 1500 < 1024) = false := by simpa using hat2
            rw [decide_eq_false hat] at H21
            cases on with
            | true =>
              go_wp2_with (first | (go_at_call 21; refine (Hid.out H21).mono ?_; rintro e w4 ⟨rfl, tv, hs⟩; have HO4 := hidden (Own.step (Hid.out HO3) hs); have HR4 := hidden (Step.row hs (Hid.out HR3) (Hid.out HA3)); have hws4 := Below.size (Own.below (Hid.out HO4)); clear hs H21))
              go_roundw
              case rel =>
                have ht4 := Hid.out (HT4 tv)
                rw [Hid.out HW, show (true && decide (x % 1500 < 1024) && decide (x % 1500 / 256 = wt % 1024 / 256)) = false by simp [hat]] at ht4
                simp only [Bool.false_eq_true, if_false] at ht4
                exact ⟨k + 1, _, ts, by omega, by omega, by simp, ht4, Hid.out HO4, (Hid.out HR4).1, (Hid.out HR4).2, by omega⟩
              case measure => simp [intOf]; omega
            | false =>
              go_wp2_with (first | (go_at_call 21; refine (Hid.out H21).mono ?_; rintro e w4 ⟨rfl, tv, hs⟩; have HO4 := hidden (Own.step (Hid.out HO3) hs); have HR4 := hidden (Step.row hs (Hid.out HR3) (Hid.out HA3)); have hws4 := Below.size (Own.below (Hid.out HO4)); clear hs H21))
              go_roundw
              case rel =>
                have ht4 := Hid.out (HT4 tv)
                rw [Hid.out HW, show (false && decide (x % 1500 < 1024) && decide (x % 1500 / 256 = wt % 1024 / 256)) = false by simp] at ht4
                simp only [Bool.false_eq_true, if_false] at ht4
                exact ⟨k + 1, _, ts, by omega, by omega, by simp, ht4, Hid.out HO4, (Hid.out HR4).1, (Hid.out HR4).2, by omega⟩
              case measure => simp [intOf]; omega
        · by_cases hkl2 : k < l.length
          · have hk50 : ¬ (k : Int) < 50 := by omega
            have H17 := hidden (told_any wr s3 (Own.mem (Hid.out HO3)))
            rw [(Hid.out HT3).ts, hmb] at H17
            have hm32 : (s3.told).mb = mb := hmb
            have H17b : Hid (∀ u, MemW u s3.told → Calls Try.prog 17 #[.pointer (some ⟨mb, 0, none⟩)] u fun e w' => e = .returned (.slice none 0 0) ∧ Step u s3.told w' s3.told.told) := by
              intro u hu
              have := told_any u s3.told hu
              rw [show s3.told.mb = mb from hmb] at this
              exact this.mono fun e w' h => ⟨h.1, h.2.1⟩
            have hwt : s3.told.told.watched (wt % 1024) = on := by
              have := (Hid.out HT3).watched ha (wt % 1024)
              rw [show s3.told.told.watched (wt % 1024) = s3.watched (wt % 1024) from rfl, this]
              simp [ha]
            have H32 : Hid (∀ u, MemW u s3.told.told → Calls Try.prog 32 #[.pointer (some ⟨mb, 0, none⟩), .int .u32 ((wt : Int) % 1024)] u fun e w' => e = .returned (.bool on) ∧ ∃ n, w' = u.drewN n) := by
              intro u hu
              have := watched_any u s3.told.told (wt % 1024) hu (by omega)
              rw [hwt, show ((wt % 1024 : Nat) : Int) = (wt : Int) % 1024 by omega, show s3.told.told.mb = mb from hmb] at this
              exact this
            obtain ⟨ra, rn, rc, rfl⟩ := row_slice (Hid.out HR3)
            obtain ⟨ta, tn, tc, htv⟩ := tv_slice (Own.mem (Hid.out HO3))
            rw [htv] at H17
            clear hwt hm32 hmb htv
            go_wp2_with (first | (go_at_call 17; refine (Hid.out H17).mono ?_; rintro e w4 ⟨rfl, hs, hrow, _⟩; have HS4 := hidden hs; have HW1 := hidden (wds_of_row hrow); have HW2 := hidden (wds_of_row (Step.row hs (Hid.out HR3) (Hid.out HA3)).1); have HO4 := hidden (Own.step (Hid.out HO3) hs); clear hs hrow H17) | (go_at_call 16; refine (sameWords_any _ _ _ ts (Hid.out HW1) (Hid.out HW2) (by omega)).mono ?_; rintro e w5 ⟨rfl, hd⟩; have HO5 := hidden (Own.step (Hid.out HO4) (Step.drew (Own.mem (Hid.out HO4)) hd)); clear hd HW1) | (go_at_call 17; refine (Hid.out H17b _ (Own.mem (Hid.out HO5))).mono ?_; rintro e w6 ⟨rfl, hs⟩; have HO6 := hidden (Own.step (Hid.out HO5) hs); clear hs H17b) | (go_at_call 32; refine (Hid.out H32 _ (Own.mem (Hid.out HO6))).mono ?_; rintro e w7 ⟨rfl, hd⟩; have HO7 := hidden (Own.step (Hid.out HO6) (Step.drew (Own.mem (Hid.out HO6)) hd)); clear hd H32) | (go_at_call 37; refine (awake_any _).mono ?_; rintro e w8 ⟨rfl, hb⟩; have HB := hidden (Below.trans (Own.below (Hid.out HO7)) (Below.mono hb (Own.below (Hid.out HO7)).size)); clear hb))
            go_ret
            exact ⟨rfl, Hid.out HB⟩
          · have hkk : decide ((k : Int) < (l.length : Int)) = false := by simp; omega
            have H17 := hidden (told_any wr s3 (Own.mem (Hid.out HO3)))
            rw [(Hid.out HT3).ts, hmb] at H17
            have hm32 : (s3.told).mb = mb := hmb
            have H17b : Hid (∀ u, MemW u s3.told → Calls Try.prog 17 #[.pointer (some ⟨mb, 0, none⟩)] u fun e w' => e = .returned (.slice none 0 0) ∧ Step u s3.told w' s3.told.told) := by
              intro u hu
              have := told_any u s3.told hu
              rw [show s3.told.mb = mb from hmb] at this
              exact this.mono fun e w' h => ⟨h.1, h.2.1⟩
            have hwt : s3.told.told.watched (wt % 1024) = on := by
              have := (Hid.out HT3).watched ha (wt % 1024)
              rw [show s3.told.told.watched (wt % 1024) = s3.watched (wt % 1024) from rfl, this]
              simp [ha]
            have H32 : Hid (∀ u, MemW u s3.told.told → Calls Try.prog 32 #[.pointer (some ⟨mb, 0, none⟩), .int .u32 ((wt : Int) % 1024)] u fun e w' => e = .returned (.bool on) ∧ ∃ n, w' = u.drewN n) := by
              intro u hu
              have := watched_any u s3.told.told (wt % 1024) hu (by omega)
              rw [hwt, show ((wt % 1024 : Nat) : Int) = (wt : Int) % 1024 by omega, show s3.told.told.mb = mb from hmb] at this
              exact this
            obtain ⟨ra, rn, rc, rfl⟩ := row_slice (Hid.out HR3)
            obtain ⟨ta, tn, tc, htv⟩ := tv_slice (Own.mem (Hid.out HO3))
            rw [htv] at H17
            clear hwt hm32 hmb htv
            go_wp2_with (first | (go_at_call 17; refine (Hid.out H17).mono ?_; rintro e w4 ⟨rfl, hs, hrow, _⟩; have HS4 := hidden hs; have HW1 := hidden (wds_of_row hrow); have HW2 := hidden (wds_of_row (Step.row hs (Hid.out HR3) (Hid.out HA3)).1); have HO4 := hidden (Own.step (Hid.out HO3) hs); clear hs hrow H17) | (go_at_call 16; refine (sameWords_any _ _ _ ts (Hid.out HW1) (Hid.out HW2) (by omega)).mono ?_; rintro e w5 ⟨rfl, hd⟩; have HO5 := hidden (Own.step (Hid.out HO4) (Step.drew (Own.mem (Hid.out HO4)) hd)); clear hd HW1) | (go_at_call 17; refine (Hid.out H17b _ (Own.mem (Hid.out HO5))).mono ?_; rintro e w6 ⟨rfl, hs⟩; have HO6 := hidden (Own.step (Hid.out HO5) hs); clear hs H17b) | (go_at_call 32; refine (Hid.out H32 _ (Own.mem (Hid.out HO6))).mono ?_; rintro e w7 ⟨rfl, hd⟩; have HO7 := hidden (Own.step (Hid.out HO6) (Step.drew (Own.mem (Hid.out HO6)) hd)); clear hd H32) | (go_at_call 37; refine (awake_any _).mono ?_; rintro e w8 ⟨rfl, hb⟩; have HB := hidden (Below.trans (Own.below (Hid.out HO7)) (Below.mono hb (Own.below (Hid.out HO7)).size)); clear hb))
            go_ret
            exact ⟨rfl, Hid.out HB⟩
end Go.Proofs.Ytfbmkgdpejgjpaa
