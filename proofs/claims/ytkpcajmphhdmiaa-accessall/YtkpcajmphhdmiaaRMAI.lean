/- Memory: of parts, walked. -/
import Derived.Test.YtkpcajmphhdmiaaRMAH
import Derived.Deep.Slices
import Derived.Test.YtkpcajmphhdmiaaRMAG
import Derived.RangeFuncBox
import Derived.RangeFuncLeaves
import Derived.RangeFuncFrom
import Derived.Shelf.Abstract
import Derived.WalkKit
import Derived.OwnWalkIn
import Derived.TacticsInMore
import Derived.LoopNIn
import Derived.LoopIn
import Derived.Sort.LoopGhostIn
import Derived.Maps.AppendAt
namespace Go.Proofs.Ytkpcajmphhdmiaa
open Go.ChangeShapes Go.WideShapes Go.ChangeAt Go.RowKit
set_option linter.unusedVariables false
theorem getD_in_row {w : World} {ao : Option Addr} {l : List UInt8} {cap k : Nat} (h : Row w ao l cap) (hk : k < l.length) : ∃ b off, ao = some ⟨b, off, none⟩ ∧ w.cell? ⟨b, off + k, none⟩ = some (.int .u8 ((l.getD k 0).toNat : Int)) := by
  rcases h.lies with h | ⟨b, off, e, h⟩
  · rw [h] at hk; simp at hk
  · exact ⟨b, off, e, h k hk⟩
theorem MI.mapCall {w wr : World} {s : MS} {mb C a k L : Nat} {f : AM} {z : Int} (h : MI w wr s mb f C) (hB : MapB s a k L) (hk : k < 600) (hL : L ≤ 28) (m : Nat) : Calls Try.prog 28 #[.pointer (some ⟨mb, 0, none⟩), .int .u32 (((a : Int) + (k : Int)) % 4294967296), .int .i64 z] (wr.drewN m) fun e w' =>
    ∃ n, e = .returned (.int .i64 n) ∧ ∃ s', MI w w' s' mb (amap f (wrapAt a k) z) C ∧ MapB s' a (k + 1) L := by
  have h12 := map_any (wr.drewN m) s (wrapAt a k) z (h.own.mem.drewN m) (wrapAt_lt _ _)
  rw [h.mb, show ((wrapAt a k : Nat) : Int) = ((a : Int) + (k : Int)) % 4294967296 by unfold wrapAt; omega] at h12
  refine h12.mono ?_
  rintro e w' ⟨he, st⟩
  exact ⟨_, he, _, h.map hB hk hL ((Step.drew h.own.mem ⟨m, rfl⟩).trans st)⟩
theorem MI.pokeCall {w wr : World} {s : MS} {mb C a k : Nat} {f : AM} {v : UInt8} (h : MI w wr s mb f C) (hC : C < 1099511627776) (m : Nat) : Calls Try.prog 29 #[.pointer (some ⟨mb, 0, none⟩), .int .u32 (((a : Int) + (k : Int)) % 4294967296), .int .u8 (v.toNat : Int)] (wr.drewN m) fun e w' =>
    ∃ b, e = .returned (.bool b) ∧ ∃ s', MI w w' s' mb (apoke f (wrapAt a k) v) (C + 1) ∧ s'.ks = s.ks := by
  have hc := h.c
  have h21 := poke_any (wr.drewN m) s (wrapAt a k) v (h.own.mem.drewN m) (wrapAt_lt _ _) (by omega)
  rw [h.mb, show ((wrapAt a k : Nat) : Int) = ((a : Int) + (k : Int)) % 4294967296 by unfold wrapAt; omega] at h21
  refine h21.mono ?_
  rintro e w' ⟨he, tv, st⟩
  exact ⟨_, he, _, h.poke ((Step.drew h.own.mem ⟨m, rfl⟩).trans st)⟩
/-- A memory that is made, and then watched. -/
structure MW (w wr : World) (s : MS) (mb : Nat) (f : AM) : Prop where
  own : Own w wr s
  mb : s.mb = mb
  abs : s.abs = f
  most : s.most = 64
  few : s.ks.length ≤ 32
  ts : s.ts = []
  c : s.c ≤ 4800
theorem MW.watchCall {w wr : World} {s : MS} {mb a : Nat} {f : AM} {b : Bool} (h : MW w wr s mb f) (ha : a < 4294967296) (m : Nat) : Calls Try.prog 30 #[.pointer (some ⟨mb, 0, none⟩), .int .u32 (a : Int), .bool b] (wr.drewN m) fun e w' =>
    e = .returned (.tuple #[]) ∧ ∃ s', MW w w' s' mb (awatch f a b) := by
  have h14 := watch_any (wr.drewN m) s a b (h.own.mem.drewN m) ha
  rw [h.mb] at h14
  refine h14.mono ?_
  rintro e w' ⟨he, st⟩
  refine ⟨he, s.watchAt a b, h.own.step ((Step.drew h.own.mem ⟨m, rfl⟩).trans st), by rw [watchAt_mb]; exact h.mb, by rw [abs_watchAt, h.abs], ?_, ?_, ?_, ?_⟩
  all_goals
    unfold MS.watchAt
    split
  · exact h.most
  · exact h.most
  · exact h.few
  · exact h.few
  · exact h.ts
  · exact h.ts
  · exact h.c
  · exact h.c
set_option maxRecDepth 20000 in
set_option maxHeartbeats 4000000 in
theorem memory_any (w : World) (ao : Option Addr) (cap : Nat) (ps : List Part4) (h : Pieces w ao ps) (hlen : ps.length ≤ 8) (hdat : ∀ p ∈ ps, p.data.length ≤ 600) :
    Calls Try.prog 9 #[.slice ao ps.length cap] w fun e w' => ∃ s, e = .returned (.pointer (some ⟨s.mb, 0, none⟩)) ∧ Own w w' s ∧ s.abs = memOf ps ∧ s.most = 64 ∧ s.ks.length ≤ 32 ∧ s.ts = [] ∧ s.c ≤ 4800 := by
  have H := hidden h
  have HD := hidden hdat
  have H9 := hidden (newMem_step 64 w)
  have ec : cutMost 64 = 64 := by decide
  rw [ec] at H9
  clear ec h hdat
  go_enter Try.func9, Try.ntmps9
  go_wp2_with (go_at_call 27; refine (Hid.out H9).mono ?_; rintro e w1 ⟨mb, bm, rfl, hm, hb, hf⟩; have HO := hidden (Own.mk hm hb hf); clear hm hb hf H9)
  go_loopw [4, 5, 6] (fun i x5 x6 wr => ∃ (q : Nat) (s : MS), q ≤ ps.length ∧ i = .int .i64 (q : Int) ∧ MI w wr s mb (partsDone (ps.take q) fun _ => none) (600 * q) ∧ s.ks.length ≤ 4 * q) (fun i _ _ _ => ps.length - (intOf i).toNat)
  case atStart =>
    have ho := Hid.out HO
    exact ⟨0, fresh mb bm 64, by omega, rfl, ⟨ho, rfl, rfl, by funext j; simp [MS.abs, fresh, partsDone], by simp [fresh], rfl, by simp [fresh]⟩, by simp [fresh]⟩
  case round =>
    obtain ⟨q, s, hq, rfl, hI, hK⟩ := hrel
    have HI := hidden hI
    clear hI
    by_cases hql : q < ps.length
    · obtain ⟨b, off, hao, hlt, hp⟩ := (Hid.out H).at hql
      have hd6 : ps[q].data.length ≤ 600 := Hid.out HD _ (List.getElem_mem _)
      obtain ⟨f, hf⟩ : ∃ f, f = partsDone (ps.take q) fun _ => none := ⟨_, rfl⟩
      have HNX : Hid (partsDone (ps.take (q + 1)) (fun _ => none) = partDone f ps[q]) := by
        show _ = _
        rw [take_snoc ps q hql, partsDone_snoc, hf]
      rw [← hf] at HI
      clear hf
      subst hao
      have HP := hidden hp
      clear hp
      generalize ps[q] = p at HP HNX hd6
      have hpl := (Hid.out HP).lt
      obtain ⟨N, hN⟩ : ∃ N, N = max p.data.length 1 := ⟨_, rfl⟩
      have hrm := (Hid.out HP).row.max
      simp only [maxLen] at hrm
      have hrl := (Hid.out HP).row.len
      go_wp2
      go_loopw [5] (fun x5 wr2 => ∃ (k : Nat) (s2 : MS), k ≤ N ∧ x5 = .int .i64 (k : Int) ∧ MI w wr2 s2 mb (partMaps f p k) (600 * q) ∧ MapB s2 p.at_ k (4 * q)) (fun x5 _ => N - (intOf x5).toNat)
      case atStart => exact ⟨0, s, by omega, rfl, Hid.out HI, fun _ => hK, fun h => by omega⟩
      case round =>
        obtain ⟨k, s2, hk, rfl, hI2, hB2⟩ := hrel
        have hp2 := (Hid.out HP).later hlt hI2.own.below
        have hc0 := hp2.c0
        have hc1 := hp2.c1
        have hc2 := hp2.c2
        have HI2 := hidden hI2
        have HB2 := hidden hB2
        clear hI2 hB2 hp2
        by_cases hkN : k < N
        · have H12 := fun m => hidden (MI.mapCall (z := p.perm) (Hid.out HI2) (Hid.out HB2) (by omega) (by omega) m)
          rw [show amap (partMaps f p k) (wrapAt p.at_ k) p.perm = partMaps f p (k + 1) from rfl] at H12
          by_cases hkd : k < p.data.length
          · have hkd2 : (k : Int) < (p.data.length : Int) := by omega
            go_wp2
            refine wp_region_tail 14 (by kernel_rfl) (by kernel_rfl) ?_
            simp only [List.take_succ_cons, List.take_zero, List.drop_succ_cons, List.drop_zero]
            repeat (go_big_quiet_step (fail))
            refine wpQuiet_nil ?_
            rintro _ ⟨nq, rfl⟩
            go_wp2_with (go_at_call 28; with_reducible refine (Hid.out (H12 nq)).mono ?_; rintro e w3 ⟨rn, rfl, s3, hi3, hb3⟩; have HI3 := hidden hi3; have HB3 := hidden hb3; clear hi3 hb3)
            go_roundw
            case rel => exact ⟨k + 1, s3, by omega, by simp, Hid.out HI3, Hid.out HB3⟩
            case measure => simp [intOf]; omega
          · have hkd2 : decide ((k : Int) < (p.data.length : Int)) = false := by simp; omega
            obtain rfl : k = 0 := by omega
            have hp0 : ((p.at_ : Int) + ((0 : Nat) : Int)) % 4294967296 = (p.at_ : Int) := by omega
            rw [hp0] at H12
            clear hp0
            go_wp2
            refine wp_region_tail 14 (by kernel_rfl) (by kernel_rfl) ?_
            simp only [List.take_succ_cons, List.take_zero, List.drop_succ_cons, List.drop_zero]
            repeat (go_big_quiet_step (fail))
            refine wpQuiet_nil ?_
            rintro _ ⟨nq, rfl⟩
            go_wp2_with (go_at_call 28; with_reducible refine (Hid.out (H12 nq)).mono ?_; rintro e w3 ⟨rn, rfl, s3, hi3, hb3⟩; have HI3 := hidden hi3; have HB3 := hidden hb3; clear hi3 hb3)
            go_roundw
            case rel => exact ⟨1, s3, by omega, by simp, Hid.out HI3, Hid.out HB3⟩
            case measure => simp [intOf]; omega
        · have hkd2 : decide ((k : Int) < (p.data.length : Int)) = false := by simp; omega
          have hk1 : ¬ (k : Int) < 1 := by omega
          obtain rfl : k = N := by omega
          have HK4 : Hid (s2.ks.length ≤ 4 * (q + 1)) := by
            have := (Hid.out HB2).2 (by omega)
            have h2 := this.2
            have : (p.at_ % 256 + (k - 1)) / 256 ≤ 3 := by omega
            show _ ≤ _
            omega
          clear hc0 hc1 hc2 HB2
          obtain ⟨wq, hwq⟩ : ∃ u, u = wr := ⟨_, rfl⟩
          have hc1 := ((Hid.out HP).later hlt (MI.own (Hid.out HI2)).below).c1
          go_wp2
          go_loopw [6] (fun x6 wr3 => ∃ (j : Nat) (s3 : MS), j ≤ p.data.length ∧ x6 = .int .i64 (j : Int) ∧ MI w wr3 s3 mb (partPokes (partMaps f p k) p j) (600 * q + j) ∧ s3.ks.length ≤ 4 * (q + 1)) (fun x6 _ => p.data.length - (intOf x6).toNat)
          case atStart => exact ⟨0, s2, by omega, rfl, Hid.out HI2, Hid.out HK4⟩
          case round =>
            obtain ⟨j, s3, hj, rfl, hI3, hK3⟩ := hrel
            have hp3 := (Hid.out HP).later hlt hI3.own.below
            have hd0 := hp3.c0
            have hd1 := hp3.c1
            have HI3 := hidden hI3
            have HRW := hidden hp3.row
            clear hI3 hp3
            by_cases hjn : j < p.data.length
            · have hjn2 : (j : Int) < (p.data.length : Int) := by omega
              obtain ⟨db, doff, hda, hdc⟩ := getD_in_row (Hid.out HRW) hjn
              rw [hda] at hd1
              clear hda
              have H21 := fun m => hidden (MI.pokeCall (a := p.at_) (k := j) (v := p.data.getD j 0) (Hid.out HI3) (by omega) m)
              rw [show apoke (partPokes (partMaps f p k) p j) (wrapAt p.at_ j) (p.data.getD j 0) = partPokes (partMaps f p k) p (j + 1) from rfl] at H21
              generalize p.data.getD j 0 = v at hdc H21
              go_wp2
              refine wp_region_tail 17 (by kernel_rfl) (by kernel_rfl) ?_
              simp only [List.take_succ_cons, List.take_zero, List.drop_succ_cons, List.drop_zero]
              repeat (go_big_quiet_step (fail))
              refine wpQuiet_nil ?_
              rintro _ ⟨nq, rfl⟩
              go_wp2_with (go_at_call 29; with_reducible refine (Hid.out (H21 nq)).mono ?_; rintro e w4 ⟨rb, rfl, s4, hi4, hk4⟩; have HI4 := hidden hi4; have HK4b := hidden hk4; clear hi4 hk4)
              go_roundw
              case rel =>
                have h5 := Hid.out HI4
                rw [show 600 * q + j + 1 = 600 * q + (j + 1) by omega] at h5
                have h6 : s4.ks.length ≤ 4 * (q + 1) := by rw [Hid.out HK4b]; exact hK3
                first | exact ⟨j + 1, s4, by omega, by simp, h5, h6⟩ | ((repeat apply Exists.intro); exact ⟨⟨j + 1, s4, by omega, rfl, h5, h6⟩, rfl⟩)
              case measure => simp [intOf]; omega
            · have hjn2 : ¬ (j : Int) < (p.data.length : Int) := by omega
              obtain rfl : j = p.data.length := by omega
              go_wp2
              go_roundw
              case rel =>
                refine ⟨q + 1, s3, by omega, by simp, ?_, hK3⟩
                rw [Hid.out HNX]
                have h3 := Hid.out HI3
                have e : partDone f p = partPokes (partMaps f p k) p p.data.length := by unfold partDone; rw [← hN]
                rw [e]
                exact ⟨h3.own, h3.mb, h3.most, h3.abs, h3.off, h3.ts, by have := h3.c; omega⟩
              case measure => simp [intOf]; omega
    · have hql2 : ¬ (q : Int) < (ps.length : Int) := by omega
      obtain rfl : q = ps.length := by omega
      rw [List.take_of_length_le (Nat.le_refl _)] at HI
      have HMW : Hid (MW w wr s mb (partsDone ps fun _ => none)) := by
        have h3 := Hid.out HI
        exact ⟨h3.own, h3.mb, h3.abs, h3.most, by omega, h3.ts, by have := h3.c; omega⟩
      clear HI
      go_wp2
      go_loopw [7] (fun x7 wr4 => ∃ (j : Nat) (s4 : MS), j ≤ ps.length ∧ x7 = .int .i64 (j : Int) ∧ MW w wr4 s4 mb (watches (ps.take j) (partsDone ps fun _ => none))) (fun x7 _ => ps.length - (intOf x7).toNat)
      case atStart => exact ⟨0, s, by omega, rfl, Hid.out HMW⟩
      case round =>
        obtain ⟨j, s4, hj, rfl, hI4⟩ := hrel
        have HI4 := hidden hI4
        clear hI4
        by_cases hjn : j < ps.length
        · have hjn2 : (j : Int) < (ps.length : Int) := by omega
          obtain ⟨b, off, hao, hlt, hp⟩ := (Hid.out H).at hjn
          have hp4 := hp.later hlt (MW.own (Hid.out HI4)).below
          have hc0 := hp4.c0
          have hc3 := hp4.c3
          have H14 := fun m => hidden (MW.watchCall (b := ps[j].on) (Hid.out HI4) hp.lt m)
          have HNX : Hid (awatch (watches (ps.take j) (partsDone ps fun _ => none)) ps[j].at_ ps[j].on = watches (ps.take (j + 1)) (partsDone ps fun _ => none)) := by
            show _ = _
            rw [take_snoc ps j hjn, watches_snoc]
          rw [Hid.out HNX] at H14
          clear hp hp4 HNX
          subst hao
          generalize ps[j].at_ = pa at hc0 H14
          generalize ps[j].on = po at hc3 H14
          go_wp2
          refine wp_region_tail 11 (by kernel_rfl) (by kernel_rfl) ?_
          simp only [List.take_succ_cons, List.take_zero, List.drop_succ_cons, List.drop_zero]
          repeat (go_big_quiet_step (fail))
          refine wpQuiet_nil ?_
          rintro _ ⟨nq, rfl⟩
          go_wp2_with (go_at_call 30; with_reducible refine (Hid.out (H14 nq)).mono ?_; rintro e w5 ⟨rfl, s5, hi5⟩; have HI5 := hidden hi5; clear hi5)
          go_roundw
          case rel => exact ⟨j + 1, s5, by omega, by simp, Hid.out HI5⟩
          case measure => simp [intOf]; omega
        · have hjn2 : ¬ (j : Int) < (ps.length : Int) := by omega
          obtain rfl : j = ps.length := by omega
          go_wp2
          go_ret
          have h4 := Hid.out HI4
          rw [List.take_of_length_le (Nat.le_refl _)] at h4
          exact ⟨s4, by rw [h4.mb]; rfl, h4.own, h4.abs, h4.most, h4.few, h4.ts, h4.c⟩
end Go.Proofs.Ytkpcajmphhdmiaa
namespace Go.Proofs.Ytkpcajmphhdmiaa
open Go.ChangeShapes Go.WideShapes Go.ChangeAt Go.RowKit Go.Deep
set_option linter.unusedVariables false
theorem wf_u32 {a : Int} (h : (Lit.int .u32 a).wf = true) : ∃ n : Nat, a = (n : Int) ∧ n < 4294967296 := by
  have : 0 ≤ a ∧ a ≤ 4294967295 := by simpa [Lit.wf, IntKind.min, IntKind.max, IntKind.signed, IntKind.bits] using h
  exact ⟨a.toNat, by omega, by omega⟩
theorem wf_u8 {a : Int} (h : (Lit.int .u8 a).wf = true) : ∃ v : UInt8, a = (v.toNat : Int) := by
  have h1 : 0 ≤ a ∧ a ≤ 255 := by simpa [Lit.wf, IntKind.min, IntKind.max, IntKind.signed, IntKind.bits] using h
  exact ⟨UInt8.ofNat a.toNat, by rw [UInt8.toNat_ofNat']; omega⟩
theorem cells57 : Try.prog.cellsOf 48 = 4 := by kernel_rfl
theorem cells27 : Try.prog.cellsOf 23 = 1 := by kernel_rfl
theorem cells45 : Try.prog.cellsOf 46 = 1 := by kernel_rfl
theorem cells3 : Try.prog.cellsOf 3 = 1 := by kernel_rfl
theorem cells4 : Try.prog.cellsOf 4 = 1 := by kernel_rfl
/-- A slice of bytes that came in. -/
theorem open_row {H : Type} {enc : TypeId × Value → H} {w : World} {base n : Nat} {spare : Nat → Bool} {held : Bool} {cs : List Value} {x : DataW H × List MemPlace} (h : DataW.trod enc Try.prog w base spare held n 46 cs = some x) :
    ∃ (ao : Option Addr) (l : List UInt8) (cap : Nat), cs = [.slice ao l.length cap] ∧ Row w ao l cap := by
  rcases open_ints Try.underlying46 Try.underlying5 (by kernel_rfl) h with ⟨hcs, _⟩ | ⟨a, len, cap, zs, hcs, _, hl, hm, hz, _, hcell, hwz⟩
  · exact ⟨none, [], 0, hcs, Row.none w⟩
  · have hzl : len ≤ zs.length := by rw [hz]; split <;> omega
    obtain ⟨f, hf⟩ : ∃ f : Nat → UInt8, ∀ i, i < len → zs.getD i 0 = ((f i).toNat : Int) := by
      refine choose_lt (p := fun i (v : UInt8) => zs.getD i 0 = (v.toNat : Int)) fun i hi => ?_
      refine wf_u8 (hwz _ ?_)
      rw [List.getD_eq_getElem?_getD, List.getElem?_eq_getElem (by omega), Option.getD_some]
      exact List.getElem_mem _
    have hlen : ((List.range len).map f).length = len := by simp
    refine ⟨some a, (List.range len).map f, cap, by rw [hlen]; exact hcs, by rw [hlen]; exact hl, hm, by simp, ?_⟩
    by_cases h0 : len = 0
    · left
      subst h0
      rfl
    · right
      obtain ⟨b, off, spot⟩ := a
      have hc0 := hcell 0 (by omega)
      have hspot : spot = none := by simpa [Addr.add] using World.cell?_spot hc0
      subst hspot
      refine ⟨b, off, rfl, fun j hj => ?_⟩
      rw [hlen] at hj
      have h1 := hcell j (by omega)
      rw [Addr.add_lit] at h1
      rw [h1, hf j hj]
      simp [List.getD_eq_getElem?_getD, hj]
set_option maxRecDepth 20000 in
theorem open_part {H : Type} {enc : TypeId × Value → H} {w : World} {base n : Nat} {spare : Nat → Bool} {held : Bool} {a : Addr} {cs : List Value} {x : DataW H × List MemPlace}
    (h1 : w.cells? base a 4 = some cs) (h2 : DataW.trod enc Try.prog w base spare held n 48 cs = some x) :
    ∃ p : Part4, w.cell? (a.add 0) = some (.int .u32 (p.at_ : Int)) ∧ w.cell? (a.add 1) = some (.slice p.da p.data.length p.dcap) ∧ w.cell? (a.add 2) = some (.int .i64 p.perm) ∧ w.cell? (a.add 3) = some (.bool p.on) ∧ Row w p.da p.data p.dcap ∧ p.at_ < 4294967296 := by
  obtain ⟨_, hlen, hcell⟩ := World.cells?_some h1
  obtain ⟨xs, k, hk, hxy, _, hxl, hf⟩ := DataW.trod_struct Try.underlying48 h2
  match xs, hxl, cs, hlen with
  | [y0, y1, y2, y3], _, [v0, v1, v2, v3], _ =>
    have g0 := hf 0 _ rfl
    have g1 := hf 1 _ rfl
    have g2 := hf 2 _ rfl
    have g3 := hf 3 _ rfl
    simp [cells3, cells4, cells27, cells45] at g0 g1 g2 g3
    obtain ⟨n0, e0, _, w0⟩ := DataW.trod_int Try.underlying23 g0
    obtain ⟨ao, l, cap, e1, hr⟩ := open_row g1
    obtain ⟨n2, e2, _, _⟩ := DataW.trod_int Try.underlying3 g2
    obtain ⟨b3, e3, _⟩ := DataW.trod_bool Try.underlying4 g3
    obtain ⟨m0, rfl, hm0⟩ := wf_u32 w0
    simp only [List.cons.injEq, and_true] at e0 e1 e2 e3
    subst e0 e1 e2 e3
    have c0 := hcell 0 (by omega)
    have c1 := hcell 1 (by omega)
    have c2 := hcell 2 (by omega)
    have c3 := hcell 3 (by omega)
    exact ⟨⟨m0, l, n2, b3, ao, cap⟩, by simpa using c0, by simpa using c1, by simpa using c2, by simpa using c3, hr, hm0⟩
theorem open_parts {H : Type} {enc : TypeId × Value → H} {w : World} {fuel : Nat} {held : Bool} {ao : Option Addr} {len cap : Nat} {x : DataW H × List MemPlace} {spare : Nat → Bool}
    (h : DataW.trod enc Try.prog w 0 spare held fuel 22 [.slice ao len cap] = some x) : ∃ ps : List Part4, ps.length = len ∧ Pieces w ao ps ∧ ps.length ≤ 9223372036854775807 := by
  rcases open_slice Try.underlying22 h with ⟨hcs, _⟩ | ⟨a, l, c, m, n, D, Pl, hcs, hb, hl, hm, hmm, _, hx⟩
  · simp at hcs
    obtain ⟨rfl, rfl, rfl⟩ := hcs
    exact ⟨[], rfl, .inl rfl, by simp⟩
  · simp at hcs
    obtain ⟨rfl, rfl, rfl⟩ := hcs
    simp only [maxLen] at hm
    have hlm : len ≤ m := by rw [hmm]; split <;> omega
    have each : ∀ i, i < len → ∃ p : Part4, w.cell? (a.add (i * 4)) = some (.int .u32 (p.at_ : Int)) ∧ w.cell? (a.add (i * 4 + 1)) = some (.slice p.da p.data.length p.dcap) ∧ w.cell? (a.add (i * 4 + 2)) = some (.int .i64 p.perm) ∧ w.cell? (a.add (i * 4 + 3)) = some (.bool p.on) ∧ Row w p.da p.data p.dcap ∧ p.at_ < 4294967296 := by
      intro i hi
      obtain ⟨cs', h1, h2⟩ := hx i (by omega)
      rw [cells57] at h1
      obtain ⟨p, c0, c1, c2, c3, hr, hlt⟩ := open_part h1 h2
      rw [add_add] at c0 c1 c2 c3
      exact ⟨p, c0, c1, c2, c3, hr, hlt⟩
    have hinh : Inhabited Part4 := ⟨⟨0, [], 0, false, none, 0⟩⟩
    obtain ⟨f, hf⟩ := choose_lt each
    have hlen : ((List.range len).map f).length = len := by simp
    refine ⟨(List.range len).map f, hlen, ?_, by omega⟩
    by_cases h0 : len = 0
    · left
      subst h0
      rfl
    · right
      obtain ⟨b, off, spot⟩ := a
      have hspot : spot = none := by simpa [Addr.add] using World.cell?_spot (hf 0 (by omega)).1
      subst hspot
      refine ⟨b, off, rfl, ?_, fun j hj => ?_⟩
      · have := World.block_lt_of_cell? _ _ (hf 0 (by omega)).1
        simpa [Addr.add_lit] using this
      · rw [hlen] at hj
        obtain ⟨c0, c1, c2, c3, hr, hlt⟩ := hf j hj
        rw [Addr.add_lit] at c0 c1 c2 c3
        simp only [List.getElem_map, List.getElem_range]
        exact ⟨c0, by rw [Nat.add_assoc]; exact c1, by rw [Nat.add_assoc]; exact c2, by rw [Nat.add_assoc]; exact c3, hr, hlt⟩
end Go.Proofs.Ytkpcajmphhdmiaa
namespace Go.Proofs.Ytkpcajmphhdmiaa
open Go.ChangeShapes Go.WideShapes Go.ChangeAt Go.RowKit Go.Shelf
set_option linter.unusedVariables false
attribute [local go_sem] Oper.semAt_some
theorem only_grown {r : Nat} {w w' : World} (h : Only r w w') : w.grownBy w' (some r) := ⟨h.os, h.tape, h.output, Nat.le_of_eq h.size.symm, fun k _ hk => h.block k fun e => hk (by rw [e])⟩
theorem It.walk {w : World} {r bm : Nat} {ks todo : List Nat} (h : It w r bm ks todo) : ∃ o : Obj, w.heap[r]? = some o ∧ o.isWalk = true := by
  obtain ⟨seen, c0, h1, _⟩ := h.now
  exact ⟨_, h1, rfl⟩
theorem It.kept {w w' : World} {r bm : Nat} {ks todo : List Nat} (h : It w r bm ks todo) (hk : KeepsWalks w w') : It w' r bm ks todo := by
  obtain ⟨seen, c0, h1, h2, h3⟩ := h.now
  exact ⟨⟨seen, c0, hk.same r _ h1 rfl, h2, h3⟩, h.nodup, h.sub⟩
theorem perm_step {ss todo ks : List Nat} {k : Nat} (h : (ss ++ todo).Perm ks) (hk : k ∈ todo) : ((ss ++ [k]) ++ todo.erase k).Perm ks := by
  rw [List.append_assoc, List.singleton_append]
  exact (List.Perm.append_left ss (List.perm_cons_erase hk).symm).trans h
set_option maxRecDepth 100000 in
set_option maxHeartbeats 1000000 in
theorem keys1_in (F : Fence) (n : Nat) (h66 : F.fn 74) (hro : F.round = none) (hn : 1 ≤ n) (l Bm bm : Nat) (hb : Nat → Nat) (ks : List Nat) (J Jx : List Nat → World → Prop)
    (hY : ∀ pre (x : Nat) W, J pre W → pre.length < ks.length → YieldAt F (n - 1) Try.prog l #[.int .u32 (x : Int)] W fun e W' => (e = .returned (.bool true) ∧ J (pre ++ [x]) W' ∧ KeepsWalks W W') ∨ (e = .returned (.bool false) ∧ Jx (pre ++ [x]) W'))
    (W : World) (hJ : AbidesFrom W.heap.size J) (hm : W.cell? ⟨Bm, 0, none⟩ = some (.map (some bm))) (hmap : W.heap[bm]? = some (mapObj hb ks)) (hnd : ks.Nodup) (h0 : J [] W) :
    CallsIn F n Try.prog 74 #[.func (.yield l) #[] #[], .pointer (some ⟨Bm, 0, none⟩)] W fun e W' => (∃ v, e = .returned v) ∧ ((∃ ss : List Nat, ss.Perm ks ∧ J ss W') ∨ (∃ pre : List Nat, True ∧ Jx pre W')) := by
  have hrg := run_range hmap
  have HIT := hidden (it_start (w := W) (bm := bm) hnd)
  have HM := hidden hmap
  have HJ0 := hidden (hJ [] W _ none h0 (World.grownBy_alloc W (.mapIter (some bm) ks.length #[] ks.length) none) (fun r e => by cases e))
  have HM0 : Hid ((W.alloc (.mapIter (some bm) ks.length #[] ks.length)).heap[bm]? = some (mapObj hb ks)) := (heap_alloc_old _ _ (Array.getElem?_eq_some_iff.1 hmap).1).trans hmap
  have HY := hidden hY
  have HJ := hidden hJ
  clear hmap hJ hY h0
  refine callsIn_of_wp Try.func74 rfl h66 ?_ hro
  simp only [Try.ntmps74, List.size_toArray, List.length_cons, List.length_nil, Nat.reduceAdd, Nat.reduceSub, Array.replicate_succ, Array.replicate_zero, List.push_toArray, List.append_toArray, List.nil_append, List.cons_append]
  gi_wp2
  gi_loopg [3] ks.length (fun q _ wr => ∃ todo ss, todo.length = q ∧ It wr W.heap.size bm ks todo ∧ wr.heap[bm]? = some (mapObj hb ks) ∧ (ss ++ todo).Perm ks ∧ J ss wr)
  case atStart => exact ⟨ks, [], rfl, Hid.out HIT, Hid.out HM0, List.Perm.refl _, Hid.out HJ0⟩
  case round =>
    obtain ⟨todo, ss, hq, hI, hmr, hp, hJs⟩ := hrel
    rcases run_next hI hmr hnd 0 with ⟨h0', hrun⟩ | ⟨k, w2, hk, hrun, hI2, hO, hent⟩
    · have HP := hidden hp
      have HJs := hidden hJs
      clear hI hmr hp hJs
      gi_wp2
      go_end0
      subst h0'
      exact ⟨⟨_, rfl⟩, .inl ⟨ss, by simpa using Hid.out HP, Hid.out HJs⟩⟩
    · have hJ2 : J ss w2 := Hid.out HJ ss wr w2 (some W.heap.size) hJs (only_grown hO) (fun r e => by cases e; exact ⟨Nat.le_refl _, hI.walk⟩)
      have hlen := hp.length_eq
      rw [List.length_append] at hlen
      have hpos := List.length_pos_of_mem hk
      have hel := List.length_erase_of_mem hk
      obtain ⟨fn, tmps, assign, body, hy, hR⟩ := Hid.out HY ss k w2 hJ2 (by omega)
      have hm2 : w2.heap[bm]? = some (mapObj hb ks) := (hO.block bm (fun e => by obtain ⟨o, ho, hw⟩ := hI.walk; obtain ⟨seen, c0, h1, _⟩ := hI.now; rw [← e, hmr] at h1; simp [mapObj] at h1)).trans hmr
      have HI2 := hidden hI2
      have HM2 := hidden hm2
      have HP2 := hidden (perm_step hp hk)
      clear hI hmr hp hJs hJ2 hI2 hm2 hO hk
      gi_wp2
      refine hR.mono ?_
      rintro e W3 (⟨rfl, hJ3, hk3⟩ | ⟨rfl, hJx3⟩)
      · have HJ3 := hidden hJ3
        have HK3 := hidden hk3
        clear hJ3 hk3
        gi_wp2
        gi_roundg (todo.erase k).length
        case measure => omega
        case rel => exact ⟨todo.erase k, ss ++ [k], rfl, (Hid.out HI2).kept (Hid.out HK3), (Hid.out HK3).same bm _ (Hid.out HM2) rfl, Hid.out HP2, Hid.out HJ3⟩
      · gi_wp2
        refine bodyPost_ret (results_none rfl _ _ _) rfl ?_
        exact ⟨⟨_, rfl⟩, .inr ⟨ss ++ [k], trivial, hJx3⟩⟩
theorem keys_stops (F : Fence) (n : Nat) (h66 : F.fn 74) (hro : F.round = none) (hn : 1 ≤ n) (Bm bm : Nat) (hb : Nat → Nat) (ks : List Nat) (w : World) (hBm : Bm < w.heap.size) (hm : w.cell? ⟨Bm, 0, none⟩ = some (.map (some bm))) (hmap : w.heap[bm]? = some (mapObj hb ks)) (hnd : ks.Nodup) :
    SeqStopsK F n Try.prog 74 #[.pointer (some ⟨Bm, 0, none⟩)] (fun x : Nat => #[Value.int .u32 (x : Int)]) KeepsWalks (fun ss => ss.Perm ks) (fun _ => True) ks.length w := fun l J Jx W hW hJ _ hY h0 =>
  keys1_in F n h66 hro hn l Bm bm hb ks J Jx hY W hJ ((hW.cell (p := ⟨Bm, 0, none⟩) hBm).trans hm) ((hW.block bm (Array.getElem?_eq_some_iff.1 hmap).1).trans hmap) hnd h0
set_option maxRecDepth 100000 in
set_option maxHeartbeats 2000000 in
theorem appendSeq_in (F : Fence) (n : Nat) (h69 : F.fn 78) (h66 : F.fn 74) (hro : F.round = none) (hn : 3 ≤ n) (Bm bm : Nat) (hb : Nat → Nat) (ks : List Nat) (hlen : ks.length ≤ 64) (w : World) (hBm : Bm < w.heap.size) (hm : w.cell? ⟨Bm, 0, none⟩ = some (.map (some bm))) (hmap : w.heap[bm]? = some (mapObj hb ks)) (hnd : ks.Nodup) :
    CallsIn F n Try.prog 78 #[.slice none 0 0, .func (.func 74) #[] #[.pointer (some ⟨Bm, 0, none⟩)]] w fun e W' => ∃ v ss, e = .returned v ∧ ss.Perm ks ∧ W'.ownsRow w.heap.size 23 1 v ss.length (words ss) ∧ (v = .slice none 0 0 ↔ ss = []) ∧ Below w.heap.size w W' := by
  have h1 : 1 ≤ n := by omega
  obtain ⟨i0, hi, hz0, hz1, hz2⟩ := info_parts info27
  refine callsIn_of_wp_marks Try.func78 rfl h69 ?_ hro
  simp only [Try.ntmps78, List.size_toArray, List.length_cons, List.length_nil, Nat.reduceAdd, Nat.reduceSub, Array.replicate_succ, Array.replicate_zero, List.push_toArray, List.append_toArray, List.nil_append, List.cons_append]
  gi_wp2
  have bO := Boxed.new w 43 (.slice none 0 0)
  have hB0 : Below w.heap.size w (w.alloc (.cells #[.slice none 0 0] 43)) := (Below.refl _ w).alloc (Nat.le_refl _) _
  refine wpIn_rangeFunc_ownG hro h1 (gf := 74) (lb := #[.pointer (some ⟨Bm, 0, none⟩)]) rfl h66 (enters_of Try.func74 (by kernel_rfl) rfl)
    (keys_stops F (n - 1) h66 hro (by omega) Bm bm hb ks _ (by simp; omega) ((hB0.cell (p := ⟨Bm, 0, none⟩) hBm).trans hm) ((hB0.block bm (Array.getElem?_eq_some_iff.1 hmap).1).trans hmap) hnd) walksK_t walksK_b (Below.refl _ _) (fun _ => rfl)
    (fun pre W => (∃ v, Boxed W w.heap.size 43 v ∧ W.ownsRow w.heap.size 23 1 v pre.length (words pre) ∧ (v = .slice none 0 0 ↔ pre = [])) ∧ Below w.heap.size w W)
    (fun _ _ _ => False)
    (OwnFrom.and (Own.from (holdsRow_own w.heap.size w.heap.size 43 23 1 (fun pre => pre.length) (fun pre => words pre) (fun pre v => v = .slice none 0 0 ↔ pre = [])) _) (ownFrom_below (Nat.le_refl _) (by simp)))
    (fun _ _ _ _ _ hs _ _ => hs)
    ⟨⟨_, bO, World.ownsRow_nil _ _ _ _, by simp⟩, hB0⟩
    (fun x => { tmps := #[.slice none 0 0, .func (.func 74) #[] #[.pointer (some ⟨Bm, 0, none⟩)], .pointer (some ⟨w.heap.size, 0, none⟩), undef, .slice none 0 0, .int .u32 (x : Int), .func (.func 74) #[] #[.pointer (some ⟨Bm, 0, none⟩)], .int .u32 (x : Int), undef, undef, undef, undef, undef], defers := [] }) ?assign ?body ?done ?stop
  case assign =>
    intro l x W K hK
    gi_wp2
    exact hK
  case body =>
    rintro l pre x W ⟨⟨v, hv, hrow, hnil⟩, hB⟩ hlt
    have hc := hv.cell
    gi_wp2_with (gi_at_builtin; refine wpListIn_append_own _ rfl _ _ 43 rfl w.heap.size 23 i0 (.int .u32 0) 1 4 Try.underlying43 hi hz0 hz1 hz2 rfl (by decide) _ _ _ rfl (hrow.alloc _) ⟨W.heap.size, 0, none⟩ 1 1 [.int .u32 (x : Int)] rfl rfl (cell_one_new _ _ _) (by simp [Value.oneCell']) (by unfold maxLen; omega) (by omega) (by have := hB.size; simp; omega) ?_; intro v' w1 hown' hgrow _; obtain ⟨g', cap', rfl⟩ := ownsRow_succ hown'; obtain ⟨hv1, hv2, hr2, hk2, hb2⟩ := hv.appended (by decide) hrow hB.size (Nat.le_refl _) hown' hgrow; have hc1 := hv1.cell; have hf1 := hv1.frozen)
    exact ⟨hk2.from _, hk2.walks, ⟨_, hv2, by rw [words_append, List.length_append]; exact hr2, by simp⟩, hB.trans hb2⟩
  case done =>
    rintro D ys W hD hperm ⟨⟨v, hv, hrow, hnil⟩, hB⟩ hK
    have hc := hv.cell
    gi_wp2
    refine ⟨by simp, .inl ⟨_, _, rfl, run_takeDeferred hK, ?_⟩⟩
    exact ⟨_, results_tmp rfl _ _ _, v, ys, rfl, hperm, ownsRow_putObj hrow _ hK rfl, hnil, hB.trans (belowK_b (w := w) (Nat.le_refl _) W D _ _ (by simp at hD; omega) hK rfl rfl)⟩
  case stop =>
    rintro D c pre W _ _ h _
    exact h.elim
theorem collect_any (Bm bm : Nat) (hb : Nat → Nat) (ks : List Nat) (hlen : ks.length ≤ 64) (w : World) (hBm : Bm < w.heap.size) (hm : w.cell? ⟨Bm, 0, none⟩ = some (.map (some bm))) (hmap : w.heap[bm]? = some (mapObj hb ks)) (hnd : ks.Nodup) :
    Calls Try.prog 72 #[.func (.func 74) #[] #[.pointer (some ⟨Bm, 0, none⟩)]] w fun e W' => ∃ v ss, e = .returned v ∧ ss.Perm ks ∧ W'.ownsRow w.heap.size 23 1 v ss.length (words ss) ∧ (v = .slice none 0 0 ↔ ss = []) ∧ Below w.heap.size w W' := by
  have H := hidden (callsIn_wide.1 (appendSeq_in Fence.wide 3 trivial trivial rfl (Nat.le_refl _) Bm bm hb ks hlen w hBm hm hmap hnd))
  clear hm hmap hnd hBm hlen
  go_enter Try.func72, Try.ntmps72
  go_wp2_with (go_at_call 78; refine (Hid.out H).mono ?_; rintro e w1 ⟨v, ss, rfl, h1, h2, h3, h4⟩; obtain ⟨va, vn, vc, rfl⟩ := row_slice h2; have H1 := hidden h1; have H2 := hidden h2; have H3 := hidden h3; have H4 := hidden h4; clear h1 h2 h3 h4)
  go_ret
  exact ⟨_, ss, rfl, Hid.out H1, Hid.out H2, Hid.out H3, Hid.out H4⟩
theorem keysOf_any (bm : Nat) (w : World) : Calls Try.prog 64 #[.map (some bm)] w fun e w' => e = .returned (.func (.func 74) #[] #[.pointer (some ⟨w.heap.size, 0, none⟩)]) ∧ w' = w.alloc (.cells #[.map (some bm)] 78) := by
  go_enter Try.func64, Try.ntmps64
  go_wp2
  go_ret
  exact ⟨rfl, rfl⟩
end Go.Proofs.Ytkpcajmphhdmiaa
