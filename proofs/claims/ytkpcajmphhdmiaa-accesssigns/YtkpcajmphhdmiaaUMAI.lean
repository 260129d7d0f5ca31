/- Memory: of parts, walked. -/
import Derived.Test.YtkpcajmphhdmiaaUMAH
import Derived.Deep.Slices
import Derived.Laws.BitsAllLaws
import Derived.Laws.ShiftsVarLaws
import Derived.Laws.MathBits
import Derived.RowKit
namespace Go.Proofs.Ytkpcajmphhdmiaa
open Go.ChangeShapes Go.WideShapes Go.ChangeAt Go.RowKit
set_option linter.unusedVariables false
theorem getD_in_row {w : World} {ao : Option Addr} {l : List UInt8} {cap k : Nat} (h : Row w ao l cap) (hk : k < l.length) : ∃ b off, ao = some ⟨b, off, none⟩ ∧ w.cell? ⟨b, off + k, none⟩ = some (.int .u8 ((l.getD k 0).toNat : Int)) := by
  rcases h.lies with h | ⟨b, off, e, h⟩
  · rw [h] at hk; simp at hk
  · exact ⟨b, off, e, h k hk⟩
theorem MI.mapCall {w wr : World} {s : MS} {mb C a k L : Nat} {f : AM} {z : Int} (h : MI w wr s mb f C) (hB : MapB s a k L) (hk : k < 600) (hL : L ≤ 28) (m : Nat) : Calls Try.prog 28 #[.pointer (some ⟨mb, 0, none⟩), .int .u32 (((a : Int) + (k : Int)) % 4294967296), .int .i64 z] (wr.drewN m) fun e w' =>
    ∃ n, e = .returned (.int .i64 n) ∧ ∃ s', MI w w' s' mb (amap f (wrapAt a k) z) C ∧ MapB s' a (k + 1) L := by
  have h12 := map_any (wr.drewN m) s (wrapAt a k) z (h.own.mem.drewN m) (wrapAt_lt _ _)
  rw [h.mb, show ((wrapAt a k : Nat) : Int) = ((a : Int) + (k : Int)) % 4294967296 by unfold wrapAt; omega] at h12
  refine h12.mono ?_
  rintro e w' ⟨he, st⟩
  exact ⟨_, he, _, h.map hB hk hL ((Step.drew h.own.mem ⟨m, rfl⟩).trans st)⟩
theorem MI.pokeCall {w wr : World} {s : MS} {mb C a k : Nat} {f : AM} {v : UInt8} (h : MI w wr s mb f C) (hC : C < 1099511627776) (m : Nat) : Calls Try.prog 29 #[.pointer (some ⟨mb, 0, none⟩), .int .u32 (((a : Int) + (k : Int)) % 4294967296), .int .u8 (v.toNat : Int)] (wr.drewN m) fun e w' =>
    ∃ b, e = .returned (.bool b) ∧ ∃ s', MI w w' s' mb (apoke f (wrapAt a k) v) (C + 1) ∧ s'.ks = s.ks := by
  have hc := h.c
  have h21 := poke_any (wr.drewN m) s (wrapAt a k) v (h.own.mem.drewN m) (wrapAt_lt _ _) (by omega)
  rw [h.mb, show ((wrapAt a k : Nat) : Int) = ((a : Int) + (k : Int)) % 4294967296 by unfold wrapAt; omega] at h21
  refine h21.mono ?_
  rintro e w' ⟨he, tv, st⟩
  exact ⟨_, he, _, h.poke ((Step.drew h.own.mem ⟨m, rfl⟩).trans st)⟩
/-- A memory that is made, and then watched. -/
structure MW (w wr : World) (s : MS) (mb : Nat) (f : AM) : Prop where
  own : Own w wr s
  mb : s.mb = mb
  abs : s.abs = f
  most : s.most = 64
  few : s.ks.length ≤ 32
  ts : s.ts = []
  c : s.c ≤ 4800
theorem MW.watchCall {w wr : World} {s : MS} {mb a : Nat} {f : AM} {b : Bool} (h : MW w wr s mb f) (ha : a < 4294967296) (m : Nat) : Calls Try.prog 30 #[.pointer (some ⟨mb, 0, none⟩), .int .u32 (a : Int), .bool b] (wr.drewN m) fun e w' =>
    e = .returned (.tuple #[]) ∧ ∃ s', MW w w' s' mb (awatch f a b) := by
  have h14 := watch_any (wr.drewN m) s a b (h.own.mem.drewN m) ha
  rw [h.mb] at h14
  refine h14.mono ?_
  rintro e w' ⟨he, st⟩
  refine ⟨he, s.watchAt a b, h.own.step ((Step.drew h.own.mem ⟨m, rfl⟩).trans st), by rw [watchAt_mb]; exact h.mb, by rw [abs_watchAt, h.abs], ?_, ?_, ?_, ?_⟩
  all_goals
    unfold MS.watchAt
    split
  · exact h.most
  · exact h.most
  · exact h.few
  · exact h.few
  · exact h.ts
  · exact h.ts
  · exact h.c
  · exact h.c
set_option maxRecDepth 20000 in
set_option maxHeartbeats 4000000 in
theorem memory_any (w : World) (ao : Option Addr) (cap : Nat) (ps : List Part4) (h : Pieces w ao ps) (hlen : ps.length ≤ 8) (hdat : ∀ p ∈ ps, p.data.length ≤ 600) :
    Calls Try.prog 9 #[.slice ao ps.length cap] w fun e w' => ∃ s, e = .returned (.pointer (some ⟨s.mb, 0, none⟩)) ∧ Own w w' s ∧ s.abs = memOf ps ∧ s.most = 64 ∧ s.ks.length ≤ 32 ∧ s.ts = [] ∧ s.c ≤ 4800 := by
  have H := hidden h
  have HD := hidden hdat
  have H9 := hidden (newMem_step 64 w)
  have ec : cutMost 64 = 64 := by decide
  rw [ec] at H9
  clear ec h hdat
  go_enter Try.func9, Try.ntmps9
  go_wp2_with (go_at_call 27; refine (Hid.out H9).mono ?_; rintro e w1 ⟨mb, bm, rfl, hm, hb, hf⟩; have HO := hidden (Own.mk hm hb hf); clear hm hb hf H9)
  go_loopw [4, 5, 6] (fun i x5 x6 wr => ∃ (q : Nat) (s : MS), q ≤ ps.length ∧ i = .int .i64 (q : Int) ∧ MI w wr s mb (partsDone (ps.take q) fun _ => none) (600 * q) ∧ s.ks.length ≤ 4 * q) (fun i _ _ _ => ps.length - (intOf i).toNat)
  case atStart =>
    have ho := Hid.out HO
    exact ⟨0, fresh mb bm 64, by omega, rfl, ⟨ho, rfl, rfl, by funext j; simp [MS.abs, fresh, partsDone], by simp [fresh], rfl, by simp [fresh]⟩, by simp [fresh]⟩
  case round =>
    obtain ⟨q, s, hq, rfl, hI, hK⟩ := hrel
    have HI := hidden hI
    clear hI
    by_cases hql : q < ps.length
    · obtain ⟨b, off, hao, hlt, hp⟩ := (Hid.out H).at hql
      have hd6 : ps[q].data.length ≤ 600 := Hid.out HD _ (List.getElem_mem _)
      obtain ⟨f, hf⟩ : ∃ f, f = partsDone (ps.take q) fun _ => none := ⟨_, rfl⟩
      have HNX : Hid (partsDone (ps.take (q + 1)) (fun _ => none) = partDone f ps[q]) := by
        show _ = _
        rw [take_snoc ps q hql, partsDone_snoc, hf]
      rw [← hf] at HI
      clear hf
      subst hao
      have HP := hidden hp
      clear hp
      generalize ps[q] = p at HP HNX hd6
      have hpl := (Hid.out HP).lt
      obtain ⟨N, hN⟩ : ∃ N, N = max p.data.length 1 := ⟨_, rfl⟩
      have hrm := (Hid.out HP).row.max
      simp only [maxLen] at hrm
      have hrl := (Hid.out HP).row.len
      go_wp2
      go_loopw [5] (fun x5 wr2 => ∃ (k : Nat) (s2 : MS), k ≤ N ∧ x5 = .int .i64 (k : Int) ∧ MI w wr2 s2 mb (partMaps f p k) (600 * q) ∧ MapB s2 p.at_ k (4 * q)) (fun x5 _ => N - (intOf x5).toNat)
      case atStart => exact ⟨0, s, by omega, rfl, Hid.out HI, fun _ => hK, fun h => by omega⟩
      case round =>
        obtain ⟨k, s2, hk, rfl, hI2, hB2⟩ := hrel
        have hp2 := (Hid.out HP).later hlt hI2.own.below
        have hc0 := hp2.c0
        have hc1 := hp2.c1
        have hc2 := hp2.c2
        have HI2 := hidden hI2
        have HB2 := hidden hB2
        clear hI2 hB2 hp2
        by_cases hkN : k < N
        · have H12 := fun m => hidden (MI.mapCall (z := p.perm) (Hid.out HI2) (Hid.out HB2) (by omega) (by omega) m)
          rw [show amap (partMaps f p k) (wrapAt p.at_ k) p.perm = partMaps f p (k + 1) from rfl] at H12
          by_cases hkd : k < p.data.length
          · have hkd2 : (k : Int) < (p.data.length : Int) := by omega
            go_wp2
            refine wp_region_tail 14 (by kernel_rfl) (by kernel_rfl) ?_
            simp only [List.take_succ_cons, List.take_zero, List.drop_succ_cons, List.drop_zero]
            repeat (go_big_quiet_step (fail))
            refine wpQuiet_nil ?_
            rintro _ ⟨nq, rfl⟩
            go_wp2_with (go_at_call 28; with_reducible refine (Hid.out (H12 nq)).mono ?_; rintro e w3 ⟨rn, rfl, s3, hi3, hb3⟩; have HI3 := hidden hi3; have HB3 := hidden hb3; clear hi3 hb3)
            go_roundw
            case rel => exact ⟨k + 1, s3, by omega, by simp, Hid.out HI3, Hid.out HB3⟩
            case measure => simp [intOf]; omega
          · have hkd2 : decide ((k : Int) < (p.data.length : Int)) = false := by simp; omega
            obtain rfl : k = 0 := by omega
            have hp0 : ((p.at_ : Int) + ((0 : Nat) : Int)) % 4294967296 = (p.at_ : Int) := by omega
            rw [hp0] at H12
            clear hp0
            go_wp2
            refine wp_region_tail 14 (by kernel_rfl) (by kernel_rfl) ?_
            simp only [List.take_succ_cons, List.take_zero, List.drop_succ_cons, List.drop_zero]
            repeat (go_big_quiet_step (fail))
            refine wpQuiet_nil ?_
            rintro _ ⟨nq, rfl⟩
            go_wp2_with (go_at_call 28; with_reducible refine (Hid.out (H12 nq)).mono ?_; rintro e w3 ⟨rn, rfl, s3, hi3, hb3⟩; have HI3 := hidden hi3; have HB3 := hidden hb3; clear hi3 hb3)
            go_roundw
            case rel => exact ⟨1, s3, by omega, by simp, Hid.out HI3, Hid.out HB3⟩
            case measure => simp [intOf]; omega
        · have hkd2 : decide ((k : Int) < (p.data.length : Int)) = false := by simp; omega
          have hk1 : ¬ (k : Int) < 1 := by omega
          obtain rfl : k = N := by omega
          have HK4 : Hid (s2.ks.length ≤ 4 * (q + 1)) := by
            have := (Hid.out HB2).2 (by omega)
            have h2 := this.2
            have : (p.at_ % 256 + (k - 1)) / 256 ≤ 3 := by omega
            show _ ≤ _
            omega
          clear hc0 hc1 hc2 HB2
          obtain ⟨wq, hwq⟩ : ∃ u, u = wr := ⟨_, rfl⟩
          have hc1 := ((Hid.out HP).later hlt (MI.own (Hid.out HI2)).below).c1
          go_wp2
          go_loopw [6] (fun x6 wr3 => ∃ (j : Nat) (s3 : MS), j ≤ p.data.length ∧ x6 = .int .i64 (j : Int) ∧ MI w wr3 s3 mb (partPokes (partMaps f p k) p j) (600 * q + j) ∧ s3.ks.length ≤ 4 * (q + 1)) (fun x6 _ => p.data.length - (intOf x6).toNat)
          case atStart => exact ⟨0, s2, by omega, rfl, Hid.out HI2, Hid.out HK4⟩
          case round =>
            obtain ⟨j, s3, hj, rfl, hI3, hK3⟩ := hrel
            have hp3 := (Hid.out HP).later hlt hI3.own.below
            have hd0 := hp3.c0
            have hd1 := hp3.c1
            have HI3 := hidden hI3
            have HRW := hidden hp3.row
            clear hI3 hp3
            by_cases hjn : j < p.data.length
            · have hjn2 : (j : Int) < (p.data.length : Int) := by omega
              obtain ⟨db, doff, hda, hdc⟩ := getD_in_row (Hid.out HRW) hjn
              rw [hda] at hd1
              clear hda
              have H21 := fun m => hidden (MI.pokeCall (a := p.at_) (k := j) (v := p.data.getD j 0) (Hid.out HI3) (by omega) m)
              rw [show apoke (partPokes (partMaps f p k) p j) (wrapAt p.at_ j) (p.data.getD j 0) = partPokes (partMaps f p k) p (j + 1) from rfl] at H21
              generalize p.data.getD j 0 = v at hdc H21
              go_wp2
              refine wp_region_tail 17 (by kernel_rfl) (by kernel_rfl) ?_
              simp only [List.take_succ_cons, List.take_zero, List.drop_succ_cons, List.drop_zero]
              repeat (go_big_quiet_step (fail))
              refine wpQuiet_nil ?_
              rintro _ ⟨nq, rfl⟩
              go_wp2_with (go_at_call 29; with_reducible refine (Hid.out (H21 nq)).mono ?_; rintro e w4 ⟨rb, rfl, s4, hi4, hk4⟩; have HI4 := hidden hi4; have HK4b := hidden hk4; clear hi4 hk4)
              go_roundw
              case rel =>
                have h5 := Hid.out HI4
                rw [show 600 * q + j + 1 = 600 * q + (j + 1) by omega] at h5
                have h6 : s4.ks.length ≤ 4 * (q + 1) := by rw [Hid.out HK4b]; exact hK3
                first | exact ⟨j + 1, s4, by omega, by simp, h5, h6⟩ | ((repeat apply Exists.intro); exact ⟨⟨j + 1, s4, by omega, rfl, h5, h6⟩, rfl⟩)
              case measure => simp [intOf]; omega
            · have hjn2 : ¬ (j : Int) < (p.data.length : Int) := by omega
              obtain rfl : j = p.data.length := by omega
              go_wp2
              go_roundw
              case rel =>
                refine ⟨q + 1, s3, by omega, by simp, ?_, hK3⟩
                rw [Hid.out HNX]
                have h3 := Hid.out HI3
                have e : partDone f p = partPokes (partMaps f p k) p p.data.length := by unfold partDone; rw [← hN]
                rw [e]
                exact ⟨h3.own, h3.mb, h3.most, h3.abs, h3.off, h3.ts, by have := h3.c; omega⟩
              case measure => simp [intOf]; omega
    · have hql2 : ¬ (q : Int) < (ps.length : Int) := by omega
      obtain rfl : q = ps.length := by omega
      rw [List.take_of_length_le (Nat.le_refl _)] at HI
      have HMW : Hid (MW w wr s mb (partsDone ps fun _ => none)) := by
        have h3 := Hid.out HI
        exact ⟨h3.own, h3.mb, h3.abs, h3.most, by omega, h3.ts, by have := h3.c; omega⟩
      clear HI
      go_wp2
      go_loopw [7] (fun x7 wr4 => ∃ (j : Nat) (s4 : MS), j ≤ ps.length ∧ x7 = .int .i64 (j : Int) ∧ MW w wr4 s4 mb (watches (ps.take j) (partsDone ps fun _ => none))) (fun x7 _ => ps.length - (intOf x7).toNat)
      case atStart => exact ⟨0, s, by omega, rfl, Hid.out HMW⟩
      case round =>
        obtain ⟨j, s4, hj, rfl, hI4⟩ := hrel
        have HI4 := hidden hI4
        clear hI4
        by_cases hjn : j < ps.length
        · have hjn2 : (j : Int) < (ps.length : Int) := by omega
          obtain ⟨b, off, hao, hlt, hp⟩ := (Hid.out H).at hjn
          have hp4 := hp.later hlt (MW.own (Hid.out HI4)).below
          have hc0 := hp4.c0
          have hc3 := hp4.c3
          have H14 := fun m => hidden (MW.watchCall (b := ps[j].on) (Hid.out HI4) hp.lt m)
          have HNX : Hid (awatch (watches (ps.take j) (partsDone ps fun _ => none)) ps[j].at_ ps[j].on = watches (ps.take (j + 1)) (partsDone ps fun _ => none)) := by
            show _ = _
            rw [take_snoc ps j hjn, watches_snoc]
          rw [Hid.out HNX] at H14
          clear hp hp4 HNX
          subst hao
          generalize ps[j].at_ = pa at hc0 H14
          generalize ps[j].on = po at hc3 H14
          go_wp2
          refine wp_region_tail 11 (by kernel_rfl) (by kernel_rfl) ?_
          simp only [List.take_succ_cons, List.take_zero, List.drop_succ_cons, List.drop_zero]
          repeat (go_big_quiet_step (fail))
          refine wpQuiet_nil ?_
          rintro _ ⟨nq, rfl⟩
          go_wp2_with (go_at_call 30; with_reducible refine (Hid.out (H14 nq)).mono ?_; rintro e w5 ⟨rfl, s5, hi5⟩; have HI5 := hidden hi5; clear hi5)
          go_roundw
          case rel => exact ⟨j + 1, s5, by omega, by simp, Hid.out HI5⟩
          case measure => simp [intOf]; omega
        · have hjn2 : ¬ (j : Int) < (ps.length : Int) := by omega
          obtain rfl : j = ps.length := by omega
          go_wp2
          go_ret
          have h4 := Hid.out HI4
          rw [List.take_of_length_le (Nat.le_refl _)] at h4
          exact ⟨s4, by rw [h4.mb]; rfl, h4.own, h4.abs, h4.most, h4.few, h4.ts, h4.c⟩
end Go.Proofs.Ytkpcajmphhdmiaa
namespace Go.Proofs.Ytkpcajmphhdmiaa
open Go.ChangeShapes Go.WideShapes Go.ChangeAt Go.RowKit Go.Deep
set_option linter.unusedVariables false
theorem wf_u32 {a : Int} (h : (Lit.int .u32 a).wf = true) : ∃ n : Nat, a = (n : Int) ∧ n < 4294967296 := by
  have : 0 ≤ a ∧ a ≤ 4294967295 := by simpa [Lit.wf, IntKind.min, IntKind.max, IntKind.signed, IntKind.bits] using h
  exact ⟨a.toNat, by omega, by omega⟩
theorem wf_u8 {a : Int} (h : (Lit.int .u8 a).wf = true) : ∃ v : UInt8, a = (v.toNat : Int) := by
  have h1 : 0 ≤ a ∧ a ≤ 255 := by simpa [Lit.wf, IntKind.min, IntKind.max, IntKind.signed, IntKind.bits] using h
  exact ⟨UInt8.ofNat a.toNat, by rw [UInt8.toNat_ofNat']; omega⟩
theorem cells57 : Try.prog.cellsOf 48 = 4 := by kernel_rfl
theorem cells27 : Try.prog.cellsOf 23 = 1 := by kernel_rfl
theorem cells45 : Try.prog.cellsOf 46 = 1 := by kernel_rfl
theorem cells3 : Try.prog.cellsOf 3 = 1 := by kernel_rfl
theorem cells4 : Try.prog.cellsOf 4 = 1 := by kernel_rfl
/-- A slice of bytes that came in. -/
theorem open_row {H : Type} {enc : TypeId × Value → H} {w : World} {base n : Nat} {spare : Nat → Bool} {held : Bool} {cs : List Value} {x : DataW H × List MemPlace} (h : DataW.trod enc Try.prog w base spare held n 46 cs = some x) :
    ∃ (ao : Option Addr) (l : List UInt8) (cap : Nat), cs = [.slice ao l.length cap] ∧ Row w ao l cap := by
  rcases open_ints Try.underlying46 Try.underlying5 (by kernel_rfl) h with ⟨hcs, _⟩ | ⟨a, len, cap, zs, hcs, _, hl, hm, hz, _, hcell, hwz⟩
  · exact ⟨none, [], 0, hcs, Row.none w⟩
  · have hzl : len ≤ zs.length := by rw [hz]; split <;> omega
    obtain ⟨f, hf⟩ : ∃ f : Nat → UInt8, ∀ i, i < len → zs.getD i 0 = ((f i).toNat : Int) := by
      refine choose_lt (p := fun i (v : UInt8) => zs.getD i 0 = (v.toNat : Int)) fun i hi => ?_
      refine wf_u8 (hwz _ ?_)
      rw [List.getD_eq_getElem?_getD, List.getElem?_eq_getElem (by omega), Option.getD_some]
      exact List.getElem_mem _
    have hlen : ((List.range len).map f).length = len := by simp
    refine ⟨some a, (List.range len).map f, cap, by rw [hlen]; exact hcs, by rw [hlen]; exact hl, hm, by simp, ?_⟩
    by_cases h0 : len = 0
    · left
      subst h0
      rfl
    · right
      obtain ⟨b, off, spot⟩ := a
      have hc0 := hcell 0 (by omega)
      have hspot : spot = none := by simpa [Addr.add] using World.cell?_spot hc0
      subst hspot
      refine ⟨b, off, rfl, fun j hj => ?_⟩
      rw [hlen] at hj
      have h1 := hcell j (by omega)
      rw [Addr.add_lit] at h1
      rw [h1, hf j hj]
      simp [List.getD_eq_getElem?_getD, hj]
set_option maxRecDepth 20000 in
theorem open_part {H : Type} {enc : TypeId × Value → H} {w : World} {base n : Nat} {spare : Nat → Bool} {held : Bool} {a : Addr} {cs : List Value} {x : DataW H × List MemPlace}
    (h1 : w.cells? base a 4 = some cs) (h2 : DataW.trod enc Try.prog w base spare held n 48 cs = some x) :
    ∃ p : Part4, w.cell? (a.add 0) = some (.int .u32 (p.at_ : Int)) ∧ w.cell? (a.add 1) = some (.slice p.da p.data.length p.dcap) ∧ w.cell? (a.add 2) = some (.int .i64 p.perm) ∧ w.cell? (a.add 3) = some (.bool p.on) ∧ Row w p.da p.data p.dcap ∧ p.at_ < 4294967296 := by
  obtain ⟨_, hlen, hcell⟩ := World.cells?_some h1
  obtain ⟨xs, k, hk, hxy, _, hxl, hf⟩ := DataW.trod_struct Try.underlying48 h2
  match xs, hxl, cs, hlen with
  | [y0, y1, y2, y3], _, [v0, v1, v2, v3], _ =>
    have g0 := hf 0 _ rfl
    have g1 := hf 1 _ rfl
    have g2 := hf 2 _ rfl
    have g3 := hf 3 _ rfl
    simp [cells3, cells4, cells27, cells45] at g0 g1 g2 g3
    obtain ⟨n0, e0, _, w0⟩ := DataW.trod_int Try.underlying23 g0
    obtain ⟨ao, l, cap, e1, hr⟩ := open_row g1
    obtain ⟨n2, e2, _, _⟩ := DataW.trod_int Try.underlying3 g2
    obtain ⟨b3, e3, _⟩ := DataW.trod_bool Try.underlying4 g3
    obtain ⟨m0, rfl, hm0⟩ := wf_u32 w0
    simp only [List.cons.injEq, and_true] at e0 e1 e2 e3
    subst e0 e1 e2 e3
    have c0 := hcell 0 (by omega)
    have c1 := hcell 1 (by omega)
    have c2 := hcell 2 (by omega)
    have c3 := hcell 3 (by omega)
    exact ⟨⟨m0, l, n2, b3, ao, cap⟩, by simpa using c0, by simpa using c1, by simpa using c2, by simpa using c3, hr, hm0⟩
theorem open_parts {H : Type} {enc : TypeId × Value → H} {w : World} {fuel : Nat} {held : Bool} {ao : Option Addr} {len cap : Nat} {x : DataW H × List MemPlace} {spare : Nat → Bool}
    (h : DataW.trod enc Try.prog w 0 spare held fuel 22 [.slice ao len cap] = some x) : ∃ ps : List Part4, ps.length = len ∧ Pieces w ao ps ∧ ps.length ≤ 9223372036854775807 := by
  rcases open_slice Try.underlying22 h with ⟨hcs, _⟩ | ⟨a, l, c, m, n, D, Pl, hcs, hb, hl, hm, hmm, _, hx⟩
  · simp at hcs
    obtain ⟨rfl, rfl, rfl⟩ := hcs
    exact ⟨[], rfl, .inl rfl, by simp⟩
  · simp at hcs
    obtain ⟨rfl, rfl, rfl⟩ := hcs
    simp only [maxLen] at hm
    have hlm : len ≤ m := by rw [hmm]; split <;> omega
    have each : ∀ i, i < len → ∃ p : Part4, w.cell? (a.add (i * 4)) = some (.int .u32 (p.at_ : Int)) ∧ w.cell? (a.add (i * 4 + 1)) = some (.slice p.da p.data.length p.dcap) ∧ w.cell? (a.add (i * 4 + 2)) = some (.int .i64 p.perm) ∧ w.cell? (a.add (i * 4 + 3)) = some (.bool p.on) ∧ Row w p.da p.data p.dcap ∧ p.at_ < 4294967296 := by
      intro i hi
      obtain ⟨cs', h1, h2⟩ := hx i (by omega)
      rw [cells57] at h1
      obtain ⟨p, c0, c1, c2, c3, hr, hlt⟩ := open_part h1 h2
      rw [add_add] at c0 c1 c2 c3
      exact ⟨p, c0, c1, c2, c3, hr, hlt⟩
    have hinh : Inhabited Part4 := ⟨⟨0, [], 0, false, none, 0⟩⟩
    obtain ⟨f, hf⟩ := choose_lt each
    have hlen : ((List.range len).map f).length = len := by simp
    refine ⟨(List.range len).map f, hlen, ?_, by omega⟩
    by_cases h0 : len = 0
    · left
      subst h0
      rfl
    · right
      obtain ⟨b, off, spot⟩ := a
      have hspot : spot = none := by simpa [Addr.add] using World.cell?_spot (hf 0 (by omega)).1
      subst hspot
      refine ⟨b, off, rfl, ?_, fun j hj => ?_⟩
      · have := World.block_lt_of_cell? _ _ (hf 0 (by omega)).1
        simpa [Addr.add_lit] using this
      · rw [hlen] at hj
        obtain ⟨c0, c1, c2, c3, hr, hlt⟩ := hf j hj
        rw [Addr.add_lit] at c0 c1 c2 c3
        simp only [List.getElem_map, List.getElem_range]
        exact ⟨c0, by rw [Nat.add_assoc]; exact c1, by rw [Nat.add_assoc]; exact c2, by rw [Nat.add_assoc]; exact c3, hr, hlt⟩
end Go.Proofs.Ytkpcajmphhdmiaa
namespace Go.Proofs.Ytkpcajmphhdmiaa
open Go.RowKit

def sg (v : Int) : Int := if v < 2147483648 then v else v - 4294967296
def top (a : Int) : Bool := decide (2147483648 ≤ a)
def add32 (a b : Int) : Int := (a + b) % 4294967296
def sub32 (a b : Int) : Int := (a - b) % 4294967296
def addOv (a b : Int) : Bool := (top a != top (add32 a b)) && (top b != top (add32 a b))
def subOv (a b : Int) : Bool := (top a != top b) && (top a != top (sub32 a b))
def shl32 (v n : Int) : Int := v * 2 ^ (n % 32).toNat % 4294967296
def shr32 (v n : Int) : Int := v / 2 ^ (n % 32).toNat
def sar32 (v n : Int) : Int := sg v / 2 ^ (n % 32).toNat % 4294967296
def clip (v lo hi : Int) : Int := if v < lo then lo else if hi < v then hi else v
def sext32 (v n : Int) : Int := sg (v * 2 ^ (32 - clip n 1 32).toNat % 4294967296) / 2 ^ (32 - clip n 1 32).toNat % 4294967296
def field32 (v a n : Int) : Int := v / 2 ^ (clip a 0 31).toNat % 2 ^ (clip n 0 (32 - clip a 0 31)).toNat

def sgs (s : Bool) (v : Int) : Int := match s with
  | true => sg v
  | false => v
theorem sgsT (v : Int) : sgs true v = sg v := rfl
theorem sgsF (v : Int) : sgs false v = v := rfl
theorem sg_range {v : Int} (h0 : 0 ≤ v) (h1 : v < 4294967296) : -2147483648 ≤ sg v ∧ sg v < 2147483648 := by
  unfold sg; split <;> omega
theorem wrap32_sg {v : Int} (h0 : 0 ≤ v) (h1 : v < 4294967296) : wrap32 v = sg v := by
  unfold wrap32 sg; split <;> omega
theorem add32_range (a b : Int) : 0 ≤ add32 a b ∧ add32 a b < 4294967296 := by unfold add32; omega
theorem sub32_range (a b : Int) : 0 ≤ sub32 a b ∧ sub32 a b < 4294967296 := by unfold sub32; omega
theorem shl32_range (a b : Int) : 0 ≤ shl32 a b ∧ shl32 a b < 4294967296 := by unfold shl32; omega
theorem sar32_range (a b : Int) : 0 ≤ sar32 a b ∧ sar32 a b < 4294967296 := by unfold sar32; omega
theorem sext32_range (a b : Int) : 0 ≤ sext32 a b ∧ sext32 a b < 4294967296 := by unfold sext32; omega
theorem div_pow_range {v : Int} (k : Nat) (h0 : 0 ≤ v) (h1 : v < 4294967296) : 0 ≤ v / 2 ^ k ∧ v / 2 ^ k < 4294967296 := by
  have hp : (0 : Int) < 2 ^ k := Int.pow_pos (by omega)
  exact ⟨Int.ediv_nonneg h0 (Int.le_of_lt hp), Int.lt_of_le_of_lt (Int.ediv_le_self _ h0) h1⟩
theorem shr32_range {a : Int} (b : Int) (h0 : 0 ≤ a) (h1 : a < 4294967296) : 0 ≤ shr32 a b ∧ shr32 a b < 4294967296 := div_pow_range _ h0 h1
theorem and31 (n : Int) (h0 : 0 ≤ n) (h1 : n < 4294967296) : bits .and .u32 n 31 = n % 32 := by
  rw [u32_and n 31 h0 h1 (by omega) (by omega)]
  obtain ⟨m, rfl⟩ := Int.eq_ofNat_of_zero_le h0
  have := Nat.and_two_pow_sub_one_eq_mod m 5
  simp at this
  simp [this]
/-- The highest bit, by the mask. -/
theorem mask31 (n : Nat) (h : n < 4294967296) : (n &&& 2147483648 = 0) ↔ n < 2147483648 := by
  have e := and_two_pow_eq_zero (n : Int) 31 (by omega)
  have e2 : ((2 : Int) ^ 31).toNat = 2147483648 := by decide
  have e3 : ((2 : Int) ^ 31) = 2147483648 := by decide
  rw [e2, e3, Int.toNat_natCast] at e
  rw [e]
  omega
theorem top_xor (a b : Nat) (ha : a < 4294967296) (hb : b < 4294967296) : decide (2147483648 ≤ a ^^^ b) = (decide (2147483648 ≤ a) != decide (2147483648 ≤ b)) := by
  have tb : ∀ n : Nat, n < 4294967296 → n.testBit 31 = decide (2147483648 ≤ n) := by
    intro n hn
    rw [Nat.testBit_eq_decide_div_mod_eq]
    congr 1
    apply propext
    constructor <;> intro h <;> omega
  have hx : a ^^^ b < 2 ^ 32 := Nat.xor_lt_two_pow (by omega) (by omega)
  rw [← tb _ (by omega), ← tb a ha, ← tb b hb, Nat.testBit_xor]
theorem top_and (a b : Nat) (ha : a < 4294967296) (hb : b < 4294967296) : decide (2147483648 ≤ a &&& b) = (decide (2147483648 ≤ a) && decide (2147483648 ≤ b)) := by
  have tb : ∀ n : Nat, n < 4294967296 → n.testBit 31 = decide (2147483648 ≤ n) := by
    intro n hn
    rw [Nat.testBit_eq_decide_div_mod_eq]
    congr 1
    apply propext
    constructor <;> intro h <;> omega
  have hx : a &&& b < 2 ^ 32 := Nat.and_lt_two_pow _ (by omega)
  rw [← tb _ (by omega), ← tb a ha, ← tb b hb, Nat.testBit_and]
theorem top_nat (n : Nat) : top (n : Int) = decide (2147483648 ≤ n) := by unfold top; congr 1; apply propext; constructor <;> intro h <;> omega
theorem u32_xor_range (a b : Int) (h1 : 0 ≤ a) (h2 : a < 4294967296) (h3 : 0 ≤ b) (h4 : b < 4294967296) : 0 ≤ bits .xor .u32 a b ∧ bits .xor .u32 a b < 4294967296 := by
  rw [u32_xor a b h1 h2 h3 h4]
  have hx : a.toNat ^^^ b.toNat < 2 ^ 32 := Nat.xor_lt_two_pow (by omega) (by omega)
  omega
theorem u32_and_range (a b : Int) (h1 : 0 ≤ a) (h2 : a < 4294967296) (h3 : 0 ≤ b) (h4 : b < 4294967296) : 0 ≤ bits .and .u32 a b ∧ bits .and .u32 a b < 4294967296 := by
  rw [u32_and a b h1 h2 h3 h4]
  have hx : a.toNat &&& b.toNat < 2 ^ 32 := Nat.and_lt_two_pow _ (by omega)
  omega
theorem top_toNat (a : Int) (h1 : 0 ≤ a) : decide (2147483648 ≤ a.toNat) = top a := by
  obtain ⟨m, rfl⟩ := Int.eq_ofNat_of_zero_le h1
  rw [top_nat]; simp
theorem top_bxor (a b : Int) (h1 : 0 ≤ a) (h2 : a < 4294967296) (h3 : 0 ≤ b) (h4 : b < 4294967296) : top (bits .xor .u32 a b) = (top a != top b) := by
  rw [u32_xor a b h1 h2 h3 h4, top_nat, top_xor _ _ (by omega) (by omega), top_toNat a h1, top_toNat b h3]
theorem top_band (a b : Int) (h1 : 0 ≤ a) (h2 : a < 4294967296) (h3 : 0 ≤ b) (h4 : b < 4294967296) : top (bits .and .u32 a b) = (top a && top b) := by
  rw [u32_and a b h1 h2 h3 h4, top_nat, top_and _ _ (by omega) (by omega), top_toNat a h1, top_toNat b h3]
theorem mask_top (a : Int) (h1 : 0 ≤ a) (h2 : a < 4294967296) : (bits .and .u32 a 2147483648 != 0) = top a := by
  rw [u32_and a _ h1 h2 (by omega) (by omega)]
  obtain ⟨m, rfl⟩ := Int.eq_ofNat_of_zero_le h1
  have h := mask31 m (by omega)
  rw [top_nat]
  by_cases hm : m < 2147483648
  · have : ¬ 2147483648 ≤ m := by omega
    have e := h.2 hm
    simp [this, e]
  · have : 2147483648 ≤ m := by omega
    have e : ¬ (m &&& 2147483648 = 0) := fun x => hm (h.1 x)
    simp [this, e]
theorem addOver_eq (a b : Int) (h1 : 0 ≤ a) (h2 : a < 4294967296) (h3 : 0 ≤ b) (h4 : b < 4294967296) :
    (bits .and .u32 (bits .and .u32 (bits .xor .u32 a ((a + b) % 4294967296)) (bits .xor .u32 b ((a + b) % 4294967296))) 2147483648 != 0) = addOv a b := by
  have hs := add32_range a b
  have hx := u32_xor_range a (add32 a b) h1 h2 hs.1 hs.2
  have hy := u32_xor_range b (add32 a b) h3 h4 hs.1 hs.2
  have hz := u32_and_range _ _ hx.1 hx.2 hy.1 hy.2
  show (bits .and .u32 (bits .and .u32 (bits .xor .u32 a (add32 a b)) (bits .xor .u32 b (add32 a b))) 2147483648 != 0) = _
  rw [mask_top _ hz.1 hz.2, top_band _ _ hx.1 hx.2 hy.1 hy.2, top_bxor _ _ h1 h2 hs.1 hs.2, top_bxor _ _ h3 h4 hs.1 hs.2]
  rfl
theorem subOver_eq (a b : Int) (h1 : 0 ≤ a) (h2 : a < 4294967296) (h3 : 0 ≤ b) (h4 : b < 4294967296) :
    (bits .and .u32 (bits .and .u32 (bits .xor .u32 a b) (bits .xor .u32 a ((a - b) % 4294967296))) 2147483648 != 0) = subOv a b := by
  have hs := sub32_range a b
  have hx := u32_xor_range a b h1 h2 h3 h4
  have hy := u32_xor_range a (sub32 a b) h1 h2 hs.1 hs.2
  have hz := u32_and_range _ _ hx.1 hx.2 hy.1 hy.2
  show (bits .and .u32 (bits .and .u32 (bits .xor .u32 a b) (bits .xor .u32 a (sub32 a b))) 2147483648 != 0) = _
  rw [mask_top _ hz.1 hz.2, top_band _ _ hx.1 hx.2 hy.1 hy.2, top_bxor _ _ h1 h2 h3 h4, top_bxor _ _ h1 h2 hs.1 hs.2]
  rfl

def mulHi (a b : Int) : Int := IntKind.u64.wrap (a * b) / 4294967296 % 4294967296
def mulLo (a b : Int) : Int := IntKind.u64.wrap (a * b) % 4294967296
theorem wrap64_sg {v : Int} (h0 : 0 ≤ v) (h1 : v < 4294967296) : wrap64 (sg v) = sg v := by
  have := sg_range h0 h1
  unfold wrap64; omega
theorem prod_range (x y : Int) (hx : -2147483648 ≤ x ∧ x < 2147483648) (hy : -2147483648 ≤ y ∧ y < 2147483648) : -4611686018427387904 ≤ x * y ∧ x * y ≤ 4611686018427387904 := by
  have a1 : x.natAbs ≤ 2147483648 := by omega
  have a2 : y.natAbs ≤ 2147483648 := by omega
  have h := Nat.mul_le_mul a1 a2
  rw [← Int.natAbs_mul] at h
  generalize x * y = p at h
  omega
theorem wrap64_sgmul {a b : Int} (h1 : 0 ≤ a) (h2 : a < 4294967296) (h3 : 0 ≤ b) (h4 : b < 4294967296) : wrap64 (sg a * sg b) = sg a * sg b := by
  have h := prod_range _ _ (sg_range h1 h2) (sg_range h3 h4)
  generalize sg a * sg b = p at h
  unfold wrap64; omega

def quoT (a b : Int) : Int := wrap32 ((sg a).tdiv (sg b)) % 4294967296
def remT (a b : Int) : Int := (sg a).tmod (sg b) % 4294967296
theorem tmod_range (v n : Int) (h : 0 < n) : -n < v.tmod n ∧ v.tmod n < n := by
  refine ⟨Int.lt_tmod_of_pos v h, Int.tmod_lt_of_pos v h⟩
theorem place_nonneg (v n : Int) (h : 0 < n) (hm : 0 ≤ v.tmod n) : v.tmod n = v % n := by
  have e := Int.mul_tdiv_add_tmod v n
  have r := tmod_range v n h
  have : v % n = (v.tmod n) % n := by
    conv => lhs; rw [← e]
    rw [Int.mul_add_emod_self_left]
  rw [this, Int.emod_eq_of_lt hm r.2]
theorem place_neg (v n : Int) (h : 0 < n) (hm : v.tmod n < 0) : v.tmod n + n = v % n := by
  have e := Int.mul_tdiv_add_tmod v n
  have r := tmod_range v n h
  have : v % n = (v.tmod n + n) % n := by
    conv => lhs; rw [← e]
    rw [Int.mul_add_emod_self_left, Int.add_emod_right]
  rw [this, Int.emod_eq_of_lt (by omega) (by omega)]
theorem clip_range (v lo hi : Int) (h : lo ≤ hi) : lo ≤ clip v lo hi ∧ clip v lo hi ≤ hi := by unfold clip; split <;> (try split) <;> omega
theorem pow_cast (k : Nat) : ((2 ^ k : Nat) : Int) = 2 ^ k := by simp
theorem pow_le32 {k : Nat} (h : k ≤ 32) : (1 : Int) ≤ 2 ^ k ∧ (2 : Int) ^ k ≤ 4294967296 := by
  have a := Nat.pow_le_pow_right (n := 2) (by omega) h
  have b := Nat.two_pow_pos k
  rw [← pow_cast]
  simp only [Nat.reducePow] at a
  omega
theorem field_eq (a at_ n : Int) (h1 : 0 ≤ a) (h2 : a < 4294967296) :
    bits .and .u32 (a / 2 ^ (clip at_ 0 31).toNat) ((2 ^ (clip n 0 (32 - clip at_ 0 31)).toNat - 1) % 4294967296) = field32 a at_ n := by
  have hc := clip_range at_ 0 31 (by omega)
  have hd := clip_range n 0 (32 - clip at_ 0 31) (by omega)
  unfold field32
  generalize clip n 0 (32 - clip at_ 0 31) = m at *
  have hx := div_pow_range (clip at_ 0 31).toNat h1 h2
  generalize a / 2 ^ (clip at_ 0 31).toNat = x at *
  obtain ⟨k, rfl⟩ := Int.eq_ofNat_of_zero_le hd.1
  obtain ⟨y, rfl⟩ := Int.eq_ofNat_of_zero_le hx.1
  rw [Int.toNat_natCast]
  have hk : k ≤ 32 := by omega
  have hp := pow_le32 hk
  have e : ((2 : Int) ^ k - 1) % 4294967296 = ((2 ^ k - 1 : Nat) : Int) := by
    rw [Int.emod_eq_of_lt (by omega) (by omega), ← pow_cast]
    have := Nat.two_pow_pos k
    omega
  have hp' : 2 ^ k - 1 < 4294967296 := by
    have := pow_cast k
    omega
  rw [e, u32_and_nat y (2 ^ k - 1) (by omega) hp', Nat.and_two_pow_sub_one_eq_mod, ← pow_cast]
  simp

theorem wrap64_small (n : Int) (h : 0 ≤ n ∧ n ≤ 4294967296) : wrap64 n = n := by unfold wrap64; omega
theorem len_shift (a : Int) (k : Nat) (h0 : 0 ≤ a) (h : a / 2 ^ k ≠ 0) : bitLen a.toNat = k + bitLen (a / 2 ^ k).toNat := by
  obtain ⟨n, rfl⟩ := Int.eq_ofNat_of_zero_le h0
  rw [← pow_cast, ← Int.natCast_ediv] at h ⊢
  rw [Int.toNat_natCast, Int.toNat_natCast]
  exact bitLen_shift n k (by omega)
def zeros32 (a : Int) : Int := 32 - bitLen a.toNat
theorem bitLen_le32 (a : Int) (h1 : 0 ≤ a) (h2 : a < 4294967296) : bitLen a.toNat ≤ 32 := by
  unfold bitLen
  split
  · omega
  · rename_i h0
    have := (Nat.log2_lt h0).2 (show a.toNat < 2 ^ 32 by omega)
    omega
theorem zeros32_range (a : Int) (h1 : 0 ≤ a) (h2 : a < 4294967296) : 0 ≤ zeros32 a ∧ zeros32 a ≤ 32 := by
  have := bitLen_le32 a h1 h2
  unfold zeros32; omega

theorem max_u32 : IntKind.u32.max = 4294967295 := by decide
theorem not32 (a : Int) (h1 : 0 ≤ a) (h2 : a < 4294967296) : bits .xor .u32 IntKind.u32.max a = 4294967295 - a := by
  rw [max_u32, u32_xor _ a (by omega) (by omega) h1 h2]
  obtain ⟨n, rfl⟩ := Int.eq_ofNat_of_zero_le h1
  have e : BitVec.allOnes 32 ^^^ BitVec.ofNat 32 n = ~~~ BitVec.ofNat 32 n := BitVec.allOnes_xor
  have e2 := congrArg BitVec.toNat e
  rw [BitVec.toNat_xor, BitVec.toNat_not, BitVec.toNat_allOnes, BitVec.toNat_ofNat, Nat.mod_eq_of_lt (by omega)] at e2
  simp only [Int.toNat_natCast]
  have e3 : (4294967295 : Int).toNat = 2 ^ 32 - 1 := by decide
  rw [e3, e2]
  omega
end Go.Proofs.Ytkpcajmphhdmiaa
