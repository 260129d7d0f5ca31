/- Parts that came in, and the memory that is made of them. -/
import Derived.Test.YtodoenimlhldjaaBMAG
namespace Go.Proofs.Ytodoenimlhldjaa
open Go.ChangeShapes Go.WideShapes Go.ChangeAt Go.RowKit
set_option linter.unusedVariables false
structure PartAt (w : World) (b o : Nat) (p : Part4) : Prop where
  c0 : w.cell? ⟨b, o, none⟩ = some (.int .u32 (p.at_ : Int))
  c1 : w.cell? ⟨b, o + 1, none⟩ = some (.slice p.da p.data.length p.dcap)
  c2 : w.cell? ⟨b, o + 2, none⟩ = some (.int .i64 p.perm)
  c3 : w.cell? ⟨b, o + 3, none⟩ = some (.bool p.on)
  row : Row w p.da p.data p.dcap
  lt : p.at_ < 4294967296
def Pieces (w : World) (ao : Option Addr) (ps : List Part4) : Prop := ps = [] ∨ ∃ b off, ao = some ⟨b, off, none⟩ ∧ b < w.heap.size ∧ ∀ j (h : j < ps.length), PartAt w b (off + j * 4) ps[j]
theorem PartAt.later {w w' : World} {b o : Nat} {p : Part4} (h : PartAt w b o p) (hlt : b < w.heap.size) (hb : Below w.heap.size w w') : PartAt w' b o p :=
  ⟨(hb.cell (p := ⟨b, o, none⟩) hlt).trans h.c0, (hb.cell (p := ⟨b, o + 1, none⟩) hlt).trans h.c1, (hb.cell (p := ⟨b, o + 2, none⟩) hlt).trans h.c2, (hb.cell (p := ⟨b, o + 3, none⟩) hlt).trans h.c3, h.row.later hb, h.lt⟩
theorem Pieces.later {w w' : World} {ao : Option Addr} {ps : List Part4} (h : Pieces w ao ps) (hb : Below w.heap.size w w') : Pieces w' ao ps := by
  rcases h with h | ⟨b, off, e, hlt, h⟩
  · exact .inl h
  · exact .inr ⟨b, off, e, Nat.lt_of_lt_of_le hlt hb.size, fun j hj => (h j hj).later hlt hb⟩
theorem Pieces.at {w : World} {ao : Option Addr} {ps : List Part4} (h : Pieces w ao ps) {k : Nat} (hk : k < ps.length) : ∃ b off, ao = some ⟨b, off, none⟩ ∧ b < w.heap.size ∧ PartAt w b (off + k * 4) ps[k] := by
  rcases h with h | ⟨b, off, e, hlt, h⟩
  · rw [h] at hk; simp at hk
  · exact ⟨b, off, e, hlt, h k hk⟩
def few (ps : List Part4) : Bool := (ps.take 8).all (fun p => decide (p.data.length ≤ 600)) && decide (ps.length ≤ 8)
set_option maxRecDepth 20000 in
theorem few_any (w : World) (ao : Option Addr) (cap : Nat) (ps : List Part4) (h : Pieces w ao ps) (hlen : ps.length ≤ 9223372036854775807) : Calls Try.prog 8 #[.slice ao ps.length cap] w fun e w' => e = .returned (.bool (few ps)) ∧ w' = w := by
  have H := hidden h
  clear h
  go_enter Try.func8, Try.ntmps8
  go_wp2
  go_loopw [3] (fun i wr => ∃ k : Nat, k ≤ ps.length ∧ k ≤ 8 ∧ i = .int .i64 (k : Int) ∧ wr = w ∧ ∀ p ∈ ps.take k, p.data.length ≤ 600) (fun i _ => 8 - (intOf i).toNat)
  case atStart => exact ⟨0, by omega, by omega, rfl, rfl, by simp⟩
  case round =>
    obtain ⟨k, hk1, hk2, rfl, rfl, hall⟩ := hrel
    have HA := hidden hall
    clear hall
    by_cases hkl : k < ps.length
    · by_cases hk8 : k < 8
      · obtain ⟨b, off, rfl, hlt, hp⟩ := (Hid.out H).at hkl
        have hc := hp.c1
        have hrl := hp.row.len
        have hrm := hp.row.max
        simp only [maxLen] at hrm
        have hmem : ps[k] ∈ ps.take 8 := by
          rw [List.mem_iff_getElem?]
          exact ⟨k, by rw [List.getElem?_take_of_lt hk8, List.getElem?_eq_getElem hkl]⟩
        have HN := hidden (take_snoc ps k hkl)
        clear hp
        by_cases h6 : ps[k].data.length ≤ 600
        · have HN2 : Hid (∀ p ∈ ps.take (k + 1), p.data.length ≤ 600) := by
            intro p hp
            rw [Hid.out HN] at hp
            rcases List.mem_append.1 hp with hp | hp
            · exact Hid.out HA p hp
            · simp at hp; subst hp; exact h6
          have h6' : ¬ (600 : Int) < (ps[k].data.length : Int) := by omega
          clear HN hmem
          generalize ps[k].data.length = x at hc h6' hrl
          generalize ps[k].da = da at hc
          generalize ps[k].dcap = dc at hc hrl hrm
          go_wp2
          go_roundw
          case rel => exact ⟨k + 1, by omega, by omega, by simp, by simp, Hid.out HN2⟩
          case measure => simp [intOf]; omega
        · have h6' : (600 : Int) < (ps[k].data.length : Int) := by omega
          have HF : Hid (few ps = false) := by
            show few ps = false
            unfold few
            rw [Bool.and_eq_false_iff]
            left
            rw [← Bool.not_eq_true, List.all_eq_true]
            intro h
            have := h _ hmem
            simp at this
            omega
          clear HN hmem h6
          generalize ps[k].data.length = x at hc h6' hrl
          generalize ps[k].da = da at hc
          generalize ps[k].dcap = dc at hc hrl hrm
          go_wp2
          go_ret
          exact ⟨ret_bool (Hid.out HF).symm, rfl⟩
      · have hk8' : ¬ (k : Int) < 8 := by omega
        obtain rfl : k = 8 := by omega
        have hl8 : ¬ (ps.length : Int) ≤ 8 := by omega
        have HF : Hid (few ps = false) := by
          show few ps = false
          unfold few
          rw [Bool.and_eq_false_iff]
          right
          simp
          omega
        go_wp2
        go_ret
        exact ⟨ret_bool (Hid.out HF).symm, rfl⟩
    · have hkl' : decide ((k : Int) < (ps.length : Int)) = false := by simp; omega
      have hl8 : (ps.length : Int) ≤ 8 := by omega
      have HF : Hid (few ps = true) := by
        show few ps = true
        unfold few
        rw [Bool.and_eq_true]
        refine ⟨List.all_eq_true.2 fun p hp => ?_, by simp; omega⟩
        have := Hid.out HA p (by rw [List.take_of_length_le (by omega)]; exact List.mem_of_mem_take hp)
        simpa using this
      go_wp2
      go_ret
      exact ⟨ret_bool (Hid.out HF).symm, rfl⟩
end Go.Proofs.Ytodoenimlhldjaa
namespace Go.Proofs.Ytodoenimlhldjaa
open Go.ChangeShapes Go.WideShapes Go.ChangeAt Go.RowKit
set_option linter.unusedVariables false
theorem getD_in_row {w : World} {ao : Option Addr} {l : List UInt8} {cap k : Nat} (h : Row w ao l cap) (hk : k < l.length) : ∃ b off, ao = some ⟨b, off, none⟩ ∧ w.cell? ⟨b, off + k, none⟩ = some (.int .u8 ((l.getD k 0).toNat : Int)) := by
  rcases h.lies with h | ⟨b, off, e, h⟩
  · rw [h] at hk; simp at hk
  · exact ⟨b, off, e, h k hk⟩
theorem MI.mapCall {w wr : World} {s : MS} {mb C a k L : Nat} {f : AM} {z : Int} (h : MI w wr s mb f C) (hB : MapB s a k L) (hk : k < 600) (hL : L ≤ 28) (m : Nat) : Calls Try.prog 27 #[.pointer (some ⟨mb, 0, none⟩), .int .u32 (((a : Int) + (k : Int)) % 4294967296), .int .i64 z] (wr.drewN m) fun e w' =>
    ∃ n, e = .returned (.int .i64 n) ∧ ∃ s', MI w w' s' mb (amap f (wrapAt a k) z) C ∧ MapB s' a (k + 1) L := by
  have h12 := map_any (wr.drewN m) s (wrapAt a k) z (h.own.mem.drewN m) (wrapAt_lt _ _)
  rw [h.mb, show ((wrapAt a k : Nat) : Int) = ((a : Int) + (k : Int)) % 4294967296 by unfold wrapAt; omega] at h12
  refine h12.mono ?_
  rintro e w' ⟨he, st⟩
  exact ⟨_, he, _, h.map hB hk hL ((Step.drew h.own.mem ⟨m, rfl⟩).trans st)⟩
theorem MI.pokeCall {w wr : World} {s : MS} {mb C a k : Nat} {f : AM} {v : UInt8} (h : MI w wr s mb f C) (hC : C < 1099511627776) (m : Nat) : Calls Try.prog 28 #[.pointer (some ⟨mb, 0, none⟩), .int .u32 (((a : Int) + (k : Int)) % 4294967296), .int .u8 (v.toNat : Int)] (wr.drewN m) fun e w' =>
    ∃ b, e = .returned (.bool b) ∧ ∃ s', MI w w' s' mb (apoke f (wrapAt a k) v) (C + 1) ∧ s'.ks = s.ks := by
  have hc := h.c
  have h21 := poke_any (wr.drewN m) s (wrapAt a k) v (h.own.mem.drewN m) (wrapAt_lt _ _) (by omega)
  rw [h.mb, show ((wrapAt a k : Nat) : Int) = ((a : Int) + (k : Int)) % 4294967296 by unfold wrapAt; omega] at h21
  refine h21.mono ?_
  rintro e w' ⟨he, tv, st⟩
  exact ⟨_, he, _, h.poke ((Step.drew h.own.mem ⟨m, rfl⟩).trans st)⟩
/-- A memory that is made, and then watched. -/
structure MW (w wr : World) (s : MS) (mb : Nat) (f : AM) : Prop where
  own : Own w wr s
  mb : s.mb = mb
  abs : s.abs = f
  most : s.most = 64
  few : s.ks.length ≤ 32
  ts : s.ts = []
  c : s.c ≤ 4800
theorem MW.watchCall {w wr : World} {s : MS} {mb a : Nat} {f : AM} {b : Bool} (h : MW w wr s mb f) (ha : a < 4294967296) (m : Nat) : Calls Try.prog 29 #[.pointer (some ⟨mb, 0, none⟩), .int .u32 (a : Int), .bool b] (wr.drewN m) fun e w' =>
    e = .returned (.tuple #[]) ∧ ∃ s', MW w w' s' mb (awatch f a b) := by
  have h14 := watch_any (wr.drewN m) s a b (h.own.mem.drewN m) ha
  rw [h.mb] at h14
  refine h14.mono ?_
  rintro e w' ⟨he, st⟩
  refine ⟨he, s.watchAt a b, h.own.step ((Step.drew h.own.mem ⟨m, rfl⟩).trans st), by rw [watchAt_mb]; exact h.mb, by rw [abs_watchAt, h.abs], ?_, ?_, ?_, ?_⟩
  all_goals
    unfold MS.watchAt
    split
  · exact h.most
  · exact h.most
  · exact h.few
  · exact h.few
  · exact h.ts
  · exact h.ts
  · exact h.c
  · exact h.c
set_option maxRecDepth 20000 in
set_option maxHeartbeats 4000000 in
theorem memory_any (w : World) (ao : Option Addr) (cap : Nat) (ps : List Part4) (h : Pieces w ao ps) (hlen : ps.length ≤ 8) (hdat : ∀ p ∈ ps, p.data.length ≤ 600) :
    Calls Try.prog 11 #[.slice ao ps.length cap] w fun e w' => ∃ s, e = .returned (.pointer (some ⟨s.mb, 0, none⟩)) ∧ Own w w' s ∧ s.abs = memOf ps ∧ s.most = 64 ∧ s.ks.length ≤ 32 ∧ s.ts = [] ∧ s.c ≤ 4800 := by
  have H := hidden h
  have HD := hidden hdat
  have H9 := hidden (newMem_step 64 w)
  have ec : cutMost 64 = 64 := by decide
  rw [ec] at H9
  clear ec h hdat
  go_enter Try.func11, Try.ntmps11
  go_wp2_with (go_at_call 26; refine (Hid.out H9).mono ?_; rintro e w1 ⟨mb, bm, rfl, hm, hb, hf⟩; have HO := hidden (Own.mk hm hb hf); clear hm hb hf H9)
  go_loopw [4, 5, 6] (fun i x5 x6 wr => ∃ (q : Nat) (s : MS), q ≤ ps.length ∧ i = .int .i64 (q : Int) ∧ MI w wr s mb (partsDone (ps.take q) fun _ => none) (600 * q) ∧ s.ks.length ≤ 4 * q) (fun i _ _ _ => ps.length - (intOf i).toNat)
  case atStart =>
    have ho := Hid.out HO
    exact ⟨0, fresh mb bm 64, by omega, rfl, ⟨ho, rfl, rfl, by funext j; simp [MS.abs, fresh, partsDone], by simp [fresh], rfl, by simp [fresh]⟩, by simp [fresh]⟩
  case round =>
    obtain ⟨q, s, hq, rfl, hI, hK⟩ := hrel
    have HI := hidden hI
    clear hI
    by_cases hql : q < ps.length
    · obtain ⟨b, off, hao, hlt, hp⟩ := (Hid.out H).at hql
      have hd6 : ps[q].data.length ≤ 600 := Hid.out HD _ (List.getElem_mem _)
      obtain ⟨f, hf⟩ : ∃ f, f = partsDone (ps.take q) fun _ => none := ⟨_, rfl⟩
      have HNX : Hid (partsDone (ps.take (q + 1)) (fun _ => none) = partDone f ps[q]) := by
        show _ = _
        rw [take_snoc ps q hql, partsDone_snoc, hf]
      rw [← hf] at HI
      clear hf
      subst hao
      have HP := hidden hp
      clear hp
      generalize ps[q] = p at HP HNX hd6
      have hpl := (Hid.out HP).lt
      obtain ⟨N, hN⟩ : ∃ N, N = max p.data.length 1 := ⟨_, rfl⟩
      have hrm := (Hid.out HP).row.max
      simp only [maxLen] at hrm
      have hrl := (Hid.out HP).row.len
      go_wp2
      go_loopw [5] (fun x5 wr2 => ∃ (k : Nat) (s2 : MS), k ≤ N ∧ x5 = .int .i64 (k : Int) ∧ MI w wr2 s2 mb (partMaps f p k) (600 * q) ∧ MapB s2 p.at_ k (4 * q)) (fun x5 _ => N - (intOf x5).toNat)
      case atStart => exact ⟨0, s, by omega, rfl, Hid.out HI, fun _ => hK, fun h => by omega⟩
      case round =>
        obtain ⟨k, s2, hk, rfl, hI2, hB2⟩ := hrel
        have hp2 := (Hid.out HP).later hlt hI2.own.below
        have hc0 := hp2.c0
        have hc1 := hp2.c1
        have hc2 := hp2.c2
        have HI2 := hidden hI2
        have HB2 := hidden hB2
        clear hI2 hB2 hp2
        by_cases hkN : k < N
        · have H12 := fun m => hidden (MI.mapCall (z := p.perm) (Hid.out HI2) (Hid.out HB2) (by omega) (by omega) m)
          rw [show amap (partMaps f p k) (wrapAt p.at_ k) p.perm = partMaps f p (k + 1) from rfl] at H12
          by_cases hkd : k < p.data.length
          · have hkd2 : (k : Int) < (p.data.length : Int) := by omega
            go_wp2
            refine wp_region_tail 14 (by kernel_rfl) (by kernel_rfl) ?_
            simp only [List.take_succ_cons, List.take_zero, List.drop_succ_cons, List.drop_zero]
            repeat (go_big_quiet_step (fail))
            refine wpQuiet_nil ?_
            rintro _ ⟨nq, rfl⟩
            go_wp2_with (go_at_call 27; with_reducible refine (Hid.out (H12 nq)).mono ?_; rintro e w3 ⟨rn, rfl, s3, hi3, hb3⟩; have HI3 := hidden hi3; have HB3 := hidden hb3; clear hi3 hb3)
            go_roundw
            case rel => exact ⟨k + 1, s3, by omega, by simp, Hid.out HI3, Hid.out HB3⟩
            case measure => simp [intOf]; omega
          · have hkd2 : decide ((k : Int) < (p.data.length : Int)) = false := by simp; omega
            obtain rfl : k = 0 := by omega
            have hp0 : ((p.at_ : Int) + ((0 : Nat) : Int)) % 4294967296 = (p.at_ : Int) := by omega
            rw [hp0] at H12
            clear hp0
            go_wp2
            refine wp_region_tail 14 (by kernel_rfl) (by kernel_rfl) ?_
            simp only [List.take_succ_cons, List.take_zero, List.drop_succ_cons, List.drop_zero]
            repeat (go_big_quiet_step (fail))
            refine wpQuiet_nil ?_
            rintro _ ⟨nq, rfl⟩
            go_wp2_with (go_at_call 27; with_reducible refine (Hid.out (H12 nq)).mono ?_; rintro e w3 ⟨rn, rfl, s3, hi3, hb3⟩; have HI3 := hidden hi3; have HB3 := hidden hb3; clear hi3 hb3)
            go_roundw
            case rel => exact ⟨1, s3, by omega, by simp, Hid.out HI3, Hid.out HB3⟩
            case measure => simp [intOf]; omega
        · have hkd2 : decide ((k : Int) < (p.data.length : Int)) = false := by simp; omega
          have hk1 : ¬ (k : Int) < 1 := by omega
          obtain rfl : k = N := by omega
          have HK4 : Hid (s2.ks.length ≤ 4 * (q + 1)) := by
            have := (Hid.out HB2).2 (by omega)
            have h2 := this.2
            have : (p.at_ % 256 + (k - 1)) / 256 ≤ 3 := by omega
            show _ ≤ _
            omega
          clear hc0 hc1 hc2 HB2
          obtain ⟨wq, hwq⟩ : ∃ u, u = wr := ⟨_, rfl⟩
          have hc1 := ((Hid.out HP).later hlt (MI.own (Hid.out HI2)).below).c1
          go_wp2
          go_loopw [6] (fun x6 wr3 => ∃ (j : Nat) (s3 : MS), j ≤ p.data.length ∧ x6 = .int .i64 (j : Int) ∧ MI w wr3 s3 mb (partPokes (partMaps f p k) p j) (600 * q + j) ∧ s3.ks.length ≤ 4 * (q + 1)) (fun x6 _ => p.data.length - (intOf x6).toNat)
          case atStart => exact ⟨0, s2, by omega, rfl, Hid.out HI2, Hid.out HK4⟩
          case round =>
            obtain ⟨j, s3, hj, rfl, hI3, hK3⟩ := hrel
            have hp3 := (Hid.out HP).later hlt hI3.own.below
            have hd0 := hp3.c0
            have hd1 := hp3.c1
            have HI3 := hidden hI3
            have HRW := hidden hp3.row
            clear hI3 hp3
            by_cases hjn : j < p.data.length
            · have hjn2 : (j : Int) < (p.data.length : Int) := by omega
              obtain ⟨db, doff, hda, hdc⟩ := getD_in_row (Hid.out HRW) hjn
              rw [hda] at hd1
              clear hda
              have H21 := fun m => hidden (MI.pokeCall (a := p.at_) (k := j) (v := p.data.getD j 0) (Hid.out HI3) (by omega) m)
              rw [show apoke (partPokes (partMaps f p k) p j) (wrapAt p.at_ j) (p.data.getD j 0) = partPokes (partMaps f p k) p (j + 1) from rfl] at H21
              generalize p.data.getD j 0 = v at hdc H21
              go_wp2
              refine wp_region_tail 17 (by kernel_rfl) (by kernel_rfl) ?_
              simp only [List.take_succ_cons, List.take_zero, List.drop_succ_cons, List.drop_zero]
              repeat (go_big_quiet_step (fail))
              refine wpQuiet_nil ?_
              rintro _ ⟨nq, rfl⟩
              go_wp2_with (go_at_call 28; with_reducible refine (Hid.out (H21 nq)).mono ?_; rintro e w4 ⟨rb, rfl, s4, hi4, hk4⟩; have HI4 := hidden hi4; have HK4b := hidden hk4; clear hi4 hk4)
              go_roundw
              case rel =>
                have h5 := Hid.out HI4
                rw [show 600 * q + j + 1 = 600 * q + (j + 1) by omega] at h5
                have h6 : s4.ks.length ≤ 4 * (q + 1) := by rw [Hid.out HK4b]; exact hK3
                first | exact ⟨j + 1, s4, by omega, by simp, h5, h6⟩ | ((repeat apply Exists.intro); exact ⟨⟨j + 1, s4, by omega, rfl, h5, h6⟩, rfl⟩)
              case measure => simp [intOf]; omega
            · have hjn2 : ¬ (j : Int) < (p.data.length : Int) := by omega
              obtain rfl : j = p.data.length := by omega
              go_wp2
              go_roundw
              case rel =>
                refine ⟨q + 1, s3, by omega, by simp, ?_, hK3⟩
                rw [Hid.out HNX]
                have h3 := Hid.out HI3
                have e : partDone f p = partPokes (partMaps f p k) p p.data.length := by unfold partDone; rw [← hN]
                rw [e]
                exact ⟨h3.own, h3.mb, h3.most, h3.abs, h3.off, h3.ts, by have := h3.c; omega⟩
              case measure => simp [intOf]; omega
    · have hql2 : ¬ (q : Int) < (ps.length : Int) := by omega
      obtain rfl : q = ps.length := by omega
      rw [List.take_of_length_le (Nat.le_refl _)] at HI
      have HMW : Hid (MW w wr s mb (partsDone ps fun _ => none)) := by
        have h3 := Hid.out HI
        exact ⟨h3.own, h3.mb, h3.abs, h3.most, by omega, h3.ts, by have := h3.c; omega⟩
      clear HI
      go_wp2
      go_loopw [7] (fun x7 wr4 => ∃ (j : Nat) (s4 : MS), j ≤ ps.length ∧ x7 = .int .i64 (j : Int) ∧ MW w wr4 s4 mb (watches (ps.take j) (partsDone ps fun _ => none))) (fun x7 _ => ps.length - (intOf x7).toNat)
      case atStart => exact ⟨0, s, by omega, rfl, Hid.out HMW⟩
      case round =>
        obtain ⟨j, s4, hj, rfl, hI4⟩ := hrel
        have HI4 := hidden hI4
        clear hI4
        by_cases hjn : j < ps.length
        · have hjn2 : (j : Int) < (ps.length : Int) := by omega
          obtain ⟨b, off, hao, hlt, hp⟩ := (Hid.out H).at hjn
          have hp4 := hp.later hlt (MW.own (Hid.out HI4)).below
          have hc0 := hp4.c0
          have hc3 := hp4.c3
          have H14 := fun m => hidden (MW.watchCall (b := ps[j].on) (Hid.out HI4) hp.lt m)
          have HNX : Hid (awatch (watches (ps.take j) (partsDone ps fun _ => none)) ps[j].at_ ps[j].on = watches (ps.take (j + 1)) (partsDone ps fun _ => none)) := by
            show _ = _
            rw [take_snoc ps j hjn, watches_snoc]
          rw [Hid.out HNX] at H14
          clear hp hp4 HNX
          subst hao
          generalize ps[j].at_ = pa at hc0 H14
          generalize ps[j].on = po at hc3 H14
          go_wp2
          refine wp_region_tail 11 (by kernel_rfl) (by kernel_rfl) ?_
          simp only [List.take_succ_cons, List.take_zero, List.drop_succ_cons, List.drop_zero]
          repeat (go_big_quiet_step (fail))
          refine wpQuiet_nil ?_
          rintro _ ⟨nq, rfl⟩
          go_wp2_with (go_at_call 29; with_reducible refine (Hid.out (H14 nq)).mono ?_; rintro e w5 ⟨rfl, s5, hi5⟩; have HI5 := hidden hi5; clear hi5)
          go_roundw
          case rel => exact ⟨j + 1, s5, by omega, by simp, Hid.out HI5⟩
          case measure => simp [intOf]; omega
        · have hjn2 : ¬ (j : Int) < (ps.length : Int) := by omega
          obtain rfl : j = ps.length := by omega
          go_wp2
          go_ret
          have h4 := Hid.out HI4
          rw [List.take_of_length_le (Nat.le_refl _)] at h4
          exact ⟨s4, by rw [h4.mb]; rfl, h4.own, h4.abs, h4.most, h4.few, h4.ts, h4.c⟩
end Go.Proofs.Ytodoenimlhldjaa
namespace Go.Proofs.Ytodoenimlhldjaa
open Go.ChangeShapes Go.WideShapes Go.ChangeAt Go.RowKit
set_option linter.unusedVariables false
/-- What counts of a memory's pages: their bytes and perms. -/
def seen (f : AM) : Nat → Option (List UInt8 × Int) := fun k => (f k).map fun x => (x.1, x.2.1)
theorem length_of_same {l m : List Nat} (hl : l.Nodup) (hm : m.Nodup) (h : ∀ k, k ∈ l ↔ k ∈ m) : l.length = m.length := ((List.perm_ext_iff_of_nodup hl hm).2 h).length_eq
theorem back_of_len : ∀ (l m : List Nat), l.Nodup → (∀ k, k ∈ l → k ∈ m) → m.length ≤ l.length → ∀ k, k ∈ m → k ∈ l
  | [], m, _, _, h, k, hk => by
    have := List.eq_nil_of_length_eq_zero (l := m) (by simpa using h)
    rw [this] at hk
    cases hk
  | a :: l, m, hn, hs, h, k, hk => by
    obtain ⟨ha, hl⟩ := List.nodup_cons.1 hn
    have ham := hs a (by simp)
    have hlen := List.length_erase_of_mem ham
    by_cases e : k = a
    · simp [e]
    · refine List.mem_cons_of_mem _ (back_of_len l (m.erase a) hl (fun j hj => ?_) ?_ k ?_)
      · exact (List.mem_erase_of_ne (fun e' : j = a => ha (by rw [← e']; exact hj))).2 (hs j (by simp [hj]))
      · simp only [List.length_cons] at h
        omega
      · exact (List.mem_erase_of_ne e).2 hk
theorem sameM_iff {w : World} {s t : MS} (hs : MemW w s) (ht : MemW w t) : sameM s t = true ↔ seen s.abs = seen t.abs := by
  unfold sameM
  rw [Bool.and_eq_true, decide_eq_true_eq, List.all_eq_true]
  constructor
  · rintro ⟨hlen, hall⟩
    have hsub : ∀ k, k ∈ s.ks → k ∈ t.ks := by
      intro k hk
      have := hall k hk
      simp [goodAt] at this
      exact this.1
    have hback : ∀ k, k ∈ t.ks → k ∈ s.ks := by
      exact back_of_len s.ks t.ks hs.nodup hsub (by omega)
    funext k
    unfold seen
    by_cases hk : k ∈ s.ks
    · have := hall k hk
      simp [goodAt] at this
      rw [abs_in hk, abs_in (hsub k hk)]
      simp [this.2]
    · rw [abs_out hk, abs_out fun h => hk (hback k h)]
  · intro h
    have hm : ∀ k, k ∈ s.ks ↔ k ∈ t.ks := by
      intro k
      have := congrFun h k
      unfold seen at this
      rw [mem_abs, mem_abs, ← Option.isSome_map (f := fun x : List UInt8 × Int × Bool => (x.1, x.2.1)), this, Option.isSome_map]
    refine ⟨length_of_same hs.nodup ht.nodup hm, fun k hk => ?_⟩
    have := congrFun h k
    unfold seen at this
    rw [abs_in hk, abs_in ((hm k).1 hk)] at this
    simp at this
    simp [goodAt, (hm k).1 hk, this.1, this.2]
theorem sameM_eq {w : World} {s t : MS} (hs : MemW w s) (ht : MemW w t) (h : seen s.abs = seen t.abs) : sameM s t = true := (sameM_iff hs ht).2 h
theorem seen_copy {s t : MS} (h : CopyOf s t) : seen t.abs = seen s.abs := by
  funext k
  unfold seen
  by_cases hk : k ∈ t.ks
  · rw [abs_in hk, abs_in ((h.ks k).1 hk)]
    simp [(h.data k hk).1, (h.data k hk).2.1]
  · rw [abs_out hk, abs_out fun h' => hk ((h.ks k).2 h')]
/-- All pages have 256 bytes. -/
def Full (f : AM) : Prop := ∀ k x, f k = some x → x.1.length = 256
theorem full_of {w : World} {s : MS} (h : MemW w s) : Full s.abs := by
  intro k x hx
  by_cases hk : k ∈ s.ks
  · rw [abs_in hk] at hx
    obtain ⟨n, _, _, hp⟩ := h.page k hk
    simp at hx
    rw [← hx]
    exact hp.len
  · rw [abs_out hk] at hx
    cases hx
def getA (f : AM) (a : Nat) : UInt8 := match f (pageOf a) with | some x => x.1.getD (a % 256) 0 | none => 0
theorem get_getA (s : MS) (a : Nat) : s.get a = getA s.abs a := by
  rw [get_abs]
  unfold getA
  cases s.abs (pageOf a) with
  | none => rfl
  | some x => rfl
theorem set_same_iff {l : List UInt8} {j : Nat} {v : UInt8} (h : j < l.length) : l.set j v = l ↔ l.getD j 0 = v := by
  constructor
  · intro e
    rw [← e]
    simp [List.getD_eq_getElem?_getD, h]
  · intro e
    apply List.ext_getElem (by simp)
    intro i h1 h2
    rw [List.getElem_set]
    split
    · rename_i hij
      subst hij
      rw [List.getD_eq_getElem?_getD, List.getElem?_eq_getElem h, Option.getD_some] at e
      exact e.symm
    · rfl
theorem seen_poke {f : AM} (hf : Full f) (a : Nat) (v : UInt8) : seen (apoke f a v) = seen f ↔ ((f (pageOf a)).isSome = true → getA f a = v) := by
  have hlt := Nat.mod_lt a (show 256 > 0 by omega)
  constructor
  · intro h hs
    have h1 := congrFun h (pageOf a)
    unfold seen apoke at h1
    rw [if_pos rfl] at h1
    unfold getA
    cases hx : f (pageOf a) with
    | none => rw [hx] at hs; cases hs
    | some x =>
      rw [hx] at h1
      simp at h1
      exact (set_same_iff (by rw [hf _ _ hx]; exact hlt)).1 h1
  · intro h
    funext k
    unfold seen apoke
    by_cases e : k = pageOf a
    · subst e
      rw [if_pos rfl]
      cases hx : f (pageOf a) with
      | none => rfl
      | some x =>
        have := h (by rw [hx]; rfl)
        unfold getA at this
        rw [hx] at this
        simp
        exact (set_same_iff (by rw [hf _ _ hx]; exact hlt)).2 this
    · rw [if_neg e]
theorem poke_back {f : AM} (hf : Full f) (a : Nat) (v : UInt8) : apoke (apoke f a v) a (getA f a) = f := by
  have hlt := Nat.mod_lt a (show 256 > 0 by omega)
  funext k
  unfold apoke
  by_cases e : k = pageOf a
  · subst e
    rw [if_pos rfl, if_pos rfl]
    unfold getA
    cases hx : f (pageOf a) with
    | none => rfl
    | some x =>
      simp
      have : x.1.set (a % 256) (x.1.getD (a % 256) 0) = x.1 := (set_same_iff (by rw [hf _ _ hx]; exact hlt)).2 rfl
      rw [List.getD_eq_getElem?_getD] at this
      rw [this]
  · rw [if_neg e, if_neg e]
end Go.Proofs.Ytodoenimlhldjaa
namespace Go.Proofs.Ytodoenimlhldjaa
open Go.ChangeShapes Go.WideShapes Go.ChangeAt Go.RowKit
set_option linter.unusedVariables false
theorem full_amap {f : AM} (hf : Full f) (a : Nat) (z : Int) : Full (amap f a z) := by
  intro k x hx
  unfold amap at hx
  by_cases e : k = pageOf a
  · subst e
    rw [if_pos rfl] at hx
    cases hq : f (pageOf a) with
    | none =>
      rw [hq] at hx
      simp at hx
      rw [← hx]
      exact zeros_len
    | some y =>
      rw [hq] at hx
      simp at hx
      rw [← hx]
      show y.1.length = 256
      exact hf _ _ hq
  · rw [if_neg e] at hx
    exact hf _ _ hx
theorem full_apoke {f : AM} (hf : Full f) (a : Nat) (v : UInt8) : Full (apoke f a v) := by
  intro k x hx
  unfold apoke at hx
  by_cases e : k = pageOf a
  · subst e
    rw [if_pos rfl] at hx
    cases hq : f (pageOf a) with
    | none => rw [hq] at hx; simp at hx
    | some y =>
      rw [hq] at hx
      simp at hx
      rw [← hx]
      simpa using hf _ _ hq
  · rw [if_neg e] at hx
    exact hf _ _ hx
theorem full_maps {f : AM} (hf : Full f) (p : Part4) : ∀ k, Full (partMaps f p k)
  | 0 => hf
  | k + 1 => full_amap (full_maps hf p k) _ _
theorem full_pokes {f : AM} (hf : Full f) (p : Part4) : ∀ k, Full (partPokes f p k)
  | 0 => hf
  | k + 1 => full_apoke (full_pokes hf p k) _ _
theorem some_amap (f : AM) (a : Nat) (z : Int) (k : Nat) : (amap f a z k).isSome = (decide (k = pageOf a) || (f k).isSome) := by
  unfold amap
  by_cases e : k = pageOf a
  · rw [if_pos e, decide_eq_true e]
    cases f k with
    | none => rfl
    | some y => rfl
  · rw [if_neg e, decide_eq_false e, Bool.false_or]
theorem some_apoke (f : AM) (a : Nat) (v : UInt8) (k : Nat) : (apoke f a v k).isSome = (f k).isSome := by
  unfold apoke
  split <;> simp
theorem some_awatch (f : AM) (a : Nat) (v : Bool) (k : Nat) : (awatch f a v k).isSome = (f k).isSome := by
  unfold awatch
  split <;> simp
theorem some_pokes (f : AM) (p : Part4) (q : Nat) : ∀ k, (partPokes f p k q).isSome = (f q).isSome
  | 0 => rfl
  | k + 1 => by rw [partPokes, some_apoke, some_pokes f p q k]
theorem some_maps (p : Part4) (q : Nat) : ∀ k, (partMaps (fun _ => none) p k q).isSome = true ↔ ∃ j, j < k ∧ q = pageOf (wrapAt p.at_ j)
  | 0 => by simp [partMaps]
  | k + 1 => by
    rw [partMaps, some_amap, Bool.or_eq_true, some_maps p q k, decide_eq_true_eq]
    constructor
    · rintro (h | ⟨j, hj, h⟩)
      · exact ⟨k, by omega, h⟩
      · exact ⟨j, by omega, h⟩
    · rintro ⟨j, hj, h⟩
      by_cases e : j = k
      · subst e; exact .inl h
      · exact .inr ⟨j, by omega, h⟩
theorem getA_poke {f : AM} (hf : Full f) {a : Nat} (hs : (f (pageOf a)).isSome = true) (v : UInt8) (b : Nat) : getA (apoke f a v) b = if b = a then v else getA f b := by
  have hlt := Nat.mod_lt a (show 256 > 0 by omega)
  unfold getA apoke
  by_cases e : pageOf b = pageOf a
  · rw [if_pos e, e]
    cases hq : f (pageOf a) with
    | none => rw [hq] at hs; cases hs
    | some y =>
      have hl := hf _ _ hq
      simp only [Option.map_some]
      by_cases e2 : b = a
      · rw [if_pos e2, e2]
        simp [List.getD_eq_getElem?_getD, hl, hlt]
      · have hne : a % 256 ≠ b % 256 := by unfold pageOf at e; omega
        rw [if_neg e2]
        simp only [List.getD_eq_getElem?_getD, List.getElem?_set_ne hne]
  · rw [if_neg e, if_neg (fun e2 => e (by rw [e2]))]
theorem pokes_get {f : AM} (hf : Full f) (p : Part4) (hm : ∀ j, j < p.data.length → (f (pageOf (wrapAt p.at_ j))).isSome = true) (hsm : p.at_ + p.data.length ≤ 4294967296) : ∀ k, k ≤ p.data.length → ∀ j, j < k → getA (partPokes f p k) (wrapAt p.at_ j) = p.data.getD j 0
  | 0, _, j, hj => by omega
  | k + 1, hk, j, hj => by
    rw [partPokes, getA_poke (full_pokes hf p k) (by rw [some_pokes]; exact hm k (by omega))]
    by_cases e : j = k
    · subst e
      rw [if_pos rfl]
    · have hne : wrapAt p.at_ j ≠ wrapAt p.at_ k := by unfold wrapAt; omega
      rw [if_neg hne]
      exact pokes_get hf p hm hsm k (by omega) j (by omega)
theorem getA_watch (f : AM) (a : Nat) (v : Bool) (b : Nat) : getA (awatch f a v) b = getA f b := by
  unfold getA awatch
  by_cases e : pageOf b = pageOf a
  · rw [if_pos e]
    cases f (pageOf b) with
    | none => rfl
    | some y => rfl
  · rw [if_neg e]
theorem one_get (p : Part4) (hl : 1 ≤ p.data.length) (hsm : p.at_ + p.data.length ≤ 4294967296) (j : Nat) (hj : j < p.data.length) : getA (memOf [p]) (wrapAt p.at_ j) = p.data.getD j 0 := by
  show getA (awatch (partDone (fun _ => none) p) p.at_ p.on) _ = _
  rw [getA_watch]
  unfold partDone
  rw [show max p.data.length 1 = p.data.length by omega]
  exact pokes_get (full_maps (fun _ _ h => by cases h) p _) p (fun j hj => (some_maps p _ _).2 ⟨j, hj, rfl⟩) hsm _ (Nat.le_refl _) j hj
theorem one_some (p : Part4) (hl : 1 ≤ p.data.length) (q : Nat) : (memOf [p] q).isSome = true ↔ ∃ j, j < p.data.length ∧ q = pageOf (wrapAt p.at_ j) := by
  show (awatch (partDone (fun _ => none) p) p.at_ p.on q).isSome = true ↔ _
  rw [some_awatch]
  unfold partDone
  rw [some_pokes, show max p.data.length 1 = p.data.length by omega]
  exact some_maps p q _
/-- How many pages. -/
theorem one_pages {w : World} {s : MS} {p : Part4} (h : MemW w s) (hab : s.abs = memOf [p]) (hl : 1 ≤ p.data.length) (hat : p.at_ < 256) (hsm : p.data.length ≤ 401) : s.ks.length = (p.at_ + (p.data.length - 1)) / 256 + 1 := by
  have hmem : ∀ k, k ∈ s.ks ↔ k ∈ (List.range ((p.at_ + (p.data.length - 1)) / 256 + 1)).map (· * 256) := by
    intro k
    rw [mem_abs, hab, one_some p hl, List.mem_map]
    constructor
    · rintro ⟨j, hj, e⟩
      refine ⟨k / 256, List.mem_range.2 ?_, ?_⟩
      · unfold pageOf wrapAt at e
        omega
      · unfold pageOf wrapAt at e
        omega
    · rintro ⟨q, hq, e⟩
      rw [List.mem_range] at hq
      refine ⟨if q = 0 then 0 else q * 256 - p.at_, ?_, ?_⟩
      · split <;> omega
      · unfold pageOf wrapAt
        split <;> omega
  have hnd : ((List.range ((p.at_ + (p.data.length - 1)) / 256 + 1)).map (· * 256)).Nodup := by
    refine List.pairwise_map.2 (List.Pairwise.imp ?_ List.nodup_range)
    intro x y hxy e
    have : x * 256 = y * 256 := e
    omega
  have := length_of_same h.nodup hnd hmem
  simpa using this
end Go.Proofs.Ytodoenimlhldjaa
