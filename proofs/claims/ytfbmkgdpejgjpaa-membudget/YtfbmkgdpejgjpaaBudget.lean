/- MemBudget, walked. -/
import Derived.Test.YtfbmkgdpejgjpaaPages
import Derived.Test.YtfbmkgdpejgjpaaModel
namespace Go.Proofs.Ytfbmkgdpejgjpaa
open Go.ChangeShapes Go.WideShapes Go.ChangeAt Go.RowKit
set_option linter.unusedVariables false
theorem mapped_len {s : MS} {a : Nat} {z : Int} {b : Nat} : (s.mapped a z b).ks.length ≤ max s.ks.length s.most := by
  unfold MS.mapped
  split
  · exact Nat.le_max_left _ _
  · split
    · simp [MS.lay]
      omega
    · exact Nat.le_max_left _ _
theorem mapped_mem {s : MS} {a : Nat} {z : Int} {b : Nat} : pageOf a ∈ (s.mapped a z b).ks ↔ (pageOf a ∈ s.ks ∨ s.ks.length < s.most) := by
  constructor
  · intro h
    by_cases hk : pageOf a ∈ s.ks
    · exact .inl hk
    · by_cases hr : s.ks.length < s.most
      · exact .inr hr
      · unfold MS.mapped at h
        rw [if_neg hk, if_neg hr] at h
        exact absurd h hk
  · exact (mapped_ks s a z b).2.2.2
theorem len_le {l ks : List Nat} (h : l.Perm ks) (hk : ks.length ≤ 12) : l.length ≤ 12 := by rw [h.length_eq]; exact hk
theorem not_gt {n K : Nat} (h : n ≤ K) : ¬ (K : Int) < (n : Int) := by omega
theorem pages_len (w : World) (s : MS) (mb : Nat) (h : MemW w s) (hmb : s.mb = mb) (hlen : s.ks.length ≤ 12) : Calls Try.prog 38 #[.pointer (some ⟨mb, 0, none⟩)] w fun e w' => ∃ ao cap, e = .returned (.slice ao s.ks.length cap) ∧ Below w.heap.size w w' := by
  have := pages_small w s h hlen
  rw [hmb] at this
  refine this.mono ?_
  rintro e w' ⟨ao, cap, l, he, hp, _, _, hb⟩
  exact ⟨ao, cap, by rw [← hp.length_eq]; exact he, hb⟩
set_option maxRecDepth 20000 in
set_option maxHeartbeats 4000000 in
theorem budget_walk (z : Int) (ao : Option Addr) (cap : Nat) (l : List Nat) (w : World) (hl : Wds w (.slice ao l.length cap) l) (hcap : l.length ≤ 9223372036854775807) (hlt : ∀ j, l.getD j 0 < 4294967296) :
    Calls Try.prog 4 #[.int .i64 z, .slice ao l.length cap] w fun e w' => e = .returned (.bool true) ∧ Below w.heap.size w w' := by
  have HL := hidden hl
  have hk0 := Int.emod_nonneg z (show (12 : Int) ≠ 0 by omega)
  have hk1 := Int.emod_lt_of_pos z (show (0 : Int) < 12 by omega)
  have H11 := hidden (place_any z 12 (by omega) (by omega) w)
  obtain ⟨K, hK⟩ : ∃ K : Nat, (K : Int) = z % 12 := ⟨(z % 12).toNat, by omega⟩
  rw [← hK] at H11 hk1
  have H9 := hidden (newMem_step (K : Int) w)
  have ec : cutMost (K : Int) = K := by unfold cutMost; omega
  rw [ec] at H9
  clear ec hl hK hk0
  have hK12 : K < 12 := by omega
  go_enter Try.func4, Try.ntmps4
  go_wp2_with (first | (go_at_call 11; refine (Hid.out H11).mono ?_; rintro e w1 ⟨rfl, hww⟩; rw [hww]; clear hww w1) | (go_at_call 9; refine (Hid.out H9).mono ?_; rintro e w1 ⟨mb, bm, rfl, hm, hb, hf⟩; have HO := hidden (Own.mk hm hb hf); clear hm hb hf H9))
  go_loopw [7, 8, 9, 10] (fun x7 x8 x9 x10 wr => ∃ (i : Nat) (s : MS), i ≤ l.length ∧ i ≤ 40 ∧ x7 = .int .i64 (i : Int) ∧ Own w wr s ∧ s.mb = mb ∧ s.most = K ∧ s.ks.length ≤ K) (fun x7 x8 x9 x10 _ => 40 - (intOf x7).toNat)
  case atStart => exact ⟨0, fresh mb bm K, by omega, by omega, rfl, Hid.out HO, rfl, rfl, by simp [fresh]⟩
  case round =>
    obtain ⟨i, s, hi1, hi2, rfl, hO, hmb, hmo, hks⟩ := hrel
    have HO1 := hidden hO
    have HMB := hidden hmb
    have HMO := hidden hmo
    clear hO hmb hmo
    by_cases hil : i < l.length ∧ i < 40
    · obtain ⟨hil, hi40⟩ := hil
      have hil2 : (i : Int) < (l.length : Int) := by omega
      obtain ⟨b, off, rfl, hc⟩ : ∃ b off, ao = some ⟨b, off, none⟩ ∧ (b < w.heap.size ∧ w.cell? ⟨b, off + i, none⟩ = some (.int .u32 ((l.getD i 0 : Nat) : Int))) := by
        obtain ⟨ao', cap', e, h⟩ := Hid.out HL
        simp only [Value.slice.injEq, true_and] at e
        obtain ⟨rfl, rfl⟩ := e
        rcases h with h | ⟨b, off, e, hlt, h⟩
        · rw [h] at hil; simp at hil
        · exact ⟨b, off, e, hlt, h i hil⟩
      have HC : Hid (∀ u, Below w.heap.size w u → u.cell? ⟨b, off + i, none⟩ = some (.int .u32 ((l.getD i 0 : Nat) : Int))) := fun u hu => (hu.cell (p := ⟨b, off + i, none⟩) hc.1).trans hc.2
      have hx := hlt i
      have hc0 := Hid.out HC wr (Own.below (Hid.out HO1))
      clear hc
      generalize l.getD i 0 = x at HC hx hc0
      have H24 := hidden (mapped_any wr s x (Own.mem (Hid.out HO1)) hx)
      rw [Hid.out HMB] at H24
      have H38 : Hid (∀ u, Own w u s → Calls Try.prog 38 #[.pointer (some ⟨mb, 0, none⟩)] u fun e w' => ∃ ao cap, e = .returned (.slice ao s.ks.length cap) ∧ Own w w' s ∧ w'.cell? ⟨b, off + i, none⟩ = some (.int .u32 (x : Int))) := by
        intro u hu
        refine (pages_len u s mb hu.mem (Hid.out HMB) (by omega)).mono ?_
        rintro e w' ⟨ao, cap, he, hb⟩
        have ho := hu.step (Step.later hu.mem hb)
        exact ⟨ao, cap, he, ho, Hid.out HC w' ho.below⟩
      have H12 : Hid (∀ u, Own w u s → Calls Try.prog 12 #[.pointer (some ⟨mb, 0, none⟩), .int .u32 (x : Int), .int .i64 (i : Int)] u fun e w' => e = .returned (.int .i64 (s.mapErr x)) ∧ ∃ b', Own w w' (s.mapped x (i : Int) b') ∧ w'.cell? ⟨b, off + i, none⟩ = some (.int .u32 (x : Int))) := by
        intro u hu
        have := map_any u s x (i : Int) hu.mem hx
        rw [Hid.out HMB] at this
        refine this.mono ?_
        rintro e w' ⟨he, st⟩
        exact ⟨he, _, hu.step st, Hid.out HC w' (hu.step st).below⟩
      have H24b : Hid (∀ u b', Own w u (s.mapped x (i : Int) b') → Calls Try.prog 24 #[.pointer (some ⟨mb, 0, none⟩), .int .u32 (x : Int)] u fun e w' => e = .returned (.bool (decide (pageOf x ∈ s.ks ∨ s.ks.length < s.most))) ∧ Own w w' (s.mapped x (i : Int) b')) := by
        intro u b' hu
        have := mapped_any u _ x hu.mem hx
        rw [mapped_mb, Hid.out HMB, show decide (pageOf x ∈ (s.mapped x (i : Int) b').ks) = decide (pageOf x ∈ s.ks ∨ s.ks.length < s.most) from decide_eq_decide.2 mapped_mem] at this
        exact this.mono fun e w' ⟨he, hd⟩ => ⟨he, hu.step (Step.drew hu.mem hd)⟩
      have H38b : Hid (∀ u b', Own w u (s.mapped x (i : Int) b') → Calls Try.prog 38 #[.pointer (some ⟨mb, 0, none⟩)] u fun e w' => ∃ (ao : Option Addr) (cap n : Nat), e = .returned (.slice ao n cap) ∧ n ≤ K ∧ Own w w' (s.mapped x (i : Int) b')) := by
        intro u b' hu
        have hle : (s.mapped x (i : Int) b').ks.length ≤ K := by
          have := mapped_len (s := s) (a := x) (z := (i : Int)) (b := b')
          rw [Hid.out HMO] at this
          omega
        refine (pages_len u _ mb hu.mem (by rw [mapped_mb]; exact Hid.out HMB) (by omega)).mono ?_
        rintro e w' ⟨ao, cap, he, hb⟩
        exact ⟨ao, cap, _, he, hle, hu.step (Step.later hu.mem hb)⟩
      have hnext : Hid (∀ u b', Own w u (s.mapped x (i : Int) b') → ∃ s', Own w u s' ∧ s'.mb = mb ∧ s'.most = K ∧ s'.ks.length ≤ K) := by
        intro u b' hu
        refine ⟨_, hu, by rw [mapped_mb]; exact Hid.out HMB, by rw [mapped_most]; exact Hid.out HMO, ?_⟩
        have := mapped_len (s := s) (a := x) (z := (i : Int)) (b := b')
        rw [Hid.out HMO] at this
        omega
      by_cases hin : pageOf x ∈ s.ks
      · have e1 : s.mapErr x = 0 := by unfold MS.mapErr; rw [if_pos (.inl hin)]
        have e2 : decide (pageOf x ∈ s.ks ∨ s.ks.length < s.most) = true := decide_eq_true (.inl hin)
        rw [decide_eq_true hin] at H24
        rw [e1] at H12
        rw [e2] at H24b
        generalize s.ks.length = N at H38
        clear e1 e2 hin
        go_wp2_with (first | (go_at_call 24; with_reducible refine (Hid.out H24).mono ?_; rintro e w2 ⟨rfl, hd⟩; have HO2 := hidden (Own.step (Hid.out HO1) (Step.drew (Own.mem (Hid.out HO1)) hd)); have hc2 := Hid.out HC w2 (Own.below (Hid.out HO2)); clear hd H24 HO1) | (go_at_call 38; with_reducible refine (Hid.out H38 _ (Hid.out HO2)).mono ?_; rintro e w3 ⟨pa, pc, rfl, ho, hc3⟩; have HO3 := hidden ho; clear ho HO2) | (go_at_call 12; with_reducible refine (Hid.out H12 _ (Hid.out HO3)).mono ?_; rintro e w4 ⟨rfl, nb, ho, hc4⟩; have HO4 := hidden ho; clear ho HO3) | (go_at_call 24; with_reducible refine (Hid.out H24b _ _ (Hid.out HO4)).mono ?_; rintro e w5 ⟨rfl, ho⟩; have HO5 := hidden ho; clear ho HO4) | (go_at_call 38; with_reducible refine (Hid.out H38b _ _ (Hid.out HO5)).mono ?_; rintro e w6 ⟨qa, qc, qn, rfl, hqn, ho⟩; have HO6 := hidden ho; have hqn2 := not_gt hqn; clear ho HO5 hqn))
        go_roundw
        case rel =>
          obtain ⟨s', h1, h2, h3, h4⟩ := Hid.out hnext _ _ (Hid.out HO6)
          first | exact ⟨i + 1, s', by omega, by omega, by simp, h1, h2, h3, h4⟩ | ((repeat apply Exists.intro); exact ⟨⟨i + 1, s', by omega, by omega, rfl, h1, h2, h3, h4⟩, rfl⟩)
        case measure => simp [intOf]; omega
      · by_cases hro : s.ks.length < s.most
        · have e1 : s.mapErr x = 0 := by unfold MS.mapErr; rw [if_pos (.inr hro)]
          have e2 : decide (pageOf x ∈ s.ks ∨ s.ks.length < s.most) = true := decide_eq_true (.inr hro)
          have hNK : (s.ks.length : Int) < (K : Int) := by rw [Hid.out HMO] at hro; omega
          rw [decide_eq_false hin] at H24
          rw [e1] at H12
          rw [e2] at H24b
          generalize s.ks.length = N at H38 hNK
          clear e1 e2 hin hro
          go_wp2_with (first | (go_at_call 24; with_reducible refine (Hid.out H24).mono ?_; rintro e w2 ⟨rfl, hd⟩; have HO2 := hidden (Own.step (Hid.out HO1) (Step.drew (Own.mem (Hid.out HO1)) hd)); have hc2 := Hid.out HC w2 (Own.below (Hid.out HO2)); clear hd H24 HO1) | (go_at_call 38; with_reducible refine (Hid.out H38 _ (Hid.out HO2)).mono ?_; rintro e w3 ⟨pa, pc, rfl, ho, hc3⟩; have HO3 := hidden ho; clear ho HO2) | (go_at_call 12; with_reducible refine (Hid.out H12 _ (Hid.out HO3)).mono ?_; rintro e w4 ⟨rfl, nb, ho, hc4⟩; have HO4 := hidden ho; clear ho HO3) | (go_at_call 24; with_reducible refine (Hid.out H24b _ _ (Hid.out HO4)).mono ?_; rintro e w5 ⟨rfl, ho⟩; have HO5 := hidden ho; clear ho HO4) | (go_at_call 38; with_reducible refine (Hid.out H38b _ _ (Hid.out HO5)).mono ?_; rintro e w6 ⟨qa, qc, qn, rfl, hqn, ho⟩; have HO6 := hidden ho; have hqn2 := not_gt hqn; clear ho HO5 hqn))
          go_roundw
          case rel =>
            obtain ⟨s', h1, h2, h3, h4⟩ := Hid.out hnext _ _ (Hid.out HO6)
            first | exact ⟨i + 1, s', by omega, by omega, by simp, h1, h2, h3, h4⟩ | ((repeat apply Exists.intro); exact ⟨⟨i + 1, s', by omega, by omega, rfl, h1, h2, h3, h4⟩, rfl⟩)
          case measure => simp [intOf]; omega
        · have e1 : s.mapErr x = 2 := by unfold MS.mapErr; rw [if_neg (by simp [hin, hro])]
          have e2 : decide (pageOf x ∈ s.ks ∨ s.ks.length < s.most) = false := decide_eq_false (by simp [hin, hro])
          have hNK : ¬ (s.ks.length : Int) < (K : Int) := by rw [Hid.out HMO] at hro; omega
          rw [decide_eq_false hin] at H24
          rw [e1] at H12
          rw [e2] at H24b
          generalize s.ks.length = N at H38 hNK
          clear e1 e2 hin hro
          go_wp2_with (first | (go_at_call 24; with_reducible refine (Hid.out H24).mono ?_; rintro e w2 ⟨rfl, hd⟩; have HO2 := hidden (Own.step (Hid.out HO1) (Step.drew (Own.mem (Hid.out HO1)) hd)); have hc2 := Hid.out HC w2 (Own.below (Hid.out HO2)); clear hd H24 HO1) | (go_at_call 38; with_reducible refine (Hid.out H38 _ (Hid.out HO2)).mono ?_; rintro e w3 ⟨pa, pc, rfl, ho, hc3⟩; have HO3 := hidden ho; clear ho HO2) | (go_at_call 12; with_reducible refine (Hid.out H12 _ (Hid.out HO3)).mono ?_; rintro e w4 ⟨rfl, nb, ho, hc4⟩; have HO4 := hidden ho; clear ho HO3) | (go_at_call 24; with_reducible refine (Hid.out H24b _ _ (Hid.out HO4)).mono ?_; rintro e w5 ⟨rfl, ho⟩; have HO5 := hidden ho; clear ho HO4) | (go_at_call 38; with_reducible refine (Hid.out H38b _ _ (Hid.out HO5)).mono ?_; rintro e w6 ⟨qa, qc, qn, rfl, hqn, ho⟩; have HO6 := hidden ho; have hqn2 := not_gt hqn; clear ho HO5 hqn))
          go_roundw
          case rel =>
            obtain ⟨s', h1, h2, h3, h4⟩ := Hid.out hnext _ _ (Hid.out HO6)
            first | exact ⟨i + 1, s', by omega, by omega, by simp, h1, h2, h3, h4⟩ | ((repeat apply Exists.intro); exact ⟨⟨i + 1, s', by omega, by omega, rfl, h1, h2, h3, h4⟩, rfl⟩)
          case measure => simp [intOf]; omega
    · by_cases hil3 : i < l.length
      · have hi40 : ¬ (i : Int) < 40 := by omega
        have H38f := hidden (pages_small wr s (Own.mem (Hid.out HO1)) (by omega))
        rw [Hid.out HMB] at H38f
        have HKEY : Hid (∀ k ∈ s.ks, k % 256 = 0) := fun k hk => ((Own.mem (Hid.out HO1)).key k hk).2
        have hksl : s.ks.length ≤ 12 := by omega
        go_wp2_with (go_at_call 38; with_reducible refine (Hid.out H38f).mono ?_; rintro e w2 ⟨pa, pc, pl, rfl, hp, hri, hwd, hb⟩; have HP := hidden hp; have HRI := hidden hri; have HWD := hidden hwd; have HB2 := hidden (Below.trans (Own.below (Hid.out HO1)) (Below.mono hb (Own.below (Hid.out HO1)).size)); have hpl := len_le hp hksl; clear hp hri hwd hb)
        go_loopw [12] (fun x12 wr2 => ∃ (j : Nat), 1 ≤ j ∧ j ≤ 12 ∧ x12 = .int .i64 (j : Int) ∧ ∃ n, wr2 = w2.drewN n) (fun x12 _ => 12 - (intOf x12).toNat)
        case atStart => exact ⟨1, by omega, by omega, rfl, 0, rfl⟩
        case round =>
          obtain ⟨j, hj1, hj2, rfl, n, rfl⟩ := hrel
          by_cases hjl : j < pl.length
          · obtain ⟨j', rfl⟩ : ∃ j', j = j' + 1 := ⟨j - 1, by omega⟩
            have hjl2 : (j' : Int) + 1 < (pl.length : Int) := by omega
            obtain ⟨pb, po, rfl, hq⟩ : ∃ pb po, pa = some ⟨pb, po, none⟩ ∧ ∀ k, k < pl.length → w2.cell? ⟨pb, po + k, none⟩ = some (.int .u32 ((pl.getD k 0 : Nat) : Int)) := by
              obtain ⟨ao', cap', e, h⟩ := Hid.out HWD
              simp only [Value.slice.injEq, true_and] at e
              obtain ⟨rfl, rfl⟩ := e
              rcases h with h | ⟨b, off, e, _, h⟩
              · rw [h] at hjl; simp at hjl
              · exact ⟨b, off, e, h⟩
            have hq1 := hq (j' + 1) hjl
            have hq0 := hq j' (by omega)
            have hlt2 := Hid.out HRI j' (j' + 1) (by omega) hjl
            have hmod : pl.getD (j' + 1) 0 % 256 = 0 := by
              refine Hid.out HKEY _ ((Hid.out HP).mem_iff.1 ?_)
              rw [List.getD_eq_getElem?_getD, List.getElem?_eq_getElem hjl, Option.getD_some]
              exact List.getElem_mem _
            generalize pl.getD (j' + 1) 0 = y1 at hq1 hlt2 hmod
            generalize pl.getD j' 0 = y0 at hq0 hlt2
            have hlt3 : decide ((y1 : Int) ≤ (y0 : Int)) = false := by simp; omega
            have hlt4 : decide (y1 ≤ y0) = false := by simp; omega
            have hmod2 : (y1 : Int) % 256 = 0 := by omega
            clear hq hlt2 hmod
            go_wp2
            go_quiet (fail)
            go_wp2
            go_roundw
            case rel => exact ⟨j' + 2, by omega, by omega, by simp; omega, _, rfl⟩
            case measure => simp [intOf]; omega
          · have hjl2 : ¬ (j : Int) < (pl.length : Int) := by omega
            have HB3 := hidden (below_drewN (Hid.out HB2) n)
            go_wp2_with (go_at_call 37; with_reducible refine (awake_any _).mono ?_; rintro e w4 ⟨rfl, hb⟩; have HB4 := hidden (Below.trans (Hid.out HB3) (Below.mono hb (Below.size (Hid.out HB3)))); clear hb)
            go_ret
            exact ⟨rfl, Hid.out HB4⟩
      · have hil2 : decide ((i : Int) < (l.length : Int)) = false := by simp; omega
        have H38f := hidden (pages_small wr s (Own.mem (Hid.out HO1)) (by omega))
        rw [Hid.out HMB] at H38f
        have HKEY : Hid (∀ k ∈ s.ks, k % 256 = 0) := fun k hk => ((Own.mem (Hid.out HO1)).key k hk).2
        have hksl : s.ks.length ≤ 12 := by omega
        go_wp2_with (go_at_call 38; with_reducible refine (Hid.out H38f).mono ?_; rintro e w2 ⟨pa, pc, pl, rfl, hp, hri, hwd, hb⟩; have HP := hidden hp; have HRI := hidden hri; have HWD := hidden hwd; have HB2 := hidden (Below.trans (Own.below (Hid.out HO1)) (Below.mono hb (Own.below (Hid.out HO1)).size)); have hpl := len_le hp hksl; clear hp hri hwd hb)
        go_loopw [12] (fun x12 wr2 => ∃ (j : Nat), 1 ≤ j ∧ j ≤ 12 ∧ x12 = .int .i64 (j : Int) ∧ ∃ n, wr2 = w2.drewN n) (fun x12 _ => 12 - (intOf x12).toNat)
        case atStart => exact ⟨1, by omega, by omega, rfl, 0, rfl⟩
        case round =>
          obtain ⟨j, hj1, hj2, rfl, n, rfl⟩ := hrel
          by_cases hjl : j < pl.length
          · obtain ⟨j', rfl⟩ : ∃ j', j = j' + 1 := ⟨j - 1, by omega⟩
            have hjl2 : (j' : Int) + 1 < (pl.length : Int) := by omega
            obtain ⟨pb, po, rfl, hq⟩ : ∃ pb po, pa = some ⟨pb, po, none⟩ ∧ ∀ k, k < pl.length → w2.cell? ⟨pb, po + k, none⟩ = some (.int .u32 ((pl.getD k 0 : Nat) : Int)) := by
              obtain ⟨ao', cap', e, h⟩ := Hid.out HWD
              simp only [Value.slice.injEq, true_and] at e
              obtain ⟨rfl, rfl⟩ := e
              rcases h with h | ⟨b, off, e, _, h⟩
              · rw [h] at hjl; simp at hjl
              · exact ⟨b, off, e, h⟩
            have hq1 := hq (j' + 1) hjl
            have hq0 := hq j' (by omega)
            have hlt2 := Hid.out HRI j' (j' + 1) (by omega) hjl
            have hmod : pl.getD (j' + 1) 0 % 256 = 0 := by
              refine Hid.out HKEY _ ((Hid.out HP).mem_iff.1 ?_)
              rw [List.getD_eq_getElem?_getD, List.getElem?_eq_getElem hjl, Option.getD_some]
              exact List.getElem_mem _
            generalize pl.getD (j' + 1) 0 = y1 at hq1 hlt2 hmod
            generalize pl.getD j' 0 = y0 at hq0 hlt2
            have hlt3 : decide ((y1 : Int) ≤ (y0 : Int)) = false := by simp; omega
            have hlt4 : decide (y1 ≤ y0) = false := by simp; omega
            have hmod2 : (y1 : Int) % 256 = 0 := by omega
            clear hq hlt2 hmod
            go_wp2
            go_quiet (fail)
            go_wp2
            go_roundw
            case rel => exact ⟨j' + 2, by omega, by omega, by simp; omega, _, rfl⟩
            case measure => simp [intOf]; omega
          · have hjl2 : ¬ (j : Int) < (pl.length : Int) := by omega
            have HB3 := hidden (below_drewN (Hid.out HB2) n)
            go_wp2_with (go_at_call 37; with_reducible refine (awake_any _).mono ?_; rintro e w4 ⟨rfl, hb⟩; have HB4 := hidden (Below.trans (Hid.out HB3) (Below.mono hb (Below.size (Hid.out HB3)))); clear hb)
            go_ret
            exact ⟨rfl, Hid.out HB4⟩
end Go.Proofs.Ytfbmkgdpejgjpaa
