/- The library's break of patterns: three exchanges. -/
import Derived.Test.YtpknppicamefgaaQMAP
namespace Go.Proofs.Ytpknppicamefgaa
open Go.ChangeShapes Go.WideShapes Go.ChangeAt Go.RowKit
set_option linter.unusedVariables false
theorem Srow.lt {w : World} {g : Nat} {d : List Nat} {tl : List Value} (h : Srow w g d tl) : g < w.heap.size := (Array.getElem?_eq_some_iff.1 h).1
theorem Srow.onlyB {w w' : World} {g k : Nat} {d : List Nat} {tl : List Value} (h : Srow w g d tl) (ho : Only k w w') (hne : g ≠ k) : Srow w' g d tl := (ho.block g hne).trans h
theorem Keep.only {g k : Nat} {u w w' : World} (h : Keep (· = g) u w) (ho : Only k w w') (hk : k = g ∨ u.heap.size ≤ k) : Keep (· = g) u w' := h.trans (Keep.of_only ho) fun b hb e => by omega
theorem other_in {n o : Nat} (h : o < 2 * n) : ∃ q : Nat, q < n ∧ ((o < n ∧ q = o) ∨ (n ≤ o ∧ q = o - n)) := by
  by_cases h1 : o < n
  · exact ⟨o, h1, .inl ⟨h1, rfl⟩⟩
  · exact ⟨o - n, by omega, .inr ⟨by omega, rfl⟩⟩
set_option maxRecDepth 20000 in
set_option maxHeartbeats 4000000 in
theorem breaks_any (w : World) (g cap a b : Nat) (d : List Nat) (tl : List Value) (h : Srow w g d tl) (hab : a + 12 < b) (hb : b ≤ d.length) (hlen : d.length ≤ 64) :
    Calls Try.prog 91 #[.slice (some ⟨g, 0, none⟩) d.length cap, .int .i64 (a : Int), .int .i64 (b : Int)] w fun e w' => e = .returned (.tuple #[]) ∧ ∃ m, Srow w' g m tl ∧ Turned d m a b ∧ Keep (· = g) w w' := by
  have hgl := h.lt
  obtain ⟨n, hn⟩ : ∃ n, b = a + n := ⟨b - a, by omega⟩
  have hsub : (b : Int) - (a : Int) = (n : Int) := by omega
  have hn8 : (8 : Int) ≤ (n : Int) := by omega
  have hquo : (n : Int).tdiv 4 = ((n / 4 : Nat) : Int) := by rw [Int.tdiv_eq_ediv_of_nonneg (by omega)]; omega
  obtain ⟨q4, hq4⟩ : ∃ q4, q4 = n / 4 := ⟨_, rfl⟩
  rw [← hq4] at hquo
  have hq5 : 3 ≤ q4 ∧ 4 * q4 ≤ n := by omega
  have hn64 : n ≤ 64 ∧ a + n ≤ 64 := by omega
  obtain ⟨sb, hsb⟩ : ∃ sb, w.heap.size = sb := ⟨_, rfl⟩
  obtain ⟨wa, hwa⟩ : ∃ wa, w.alloc (.cells #[.int .u64 (n : Int)] 140) = wa := ⟨_, rfl⟩
  have hS : Srow wa g d tl := by rw [← hwa]; exact (heap_alloc_old _ _ hgl).trans h
  have hR : Rnd wa sb (n : Int) := by rw [← hwa, ← hsb]; exact heap_alloc_new w _
  have hK : Keep (· = g) w wa := by rw [← hwa]; exact keep_alloc _ w _
  have H102 := hidden (fun u => pow_at n (by omega) (by omega) u)
  have HS := hidden hS
  have HR := hidden hR
  have HK := hidden hK
  have HN := hidden hn
  clear h hS hR hK hq4 hn
  go_enter Try.func91, Try.ntmps91
  go_wp2_with (go_at_call 102; refine (Hid.out H102 _).mono ?_; rintro e w1 ⟨mk, rfl, hmk, hww⟩; rw [hww]; clear hww w1)
  go_loopw [9] (fun x9 wr => ∃ (i p : Nat) (m : List Nat), i ≤ 3 ∧ p + 1 = a + 2 * q4 + i ∧ x9 = .int .i64 (p : Int) ∧ m.length = d.length ∧ Srow wr g m tl ∧ Turned d m a b ∧ (∃ y, Rnd wr sb y) ∧ Keep (· = g) w wr) (fun x9 _ => a + 2 * q4 + 3 - (intOf x9).toNat)
  case atStart => exact ⟨0, a + 2 * q4 - 1, d, by omega, by omega, by simp; omega, rfl, Hid.out HS, Turned.refl _ _ _, ⟨_, Hid.out HR⟩, Hid.out HK⟩
  case round =>
    obtain ⟨i, p, m, hi, hp, rfl, hml, hS, hT, ⟨y, hR⟩, hK⟩ := hrel
    have hbn := Hid.out HN
    by_cases hi3 : i ≤ 2
    · have hle : (p : Int) ≤ (a : Int) + (q4 : Int) * 2 + 1 := by omega
      have hpr : a ≤ p ∧ p < b ∧ p < d.length := by omega
      have H103 : Hid (Calls Try.prog 103 #[.pointer (some ⟨sb, 0, none⟩)] wr fun e w1 => ∃ (r : Int) (o q : Nat), e = .returned (.int .u64 r) ∧ bits .and .u64 r (mk : Int) = (o : Int) ∧ o < 128 ∧ a + q < b ∧ ((o < n ∧ q = o) ∨ (n ≤ o ∧ (o : Int) - (n : Int) = (q : Int))) ∧ (p = a + q ∨ p ≠ a + q) ∧ Srow w1 g m tl ∧ (∃ y, Rnd w1 sb y) ∧ Keep (· = g) w w1) := by
        refine (next_any wr sb y hR).mono ?_
        rintro e w1 ⟨r, y2, he, hR2, ho2⟩
        obtain ⟨o, ho, hol⟩ := and_u64 r mk (by omega)
        have hS2 := hS.onlyB ho2 (by omega)
        have hK2 := hK.only ho2 (.inr (by omega))
        by_cases h1 : o < n
        · exact ⟨r, o, o, he, ho, by omega, by omega, .inl ⟨h1, rfl⟩, by omega, hS2, ⟨y2, hR2⟩, hK2⟩
        · exact ⟨r, o, o - n, he, ho, by omega, by omega, .inr ⟨by omega, by omega⟩, by omega, hS2, ⟨y2, hR2⟩, hK2⟩
      have HT := hidden hT
      have HM : Hid (∀ q, q < m.length → ∀ u n', Srow u g m tl → Srow (((u.drewN n').setCell ⟨g, p, none⟩ (.int .u32 ((m.getD q 0 : Nat) : Int))).setCell ⟨g, q, none⟩ (.int .u32 ((m.getD p 0 : Nat) : Int))) g (swp m p q) tl) := fun q hq u n' h0 => by
        have h1 := (h0.drewN n').set (j := p) (by omega) (m.getD q 0)
        exact h1.set (j := q) (by rw [List.length_set]; omega) (m.getD p 0)
      have HP := hidden hp
      clear hS hT hR hK hp hbn
      go_wp2_with (go_at_call 103; refine (Hid.out H103).mono ?_; rintro e w1 ⟨r, o, q, rfl, hand, ho128, hqb, hcase, hpq, hS1, hR1, hK1⟩; have HCASE := hidden hcase; have HPQ := hidden hpq; have HS1 := hidden hS1; have HR1 := hidden hR1; have HK1 := hidden hK1; clear hcase hpq hS1 hR1 hK1; rcases Hid.out HCASE with ⟨c1, c2⟩ | ⟨c1, c2⟩)
      · subst c2
        have hcp := (Hid.out HS1).cell (j := p) (by omega)
        have hzp := (Hid.out HS1).thaw p
        have hcq := (Hid.out HS1).cell (j := a + q) (by omega)
        have hzq := (Hid.out HS1).thaw (a + q)
        obtain ⟨y1, hR1⟩ := Hid.out HR1
        have HX : Hid (∀ n' v v', Rnd (((w1.drewN n').setCell ⟨g, p, none⟩ v).setCell ⟨g, a + q, none⟩ v') sb y1) := fun n' v v' => (Below.heap_setCell _ _ _ _ (by simp; omega)).trans ((Below.heap_setCell _ _ _ _ (by simp; omega)).trans hR1)
        have HY : Hid (∀ n' v v', Keep (· = g) w (((w1.drewN n').setCell ⟨g, p, none⟩ v).setCell ⟨g, a + q, none⟩ v')) := fun n' v v' => ((Hid.out HK1).drewN n').trans ((keep_setCell _ g p v).trans (keep_setCell _ g (a + q) v') fun b _ e => e) fun b _ e => e
        have HMQ := hidden (Hid.out HM (a + q) (by omega))
        clear HM hR1
        rcases Hid.out HPQ with e | e
        · subst e
          generalize m.getD (a + q) 0 = xq at hcp hcq HMQ
          go_region
          all_goals go_wp2
          go_roundw
          case rel => exact ⟨i + 1, a + q + 1, swp m (a + q) (a + q), by omega, by have := Hid.out HP; omega, by simp, by rw [swp_len]; exact hml, Hid.out HMQ _ _ (Hid.out HS1), (Hid.out HT).swp ⟨by omega, by omega⟩ ⟨by omega, by omega⟩ (by omega), ⟨y1, Hid.out HX _ _ _⟩, Hid.out HY _ _ _⟩
          case measure => simp [intOf]; omega
        · have e2 : ¬ a + q = p := by omega
          generalize m.getD (a + q) 0 = xq at hcq HMQ
          generalize m.getD p 0 = xp at hcp HMQ
          go_region
          all_goals go_wp2
          go_roundw
          case rel => exact ⟨i + 1, p + 1, swp m p (a + q), by omega, by have := Hid.out HP; omega, by simp, by rw [swp_len]; exact hml, Hid.out HMQ _ _ (Hid.out HS1), (Hid.out HT).swp ⟨by omega, by omega⟩ ⟨by omega, by omega⟩ (by omega), ⟨y1, Hid.out HX _ _ _⟩, Hid.out HY _ _ _⟩
          case measure => simp [intOf]; omega
      · have hq0 := hqb
        have hcp := (Hid.out HS1).cell (j := p) (by omega)
        have hzp := (Hid.out HS1).thaw p
        have hcq := (Hid.out HS1).cell (j := a + q) (by omega)
        have hzq := (Hid.out HS1).thaw (a + q)
        obtain ⟨y1, hR1⟩ := Hid.out HR1
        have HX : Hid (∀ n' v v', Rnd (((w1.drewN n').setCell ⟨g, p, none⟩ v).setCell ⟨g, a + q, none⟩ v') sb y1) := fun n' v v' => (Below.heap_setCell _ _ _ _ (by simp; omega)).trans ((Below.heap_setCell _ _ _ _ (by simp; omega)).trans hR1)
        have HY : Hid (∀ n' v v', Keep (· = g) w (((w1.drewN n').setCell ⟨g, p, none⟩ v).setCell ⟨g, a + q, none⟩ v')) := fun n' v v' => ((Hid.out HK1).drewN n').trans ((keep_setCell _ g p v).trans (keep_setCell _ g (a + q) v') fun b _ e => e) fun b _ e => e
        have HMQ := hidden (Hid.out HM (a + q) (by omega))
        clear HM hR1
        rcases Hid.out HPQ with e | e
        · subst e
          generalize m.getD (a + q) 0 = xq at hcp hcq HMQ
          go_region
          all_goals go_wp2
          go_roundw
          case rel => exact ⟨i + 1, a + q + 1, swp m (a + q) (a + q), by omega, by have := Hid.out HP; omega, by simp, by rw [swp_len]; exact hml, Hid.out HMQ _ _ (Hid.out HS1), (Hid.out HT).swp ⟨by omega, by omega⟩ ⟨by omega, by omega⟩ (by omega), ⟨y1, Hid.out HX _ _ _⟩, Hid.out HY _ _ _⟩
          case measure => simp [intOf]; omega
        · have e2 : ¬ a + q = p := by omega
          generalize m.getD (a + q) 0 = xq at hcq HMQ
          generalize m.getD p 0 = xp at hcp HMQ
          go_region
          all_goals go_wp2
          go_roundw
          case rel => exact ⟨i + 1, p + 1, swp m p (a + q), by omega, by have := Hid.out HP; omega, by simp, by rw [swp_len]; exact hml, Hid.out HMQ _ _ (Hid.out HS1), (Hid.out HT).swp ⟨by omega, by omega⟩ ⟨by omega, by omega⟩ (by omega), ⟨y1, Hid.out HX _ _ _⟩, Hid.out HY _ _ _⟩
          case measure => simp [intOf]; omega
    · have hle : ¬ (p : Int) ≤ (a : Int) + (q4 : Int) * 2 + 1 := by omega
      have HS2 := hidden hS
      have HT2 := hidden hT
      have HK2 := hidden hK
      clear hS hT hR hK hbn
      go_wp2
      go_end0
      exact ⟨rfl, m, Hid.out HS2, Hid.out HT2, Hid.out HK2⟩
end Go.Proofs.Ytpknppicamefgaa
namespace Go.Proofs.Ytpknppicamefgaa
open Go.ChangeShapes Go.WideShapes Go.ChangeAt Go.RowKit
set_option linter.unusedVariables false
set_option maxRecDepth 20000 in
set_option maxHeartbeats 4000000 in
theorem sift_any (w : World) (g cap lo hi f : Nat) (d : List Nat) (tl : List Value) (h : Srow w g d tl) (hlo : lo ≤ hi) (hb : f + hi ≤ d.length) (hlen : d.length ≤ 1152921504606846976) (hH : Heap d f (lo + 1) hi) :
    Calls Try.prog 101 #[.slice (some ⟨g, 0, none⟩) d.length cap, .int .i64 (lo : Int), .int .i64 (hi : Int), .int .i64 (f : Int)] w fun e w' => e = .returned (.tuple #[]) ∧ ∃ m, Srow w' g m tl ∧ Turned d m f (f + hi) ∧ Heap m f lo hi ∧ Only g w w' := by
  have H := hidden h
  have HH := hidden hH
  clear h hH
  go_enter Try.func101, Try.ntmps101
  go_wp2
  go_loopw [8] (fun x8 wr => ∃ (r : Nat) (k : List Nat), r ≤ hi ∧ x8 = .int .i64 (r : Int) ∧ k.length = d.length ∧ Srow wr g k tl ∧ Turned d k f (f + hi) ∧ Sift k f lo hi r ∧ Only g w wr) (fun x8 _ => hi + 1 - (intOf x8).toNat)
  case atStart => exact ⟨lo, d, hlo, rfl, rfl, Hid.out H, Turned.refl _ _ _, Sift.start (Hid.out HH), Only.refl _ _⟩
  case round =>
    obtain ⟨r, k, hr, rfl, hkl, hS, hT, hI, hW⟩ := hrel
    have hle := hI.le
    have HS := hidden hS
    have HT := hidden hT
    have HI := hidden hI
    have HW := hidden hW
    by_cases hc : hi ≤ 2 * r + 1
    · have hc2 : (hi : Int) ≤ 2 * (r : Int) + 1 := by omega
      have HEND : Hid (Heap k f lo hi) := hI.leaf hc
      clear hS hT hI hW
      go_wp2
      go_end0
      exact ⟨rfl, k, Hid.out HS, Hid.out HT, Hid.out HEND, Hid.out HW⟩
    · have hc2 : ¬ (hi : Int) ≤ 2 * (r : Int) + 1 := by omega
      have hwr : IntKind.i64.wrap ((f : Int) + (r : Int)) = (f : Int) + (r : Int) := by rw [IntKind.wrap_i64]; omega
      have hcr := hS.cell (j := f + r) (by omega)
      have hzr := hS.thaw (f + r)
      have hc1 := hS.cell (j := f + (2 * r + 1)) (by omega)
      have hz1 := hS.thaw (f + (2 * r + 1))
      by_cases hd : 2 * r + 1 + 1 < hi
      · have hd2 : 2 * (r : Int) + 1 + 1 < (hi : Int) := by omega
        have hcc := hS.cell (j := f + (2 * r + 1) + 1) (by omega)
        have hzc := hS.thaw (f + (2 * r + 1) + 1)
        clear hS hT hI hW
        have HL1 := hidden (fun u => less_any (k.getD (f + (2 * r + 1)) 0) (k.getD (f + (2 * r + 1) + 1) 0) u)
        cases hdec : decide (k.getD (f + (2 * r + 1)) 0 < k.getD (f + (2 * r + 1) + 1) 0) with
        | true =>
          rw [hdec] at HL1
          have HLT1 := hidden (of_decide_eq_true hdec)
          clear hdec
          have HL2 := hidden (fun u => less_any (k.getD (f + r) 0) (k.getD (f + (2 * r + 1 + 1)) 0) u)
          have HBIG : Hid (∀ c, c < hi → (c = 2 * r + 1 ∨ c = 2 * r + 2) → k.getD (f + c) 0 ≤ k.getD (f + (2 * r + 1 + 1)) 0) := fun c h1 h2 => by
            have h3 := Hid.out HLT1
            rcases h2 with rfl | rfl
            · exact Nat.le_of_lt h3
            · exact Nat.le_refl _
          cases hdec2 : decide (k.getD (f + r) 0 < k.getD (f + (2 * r + 1 + 1)) 0) with
          | true =>
            rw [hdec2] at HL2
            have HLT2 := hidden (of_decide_eq_true hdec2)
            clear hdec2
            have HN : Hid (∀ w1 n, Srow w1 g k tl → Srow (((w1.drewN n).setCell ⟨g, f + r, none⟩ (.int .u32 ((k.getD (f + (2 * r + 1 + 1)) 0 : Nat) : Int))).setCell ⟨g, f + (2 * r + 1 + 1), none⟩ (.int .u32 ((k.getD (f + r) 0 : Nat) : Int))) g (swp k (f + r) (f + (2 * r + 1 + 1))) tl) := fun w1 n h0 => by
              have h1 := (h0.drewN n).set (j := f + r) (by omega) (k.getD (f + (2 * r + 1 + 1)) 0)
              have h2 := h1.set (j := f + (2 * r + 1 + 1)) (by rw [List.length_set]; omega) (k.getD (f + r) 0)
              exact h2
            have HNI : Hid (Sift (swp k (f + r) (f + (2 * r + 1 + 1))) f lo hi (2 * r + 1 + 1)) := (Hid.out HI).step (x := 2 * r + 1 + 1) (by omega) (by omega) (by omega) (Hid.out HLT2) (Hid.out HBIG)
            have HF : Hid (∀ w1 n, w1 = wr.drewN n → w1.cell? ⟨g, f + r, none⟩ = some (.int .u32 ((k.getD (f + r) 0 : Nat) : Int)) ∧ w1.cell? ⟨g, f + (2 * r + 1 + 1), none⟩ = some (.int .u32 ((k.getD (f + (2 * r + 1 + 1)) 0 : Nat) : Int)) ∧ w1.frozen? ⟨g, f + r, none⟩ = false ∧ w1.frozen? ⟨g, f + (2 * r + 1 + 1), none⟩ = false ∧ Srow w1 g k tl ∧ Only g w w1) := fun w1 n e => by
              subst e
              have h1 := (Hid.out HS).drewN n
              exact ⟨h1.cell (by omega), h1.cell (by omega), h1.thaw _, h1.thaw _, h1, (Hid.out HW).drewN n⟩
            generalize hx0 : k.getD (f + r) 0 = x0 at *
            generalize hx1 : k.getD (f + (2 * r + 1)) 0 = x1 at *
            generalize hx2 : k.getD (f + (2 * r + 1) + 1) 0 = x2 at HL1 hcc
            generalize hx3 : k.getD (f + (2 * r + 1 + 1)) 0 = x3 at HL2 HF HN
            clear hx0 hx1 hx2 hx3
            go_wp2
            go_quiet ((go_at_call 95; exact Calls.quiet_of_same (Hid.out HL1 _)))
            go_wp2
            generalize hwn : wr.drewN nq = w1
            have hwn2 := Hid.out HF _ _ hwn.symm
            clear hwn hcr hzr hc1 hz1 hcc hzc
            obtain ⟨hcr, hcx, hzr, hzx, hS1, hW1⟩ := hwn2
            have HS1 := hidden hS1
            have HW1 := hidden hW1
            clear hS1 hW1
            go_quiet ((go_at_call 95; exact Calls.quiet_of_same (Hid.out HL2 _)))
            go_wp2
            go_region
            all_goals go_wp2
            go_roundw
            case rel => exact ⟨2 * r + 1 + 1, swp k (f + r) (f + (2 * r + 1 + 1)), by omega, by simp, by rw [swp_len]; exact hkl, Hid.out HN _ _ (Hid.out HS1), (Hid.out HT).swp ⟨by omega, by omega⟩ ⟨by omega, by omega⟩ (by omega), Hid.out HNI, ((((Hid.out HW1).drewN _).setCell _ _).setCell _ _)⟩
            case measure => simp [intOf]; omega
          | false =>
            rw [hdec2] at HL2
            have HLT2 := hidden (of_decide_eq_false hdec2)
            clear hdec2
            have HEND : Hid (Heap k f lo hi) := (Hid.out HI).stop fun c h1 h2 => Nat.le_trans (Hid.out HBIG c h1 h2) (Nat.le_of_not_lt (Hid.out HLT2))
            have HF : Hid (∀ w1 n, w1 = wr.drewN n → w1.cell? ⟨g, f + r, none⟩ = some (.int .u32 ((k.getD (f + r) 0 : Nat) : Int)) ∧ w1.cell? ⟨g, f + (2 * r + 1 + 1), none⟩ = some (.int .u32 ((k.getD (f + (2 * r + 1 + 1)) 0 : Nat) : Int)) ∧ w1.frozen? ⟨g, f + r, none⟩ = false ∧ w1.frozen? ⟨g, f + (2 * r + 1 + 1), none⟩ = false ∧ Srow w1 g k tl ∧ Only g w w1) := fun w1 n e => by
              subst e
              have h1 := (Hid.out HS).drewN n
              exact ⟨h1.cell (by omega), h1.cell (by omega), h1.thaw _, h1.thaw _, h1, (Hid.out HW).drewN n⟩
            generalize hx0 : k.getD (f + r) 0 = x0 at *
            generalize hx1 : k.getD (f + (2 * r + 1)) 0 = x1 at *
            generalize hx2 : k.getD (f + (2 * r + 1) + 1) 0 = x2 at HL1 hcc
            generalize hx3 : k.getD (f + (2 * r + 1 + 1)) 0 = x3 at HL2 HF
            clear hx0 hx1 hx2 hx3
            go_wp2
            go_quiet ((go_at_call 95; exact Calls.quiet_of_same (Hid.out HL1 _)))
            go_wp2
            generalize hwn : wr.drewN nq = w1
            have hwn2 := Hid.out HF _ _ hwn.symm
            clear hwn hcr hzr hc1 hz1 hcc hzc
            obtain ⟨hcr, hcx, hzr, hzx, hS1, hW1⟩ := hwn2
            have HS1 := hidden hS1
            have HW1 := hidden hW1
            clear hS1 hW1
            go_quiet ((go_at_call 95; exact Calls.quiet_of_same (Hid.out HL2 _)))
            go_wp2
            first | go_end0 | refine bodyPost_ret (results_none rfl _ _ _) rfl ?_
            exact ⟨rfl, k, (Hid.out HS1).drewN _, Hid.out HT, Hid.out HEND, (Hid.out HW1).drewN _⟩
        | false =>
          rw [hdec] at HL1
          have HLT1 := hidden (of_decide_eq_false hdec)
          clear hdec
          have HL2 := hidden (fun u => less_any (k.getD (f + r) 0) (k.getD (f + (2 * r + 1)) 0) u)
          have HBIG : Hid (∀ c, c < hi → (c = 2 * r + 1 ∨ c = 2 * r + 2) → k.getD (f + c) 0 ≤ k.getD (f + (2 * r + 1)) 0) := fun c h1 h2 => by
            have h3 := Hid.out HLT1
            rcases h2 with rfl | rfl
            · exact Nat.le_refl _
            · exact Nat.le_of_not_lt h3
          cases hdec2 : decide (k.getD (f + r) 0 < k.getD (f + (2 * r + 1)) 0) with
          | true =>
            rw [hdec2] at HL2
            have HLT2 := hidden (of_decide_eq_true hdec2)
            clear hdec2
            have HN : Hid (∀ w1 n, Srow w1 g k tl → Srow (((w1.drewN n).setCell ⟨g, f + r, none⟩ (.int .u32 ((k.getD (f + (2 * r + 1)) 0 : Nat) : Int))).setCell ⟨g, f + (2 * r + 1), none⟩ (.int .u32 ((k.getD (f + r) 0 : Nat) : Int))) g (swp k (f + r) (f + (2 * r + 1))) tl) := fun w1 n h0 => by
              have h1 := (h0.drewN n).set (j := f + r) (by omega) (k.getD (f + (2 * r + 1)) 0)
              have h2 := h1.set (j := f + (2 * r + 1)) (by rw [List.length_set]; omega) (k.getD (f + r) 0)
              exact h2
            have HNI : Hid (Sift (swp k (f + r) (f + (2 * r + 1))) f lo hi (2 * r + 1)) := (Hid.out HI).step (x := 2 * r + 1) (by omega) (by omega) (by omega) (Hid.out HLT2) (Hid.out HBIG)
            have HF : Hid (∀ w1 n, w1 = wr.drewN n → w1.cell? ⟨g, f + r, none⟩ = some (.int .u32 ((k.getD (f + r) 0 : Nat) : Int)) ∧ w1.cell? ⟨g, f + (2 * r + 1), none⟩ = some (.int .u32 ((k.getD (f + (2 * r + 1)) 0 : Nat) : Int)) ∧ w1.frozen? ⟨g, f + r, none⟩ = false ∧ w1.frozen? ⟨g, f + (2 * r + 1), none⟩ = false ∧ Srow w1 g k tl ∧ Only g w w1) := fun w1 n e => by
              subst e
              have h1 := (Hid.out HS).drewN n
              exact ⟨h1.cell (by omega), h1.cell (by omega), h1.thaw _, h1.thaw _, h1, (Hid.out HW).drewN n⟩
            generalize hx0 : k.getD (f + r) 0 = x0 at *
            generalize hx1 : k.getD (f + (2 * r + 1)) 0 = x1 at *
            generalize hx2 : k.getD (f + (2 * r + 1) + 1) 0 = x2 at *
            clear hx0 hx1 hx2
            go_wp2
            go_quiet ((go_at_call 95; exact Calls.quiet_of_same (Hid.out HL1 _)))
            go_wp2
            generalize hwn : wr.drewN nq = w1
            have hwn2 := Hid.out HF _ _ hwn.symm
            clear hwn hcr hzr hc1 hz1 hcc hzc
            obtain ⟨hcr, hcx, hzr, hzx, hS1, hW1⟩ := hwn2
            have HS1 := hidden hS1
            have HW1 := hidden hW1
            clear hS1 hW1
            go_quiet ((go_at_call 95; exact Calls.quiet_of_same (Hid.out HL2 _)))
            go_wp2
            go_region
            all_goals go_wp2
            go_roundw
            case rel => exact ⟨2 * r + 1, swp k (f + r) (f + (2 * r + 1)), by omega, by simp, by rw [swp_len]; exact hkl, Hid.out HN _ _ (Hid.out HS1), (Hid.out HT).swp ⟨by omega, by omega⟩ ⟨by omega, by omega⟩ (by omega), Hid.out HNI, ((((Hid.out HW1).drewN _).setCell _ _).setCell _ _)⟩
            case measure => simp [intOf]; omega
          | false =>
            rw [hdec2] at HL2
            have HLT2 := hidden (of_decide_eq_false hdec2)
            clear hdec2
            have HEND : Hid (Heap k f lo hi) := (Hid.out HI).stop fun c h1 h2 => Nat.le_trans (Hid.out HBIG c h1 h2) (Nat.le_of_not_lt (Hid.out HLT2))
            have HF : Hid (∀ w1 n, w1 = wr.drewN n → w1.cell? ⟨g, f + r, none⟩ = some (.int .u32 ((k.getD (f + r) 0 : Nat) : Int)) ∧ w1.cell? ⟨g, f + (2 * r + 1), none⟩ = some (.int .u32 ((k.getD (f + (2 * r + 1)) 0 : Nat) : Int)) ∧ w1.frozen? ⟨g, f + r, none⟩ = false ∧ w1.frozen? ⟨g, f + (2 * r + 1), none⟩ = false ∧ Srow w1 g k tl ∧ Only g w w1) := fun w1 n e => by
              subst e
              have h1 := (Hid.out HS).drewN n
              exact ⟨h1.cell (by omega), h1.cell (by omega), h1.thaw _, h1.thaw _, h1, (Hid.out HW).drewN n⟩
            generalize hx0 : k.getD (f + r) 0 = x0 at *
            generalize hx1 : k.getD (f + (2 * r + 1)) 0 = x1 at *
            generalize hx2 : k.getD (f + (2 * r + 1) + 1) 0 = x2 at *
            clear hx0 hx1 hx2
            go_wp2
            go_quiet ((go_at_call 95; exact Calls.quiet_of_same (Hid.out HL1 _)))
            go_wp2
            generalize hwn : wr.drewN nq = w1
            have hwn2 := Hid.out HF _ _ hwn.symm
            clear hwn hcr hzr hc1 hz1 hcc hzc
            obtain ⟨hcr, hcx, hzr, hzx, hS1, hW1⟩ := hwn2
            have HS1 := hidden hS1
            have HW1 := hidden hW1
            clear hS1 hW1
            go_quiet ((go_at_call 95; exact Calls.quiet_of_same (Hid.out HL2 _)))
            go_wp2
            first | go_end0 | refine bodyPost_ret (results_none rfl _ _ _) rfl ?_
            exact ⟨rfl, k, (Hid.out HS1).drewN _, Hid.out HT, Hid.out HEND, (Hid.out HW1).drewN _⟩
      · have hd2 : decide (2 * (r : Int) + 1 + 1 < (hi : Int)) = false := by simp; omega
        clear hS hT hI hW
        have HL2 := hidden (fun u => less_any (k.getD (f + r) 0) (k.getD (f + (2 * r + 1)) 0) u)
        have HBIG : Hid (∀ c, c < hi → (c = 2 * r + 1 ∨ c = 2 * r + 2) → k.getD (f + c) 0 ≤ k.getD (f + (2 * r + 1)) 0) := fun c h1 h2 => by
          have e : c = 2 * r + 1 := by omega
          rw [e]
          exact Nat.le_refl _
        cases hdec2 : decide (k.getD (f + r) 0 < k.getD (f + (2 * r + 1)) 0) with
        | true =>
          rw [hdec2] at HL2
          have HLT2 := hidden (of_decide_eq_true hdec2)
          clear hdec2
          have HN : Hid (∀ w1 n, Srow w1 g k tl → Srow (((w1.drewN n).setCell ⟨g, f + r, none⟩ (.int .u32 ((k.getD (f + (2 * r + 1)) 0 : Nat) : Int))).setCell ⟨g, f + (2 * r + 1), none⟩ (.int .u32 ((k.getD (f + r) 0 : Nat) : Int))) g (swp k (f + r) (f + (2 * r + 1))) tl) := fun w1 n h0 => by
            have h1 := (h0.drewN n).set (j := f + r) (by omega) (k.getD (f + (2 * r + 1)) 0)
            have h2 := h1.set (j := f + (2 * r + 1)) (by rw [List.length_set]; omega) (k.getD (f + r) 0)
            exact h2
          have HNI : Hid (Sift (swp k (f + r) (f + (2 * r + 1))) f lo hi (2 * r + 1)) := (Hid.out HI).step (x := 2 * r + 1) (by omega) (by omega) (by omega) (Hid.out HLT2) (Hid.out HBIG)
          have HF : Hid (∀ w1 n, w1 = wr.drewN n → w1.cell? ⟨g, f + r, none⟩ = some (.int .u32 ((k.getD (f + r) 0 : Nat) : Int)) ∧ w1.cell? ⟨g, f + (2 * r + 1), none⟩ = some (.int .u32 ((k.getD (f + (2 * r + 1)) 0 : Nat) : Int)) ∧ w1.frozen? ⟨g, f + r, none⟩ = false ∧ w1.frozen? ⟨g, f + (2 * r + 1), none⟩ = false ∧ Srow w1 g k tl ∧ Only g w w1) := fun w1 n e => by
            subst e
            have h1 := (Hid.out HS).drewN n
            exact ⟨h1.cell (by omega), h1.cell (by omega), h1.thaw _, h1.thaw _, h1, (Hid.out HW).drewN n⟩
          generalize hx0 : k.getD (f + r) 0 = x0 at *
          generalize hx1 : k.getD (f + (2 * r + 1)) 0 = x1 at *
          clear hx0 hx1
          go_wp2
          go_quiet (fail)
          go_wp2
          generalize hwn : wr.drewN nq = w1
          have hwn2 := Hid.out HF _ _ hwn.symm
          clear hwn hcr hzr hc1 hz1
          obtain ⟨hcr, hcx, hzr, hzx, hS1, hW1⟩ := hwn2
          have HS1 := hidden hS1
          have HW1 := hidden hW1
          clear hS1 hW1
          go_quiet ((go_at_call 95; exact Calls.quiet_of_same (Hid.out HL2 _)))
          go_wp2
          go_region
          all_goals go_wp2
          go_roundw
          case rel => exact ⟨2 * r + 1, swp k (f + r) (f + (2 * r + 1)), by omega, by simp, by rw [swp_len]; exact hkl, Hid.out HN _ _ (Hid.out HS1), (Hid.out HT).swp ⟨by omega, by omega⟩ ⟨by omega, by omega⟩ (by omega), Hid.out HNI, ((((Hid.out HW1).drewN _).setCell _ _).setCell _ _)⟩
          case measure => simp [intOf]; omega
        | false =>
          rw [hdec2] at HL2
          have HLT2 := hidden (of_decide_eq_false hdec2)
          clear hdec2
          have HEND : Hid (Heap k f lo hi) := (Hid.out HI).stop fun c h1 h2 => Nat.le_trans (Hid.out HBIG c h1 h2) (Nat.le_of_not_lt (Hid.out HLT2))
          have HF : Hid (∀ w1 n, w1 = wr.drewN n → w1.cell? ⟨g, f + r, none⟩ = some (.int .u32 ((k.getD (f + r) 0 : Nat) : Int)) ∧ w1.cell? ⟨g, f + (2 * r + 1), none⟩ = some (.int .u32 ((k.getD (f + (2 * r + 1)) 0 : Nat) : Int)) ∧ w1.frozen? ⟨g, f + r, none⟩ = false ∧ w1.frozen? ⟨g, f + (2 * r + 1), none⟩ = false ∧ Srow w1 g k tl ∧ Only g w w1) := fun w1 n e => by
            subst e
            have h1 := (Hid.out HS).drewN n
            exact ⟨h1.cell (by omega), h1.cell (by omega), h1.thaw _, h1.thaw _, h1, (Hid.out HW).drewN n⟩
          generalize hx0 : k.getD (f + r) 0 = x0 at *
          generalize hx1 : k.getD (f + (2 * r + 1)) 0 = x1 at *
          clear hx0 hx1
          go_wp2
          go_quiet (fail)
          go_wp2
          generalize hwn : wr.drewN nq = w1
          have hwn2 := Hid.out HF _ _ hwn.symm
          clear hwn hcr hzr hc1 hz1
          obtain ⟨hcr, hcx, hzr, hzx, hS1, hW1⟩ := hwn2
          have HS1 := hidden hS1
          have HW1 := hidden hW1
          clear hS1 hW1
          go_quiet ((go_at_call 95; exact Calls.quiet_of_same (Hid.out HL2 _)))
          go_wp2
          first | go_end0 | refine bodyPost_ret (results_none rfl _ _ _) rfl ?_
          exact ⟨rfl, k, (Hid.out HS1).drewN _, Hid.out HT, Hid.out HEND, (Hid.out HW1).drewN _⟩
end Go.Proofs.Ytpknppicamefgaa
namespace Go.Proofs.Ytpknppicamefgaa
open Go.ChangeShapes Go.WideShapes Go.ChangeAt Go.RowKit
set_option linter.unusedVariables false
set_option maxRecDepth 20000 in
set_option maxHeartbeats 4000000 in
theorem heapsort_any (w : World) (g cap a b : Nat) (d : List Nat) (tl : List Value) (h : Srow w g d tl) (hab : a < b) (hb : b ≤ d.length) (hlen : d.length ≤ 1152921504606846976) :
    Calls Try.prog 90 #[.slice (some ⟨g, 0, none⟩) d.length cap, .int .i64 (a : Int), .int .i64 (b : Int)] w fun e w' => e = .returned (.tuple #[]) ∧ ∃ m, Srow w' g m tl ∧ Turned d m a b ∧ SortedOn m a b ∧ Only g w w' := by
  have H := hidden h
  clear h
  obtain ⟨n, hn⟩ : ∃ n, b = a + n := ⟨b - a, by omega⟩
  have hsub : (b : Int) - (a : Int) = (n : Int) := by omega
  have hquo : ((n : Int) - 1).tdiv 2 = (((n - 1) / 2 : Nat) : Int) := by
    rw [Int.tdiv_eq_ediv_of_nonneg (by omega)]; omega
  have hquo2 : IntKind.i64.wrap ((((n - 1) / 2 : Nat) : Int)) = (((n - 1) / 2 : Nat) : Int) := by rw [IntKind.wrap_i64]; omega
  obtain ⟨q, hq⟩ : ∃ q, q = (n - 1) / 2 := ⟨_, rfl⟩
  rw [← hq] at hquo hquo2
  have HQ := hidden hq
  have HB := hidden hn
  have hnb : a + n ≤ b ∧ b ≤ a + n := by omega
  clear hq hn
  go_enter Try.func90, Try.ntmps90
  go_wp2
  go_loopw [9] (fun x9 wr => ∃ (z : Int) (i : Nat) (m : List Nat), z = (i : Int) - 1 ∧ i ≤ n ∧ x9 = .int .i64 z ∧ m.length = d.length ∧ Srow wr g m tl ∧ Turned d m a b ∧ Heap m a i n ∧ Only g w wr) (fun x9 _ => ((intOf x9) + 1).toNat)
  case atStart => exact ⟨q, q + 1, d, by omega, by have := Hid.out HQ; omega, rfl, rfl, Hid.out H, Turned.refl _ _ _, fun p c h1 h2 h3 => by have := Hid.out HQ; omega, Only.refl _ _⟩
  case round =>
    obtain ⟨z, i, m, hz, hi, rfl, hml, hS, hT, hI, hW⟩ := hrel
    have HS := hidden hS
    have HT := hidden hT
    have HI := hidden hI
    have HW := hidden hW
    clear hS hT hI hW
    cases i with
    | succ j =>
      obtain rfl : z = (j : Int) := by omega
      clear hz
      have hge : (0 : Int) ≤ (j : Int) := by omega
      have HC := hidden (sift_any wr g cap j n a m tl (Hid.out HS) (by omega) (by omega) (by omega) (Hid.out HI))
      rw [hml] at HC
      go_wp2_with (go_at_call 101; refine (Hid.out HC).mono ?_; rintro e w1 ⟨rfl, k, hS2, hT2, hI2, hW2⟩; have HS2 := hidden hS2; have HT2 := hidden hT2; have HI2 := hidden hI2; have HW2 := hidden hW2; clear hS2 hT2 hI2 hW2)
      go_roundw
      case rel => exact ⟨(j : Int) - 1, j, k, rfl, by omega, by simp, by rw [(Hid.out HT2).len]; exact hml, Hid.out HS2, (Hid.out HT).trans ((Hid.out HT2).wide (Nat.le_refl _) (by omega)), Hid.out HI2, (Hid.out HW).trans (Hid.out HW2)⟩
      case measure => simp [intOf]; try omega
    | zero =>
      obtain rfl : z = -1 := by omega
      clear hz
      have HP : Hid (Pop m a n n) := ⟨Hid.out HI, fun p q h1 h2 h3 => by omega, fun p q h1 h2 h3 h4 => by omega⟩
      go_wp2
      go_loopw [10] (fun x10 wr2 => ∃ (z : Int) (i : Nat) (m : List Nat), z = (i : Int) - 1 ∧ i ≤ n ∧ x10 = .int .i64 z ∧ m.length = d.length ∧ Srow wr2 g m tl ∧ Turned d m a b ∧ Pop m a n i ∧ Only g w wr2) (fun x10 _ => ((intOf x10) + 1).toNat)
      case atStart => exact ⟨_, n, m, rfl, by omega, by simp, hml, Hid.out HS, Hid.out HT, Hid.out HP, Hid.out HW⟩
      case round =>
        obtain ⟨z, i, m2, hz, hi2, rfl, hml2, hS, hT, hI, hW⟩ := hrel
        have HS2 := hidden hS
        have HT2 := hidden hT
        have HI2 := hidden hI
        have HW2 := hidden hW
        cases i with
        | succ j =>
          obtain rfl : z = (j : Int) := by omega
          clear hz
          by_cases hj0 : j = 0
          · subst hj0
            have hca := hS.cell (j := a) (by omega)
            have hza := hS.thaw a
            clear hS hT hI hW
            have HN : Hid (∀ u n, Srow u g m2 tl → Srow (((u.drewN n).setCell ⟨g, a, none⟩ (.int .u32 ((m2.getD (a) 0 : Nat) : Int))).setCell ⟨g, a, none⟩ (.int .u32 ((m2.getD a 0 : Nat) : Int))) g (swp m2 a (a)) tl) := fun u n h0 => by
              have h1 := (h0.drewN n).set (j := a) (by omega) (m2.getD (a) 0)
              exact h1.set (j := a) (by rw [List.length_set]; omega) (m2.getD a 0)
            have HC : Hid (∀ u, Srow u g (swp m2 a (a)) tl → Calls Try.prog 101 #[.slice (some ⟨g, 0, none⟩) d.length cap, .int .i64 0, .int .i64 0, .int .i64 (a : Int)] u fun e w' => e = .returned (.tuple #[]) ∧ ∃ m, Srow w' g m tl ∧ Turned (swp m2 a (a)) m a (a) ∧ Heap m a 0 0 ∧ Only g u w') := fun u h0 => by
              have := sift_any u g cap 0 0 a (swp m2 a (a)) tl h0 (by omega) (by rw [swp_len]; omega) (by rw [swp_len]; omega) ((Hid.out HI2).sift (by omega) (by omega))
              rw [swp_len, hml2] at this
              exact this
            generalize hxa : m2.getD a 0 = xa at hca HN
            clear hxa
            go_wp2
            go_region
            all_goals go_wp2_with (go_at_call 101; refine (Hid.out HC _ (Hid.out HN _ _ (Hid.out HS2))).mono ?_; rintro e w1 ⟨rfl, k, hS3, hT3, hI3, hW3⟩; have HS3 := hidden hS3; have HT3 := hidden hT3; have HI3 := hidden hI3; have HW3 := hidden hW3; clear hS3 hT3 hI3 hW3)
            go_roundw
            case rel => exact ⟨(0 : Int) - 1, 0, k, rfl, by omega, by simp, by rw [(Hid.out HT3).len, swp_len]; exact hml2, Hid.out HS3, ((Hid.out HT2).swp ⟨by omega, by omega⟩ ⟨by omega, by omega⟩ (by omega)).trans ((Hid.out HT3).wide (Nat.le_refl _) (by omega)), (Hid.out HI2).step (by omega) (by omega) (Hid.out HT3) (Hid.out HI3), ((((Hid.out HW2).drewN _).setCell _ _).setCell _ _).trans (Hid.out HW3)⟩
            case measure => simp [intOf]; try omega
          · have hge : (0 : Int) ≤ (j : Int) := by omega
            have hj1 : ¬ a + j = a := by omega
            have hj2 : ¬ a = a + j := by omega
            have hca := hS.cell (j := a) (by omega)
            have hza := hS.thaw a
            have hcj := hS.cell (j := a + j) (by omega)
            have hzj := hS.thaw (a + j)
            clear hS hT hI hW
            have HN : Hid (∀ u n, Srow u g m2 tl → Srow (((u.drewN n).setCell ⟨g, a, none⟩ (.int .u32 ((m2.getD (a + j) 0 : Nat) : Int))).setCell ⟨g, a + j, none⟩ (.int .u32 ((m2.getD a 0 : Nat) : Int))) g (swp m2 a (a + j)) tl) := fun u n h0 => by
              have h1 := (h0.drewN n).set (j := a) (by omega) (m2.getD (a + j) 0)
              exact h1.set (j := a + j) (by rw [List.length_set]; omega) (m2.getD a 0)
            have HC : Hid (∀ u, Srow u g (swp m2 a (a + j)) tl → Calls Try.prog 101 #[.slice (some ⟨g, 0, none⟩) d.length cap, .int .i64 0, .int .i64 (j : Int), .int .i64 (a : Int)] u fun e w' => e = .returned (.tuple #[]) ∧ ∃ m, Srow w' g m tl ∧ Turned (swp m2 a (a + j)) m a (a + j) ∧ Heap m a 0 j ∧ Only g u w') := fun u h0 => by
              have := sift_any u g cap 0 j a (swp m2 a (a + j)) tl h0 (by omega) (by rw [swp_len]; omega) (by rw [swp_len]; omega) ((Hid.out HI2).sift (by omega) (by omega))
              rw [swp_len, hml2] at this
              exact this
            generalize hxa : m2.getD a 0 = xa at hca HN
            generalize hxj : m2.getD (a + j) 0 = xj at hcj HN
            clear hxa hxj
            go_wp2
            go_region
            all_goals go_wp2_with (go_at_call 101; refine (Hid.out HC _ (Hid.out HN _ _ (Hid.out HS2))).mono ?_; rintro e w1 ⟨rfl, k, hS3, hT3, hI3, hW3⟩; have HS3 := hidden hS3; have HT3 := hidden hT3; have HI3 := hidden hI3; have HW3 := hidden hW3; clear hS3 hT3 hI3 hW3)
            go_roundw
            case rel => exact ⟨(j : Int) - 1, j, k, rfl, by omega, by simp, by rw [(Hid.out HT3).len, swp_len]; exact hml2, Hid.out HS3, ((Hid.out HT2).swp ⟨by omega, by omega⟩ ⟨by omega, by omega⟩ (by omega)).trans ((Hid.out HT3).wide (Nat.le_refl _) (by omega)), (Hid.out HI2).step (by omega) (by omega) (Hid.out HT3) (Hid.out HI3), ((((Hid.out HW2).drewN _).setCell _ _).setCell _ _).trans (Hid.out HW3)⟩
            case measure => simp [intOf]; try omega
        | zero =>
          obtain rfl : z = -1 := by omega
          clear hz
          clear hS hT hI hW
          go_wp2
          go_end0
          exact ⟨rfl, m2, Hid.out HS2, Hid.out HT2, by rw [Hid.out HB]; exact (Hid.out HI2).sorted, Hid.out HW2⟩
end Go.Proofs.Ytpknppicamefgaa
