/- The library's break of patterns: three exchanges. -/
import Derived.Test.YtodoenimlhldjaaQXors
namespace Go.Proofs.Ytodoenimlhldjaa
open Go.ChangeShapes Go.WideShapes Go.ChangeAt Go.RowKit
set_option linter.unusedVariables false
theorem Srow.lt {w : World} {g : Nat} {d : List Nat} {tl : List Value} (h : Srow w g d tl) : g < w.heap.size := (Array.getElem?_eq_some_iff.1 h).1
theorem Srow.onlyB {w w' : World} {g k : Nat} {d : List Nat} {tl : List Value} (h : Srow w g d tl) (ho : Only k w w') (hne : g ≠ k) : Srow w' g d tl := (ho.block g hne).trans h
theorem Keep.only {g k : Nat} {u w w' : World} (h : Keep (· = g) u w) (ho : Only k w w') (hk : k = g ∨ u.heap.size ≤ k) : Keep (· = g) u w' := h.trans (Keep.of_only ho) fun b hb e => by omega
theorem other_in {n o : Nat} (h : o < 2 * n) : ∃ q : Nat, q < n ∧ ((o < n ∧ q = o) ∨ (n ≤ o ∧ q = o - n)) := by
  by_cases h1 : o < n
  · exact ⟨o, h1, .inl ⟨h1, rfl⟩⟩
  · exact ⟨o - n, by omega, .inr ⟨by omega, rfl⟩⟩
set_option maxRecDepth 20000 in
set_option maxHeartbeats 4000000 in
theorem breaks_any (w : World) (g cap a b : Nat) (d : List Nat) (tl : List Value) (h : Srow w g d tl) (hab : a + 12 < b) (hb : b ≤ d.length) (hlen : d.length ≤ 64) :
    Calls Try.prog 87 #[.slice (some ⟨g, 0, none⟩) d.length cap, .int .i64 (a : Int), .int .i64 (b : Int)] w fun e w' => e = .returned (.tuple #[]) ∧ ∃ m, Srow w' g m tl ∧ Turned d m a b ∧ Keep (· = g) w w' := by
  have hgl := h.lt
  obtain ⟨n, hn⟩ : ∃ n, b = a + n := ⟨b - a, by omega⟩
  have hsub : (b : Int) - (a : Int) = (n : Int) := by omega
  have hn8 : (8 : Int) ≤ (n : Int) := by omega
  have hquo : (n : Int).tdiv 4 = ((n / 4 : Nat) : Int) := by rw [Int.tdiv_eq_ediv_of_nonneg (by omega)]; omega
  obtain ⟨q4, hq4⟩ : ∃ q4, q4 = n / 4 := ⟨_, rfl⟩
  rw [← hq4] at hquo
  have hq5 : 3 ≤ q4 ∧ 4 * q4 ≤ n := by omega
  have hn64 : n ≤ 64 ∧ a + n ≤ 64 := by omega
  obtain ⟨sb, hsb⟩ : ∃ sb, w.heap.size = sb := ⟨_, rfl⟩
  obtain ⟨wa, hwa⟩ : ∃ wa, w.alloc (.cells #[.int .u64 (n : Int)] 149) = wa := ⟨_, rfl⟩
  have hS : Srow wa g d tl := by rw [← hwa]; exact (heap_alloc_old _ _ hgl).trans h
  have hR : Rnd wa sb (n : Int) := by rw [← hwa, ← hsb]; exact heap_alloc_new w _
  have hK : Keep (· = g) w wa := by rw [← hwa]; exact keep_alloc _ w _
  have H102 := hidden (fun u => pow_at n (by omega) (by omega) u)
  have HS := hidden hS
  have HR := hidden hR
  have HK := hidden hK
  have HN := hidden hn
  clear h hS hR hK hq4 hn
  go_enter Try.func87, Try.ntmps87
  go_wp2_with (go_at_call 97; refine (Hid.out H102 _).mono ?_; rintro e w1 ⟨mk, rfl, hmk, hww⟩; rw [hww]; clear hww w1)
  go_loopw [9] (fun x9 wr => ∃ (i p : Nat) (m : List Nat), i ≤ 3 ∧ p + 1 = a + 2 * q4 + i ∧ x9 = .int .i64 (p : Int) ∧ m.length = d.length ∧ Srow wr g m tl ∧ Turned d m a b ∧ (∃ y, Rnd wr sb y) ∧ Keep (· = g) w wr) (fun x9 _ => a + 2 * q4 + 3 - (intOf x9).toNat)
  case atStart => exact ⟨0, a + 2 * q4 - 1, d, by omega, by omega, by simp; omega, rfl, Hid.out HS, Turned.refl _ _ _, ⟨_, Hid.out HR⟩, Hid.out HK⟩
  case round =>
    obtain ⟨i, p, m, hi, hp, rfl, hml, hS, hT, ⟨y, hR⟩, hK⟩ := hrel
    have hbn := Hid.out HN
    by_cases hi3 : i ≤ 2
    · have hle : (p : Int) ≤ (a : Int) + (q4 : Int) * 2 + 1 := by omega
      have hpr : a ≤ p ∧ p < b ∧ p < d.length := by omega
      have H103 : Hid (Calls Try.prog 98 #[.pointer (some ⟨sb, 0, none⟩)] wr fun e w1 => ∃ (r : Int) (o q : Nat), e = .returned (.int .u64 r) ∧ bits .and .u64 r (mk : Int) = (o : Int) ∧ o < 128 ∧ a + q < b ∧ ((o < n ∧ q = o) ∨ (n ≤ o ∧ (o : Int) - (n : Int) = (q : Int))) ∧ (p = a + q ∨ p ≠ a + q) ∧ Srow w1 g m tl ∧ (∃ y, Rnd w1 sb y) ∧ Keep (· = g) w w1) := by
        refine (next_any wr sb y hR).mono ?_
        rintro e w1 ⟨r, y2, he, hR2, ho2⟩
        obtain ⟨o, ho, hol⟩ := and_u64 r mk (by omega)
        have hS2 := hS.onlyB ho2 (by omega)
        have hK2 := hK.only ho2 (.inr (by omega))
        by_cases h1 : o < n
        · exact ⟨r, o, o, he, ho, by omega, by omega, .inl ⟨h1, rfl⟩, by omega, hS2, ⟨y2, hR2⟩, hK2⟩
        · exact ⟨r, o, o - n, he, ho, by omega, by omega, .inr ⟨by omega, by omega⟩, by omega, hS2, ⟨y2, hR2⟩, hK2⟩
      have HT := hidden hT
      have HM : Hid (∀ q, q < m.length → ∀ u n', Srow u g m tl → Srow (((u.drewN n').setCell ⟨g, p, none⟩ (.int .u32 ((m.getD q 0 : Nat) : Int))).setCell ⟨g, q, none⟩ (.int .u32 ((m.getD p 0 : Nat) : Int))) g (swp m p q) tl) := fun q hq u n' h0 => by
        have h1 := (h0.drewN n').set (j := p) (by omega) (m.getD q 0)
        exact h1.set (j := q) (by rw [List.length_set]; omega) (m.getD p 0)
      have HP := hidden hp
      clear hS hT hR hK hp hbn
      go_wp2_with (go_at_call 98; refine (Hid.out H103).mono ?_; rintro e w1 ⟨r, o, q, rfl, hand, ho128, hqb, hcase, hpq, hS1, hR1, hK1⟩; have HCASE := hidden hcase; have HPQ := hidden hpq; have HS1 := hidden hS1; have HR1 := hidden hR1; have HK1 := hidden hK1; clear hcase hpq hS1 hR1 hK1; rcases Hid.out HCASE with ⟨c1, c2⟩ | ⟨c1, c2⟩)
      · subst c2
        have hcp := (Hid.out HS1).cell (j := p) (by omega)
        have hzp := (Hid.out HS1).thaw p
        have hcq := (Hid.out HS1).cell (j := a + q) (by omega)
        have hzq := (Hid.out HS1).thaw (a + q)
        obtain ⟨y1, hR1⟩ := Hid.out HR1
        have HX : Hid (∀ n' v v', Rnd (((w1.drewN n').setCell ⟨g, p, none⟩ v).setCell ⟨g, a + q, none⟩ v') sb y1) := fun n' v v' => (Below.heap_setCell _ _ _ _ (by simp; omega)).trans ((Below.heap_setCell _ _ _ _ (by simp; omega)).trans hR1)
        have HY : Hid (∀ n' v v', Keep (· = g) w (((w1.drewN n').setCell ⟨g, p, none⟩ v).setCell ⟨g, a + q, none⟩ v')) := fun n' v v' => ((Hid.out HK1).drewN n').trans ((keep_setCell _ g p v).trans (keep_setCell _ g (a + q) v') fun b _ e => e) fun b _ e => e
        have HMQ := hidden (Hid.out HM (a + q) (by omega))
        clear HM hR1
        rcases Hid.out HPQ with e | e
        · subst e
          generalize m.getD (a + q) 0 = xq at hcp hcq HMQ
          go_region
          all_goals go_wp2
          go_roundw
          case rel => exact ⟨i + 1, a + q + 1, swp m (a + q) (a + q), by omega, by have := Hid.out HP; omega, by simp, by rw [swp_len]; exact hml, Hid.out HMQ _ _ (Hid.out HS1), (Hid.out HT).swp ⟨by omega, by omega⟩ ⟨by omega, by omega⟩ (by omega), ⟨y1, Hid.out HX _ _ _⟩, Hid.out HY _ _ _⟩
          case measure => simp [intOf]; omega
        · have e2 : ¬ a + q = p := by omega
          generalize m.getD (a + q) 0 = xq at hcq HMQ
          generalize m.getD p 0 = xp at hcp HMQ
          go_region
          all_goals go_wp2
          go_roundw
          case rel => exact ⟨i + 1, p + 1, swp m p (a + q), by omega, by have := Hid.out HP; omega, by simp, by rw [swp_len]; exact hml, Hid.out HMQ _ _ (Hid.out HS1), (Hid.out HT).swp ⟨by omega, by omega⟩ ⟨by omega, by omega⟩ (by omega), ⟨y1, Hid.out HX _ _ _⟩, Hid.out HY _ _ _⟩
          case measure => simp [intOf]; omega
      · have hq0 := hqb
        have hcp := (Hid.out HS1).cell (j := p) (by omega)
        have hzp := (Hid.out HS1).thaw p
        have hcq := (Hid.out HS1).cell (j := a + q) (by omega)
        have hzq := (Hid.out HS1).thaw (a + q)
        obtain ⟨y1, hR1⟩ := Hid.out HR1
        have HX : Hid (∀ n' v v', Rnd (((w1.drewN n').setCell ⟨g, p, none⟩ v).setCell ⟨g, a + q, none⟩ v') sb y1) := fun n' v v' => (Below.heap_setCell _ _ _ _ (by simp; omega)).trans ((Below.heap_setCell _ _ _ _ (by simp; omega)).trans hR1)
        have HY : Hid (∀ n' v v', Keep (· = g) w (((w1.drewN n').setCell ⟨g, p, none⟩ v).setCell ⟨g, a + q, none⟩ v')) := fun n' v v' => ((Hid.out HK1).drewN n').trans ((keep_setCell _ g p v).trans (keep_setCell _ g (a + q) v') fun b _ e => e) fun b _ e => e
        have HMQ := hidden (Hid.out HM (a + q) (by omega))
        clear HM hR1
        rcases Hid.out HPQ with e | e
        · subst e
          generalize m.getD (a + q) 0 = xq at hcp hcq HMQ
          go_region
          all_goals go_wp2
          go_roundw
          case rel => exact ⟨i + 1, a + q + 1, swp m (a + q) (a + q), by omega, by have := Hid.out HP; omega, by simp, by rw [swp_len]; exact hml, Hid.out HMQ _ _ (Hid.out HS1), (Hid.out HT).swp ⟨by omega, by omega⟩ ⟨by omega, by omega⟩ (by omega), ⟨y1, Hid.out HX _ _ _⟩, Hid.out HY _ _ _⟩
          case measure => simp [intOf]; omega
        · have e2 : ¬ a + q = p := by omega
          generalize m.getD (a + q) 0 = xq at hcq HMQ
          generalize m.getD p 0 = xp at hcp HMQ
          go_region
          all_goals go_wp2
          go_roundw
          case rel => exact ⟨i + 1, p + 1, swp m p (a + q), by omega, by have := Hid.out HP; omega, by simp, by rw [swp_len]; exact hml, Hid.out HMQ _ _ (Hid.out HS1), (Hid.out HT).swp ⟨by omega, by omega⟩ ⟨by omega, by omega⟩ (by omega), ⟨y1, Hid.out HX _ _ _⟩, Hid.out HY _ _ _⟩
          case measure => simp [intOf]; omega
    · have hle : ¬ (p : Int) ≤ (a : Int) + (q4 : Int) * 2 + 1 := by omega
      have HS2 := hidden hS
      have HT2 := hidden hT
      have HK2 := hidden hK
      clear hS hT hR hK hbn
      go_wp2
      go_end0
      exact ⟨rfl, m, Hid.out HS2, Hid.out HT2, Hid.out HK2⟩
end Go.Proofs.Ytodoenimlhldjaa
