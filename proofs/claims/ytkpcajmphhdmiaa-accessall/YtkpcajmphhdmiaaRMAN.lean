/- The library's random numbers, and the next power of two. -/
import Derived.Test.YtkpcajmphhdmiaaRMAJ
import Derived.Test.YtkpcajmphhdmiaaRMAK
import Derived.Test.YtkpcajmphhdmiaaRMAL
import Derived.Test.YtkpcajmphhdmiaaRMAM
namespace Go.Proofs.Ytkpcajmphhdmiaa
open Go.ChangeShapes Go.WideShapes Go.ChangeAt Go.RowKit
set_option linter.unusedVariables false
def Rnd (w : World) (sb : Nat) (z : Int) : Prop := w.heap[sb]? = some (.cells #[.int .u64 z] 146 (0, 0))
theorem Rnd.cell {w : World} {sb : Nat} {z : Int} (h : Rnd w sb z) : w.cell? ⟨sb, 0, none⟩ = some (.int .u64 z) := cell_of_row _ _ _ _ _ _ h
theorem Rnd.thaw {w : World} {sb : Nat} {z : Int} (h : Rnd w sb z) : w.frozen? ⟨sb, 0, none⟩ = false := frozen_of_row _ _ _ _ _ h
theorem Rnd.set {w : World} {sb : Nat} {z : Int} (h : Rnd w sb z) (n : Nat) (y : Int) : Rnd ((w.drewN n).setCell ⟨sb, 0, none⟩ (.int .u64 y)) sb y := heap_setCell_same (w.drewN n) sb 0 #[.int .u64 z] 146 (.int .u64 y) h
theorem Rnd.put {w : World} {sb : Nat} {z : Int} (h : Rnd w sb z) (y : Int) : Rnd ((w.setCell ⟨sb, 0, none⟩ (.int .u64 y)).drew) sb y := heap_setCell_same w sb 0 #[.int .u64 z] 146 (.int .u64 y) h
theorem only_put (w : World) (sb : Nat) (v : Value) : Only sb w ((w.setCell ⟨sb, 0, none⟩ v).drew) := (((Only.refl sb w).setCell 0 v).drewN 1)
set_option maxRecDepth 20000 in
set_option maxHeartbeats 1000000 in
theorem next_any (w : World) (sb : Nat) (z : Int) (h : Rnd w sb z) : Calls Try.prog 96 #[.pointer (some ⟨sb, 0, none⟩)] w fun e w' => ∃ r y : Int, e = .returned (.int .u64 r) ∧ Rnd w' sb y ∧ Only sb w w' := by
  have c0 := h.cell
  have f0 := h.thaw
  have H := hidden h
  clear h
  go_enter Try.func96, Try.ntmps96
  go_wp2
  go_region
  obtain ⟨W1, hW1, r1, o1⟩ : ∃ W1, (w.setCell ⟨sb, 0, none⟩ (.int .u64 (bits .xor .u64 z (IntKind.u64.wrap (z * 8192))))).drew = W1 ∧ Rnd W1 sb (bits .xor .u64 z (IntKind.u64.wrap (z * 8192))) ∧ Only sb w W1 := ⟨_, rfl, Rnd.put (Hid.out H) _, only_put w sb _⟩
  rw [hW1]
  generalize bits .xor .u64 z (IntKind.u64.wrap (z * 8192)) = y1 at r1
  have c1 := r1.cell
  have f1 := r1.thaw
  have R1 := hidden r1
  have O1 := hidden o1
  clear hW1 r1 o1
  go_wp2
  go_region
  obtain ⟨W2, hW2, r2, o2⟩ : ∃ W2, (W1.setCell ⟨sb, 0, none⟩ (.int .u64 (bits .xor .u64 y1 (y1 / 128)))).drew = W2 ∧ Rnd W2 sb (bits .xor .u64 y1 (y1 / 128)) ∧ Only sb W1 W2 := ⟨_, rfl, Rnd.put (Hid.out R1) _, only_put W1 sb _⟩
  rw [hW2]
  generalize bits .xor .u64 y1 (y1 / 128) = y2 at r2
  have c2 := r2.cell
  have f2 := r2.thaw
  have R2 := hidden r2
  have O2 := hidden o2
  clear hW2 r2 o2
  go_wp2
  go_region
  obtain ⟨W3, hW3, r3, o3⟩ : ∃ W3, (W2.setCell ⟨sb, 0, none⟩ (.int .u64 (bits .xor .u64 y2 (IntKind.u64.wrap (y2 * 131072))))).drew = W3 ∧ Rnd W3 sb (bits .xor .u64 y2 (IntKind.u64.wrap (y2 * 131072))) ∧ Only sb W2 W3 := ⟨_, rfl, Rnd.put (Hid.out R2) _, only_put W2 sb _⟩
  rw [hW3]
  generalize bits .xor .u64 y2 (IntKind.u64.wrap (y2 * 131072)) = y3 at r3
  have c3 := r3.cell
  have R3 := hidden r3
  have O3 := hidden o3
  clear hW3 r3 o3
  go_wp2
  go_ret
  exact ⟨_, _, rfl, Hid.out R3, ((Hid.out O1).trans (Hid.out O2)).trans (Hid.out O3)⟩
def lenN (x : Nat) : Nat := if x < 16 then 4 else if x < 32 then 5 else if x < 64 then 6 else 7
set_option maxRecDepth 20000 in
theorem len64_at (x : Nat) (h8 : 8 ≤ x) (h64 : x ≤ 64) (w : World) : Calls Try.prog 92 #[.int .u64 (x : Int)] w fun e w' => e = .returned (.int .i64 (lenN x : Int)) ∧ w' = w := by
  have h1 : ¬ (4294967296 : Int) ≤ (x : Int) := by omega
  have h2 : ¬ (65536 : Int) ≤ (x : Int) := by omega
  have h3 : ¬ (256 : Int) ≤ (x : Int) := by omega
  go_enter Try.func92, Try.ntmps92
  go_wp2
  go_ret
  refine ⟨ret_int ?_, rfl⟩

  rcases (show x = 8 ∨ x = 9 ∨ x = 10 ∨ x = 11 ∨ x = 12 ∨ x = 13 ∨ x = 14 ∨ x = 15 ∨ x = 16 ∨ x = 17 ∨ x = 18 ∨ x = 19 ∨ x = 20 ∨ x = 21 ∨ x = 22 ∨ x = 23 ∨ x = 24 ∨ x = 25 ∨ x = 26 ∨ x = 27 ∨ x = 28 ∨ x = 29 ∨ x = 30 ∨ x = 31 ∨ x = 32 ∨ x = 33 ∨ x = 34 ∨ x = 35 ∨ x = 36 ∨ x = 37 ∨ x = 38 ∨ x = 39 ∨ x = 40 ∨ x = 41 ∨ x = 42 ∨ x = 43 ∨ x = 44 ∨ x = 45 ∨ x = 46 ∨ x = 47 ∨ x = 48 ∨ x = 49 ∨ x = 50 ∨ x = 51 ∨ x = 52 ∨ x = 53 ∨ x = 54 ∨ x = 55 ∨ x = 56 ∨ x = 57 ∨ x = 58 ∨ x = 59 ∨ x = 60 ∨ x = 61 ∨ x = 62 ∨ x = 63 ∨ x = 64 by omega) with rfl | rfl | rfl | rfl | rfl | rfl | rfl | rfl | rfl | rfl | rfl | rfl | rfl | rfl | rfl | rfl | rfl | rfl | rfl | rfl | rfl | rfl | rfl | rfl | rfl | rfl | rfl | rfl | rfl | rfl | rfl | rfl | rfl | rfl | rfl | rfl | rfl | rfl | rfl | rfl | rfl | rfl | rfl | rfl | rfl | rfl | rfl | rfl | rfl | rfl | rfl | rfl | rfl | rfl | rfl | rfl | rfl <;> simp [lenN, wrap64, ByteArray.getElem_eq_getElem_data]
theorem len_at (x : Nat) (h8 : 8 ≤ x) (h64 : x ≤ 64) (w : World) : Calls Try.prog 80 #[.int .u64 (x : Int)] w fun e w' => e = .returned (.int .i64 (lenN x : Int)) ∧ w' = w := by
  have H := hidden (len64_at x h8 h64 w)
  generalize lenN x = q at H ⊢
  go_enter Try.func80, Try.ntmps80
  go_wp2_with (go_at_call 92; refine (Hid.out H).mono ?_; rintro e w1 ⟨rfl, hww⟩; rw [hww]; clear hww w1)
  go_ret
  exact ⟨rfl, rfl⟩
theorem lenN_le {x : Nat} (h8 : 8 ≤ x) (h64 : x ≤ 64) : 4 ≤ lenN x ∧ lenN x ≤ 7 ∧ 2 ^ lenN x ≤ 2 * x := by
  unfold lenN
  by_cases a : x < 16
  · rw [if_pos a]; omega
  · rw [if_neg a]
    by_cases b : x < 32
    · rw [if_pos b]; omega
    · rw [if_neg b]
      by_cases c : x < 64
      · rw [if_pos c]; omega
      · rw [if_neg c]; omega
set_option maxRecDepth 20000 in
theorem pow_at (x : Nat) (h8 : 8 ≤ x) (h64 : x ≤ 64) (w : World) : Calls Try.prog 95 #[.int .i64 (x : Int)] w fun e w' => ∃ m : Nat, e = .returned (.int .u64 ((m + 1 : Nat) : Int)) ∧ m < 2 * x ∧ w' = w := by
  obtain ⟨q, hq⟩ : ∃ q, q = lenN x := ⟨_, rfl⟩
  have H := hidden (len_at x h8 h64 w)
  obtain ⟨l1, l2, l3⟩ := lenN_le h8 h64
  rw [← hq] at H l1 l2 l3
  clear hq
  rcases (show q = 4 ∨ q = 5 ∨ q = 6 ∨ q = 7 by omega) with rfl | rfl | rfl | rfl
  all_goals
    go_enter Try.func95, Try.ntmps95
    go_wp2_with (go_at_call 80; refine (Hid.out H).mono ?_; rintro e w1 ⟨rfl, hww⟩; rw [hww]; clear hww w1)
    go_ret
  · exact ⟨15, ret_int (by decide), by omega, rfl⟩
  · exact ⟨31, ret_int (by decide), by omega, rfl⟩
  · exact ⟨63, ret_int (by decide), by omega, rfl⟩
  · exact ⟨127, ret_int (by decide), by omega, rfl⟩
theorem and_u64 (r : Int) (k : Nat) (hk : k < 18446744073709551616) : ∃ n : Nat, bits .and .u64 r (k : Int) = (n : Int) ∧ n ≤ k := by
  refine ⟨(BitVec.ofInt 64 r &&& BitVec.ofInt 64 (k : Int)).toNat, ?_, ?_⟩
  · show IntKind.u64.wrap ((BitVec.ofInt 64 r &&& BitVec.ofInt 64 (k : Int)).toNat : Nat) = _
    rw [IntKind.wrap_u64]
    have := (BitVec.ofInt 64 r &&& BitVec.ofInt 64 (k : Int)).isLt
    omega
  · rw [BitVec.toNat_and]
    have e : (BitVec.ofInt 64 (k : Int)).toNat = k := by rw [BitVec.toNat_ofInt]; omega
    rw [e]
    exact Nat.and_le_right
end Go.Proofs.Ytkpcajmphhdmiaa
namespace Go.Proofs.Ytkpcajmphhdmiaa
open Go.ChangeShapes Go.WideShapes Go.ChangeAt Go.RowKit
set_option linter.unusedVariables false
theorem Srow.lt {w : World} {g : Nat} {d : List Nat} {tl : List Value} (h : Srow w g d tl) : g < w.heap.size := (Array.getElem?_eq_some_iff.1 h).1
theorem Srow.onlyB {w w' : World} {g k : Nat} {d : List Nat} {tl : List Value} (h : Srow w g d tl) (ho : Only k w w') (hne : g ≠ k) : Srow w' g d tl := (ho.block g hne).trans h
theorem Keep.only {g k : Nat} {u w w' : World} (h : Keep (· = g) u w) (ho : Only k w w') (hk : k = g ∨ u.heap.size ≤ k) : Keep (· = g) u w' := h.trans (Keep.of_only ho) fun b hb e => by omega
theorem other_in {n o : Nat} (h : o < 2 * n) : ∃ q : Nat, q < n ∧ ((o < n ∧ q = o) ∨ (n ≤ o ∧ q = o - n)) := by
  by_cases h1 : o < n
  · exact ⟨o, h1, .inl ⟨h1, rfl⟩⟩
  · exact ⟨o - n, by omega, .inr ⟨by omega, rfl⟩⟩
set_option maxRecDepth 20000 in
set_option maxHeartbeats 4000000 in
theorem breaks_any (w : World) (g cap a b : Nat) (d : List Nat) (tl : List Value) (h : Srow w g d tl) (hab : a + 12 < b) (hb : b ≤ d.length) (hlen : d.length ≤ 64) :
    Calls Try.prog 84 #[.slice (some ⟨g, 0, none⟩) d.length cap, .int .i64 (a : Int), .int .i64 (b : Int)] w fun e w' => e = .returned (.tuple #[]) ∧ ∃ m, Srow w' g m tl ∧ Turned d m a b ∧ Keep (· = g) w w' := by
  have hgl := h.lt
  obtain ⟨n, hn⟩ : ∃ n, b = a + n := ⟨b - a, by omega⟩
  have hsub : (b : Int) - (a : Int) = (n : Int) := by omega
  have hn8 : (8 : Int) ≤ (n : Int) := by omega
  have hquo : (n : Int).tdiv 4 = ((n / 4 : Nat) : Int) := by rw [Int.tdiv_eq_ediv_of_nonneg (by omega)]; omega
  obtain ⟨q4, hq4⟩ : ∃ q4, q4 = n / 4 := ⟨_, rfl⟩
  rw [← hq4] at hquo
  have hq5 : 3 ≤ q4 ∧ 4 * q4 ≤ n := by omega
  have hn64 : n ≤ 64 ∧ a + n ≤ 64 := by omega
  obtain ⟨sb, hsb⟩ : ∃ sb, w.heap.size = sb := ⟨_, rfl⟩
  obtain ⟨wa, hwa⟩ : ∃ wa, w.alloc (.cells #[.int .u64 (n : Int)] 146) = wa := ⟨_, rfl⟩
  have hS : Srow wa g d tl := by rw [← hwa]; exact (heap_alloc_old _ _ hgl).trans h
  have hR : Rnd wa sb (n : Int) := by rw [← hwa, ← hsb]; exact heap_alloc_new w _
  have hK : Keep (· = g) w wa := by rw [← hwa]; exact keep_alloc _ w _
  have H102 := hidden (fun u => pow_at n (by omega) (by omega) u)
  have HS := hidden hS
  have HR := hidden hR
  have HK := hidden hK
  have HN := hidden hn
  clear h hS hR hK hq4 hn
  go_enter Try.func84, Try.ntmps84
  go_wp2_with (go_at_call 95; refine (Hid.out H102 _).mono ?_; rintro e w1 ⟨mk, rfl, hmk, hww⟩; rw [hww]; clear hww w1)
  go_loopw [9] (fun x9 wr => ∃ (i p : Nat) (m : List Nat), i ≤ 3 ∧ p + 1 = a + 2 * q4 + i ∧ x9 = .int .i64 (p : Int) ∧ m.length = d.length ∧ Srow wr g m tl ∧ Turned d m a b ∧ (∃ y, Rnd wr sb y) ∧ Keep (· = g) w wr) (fun x9 _ => a + 2 * q4 + 3 - (intOf x9).toNat)
  case atStart => exact ⟨0, a + 2 * q4 - 1, d, by omega, by omega, by simp; omega, rfl, Hid.out HS, Turned.refl _ _ _, ⟨_, Hid.out HR⟩, Hid.out HK⟩
  case round =>
    obtain ⟨i, p, m, hi, hp, rfl, hml, hS, hT, ⟨y, hR⟩, hK⟩ := hrel
    have hbn := Hid.out HN
    by_cases hi3 : i ≤ 2
    · have hle : (p : Int) ≤ (a : Int) + (q4 : Int) * 2 + 1 := by omega
      have hpr : a ≤ p ∧ p < b ∧ p < d.length := by omega
      have H103 : Hid (Calls Try.prog 96 #[.pointer (some ⟨sb, 0, none⟩)] wr fun e w1 => ∃ (r : Int) (o q : Nat), e = .returned (.int .u64 r) ∧ bits .and .u64 r (mk : Int) = (o : Int) ∧ o < 128 ∧ a + q < b ∧ ((o < n ∧ q = o) ∨ (n ≤ o ∧ (o : Int) - (n : Int) = (q : Int))) ∧ (p = a + q ∨ p ≠ a + q) ∧ Srow w1 g m tl ∧ (∃ y, Rnd w1 sb y) ∧ Keep (· = g) w w1) := by
        refine (next_any wr sb y hR).mono ?_
        rintro e w1 ⟨r, y2, he, hR2, ho2⟩
        obtain ⟨o, ho, hol⟩ := and_u64 r mk (by omega)
        have hS2 := hS.onlyB ho2 (by omega)
        have hK2 := hK.only ho2 (.inr (by omega))
        by_cases h1 : o < n
        · exact ⟨r, o, o, he, ho, by omega, by omega, .inl ⟨h1, rfl⟩, by omega, hS2, ⟨y2, hR2⟩, hK2⟩
        · exact ⟨r, o, o - n, he, ho, by omega, by omega, .inr ⟨by omega, by omega⟩, by omega, hS2, ⟨y2, hR2⟩, hK2⟩
      have HT := hidden hT
      have HM : Hid (∀ q, q < m.length → ∀ u n', Srow u g m tl → Srow (((u.drewN n').setCell ⟨g, p, none⟩ (.int .u32 ((m.getD q 0 : Nat) : Int))).setCell ⟨g, q, none⟩ (.int .u32 ((m.getD p 0 : Nat) : Int))) g (swp m p q) tl) := fun q hq u n' h0 => by
        have h1 := (h0.drewN n').set (j := p) (by omega) (m.getD q 0)
        exact h1.set (j := q) (by rw [List.length_set]; omega) (m.getD p 0)
      have HP := hidden hp
      clear hS hT hR hK hp hbn
      go_wp2_with (go_at_call 96; refine (Hid.out H103).mono ?_; rintro e w1 ⟨r, o, q, rfl, hand, ho128, hqb, hcase, hpq, hS1, hR1, hK1⟩; have HCASE := hidden hcase; have HPQ := hidden hpq; have HS1 := hidden hS1; have HR1 := hidden hR1; have HK1 := hidden hK1; clear hcase hpq hS1 hR1 hK1; rcases Hid.out HCASE with ⟨c1, c2⟩ | ⟨c1, c2⟩)
      · subst c2
        have hcp := (Hid.out HS1).cell (j := p) (by omega)
        have hzp := (Hid.out HS1).thaw p
        have hcq := (Hid.out HS1).cell (j := a + q) (by omega)
        have hzq := (Hid.out HS1).thaw (a + q)
        obtain ⟨y1, hR1⟩ := Hid.out HR1
        have HX : Hid (∀ n' v v', Rnd (((w1.drewN n').setCell ⟨g, p, none⟩ v).setCell ⟨g, a + q, none⟩ v') sb y1) := fun n' v v' => (Below.heap_setCell _ _ _ _ (by simp; omega)).trans ((Below.heap_setCell _ _ _ _ (by simp; omega)).trans hR1)
        have HY : Hid (∀ n' v v', Keep (· = g) w (((w1.drewN n').setCell ⟨g, p, none⟩ v).setCell ⟨g, a + q, none⟩ v')) := fun n' v v' => ((Hid.out HK1).drewN n').trans ((keep_setCell _ g p v).trans (keep_setCell _ g (a + q) v') fun b _ e => e) fun b _ e => e
        have HMQ := hidden (Hid.out HM (a + q) (by omega))
        clear HM hR1
        rcases Hid.out HPQ with e | e
        · subst e
          generalize m.getD (a + q) 0 = xq at hcp hcq HMQ
          go_region
          all_goals go_wp2
          go_roundw
          case rel => exact ⟨i + 1, a + q + 1, swp m (a + q) (a + q), by omega, by have := Hid.out HP; omega, by simp, by rw [swp_len]; exact hml, Hid.out HMQ _ _ (Hid.out HS1), (Hid.out HT).swp ⟨by omega, by omega⟩ ⟨by omega, by omega⟩ (by omega), ⟨y1, Hid.out HX _ _ _⟩, Hid.out HY _ _ _⟩
          case measure => simp [intOf]; omega
        · have e2 : ¬ a + q = p := by omega
          generalize m.getD (a + q) 0 = xq at hcq HMQ
          generalize m.getD p 0 = xp at hcp HMQ
          go_region
          all_goals go_wp2
          go_roundw
          case rel => exact ⟨i + 1, p + 1, swp m p (a + q), by omega, by have := Hid.out HP; omega, by simp, by rw [swp_len]; exact hml, Hid.out HMQ _ _ (Hid.out HS1), (Hid.out HT).swp ⟨by omega, by omega⟩ ⟨by omega, by omega⟩ (by omega), ⟨y1, Hid.out HX _ _ _⟩, Hid.out HY _ _ _⟩
          case measure => simp [intOf]; omega
      · have hq0 := hqb
        have hcp := (Hid.out HS1).cell (j := p) (by omega)
        have hzp := (Hid.out HS1).thaw p
        have hcq := (Hid.out HS1).cell (j := a + q) (by omega)
        have hzq := (Hid.out HS1).thaw (a + q)
        obtain ⟨y1, hR1⟩ := Hid.out HR1
        have HX : Hid (∀ n' v v', Rnd (((w1.drewN n').setCell ⟨g, p, none⟩ v).setCell ⟨g, a + q, none⟩ v') sb y1) := fun n' v v' => (Below.heap_setCell _ _ _ _ (by simp; omega)).trans ((Below.heap_setCell _ _ _ _ (by simp; omega)).trans hR1)
        have HY : Hid (∀ n' v v', Keep (· = g) w (((w1.drewN n').setCell ⟨g, p, none⟩ v).setCell ⟨g, a + q, none⟩ v')) := fun n' v v' => ((Hid.out HK1).drewN n').trans ((keep_setCell _ g p v).trans (keep_setCell _ g (a + q) v') fun b _ e => e) fun b _ e => e
        have HMQ := hidden (Hid.out HM (a + q) (by omega))
        clear HM hR1
        rcases Hid.out HPQ with e | e
        · subst e
          generalize m.getD (a + q) 0 = xq at hcp hcq HMQ
          go_region
          all_goals go_wp2
          go_roundw
          case rel => exact ⟨i + 1, a + q + 1, swp m (a + q) (a + q), by omega, by have := Hid.out HP; omega, by simp, by rw [swp_len]; exact hml, Hid.out HMQ _ _ (Hid.out HS1), (Hid.out HT).swp ⟨by omega, by omega⟩ ⟨by omega, by omega⟩ (by omega), ⟨y1, Hid.out HX _ _ _⟩, Hid.out HY _ _ _⟩
          case measure => simp [intOf]; omega
        · have e2 : ¬ a + q = p := by omega
          generalize m.getD (a + q) 0 = xq at hcq HMQ
          generalize m.getD p 0 = xp at hcp HMQ
          go_region
          all_goals go_wp2
          go_roundw
          case rel => exact ⟨i + 1, p + 1, swp m p (a + q), by omega, by have := Hid.out HP; omega, by simp, by rw [swp_len]; exact hml, Hid.out HMQ _ _ (Hid.out HS1), (Hid.out HT).swp ⟨by omega, by omega⟩ ⟨by omega, by omega⟩ (by omega), ⟨y1, Hid.out HX _ _ _⟩, Hid.out HY _ _ _⟩
          case measure => simp [intOf]; omega
    · have hle : ¬ (p : Int) ≤ (a : Int) + (q4 : Int) * 2 + 1 := by omega
      have HS2 := hidden hS
      have HT2 := hidden hT
      have HK2 := hidden hK
      clear hS hT hR hK hbn
      go_wp2
      go_end0
      exact ⟨rfl, m, Hid.out HS2, Hid.out HT2, Hid.out HK2⟩
end Go.Proofs.Ytkpcajmphhdmiaa
namespace Go.Proofs.Ytkpcajmphhdmiaa
open Go.ChangeShapes Go.WideShapes Go.ChangeAt Go.RowKit
set_option linter.unusedVariables false
def Low (m : List Nat) (a b : Nat) : Prop := 0 < a → ∀ p, a ≤ p → p < b → m.getD (a - 1) 0 ≤ m.getD p 0
/-- Within [A, B) all but what lies in [a, b) is in its place. -/
def Ord (m : List Nat) (A B a b : Nat) : Prop := ∀ p q, A ≤ p → p < q → q < B → (p < a ∨ b ≤ q) → m.getD p 0 ≤ m.getD q 0
structure Pq (w wx : World) (g : Nat) (d m : List Nat) (tl : List Value) (A B a b : Nat) : Prop where
  row : Srow wx g m tl
  tur : Turned d m A B
  ord : Ord m A B a b
  low : Low m a b
  keep : Keep (· = g) w wx
theorem Pq.len {w wx : World} {g A B a b : Nat} {d m : List Nat} {tl : List Value} (h : Pq w wx g d m tl A B a b) : m.length = d.length := h.tur.len
theorem Keep.thru {g : Nat} {u v w : World} (h : Keep (· = g) u v) (k : Keep (· = g) v w) : Keep (· = g) u w := h.trans k fun _ _ e => e
theorem Pq.turned {w wx wy : World} {g A B a b : Nat} {d m k : List Nat} {tl : List Value} (h : Pq w wx g d m tl A B a b) (hr : Srow wy g k tl) (ht : Turned m k a b) (hk : Keep (· = g) wx wy) (h1 : A ≤ a) (h2 : a ≤ b) (h3 : b ≤ B) (h4 : B ≤ d.length) : Pq w wy g d k tl A B a b := by
  have hl := h.len
  refine ⟨hr, h.tur.trans (ht.wide h1 h3), fun p q hp hpq hq hor => ?_, fun ha p hp hpb => ?_, h.keep.thru hk⟩
  · rcases hor with hpa | hqb
    · rw [ht.out p (by omega)]
      by_cases hin : a ≤ q ∧ q < b
      · exact ht.all h2 (by omega) (fun x => m.getD p 0 ≤ x) (fun j j1 j2 => h.ord p j hp (by omega) (by omega) (.inl hpa)) q hin.1 hin.2
      · rw [ht.out q (by omega)]
        exact h.ord p q hp hpq hq (.inl hpa)
    · rw [ht.out q (by omega)]
      by_cases hin : a ≤ p ∧ p < b
      · exact ht.all h2 (by omega) (fun x => x ≤ m.getD q 0) (fun j j1 j2 => h.ord j q (by omega) (by omega) hq (.inr hqb)) p hin.1 hin.2
      · rw [ht.out p (by omega)]
        exact h.ord p q hp hpq hq (.inr hqb)
  · rw [ht.out (a - 1) (by omega)]
    exact ht.all h2 (by omega) (fun x => m.getD (a - 1) 0 ≤ x) (fun j j1 j2 => h.low ha j j1 j2) p hp hpb
theorem Pq.done {w wx : World} {g A B a b : Nat} {d m : List Nat} {tl : List Value} (h : Pq w wx g d m tl A B a b) (hs : SortedOn m a b) : SortedOn m A B := by
  intro p q hp hpq hq
  by_cases hin : p < a ∨ b ≤ q
  · exact h.ord p q hp hpq hq hin
  · exact hs p q (by omega) hpq (by omega)
/-- Behind partitionEqual. -/
theorem Pq.equal {w wx : World} {g A B a b i j : Nat} {d m : List Nat} {tl : List Value} (h : Pq w wx g d m tl A B a b) (ha : 0 < a) (hv : m.getD a 0 ≤ m.getD (a - 1) 0) (hp : PEq m a b i j) (h1 : A ≤ a) (hai : a < i) (hib : i ≤ b) (h3 : b ≤ B) : Pq w wx g d m tl A B i b := by
  have hlow : ∀ p q, a ≤ p → p < i → a ≤ q → q < b → m.getD p 0 ≤ m.getD q 0 := fun p q p1 p2 q1 q2 => Nat.le_trans (hp.low p p1 p2) (Nat.le_trans hv (h.low ha q q1 q2))
  refine ⟨h.row, h.tur, fun p q hp1 hpq hq hor => ?_, fun _ p hp1 hp2 => hlow (i - 1) p (by omega) (by omega) (by omega) hp2, h.keep⟩
  by_cases hin : p < a ∨ b ≤ q
  · exact h.ord p q hp1 hpq hq hin
  · exact hlow p q (by omega) (by omega) (by omega) (by omega)
/-- Behind partition and the sort of the left part. -/
theorem Pq.left {w wx wy : World} {g A B a b j : Nat} {d m k : List Nat} {tl : List Value} (h : Pq w wx g d m tl A B a b) (hm : Mid m a b j) (hr : Srow wy g k tl) (ht : Turned m k a j) (hs : SortedOn k a j) (hk : Keep (· = g) wx wy) (h1 : A ≤ a) (haj : a ≤ j) (hjb : j < b) (h3 : b ≤ B) (h4 : B ≤ d.length) : Pq w wy g d k tl A B (j + 1) b := by
  have hl := h.len
  have hP := h.turned hr (ht.wide (Nat.le_refl _) (Nat.le_of_lt hjb)) hk h1 (by omega) h3 h4
  have hj : k.getD j 0 = m.getD j 0 := ht.out j (by omega)
  have hhi : ∀ q, j < q → q < b → k.getD j 0 ≤ k.getD q 0 := fun q q1 q2 => by rw [hj, ht.out q (by omega)]; exact hm.high q q1 q2
  have hlo : ∀ p, a ≤ p → p < j → k.getD p 0 ≤ k.getD j 0 := fun p p1 p2 => by
    rw [hj]
    exact ht.all haj (by omega) (fun x => x ≤ m.getD j 0) (fun i i1 i2 => hm.low i i1 i2) p p1 p2
  refine ⟨hr, hP.tur, fun p q hp1 hpq hq hor => ?_, fun _ p hp1 hp2 => by rw [Nat.add_sub_cancel]; exact hhi p (by omega) hp2, hP.keep⟩
  by_cases hin : p < a ∨ b ≤ q
  · exact hP.ord p q hp1 hpq hq hin
  · by_cases hpj : p = j
    · subst hpj
      exact hhi q hpq (by omega)
    · have hpj2 : p < j := by omega
      by_cases hqj : q < j
      · exact hs p q (by omega) hpq hqj
      · by_cases hqe : q = j
        · subst hqe
          exact hlo p (by omega) hpj2
        · exact Nat.le_trans (hlo p (by omega) hpj2) (hhi q (by omega) (by omega))
/-- Behind partition and the sort of the right part. -/
theorem Pq.right {w wx wy : World} {g A B a b j : Nat} {d m k : List Nat} {tl : List Value} (h : Pq w wx g d m tl A B a b) (hm : Mid m a b j) (hr : Srow wy g k tl) (ht : Turned m k (j + 1) b) (hs : SortedOn k (j + 1) b) (hk : Keep (· = g) wx wy) (h1 : A ≤ a) (haj : a ≤ j) (hjb : j < b) (h3 : b ≤ B) (h4 : B ≤ d.length) : Pq w wy g d k tl A B a j := by
  have hl := h.len
  have hP := h.turned hr (ht.wide (by omega) (Nat.le_refl _)) hk h1 (by omega) h3 h4
  have hj : k.getD j 0 = m.getD j 0 := ht.out j (by omega)
  have hlo : ∀ p, a ≤ p → p < j → k.getD p 0 ≤ k.getD j 0 := fun p p1 p2 => by rw [hj, ht.out p (by omega)]; exact hm.low p p1 p2
  have hhi : ∀ q, j < q → q < b → k.getD j 0 ≤ k.getD q 0 := fun q q1 q2 => by
    rw [hj]
    exact ht.all (by omega) (by omega) (fun x => m.getD j 0 ≤ x) (fun i i1 i2 => hm.high i (by omega) i2) q (by omega) q2
  refine ⟨hr, hP.tur, fun p q hp1 hpq hq hor => ?_, fun ha p hp1 hp2 => hP.low ha p hp1 (by omega), hP.keep⟩
  by_cases hin : p < a ∨ b ≤ q
  · exact hP.ord p q hp1 hpq hq hin
  · by_cases hqj : q = j
    · subst hqj
      exact hlo p (by omega) hpq
    · have hqj2 : j < q := by omega
      by_cases hpj : j < p
      · exact hs p q (by omega) hpq (by omega)
      · by_cases hpe : p = j
        · subst hpe
          exact hhi q hqj2 (by omega)
        · exact Nat.le_trans (hlo p (by omega) (by omega)) (hhi q hqj2 (by omega))
end Go.Proofs.Ytkpcajmphhdmiaa
