/- The library's random numbers, and the next power of two. -/
import Derived.Test.YtodoenimlhldjaaBMAJ
import Derived.Test.YtodoenimlhldjaaBMAK
import Derived.Test.YtodoenimlhldjaaBMAL
import Derived.Test.YtodoenimlhldjaaBMAF
import Derived.Laws.CopyOwn
import Derived.Laws.MakeOwn
namespace Go.Proofs.Ytodoenimlhldjaa
open Go.ChangeShapes Go.WideShapes Go.ChangeAt Go.RowKit
set_option linter.unusedVariables false
def Rnd (w : World) (sb : Nat) (z : Int) : Prop := w.heap[sb]? = some (.cells #[.int .u64 z] 149 (0, 0))
theorem Rnd.cell {w : World} {sb : Nat} {z : Int} (h : Rnd w sb z) : w.cell? ⟨sb, 0, none⟩ = some (.int .u64 z) := cell_of_row _ _ _ _ _ _ h
theorem Rnd.thaw {w : World} {sb : Nat} {z : Int} (h : Rnd w sb z) : w.frozen? ⟨sb, 0, none⟩ = false := frozen_of_row _ _ _ _ _ h
theorem Rnd.set {w : World} {sb : Nat} {z : Int} (h : Rnd w sb z) (n : Nat) (y : Int) : Rnd ((w.drewN n).setCell ⟨sb, 0, none⟩ (.int .u64 y)) sb y := heap_setCell_same (w.drewN n) sb 0 #[.int .u64 z] 149 (.int .u64 y) h
theorem Rnd.put {w : World} {sb : Nat} {z : Int} (h : Rnd w sb z) (y : Int) : Rnd ((w.setCell ⟨sb, 0, none⟩ (.int .u64 y)).drew) sb y := heap_setCell_same w sb 0 #[.int .u64 z] 149 (.int .u64 y) h
theorem only_put (w : World) (sb : Nat) (v : Value) : Only sb w ((w.setCell ⟨sb, 0, none⟩ v).drew) := (((Only.refl sb w).setCell 0 v).drewN 1)
set_option maxRecDepth 20000 in
set_option maxHeartbeats 1000000 in
theorem next_any (w : World) (sb : Nat) (z : Int) (h : Rnd w sb z) : Calls Try.prog 98 #[.pointer (some ⟨sb, 0, none⟩)] w fun e w' => ∃ r y : Int, e = .returned (.int .u64 r) ∧ Rnd w' sb y ∧ Only sb w w' := by
  have c0 := h.cell
  have f0 := h.thaw
  have H := hidden h
  clear h
  go_enter Try.func98, Try.ntmps98
  go_wp2
  go_region
  obtain ⟨W1, hW1, r1, o1⟩ : ∃ W1, (w.setCell ⟨sb, 0, none⟩ (.int .u64 (bits .xor .u64 z (IntKind.u64.wrap (z * 8192))))).drew = W1 ∧ Rnd W1 sb (bits .xor .u64 z (IntKind.u64.wrap (z * 8192))) ∧ Only sb w W1 := ⟨_, rfl, Rnd.put (Hid.out H) _, only_put w sb _⟩
  rw [hW1]
  generalize bits .xor .u64 z (IntKind.u64.wrap (z * 8192)) = y1 at r1
  have c1 := r1.cell
  have f1 := r1.thaw
  have R1 := hidden r1
  have O1 := hidden o1
  clear hW1 r1 o1
  go_wp2
  go_region
  obtain ⟨W2, hW2, r2, o2⟩ : ∃ W2, (W1.setCell ⟨sb, 0, none⟩ (.int .u64 (bits .xor .u64 y1 (y1 / 128)))).drew = W2 ∧ Rnd W2 sb (bits .xor .u64 y1 (y1 / 128)) ∧ Only sb W1 W2 := ⟨_, rfl, Rnd.put (Hid.out R1) _, only_put W1 sb _⟩
  rw [hW2]
  generalize bits .xor .u64 y1 (y1 / 128) = y2 at r2
  have c2 := r2.cell
  have f2 := r2.thaw
  have R2 := hidden r2
  have O2 := hidden o2
  clear hW2 r2 o2
  go_wp2
  go_region
  obtain ⟨W3, hW3, r3, o3⟩ : ∃ W3, (W2.setCell ⟨sb, 0, none⟩ (.int .u64 (bits .xor .u64 y2 (IntKind.u64.wrap (y2 * 131072))))).drew = W3 ∧ Rnd W3 sb (bits .xor .u64 y2 (IntKind.u64.wrap (y2 * 131072))) ∧ Only sb W2 W3 := ⟨_, rfl, Rnd.put (Hid.out R2) _, only_put W2 sb _⟩
  rw [hW3]
  generalize bits .xor .u64 y2 (IntKind.u64.wrap (y2 * 131072)) = y3 at r3
  have c3 := r3.cell
  have R3 := hidden r3
  have O3 := hidden o3
  clear hW3 r3 o3
  go_wp2
  go_ret
  exact ⟨_, _, rfl, Hid.out R3, ((Hid.out O1).trans (Hid.out O2)).trans (Hid.out O3)⟩
def lenN (x : Nat) : Nat := if x < 16 then 4 else if x < 32 then 5 else if x < 64 then 6 else 7
set_option maxRecDepth 20000 in
theorem len64_at (x : Nat) (h8 : 8 ≤ x) (h64 : x ≤ 64) (w : World) : Calls Try.prog 95 #[.int .u64 (x : Int)] w fun e w' => e = .returned (.int .i64 (lenN x : Int)) ∧ w' = w := by
  have h1 : ¬ (4294967296 : Int) ≤ (x : Int) := by omega
  have h2 : ¬ (65536 : Int) ≤ (x : Int) := by omega
  have h3 : ¬ (256 : Int) ≤ (x : Int) := by omega
  go_enter Try.func95, Try.ntmps95
  go_wp2
  go_ret
  refine ⟨ret_int ?_, rfl⟩

  rcases (show x = 8 ∨ x = 9 ∨ x = 10 ∨ x = 11 ∨ x = 12 ∨ x = 13 ∨ x = 14 ∨ x = 15 ∨ x = 16 ∨ x = 17 ∨ x = 18 ∨ x = 19 ∨ x = 20 ∨ x = 21 ∨ x = 22 ∨ x = 23 ∨ x = 24 ∨ x = 25 ∨ x = 26 ∨ x = 27 ∨ x = 28 ∨ x = 29 ∨ x = 30 ∨ x = 31 ∨ x = 32 ∨ x = 33 ∨ x = 34 ∨ x = 35 ∨ x = 36 ∨ x = 37 ∨ x = 38 ∨ x = 39 ∨ x = 40 ∨ x = 41 ∨ x = 42 ∨ x = 43 ∨ x = 44 ∨ x = 45 ∨ x = 46 ∨ x = 47 ∨ x = 48 ∨ x = 49 ∨ x = 50 ∨ x = 51 ∨ x = 52 ∨ x = 53 ∨ x = 54 ∨ x = 55 ∨ x = 56 ∨ x = 57 ∨ x = 58 ∨ x = 59 ∨ x = 60 ∨ x = 61 ∨ x = 62 ∨ x = 63 ∨ x = 64 by omega) with rfl | rfl | rfl | rfl | rfl | rfl | rfl | rfl | rfl | rfl | rfl | rfl | rfl | rfl | rfl | rfl | rfl | rfl | rfl | rfl | rfl | rfl | rfl | rfl | rfl | rfl | rfl | rfl | rfl | rfl | rfl | rfl | rfl | rfl | rfl | rfl | rfl | rfl | rfl | rfl | rfl | rfl | rfl | rfl | rfl | rfl | rfl | rfl | rfl | rfl | rfl | rfl | rfl | rfl | rfl | rfl | rfl <;> simp [lenN, wrap64, ByteArray.getElem_eq_getElem_data]
theorem len_at (x : Nat) (h8 : 8 ≤ x) (h64 : x ≤ 64) (w : World) : Calls Try.prog 83 #[.int .u64 (x : Int)] w fun e w' => e = .returned (.int .i64 (lenN x : Int)) ∧ w' = w := by
  have H := hidden (len64_at x h8 h64 w)
  generalize lenN x = q at H ⊢
  go_enter Try.func83, Try.ntmps83
  go_wp2_with (go_at_call 95; refine (Hid.out H).mono ?_; rintro e w1 ⟨rfl, hww⟩; rw [hww]; clear hww w1)
  go_ret
  exact ⟨rfl, rfl⟩
theorem lenN_le {x : Nat} (h8 : 8 ≤ x) (h64 : x ≤ 64) : 4 ≤ lenN x ∧ lenN x ≤ 7 ∧ 2 ^ lenN x ≤ 2 * x := by
  unfold lenN
  by_cases a : x < 16
  · rw [if_pos a]; omega
  · rw [if_neg a]
    by_cases b : x < 32
    · rw [if_pos b]; omega
    · rw [if_neg b]
      by_cases c : x < 64
      · rw [if_pos c]; omega
      · rw [if_neg c]; omega
set_option maxRecDepth 20000 in
theorem pow_at (x : Nat) (h8 : 8 ≤ x) (h64 : x ≤ 64) (w : World) : Calls Try.prog 97 #[.int .i64 (x : Int)] w fun e w' => ∃ m : Nat, e = .returned (.int .u64 ((m + 1 : Nat) : Int)) ∧ m < 2 * x ∧ w' = w := by
  obtain ⟨q, hq⟩ : ∃ q, q = lenN x := ⟨_, rfl⟩
  have H := hidden (len_at x h8 h64 w)
  obtain ⟨l1, l2, l3⟩ := lenN_le h8 h64
  rw [← hq] at H l1 l2 l3
  clear hq
  rcases (show q = 4 ∨ q = 5 ∨ q = 6 ∨ q = 7 by omega) with rfl | rfl | rfl | rfl
  all_goals
    go_enter Try.func97, Try.ntmps97
    go_wp2_with (go_at_call 83; refine (Hid.out H).mono ?_; rintro e w1 ⟨rfl, hww⟩; rw [hww]; clear hww w1)
    go_ret
  · exact ⟨15, ret_int (by decide), by omega, rfl⟩
  · exact ⟨31, ret_int (by decide), by omega, rfl⟩
  · exact ⟨63, ret_int (by decide), by omega, rfl⟩
  · exact ⟨127, ret_int (by decide), by omega, rfl⟩
theorem and_u64 (r : Int) (k : Nat) (hk : k < 18446744073709551616) : ∃ n : Nat, bits .and .u64 r (k : Int) = (n : Int) ∧ n ≤ k := by
  refine ⟨(BitVec.ofInt 64 r &&& BitVec.ofInt 64 (k : Int)).toNat, ?_, ?_⟩
  · show IntKind.u64.wrap ((BitVec.ofInt 64 r &&& BitVec.ofInt 64 (k : Int)).toNat : Nat) = _
    rw [IntKind.wrap_u64]
    have := (BitVec.ofInt 64 r &&& BitVec.ofInt 64 (k : Int)).isLt
    omega
  · rw [BitVec.toNat_and]
    have e : (BitVec.ofInt 64 (k : Int)).toNat = k := by rw [BitVec.toNat_ofInt]; omega
    rw [e]
    exact Nat.and_le_right
end Go.Proofs.Ytodoenimlhldjaa
namespace Go.Proofs.Ytodoenimlhldjaa
open Go.ChangeShapes Go.WideShapes Go.ChangeAt Go.RowKit
set_option linter.unusedVariables false
theorem Srow.lt {w : World} {g : Nat} {d : List Nat} {tl : List Value} (h : Srow w g d tl) : g < w.heap.size := (Array.getElem?_eq_some_iff.1 h).1
theorem Srow.onlyB {w w' : World} {g k : Nat} {d : List Nat} {tl : List Value} (h : Srow w g d tl) (ho : Only k w w') (hne : g ≠ k) : Srow w' g d tl := (ho.block g hne).trans h
theorem Keep.only {g k : Nat} {u w w' : World} (h : Keep (· = g) u w) (ho : Only k w w') (hk : k = g ∨ u.heap.size ≤ k) : Keep (· = g) u w' := h.trans (Keep.of_only ho) fun b hb e => by omega
theorem other_in {n o : Nat} (h : o < 2 * n) : ∃ q : Nat, q < n ∧ ((o < n ∧ q = o) ∨ (n ≤ o ∧ q = o - n)) := by
  by_cases h1 : o < n
  · exact ⟨o, h1, .inl ⟨h1, rfl⟩⟩
  · exact ⟨o - n, by omega, .inr ⟨by omega, rfl⟩⟩
set_option maxRecDepth 20000 in
set_option maxHeartbeats 4000000 in
theorem breaks_any (w : World) (g cap a b : Nat) (d : List Nat) (tl : List Value) (h : Srow w g d tl) (hab : a + 12 < b) (hb : b ≤ d.length) (hlen : d.length ≤ 64) :
    Calls Try.prog 87 #[.slice (some ⟨g, 0, none⟩) d.length cap, .int .i64 (a : Int), .int .i64 (b : Int)] w fun e w' => e = .returned (.tuple #[]) ∧ ∃ m, Srow w' g m tl ∧ Turned d m a b ∧ Keep (· = g) w w' := by
  have hgl := h.lt
  obtain ⟨n, hn⟩ : ∃ n, b = a + n := ⟨b - a, by omega⟩
  have hsub : (b : Int) - (a : Int) = (n : Int) := by omega
  have hn8 : (8 : Int) ≤ (n : Int) := by omega
  have hquo : (n : Int).tdiv 4 = ((n / 4 : Nat) : Int) := by rw [Int.tdiv_eq_ediv_of_nonneg (by omega)]; omega
  obtain ⟨q4, hq4⟩ : ∃ q4, q4 = n / 4 := ⟨_, rfl⟩
  rw [← hq4] at hquo
  have hq5 : 3 ≤ q4 ∧ 4 * q4 ≤ n := by omega
  have hn64 : n ≤ 64 ∧ a + n ≤ 64 := by omega
  obtain ⟨sb, hsb⟩ : ∃ sb, w.heap.size = sb := ⟨_, rfl⟩
  obtain ⟨wa, hwa⟩ : ∃ wa, w.alloc (.cells #[.int .u64 (n : Int)] 149) = wa := ⟨_, rfl⟩
  have hS : Srow wa g d tl := by rw [← hwa]; exact (heap_alloc_old _ _ hgl).trans h
  have hR : Rnd wa sb (n : Int) := by rw [← hwa, ← hsb]; exact heap_alloc_new w _
  have hK : Keep (· = g) w wa := by rw [← hwa]; exact keep_alloc _ w _
  have H102 := hidden (fun u => pow_at n (by omega) (by omega) u)
  have HS := hidden hS
  have HR := hidden hR
  have HK := hidden hK
  have HN := hidden hn
  clear h hS hR hK hq4 hn
  go_enter Try.func87, Try.ntmps87
  go_wp2_with (go_at_call 97; refine (Hid.out H102 _).mono ?_; rintro e w1 ⟨mk, rfl, hmk, hww⟩; rw [hww]; clear hww w1)
  go_loopw [9] (fun x9 wr => ∃ (i p : Nat) (m : List Nat), i ≤ 3 ∧ p + 1 = a + 2 * q4 + i ∧ x9 = .int .i64 (p : Int) ∧ m.length = d.length ∧ Srow wr g m tl ∧ Turned d m a b ∧ (∃ y, Rnd wr sb y) ∧ Keep (· = g) w wr) (fun x9 _ => a + 2 * q4 + 3 - (intOf x9).toNat)
  case atStart => exact ⟨0, a + 2 * q4 - 1, d, by omega, by omega, by simp; omega, rfl, Hid.out HS, Turned.refl _ _ _, ⟨_, Hid.out HR⟩, Hid.out HK⟩
  case round =>
    obtain ⟨i, p, m, hi, hp, rfl, hml, hS, hT, ⟨y, hR⟩, hK⟩ := hrel
    have hbn := Hid.out HN
    by_cases hi3 : i ≤ 2
    · have hle : (p : Int) ≤ (a : Int) + (q4 : Int) * 2 + 1 := by omega
      have hpr : a ≤ p ∧ p < b ∧ p < d.length := by omega
      have H103 : Hid (Calls Try.prog 98 #[.pointer (some ⟨sb, 0, none⟩)] wr fun e w1 => ∃ (r : Int) (o q : Nat), e = .returned (.int .u64 r) ∧ bits .and .u64 r (mk : Int) = (o : Int) ∧ o < 128 ∧ a + q < b ∧ ((o < n ∧ q = o) ∨ (n ≤ o ∧ (o : Int) - (n : Int) = (q : Int))) ∧ (p = a + q ∨ p ≠ a + q) ∧ Srow w1 g m tl ∧ (∃ y, Rnd w1 sb y) ∧ Keep (· = g) w w1) := by
        refine (next_any wr sb y hR).mono ?_
        rintro e w1 ⟨r, y2, he, hR2, ho2⟩
        obtain ⟨o, ho, hol⟩ := and_u64 r mk (by omega)
        have hS2 := hS.onlyB ho2 (by omega)
        have hK2 := hK.only ho2 (.inr (by omega))
        by_cases h1 : o < n
        · exact ⟨r, o, o, he, ho, by omega, by omega, .inl ⟨h1, rfl⟩, by omega, hS2, ⟨y2, hR2⟩, hK2⟩
        · exact ⟨r, o, o - n, he, ho, by omega, by omega, .inr ⟨by omega, by omega⟩, by omega, hS2, ⟨y2, hR2⟩, hK2⟩
      have HT := hidden hT
      have HM : Hid (∀ q, q < m.length → ∀ u n', Srow u g m tl → Srow (((u.drewN n').setCell ⟨g, p, none⟩ (.int .u32 ((m.getD q 0 : Nat) : Int))).setCell ⟨g, q, none⟩ (.int .u32 ((m.getD p 0 : Nat) : Int))) g (swp m p q) tl) := fun q hq u n' h0 => by
        have h1 := (h0.drewN n').set (j := p) (by omega) (m.getD q 0)
        exact h1.set (j := q) (by rw [List.length_set]; omega) (m.getD p 0)
      have HP := hidden hp
      clear hS hT hR hK hp hbn
      go_wp2_with (go_at_call 98; refine (Hid.out H103).mono ?_; rintro e w1 ⟨r, o, q, rfl, hand, ho128, hqb, hcase, hpq, hS1, hR1, hK1⟩; have HCASE := hidden hcase; have HPQ := hidden hpq; have HS1 := hidden hS1; have HR1 := hidden hR1; have HK1 := hidden hK1; clear hcase hpq hS1 hR1 hK1; rcases Hid.out HCASE with ⟨c1, c2⟩ | ⟨c1, c2⟩)
      · subst c2
        have hcp := (Hid.out HS1).cell (j := p) (by omega)
        have hzp := (Hid.out HS1).thaw p
        have hcq := (Hid.out HS1).cell (j := a + q) (by omega)
        have hzq := (Hid.out HS1).thaw (a + q)
        obtain ⟨y1, hR1⟩ := Hid.out HR1
        have HX : Hid (∀ n' v v', Rnd (((w1.drewN n').setCell ⟨g, p, none⟩ v).setCell ⟨g, a + q, none⟩ v') sb y1) := fun n' v v' => (Below.heap_setCell _ _ _ _ (by simp; omega)).trans ((Below.heap_setCell _ _ _ _ (by simp; omega)).trans hR1)
        have HY : Hid (∀ n' v v', Keep (· = g) w (((w1.drewN n').setCell ⟨g, p, none⟩ v).setCell ⟨g, a + q, none⟩ v')) := fun n' v v' => ((Hid.out HK1).drewN n').trans ((keep_setCell _ g p v).trans (keep_setCell _ g (a + q) v') fun b _ e => e) fun b _ e => e
        have HMQ := hidden (Hid.out HM (a + q) (by omega))
        clear HM hR1
        rcases Hid.out HPQ with e | e
        · subst e
          generalize m.getD (a + q) 0 = xq at hcp hcq HMQ
          go_region
          all_goals go_wp2
          go_roundw
          case rel => exact ⟨i + 1, a + q + 1, swp m (a + q) (a + q), by omega, by have := Hid.out HP; omega, by simp, by rw [swp_len]; exact hml, Hid.out HMQ _ _ (Hid.out HS1), (Hid.out HT).swp ⟨by omega, by omega⟩ ⟨by omega, by omega⟩ (by omega), ⟨y1, Hid.out HX _ _ _⟩, Hid.out HY _ _ _⟩
          case measure => simp [intOf]; omega
        · have e2 : ¬ a + q = p := by omega
          generalize m.getD (a + q) 0 = xq at hcq HMQ
          generalize m.getD p 0 = xp at hcp HMQ
          go_region
          all_goals go_wp2
          go_roundw
          case rel => exact ⟨i + 1, p + 1, swp m p (a + q), by omega, by have := Hid.out HP; omega, by simp, by rw [swp_len]; exact hml, Hid.out HMQ _ _ (Hid.out HS1), (Hid.out HT).swp ⟨by omega, by omega⟩ ⟨by omega, by omega⟩ (by omega), ⟨y1, Hid.out HX _ _ _⟩, Hid.out HY _ _ _⟩
          case measure => simp [intOf]; omega
      · have hq0 := hqb
        have hcp := (Hid.out HS1).cell (j := p) (by omega)
        have hzp := (Hid.out HS1).thaw p
        have hcq := (Hid.out HS1).cell (j := a + q) (by omega)
        have hzq := (Hid.out HS1).thaw (a + q)
        obtain ⟨y1, hR1⟩ := Hid.out HR1
        have HX : Hid (∀ n' v v', Rnd (((w1.drewN n').setCell ⟨g, p, none⟩ v).setCell ⟨g, a + q, none⟩ v') sb y1) := fun n' v v' => (Below.heap_setCell _ _ _ _ (by simp; omega)).trans ((Below.heap_setCell _ _ _ _ (by simp; omega)).trans hR1)
        have HY : Hid (∀ n' v v', Keep (· = g) w (((w1.drewN n').setCell ⟨g, p, none⟩ v).setCell ⟨g, a + q, none⟩ v')) := fun n' v v' => ((Hid.out HK1).drewN n').trans ((keep_setCell _ g p v).trans (keep_setCell _ g (a + q) v') fun b _ e => e) fun b _ e => e
        have HMQ := hidden (Hid.out HM (a + q) (by omega))
        clear HM hR1
        rcases Hid.out HPQ with e | e
        · subst e
          generalize m.getD (a + q) 0 = xq at hcp hcq HMQ
          go_region
          all_goals go_wp2
          go_roundw
          case rel => exact ⟨i + 1, a + q + 1, swp m (a + q) (a + q), by omega, by have := Hid.out HP; omega, by simp, by rw [swp_len]; exact hml, Hid.out HMQ _ _ (Hid.out HS1), (Hid.out HT).swp ⟨by omega, by omega⟩ ⟨by omega, by omega⟩ (by omega), ⟨y1, Hid.out HX _ _ _⟩, Hid.out HY _ _ _⟩
          case measure => simp [intOf]; omega
        · have e2 : ¬ a + q = p := by omega
          generalize m.getD (a + q) 0 = xq at hcq HMQ
          generalize m.getD p 0 = xp at hcp HMQ
          go_region
          all_goals go_wp2
          go_roundw
          case rel => exact ⟨i + 1, p + 1, swp m p (a + q), by omega, by have := Hid.out HP; omega, by simp, by rw [swp_len]; exact hml, Hid.out HMQ _ _ (Hid.out HS1), (Hid.out HT).swp ⟨by omega, by omega⟩ ⟨by omega, by omega⟩ (by omega), ⟨y1, Hid.out HX _ _ _⟩, Hid.out HY _ _ _⟩
          case measure => simp [intOf]; omega
    · have hle : ¬ (p : Int) ≤ (a : Int) + (q4 : Int) * 2 + 1 := by omega
      have HS2 := hidden hS
      have HT2 := hidden hT
      have HK2 := hidden hK
      clear hS hT hR hK hbn
      go_wp2
      go_end0
      exact ⟨rfl, m, Hid.out HS2, Hid.out HT2, Hid.out HK2⟩
end Go.Proofs.Ytodoenimlhldjaa
namespace Go.Proofs.Ytodoenimlhldjaa
open Go.ChangeShapes Go.WideShapes Go.ChangeAt Go.RowKit
set_option linter.unusedVariables false
/-- A row that may be read: m elements of z cells. -/
def Rw (w : World) (z : Nat) (v : Value) (m : Nat) (cs : List Value) : Prop := cs.length = m * z ∧ ∃ ao cap, v = .slice ao m cap ∧ (m = 0 ∨ ∃ b off, ao = some ⟨b, off, none⟩ ∧ b < w.heap.size ∧ ∀ j u, cs[j]? = some u → w.cell? ⟨b, off + j, none⟩ = some u)
theorem Rw.later {w w' : World} {z m : Nat} {v : Value} {cs : List Value} (h : Rw w z v m cs) (hb : Below w.heap.size w w') : Rw w' z v m cs := by
  obtain ⟨hl, ao, cap, e, h⟩ := h
  refine ⟨hl, ao, cap, e, ?_⟩
  rcases h with h | ⟨b, off, e2, hlt, hc⟩
  · exact .inl h
  · exact .inr ⟨b, off, e2, Nat.lt_of_lt_of_le hlt hb.size, fun j u hu => (hb.cell (p := ⟨b, off + j, none⟩) hlt).trans (hc j u hu)⟩
/-- A row that does not lie in block g. -/
def RwA (g : Nat) (w : World) (z : Nat) (v : Value) (m : Nat) (cs : List Value) : Prop := Rw w z v m cs ∧ (m = 0 ∨ ∀ b off l c, v = .slice (some ⟨b, off, none⟩) l c → b ≠ g)
theorem Rw.avoid {w : World} {z m g : Nat} {v : Value} {cs : List Value} (h : Rw w z v m cs) (hg : w.heap.size ≤ g) : RwA g w z v m cs := by
  refine ⟨h, ?_⟩
  obtain ⟨_, ao, cap, e, h⟩ := h
  rcases h with h | ⟨b, off, e2, hlt, _⟩
  · exact .inl h
  · refine .inr fun b' off' l c e3 => ?_
    rw [e, e2] at e3
    injection e3 with e4
    injection e4 with e5
    injection e5 with e6
    omega
theorem RwA.keep {g : Nat} {w w' : World} {z m : Nat} {v : Value} {cs : List Value} (h : RwA g w z v m cs) (k : Keep (· = g) w w') : RwA g w' z v m cs := by
  obtain ⟨⟨hl, ao, cap, e, h⟩, ha⟩ := h
  refine ⟨⟨hl, ao, cap, e, ?_⟩, ha⟩
  rcases h with h | ⟨b, off, e2, hlt, hc⟩
  · exact .inl h
  · by_cases h0 : m = 0
    · exact .inl h0
    · have hne : b ≠ g := (ha.resolve_left h0) b off m cap (by rw [e, e2])
      exact .inr ⟨b, off, e2, Nat.lt_of_lt_of_le hlt k.size, fun j u hu => (World.cell?_of_block (a := ⟨b, off + j, none⟩) (k.block b hlt hne)).trans (hc j u hu)⟩
/-- A row of the call's own, as it was made: no room to spare. -/
def Fr (w : World) (N : Nat) (T : TypeId) (v : Value) (m : Nat) (cs : List Value) : Prop := ∃ g, N ≤ g ∧ v = .slice (some ⟨g, 0, none⟩) m m ∧ Blk w g cs.toArray T
theorem Fr.rw {w : World} {N z m : Nat} {T : TypeId} {v : Value} {cs : List Value} (h : Fr w N T v m cs) (hl : cs.length = m * z) : Rw w z v m cs := by
  obtain ⟨g, _, e, hb⟩ := h
  refine ⟨hl, _, _, e, .inr ⟨g, 0, rfl, hb.lt, fun j u hu => ?_⟩⟩
  rw [Nat.zero_add]
  exact hb.cell (by simpa using hu)
theorem Fr.later {w w' : World} {N m : Nat} {T : TypeId} {v : Value} {cs : List Value} (h : Fr w N T v m cs) (hb : Below w.heap.size w w') : Fr w' N T v m cs := by
  obtain ⟨g, hN, e, hk⟩ := h
  exact ⟨g, hN, e, hk.later hb⟩
theorem Fr.mono {w : World} {N M m : Nat} {T : TypeId} {v : Value} {cs : List Value} (h : Fr w N T v m cs) (hM : M ≤ N) : Fr w M T v m cs := by
  obtain ⟨g, hN, e, hk⟩ := h
  exact ⟨g, Nat.le_trans hM hN, e, hk⟩
theorem Fr.keep {w w' : World} {N m n : Nat} {T : TypeId} {v : Value} {cs : List Value} (h : Fr w N T v m cs) (k : Keep (· = n) w w') (hn : n < N) : Fr w' N T v m cs := by
  obtain ⟨g, hN, e, hk⟩ := h
  exact ⟨g, hN, e, (k.block g hk.lt (by show ¬ g = n; omega)).trans hk⟩
theorem run_copyZ (w : World) (dT sT ty elem : TypeId) (z n g cap : Nat) (ad : Addr) (cur : Array Value) (t : TypeId) (cs : List Value) (hu : Try.prog.underlying dT = some (.slice elem)) (hs : (Try.prog.info? elem).map (·.size) = some z)
    (hg : w.heap[g]? = some (.cells cur t (0, 0))) (hc : cur.size = n * z) (hn : cs.length = n * z) (hsrc : ∀ j v, cs[j]? = some v → w.cell? (ad.add j) = some v) (h1 : ∀ v ∈ cs, v.oneCell' = true) :
    (Builtin.copy_ #[dT, sT] ty #[.slice (some ⟨g, 0, none⟩) n n, .slice (some ad) n cap]).run Try.prog w = .ok (goInt n) (w.setRow g cs.toArray) := by
  have hl := run_loadCells_list (P := Try.prog) w ad cs hsrc
  have hst := run_storeCells_at Try.prog g 0 t cs 0 cur w hg (by omega) h1
  have hd : cur.toList.drop (0 + 0 + cs.length) = [] := List.drop_eq_nil_of_le (by simp [hc, hn])
  rw [hd] at hst
  simp only [Nat.add_zero, List.take_zero, List.nil_append, List.append_nil] at hst
  cases hq : Try.prog.info? elem with
  | none => simp [hq] at hs
  | some i =>
    have hi : i.size = z := by simpa [hq] using hs
    simp [Builtin.copy_, run_underlying hu, Builtin.lenOf, Builtin.firstCells, sizeOf, typeInfo, hq, hi, ← hn, hl, hst]
theorem run_copyZ0 (w : World) (dT sT ty elem : TypeId) (z : Nat) (d a : Option Addr) (dc sc : Nat) (hu : Try.prog.underlying dT = some (.slice elem)) (hs : (Try.prog.info? elem).map (·.size) = some z) :
    (Builtin.copy_ #[dT, sT] ty #[.slice d 0 dc, .slice a 0 sc]).run Try.prog w = .ok (goInt 0) w := by
  have hl : ∀ (x : Addr), (loadCells x 0).run Try.prog w = .ok #[] w := fun x => by simpa using run_loadCells_list (P := Try.prog) w x [] (by simp)
  cases hq : Try.prog.info? elem with
  | none => simp [hq] at hs
  | some i => cases d <;> cases a <;> simp [Builtin.copy_, run_underlying hu, Builtin.lenOf, Builtin.firstCells, sizeOf, typeInfo, hq, storeCells, hl]
theorem wpList_copyZ {w : World} {ops : Array Oper} {rest : List Oper} {o : Oper} {a : Act} {Q : Exit → Act → World → Prop} (hgd : o.guard = none) (d s : Operand) (dT sT : TypeId)
    (ho : o.op = .call { callee := .builtin .copy, args := #[d, s], argTypes := #[dT, sT] }) (elem : TypeId) (hu : Try.prog.underlying dT = some (.slice elem)) (z : Nat) (hsz : (Try.prog.info? elem).map (·.size) = some z)
    (n g : Nat) (v : Value) (cs cur : List Value) (t : TypeId) (hd : a.eval d = .slice (some ⟨g, 0, none⟩) n n) (hs : a.eval s = v) (hr : Rw w z v n cs) (hg : Blk w g cur.toArray t) (hc : cur.length = n * z) (h1 : ∀ u ∈ cs, u.oneCell' = true)
    (h : ∀ w', Blk w' g cs.toArray t → Only g w w' → wpList Try.prog ops Q rest (a.put o.dst (goInt n)) w') : wpList Try.prog ops Q (o :: rest) a w := by
  refine wpList_plain hgd fun K hK => ?_
  obtain ⟨hl, ao, cap, rfl, hr⟩ := hr
  by_cases h0 : n = 0
  · subst h0
    have hrun := run_copyZ0 w dT sT o.type elem z (some ⟨g, 0, none⟩) ao 0 cap hu hsz
    have e1 : cs = [] := List.eq_nil_of_length_eq_zero (by omega)
    have e2 : cur = [] := List.eq_nil_of_length_eq_zero (by omega)
    subst e1
    subst e2
    unfold Oper.wp
    simp [execOp, ho, resolve, invoke, builtin, hd, hs, hrun, Result.andThen]
    exact hK _ _ (h w hg (Only.refl g w))
  · obtain ⟨b, off, rfl, hlt, hcell⟩ := hr.resolve_left h0
    have hrun := run_copyZ w dT sT o.type elem z n g cap ⟨b, off, none⟩ cur.toArray t cs hu hsz hg (by simpa using hc) hl (fun j u hu => by rw [Addr.add_lit]; exact hcell j u hu) h1
    unfold Oper.wp
    simp [execOp, ho, resolve, invoke, builtin, hd, hs, hrun, Result.andThen]
    exact hK _ _ (h _ (setRow_heap w g _ _ _ _ hg) (only_rowV w g _))
/-- Numbers, and events, as cells. -/
def cI (l : List Int) : List Value := l.map (Value.int .i64)
def cE (l : List (Int × ByteArray)) : List Value := l.flatMap fun e => [Value.int .u32 e.1, .string e.2]
theorem cI_len (l : List Int) : (cI l).length = l.length * 1 := by simp [cI]
theorem cE_len (l : List (Int × ByteArray)) : (cE l).length = l.length * 2 := by
  induction l with
  | nil => rfl
  | cons x l ih => show (_ :: _ :: cE l).length = _; rw [List.length_cons, List.length_cons, ih, List.length_cons]; omega
theorem cI_one (l : List Int) : ∀ u ∈ cI l, u.oneCell' = true := by
  intro u hu
  obtain ⟨x, _, rfl⟩ := List.mem_map.1 hu
  rfl
theorem cE_one (l : List (Int × ByteArray)) : ∀ u ∈ cE l, u.oneCell' = true := by
  intro u hu
  obtain ⟨x, _, hx⟩ := List.mem_flatMap.1 hu
  simp only [List.mem_cons, List.mem_nil_iff, or_false] at hx
  rcases hx with rfl | rfl <;> rfl
/-- A world's cells. -/
abbrev cwC (inp : ByteArray) (at_ : Int) (rd : Value) (us : Int) (ev : Value) : Array Value := #[.string inp, .int .i64 at_, rd, .int .i64 us, ev]
theorem sizeCw : (Try.prog.info? 38).map (·.size) = some 5 := by kernel_rfl
theorem sizeE2 : (Try.prog.info? 66).map (·.size) = some 2 := by kernel_rfl
theorem sizeI1 : (Try.prog.info? 3).map (·.size) = some 1 := by kernel_rfl
end Go.Proofs.Ytodoenimlhldjaa
namespace Go.Proofs.Ytodoenimlhldjaa
open Go.ChangeShapes Go.WideShapes Go.ChangeAt Go.RowKit
set_option linter.unusedVariables false
theorem make_I (M : Nat) (h : M ≤ 16384) (w : World) : (Instr.makeSlice 27 (.int .i64 (M : Int)) (.int .i64 (M : Int))).run Try.prog w = .ok (.slice (some ⟨w.heap.size, 0, none⟩) M M) (w.alloc (.cells (madeCells #[.int .i64 0] (M * 1)) 3)) := by
  obtain ⟨i, hi⟩ : ∃ i, Try.prog.info? 3 = some i := info_of_underlying Try.underlying3
  have hp : (Try.prog.info? 3).map (fun i => (i.zero, i.size, decide (i.bytes ≤ 64))) = some (some (.int .i64 0), 1, true) := by kernel_rfl
  rw [hi] at hp
  simp only [Option.map_some, Option.some.injEq, Prod.mk.injEq, decide_eq_true_eq] at hp
  obtain ⟨hz0, hz1, hz2⟩ := hp
  have h2 : (i.bytes : Int) ≤ 64 := by omega
  have h3 : (i.bytes : Int) * (M : Int) ≤ 64 * (M : Int) := Int.mul_le_mul_of_nonneg_right h2 (by omega)
  have h := run_make (P := Try.prog) w 27 3 i (.int .i64 0) Try.underlying27 hi hz0 .i64 .i64 (M : Int) (M : Int) (by omega) (Int.le_refl _) (by omega) (by omega)
  rw [hz1, Int.toNat_natCast] at h
  exact h
set_option maxRecDepth 20000 in
set_option maxHeartbeats 1000000 in
theorem anewI_any (w : World) (v : Value) (n : Nat) (cs : List Value) (hn : n ≤ 16384) (hr : Rw w 1 v n cs) (h1 : ∀ u ∈ cs, u.oneCell' = true) : Calls Try.prog 49 #[v] w fun e w' => ∃ v', e = .returned v' ∧ Fr w' w.heap.size 3 v' n cs ∧ Below w.heap.size w w' := by
  have HR := hidden hr
  have H1 := hidden h1
  obtain ⟨g, hg⟩ : ∃ g, w.heap.size = g := ⟨_, rfl⟩
  have hmk := make_I n hn w
  obtain ⟨cur, hcur⟩ : ∃ cur, madeCells #[.int .i64 0] (n * 1) = cur := ⟨_, rfl⟩
  have hcl : cur.toList.length = n * 1 := by rw [← hcur]; simp [madeCells]
  have hkb := Blk.new w cur 3
  have hbb := below_new w (.cells cur 3)
  rw [hcur] at hmk
  rw [hg] at hkb hbb
  obtain ⟨w1, hw1⟩ : ∃ w1, w.alloc (.cells cur 3) = w1 := ⟨_, rfl⟩
  rw [hw1] at hmk hkb hbb
  rw [hg] at hmk
  have hr1 := hr.later (w' := w1) (by rw [hg]; exact hbb)
  obtain ⟨hl, ao, cap, rfl, hrow⟩ := hr
  have HR1 := hidden hr1
  have HK := hidden hkb
  have HB := hidden hbb
  have HC := hidden hcl
  have HG := hidden hg
  clear hr1 hkb hbb hcl hrow hl h1 hw1 hg hcur hn
  go_enter Try.func49, Try.ntmps49
  go_wp2_with (first
    | (refine wpList_copyZ rfl _ _ 27 27 rfl 3 Try.underlying27 1 sizeI1 n g _ cs cur.toList 3 rfl rfl HR1.out HK.out HC.out H1.out ?_; rintro w2 k2 o2; have K2 := hidden k2; have B2 := hidden (Below.only HB.out o2 (Nat.le_refl g)); clear k2 o2))
  go_ret
  exact ⟨_, rfl, by rw [HG.out]; exact ⟨g, Nat.le_refl g, rfl, K2.out⟩, by rw [HG.out]; exact B2.out⟩
theorem make_E (M : Nat) (h : M ≤ 16384) (w : World) : (Instr.makeSlice 28 (.int .i64 (M : Int)) (.int .i64 (M : Int))).run Try.prog w = .ok (.slice (some ⟨w.heap.size, 0, none⟩) M M) (w.alloc (.cells (madeCells #[.int .u32 0, .string ⟨#[]⟩] (M * 2)) 66)) := by
  obtain ⟨i, hi⟩ : ∃ i, Try.prog.info? 66 = some i := info_of_underlying Try.underlying66
  have hp : (Try.prog.info? 66).map (fun i => (i.zero, i.size, decide (i.bytes ≤ 64))) = some (some (.agg #[.int .u32 0, .string ⟨#[]⟩]), 2, true) := by kernel_rfl
  rw [hi] at hp
  simp only [Option.map_some, Option.some.injEq, Prod.mk.injEq, decide_eq_true_eq] at hp
  obtain ⟨hz0, hz1, hz2⟩ := hp
  have h2 : (i.bytes : Int) ≤ 64 := by omega
  have h3 : (i.bytes : Int) * (M : Int) ≤ 64 * (M : Int) := Int.mul_le_mul_of_nonneg_right h2 (by omega)
  have h := run_make (P := Try.prog) w 28 66 i (.agg #[.int .u32 0, .string ⟨#[]⟩]) Try.underlying28 hi hz0 .i64 .i64 (M : Int) (M : Int) (by omega) (Int.le_refl _) (by omega) (by omega)
  rw [hz1, Int.toNat_natCast] at h
  exact h
set_option maxRecDepth 20000 in
set_option maxHeartbeats 1000000 in
theorem anewE_any (w : World) (v : Value) (n : Nat) (cs : List Value) (hn : n ≤ 16384) (hr : Rw w 2 v n cs) (h1 : ∀ u ∈ cs, u.oneCell' = true) : Calls Try.prog 63 #[v] w fun e w' => ∃ v', e = .returned v' ∧ Fr w' w.heap.size 66 v' n cs ∧ Below w.heap.size w w' := by
  have HR := hidden hr
  have H1 := hidden h1
  obtain ⟨g, hg⟩ : ∃ g, w.heap.size = g := ⟨_, rfl⟩
  have hmk := make_E n hn w
  obtain ⟨cur, hcur⟩ : ∃ cur, madeCells #[.int .u32 0, .string ⟨#[]⟩] (n * 2) = cur := ⟨_, rfl⟩
  have hcl : cur.toList.length = n * 2 := by rw [← hcur]; simp [madeCells]
  have hkb := Blk.new w cur 66
  have hbb := below_new w (.cells cur 66)
  rw [hcur] at hmk
  rw [hg] at hkb hbb
  obtain ⟨w1, hw1⟩ : ∃ w1, w.alloc (.cells cur 66) = w1 := ⟨_, rfl⟩
  rw [hw1] at hmk hkb hbb
  rw [hg] at hmk
  have hr1 := hr.later (w' := w1) (by rw [hg]; exact hbb)
  obtain ⟨hl, ao, cap, rfl, hrow⟩ := hr
  have HR1 := hidden hr1
  have HK := hidden hkb
  have HB := hidden hbb
  have HC := hidden hcl
  have HG := hidden hg
  clear hr1 hkb hbb hcl hrow hl h1 hw1 hg hcur hn
  go_enter Try.func63, Try.ntmps63
  go_wp2_with (first
    | (refine wpList_copyZ rfl _ _ 28 28 rfl 66 Try.underlying28 2 sizeE2 n g _ cs cur.toList 66 rfl rfl HR1.out HK.out HC.out H1.out ?_; rintro w2 k2 o2; have K2 := hidden k2; have B2 := hidden (Below.only HB.out o2 (Nat.le_refl g)); clear k2 o2))
  go_ret
  exact ⟨_, rfl, by rw [HG.out]; exact ⟨g, Nat.le_refl g, rfl, K2.out⟩, by rw [HG.out]; exact B2.out⟩
end Go.Proofs.Ytodoenimlhldjaa
