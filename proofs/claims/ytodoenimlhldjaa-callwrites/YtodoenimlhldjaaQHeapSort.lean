/- The library's heap sort, walked. -/
import Derived.Test.YtodoenimlhldjaaQHeapsW
namespace Go.Proofs.Ytodoenimlhldjaa
open Go.ChangeShapes Go.WideShapes Go.ChangeAt Go.RowKit
set_option linter.unusedVariables false
set_option maxRecDepth 20000 in
set_option maxHeartbeats 4000000 in
theorem heapsort_any (w : World) (g cap a b : Nat) (d : List Nat) (tl : List Value) (h : Srow w g d tl) (hab : a < b) (hb : b ≤ d.length) (hlen : d.length ≤ 1152921504606846976) :
    Calls Try.prog 86 #[.slice (some ⟨g, 0, none⟩) d.length cap, .int .i64 (a : Int), .int .i64 (b : Int)] w fun e w' => e = .returned (.tuple #[]) ∧ ∃ m, Srow w' g m tl ∧ Turned d m a b ∧ SortedOn m a b ∧ Only g w w' := by
  have H := hidden h
  clear h
  obtain ⟨n, hn⟩ : ∃ n, b = a + n := ⟨b - a, by omega⟩
  have hsub : (b : Int) - (a : Int) = (n : Int) := by omega
  have hquo : ((n : Int) - 1).tdiv 2 = (((n - 1) / 2 : Nat) : Int) := by
    rw [Int.tdiv_eq_ediv_of_nonneg (by omega)]; omega
  have hquo2 : IntKind.i64.wrap ((((n - 1) / 2 : Nat) : Int)) = (((n - 1) / 2 : Nat) : Int) := by rw [IntKind.wrap_i64]; omega
  obtain ⟨q, hq⟩ : ∃ q, q = (n - 1) / 2 := ⟨_, rfl⟩
  rw [← hq] at hquo hquo2
  have HQ := hidden hq
  have HB := hidden hn
  have hnb : a + n ≤ b ∧ b ≤ a + n := by omega
  clear hq hn
  go_enter Try.func86, Try.ntmps86
  go_wp2
  go_loopw [9] (fun x9 wr => ∃ (z : Int) (i : Nat) (m : List Nat), z = (i : Int) - 1 ∧ i ≤ n ∧ x9 = .int .i64 z ∧ m.length = d.length ∧ Srow wr g m tl ∧ Turned d m a b ∧ Heap m a i n ∧ Only g w wr) (fun x9 _ => ((intOf x9) + 1).toNat)
  case atStart => exact ⟨q, q + 1, d, by omega, by have := Hid.out HQ; omega, rfl, rfl, Hid.out H, Turned.refl _ _ _, fun p c h1 h2 h3 => by have := Hid.out HQ; omega, Only.refl _ _⟩
  case round =>
    obtain ⟨z, i, m, hz, hi, rfl, hml, hS, hT, hI, hW⟩ := hrel
    have HS := hidden hS
    have HT := hidden hT
    have HI := hidden hI
    have HW := hidden hW
    clear hS hT hI hW
    cases i with
    | succ j =>
      obtain rfl : z = (j : Int) := by omega
      clear hz
      have hge : (0 : Int) ≤ (j : Int) := by omega
      have HC := hidden (sift_any wr g cap j n a m tl (Hid.out HS) (by omega) (by omega) (by omega) (Hid.out HI))
      rw [hml] at HC
      go_wp2_with (go_at_call 96; refine (Hid.out HC).mono ?_; rintro e w1 ⟨rfl, k, hS2, hT2, hI2, hW2⟩; have HS2 := hidden hS2; have HT2 := hidden hT2; have HI2 := hidden hI2; have HW2 := hidden hW2; clear hS2 hT2 hI2 hW2)
      go_roundw
      case rel => exact ⟨(j : Int) - 1, j, k, rfl, by omega, by simp, by rw [(Hid.out HT2).len]; exact hml, Hid.out HS2, (Hid.out HT).trans ((Hid.out HT2).wide (Nat.le_refl _) (by omega)), Hid.out HI2, (Hid.out HW).trans (Hid.out HW2)⟩
      case measure => simp [intOf]; try omega
    | zero =>
      obtain rfl : z = -1 := by omega
      clear hz
      have HP : Hid (Pop m a n n) := ⟨Hid.out HI, fun p q h1 h2 h3 => by omega, fun p q h1 h2 h3 h4 => by omega⟩
      go_wp2
      go_loopw [10] (fun x10 wr2 => ∃ (z : Int) (i : Nat) (m : List Nat), z = (i : Int) - 1 ∧ i ≤ n ∧ x10 = .int .i64 z ∧ m.length = d.length ∧ Srow wr2 g m tl ∧ Turned d m a b ∧ Pop m a n i ∧ Only g w wr2) (fun x10 _ => ((intOf x10) + 1).toNat)
      case atStart => exact ⟨_, n, m, rfl, by omega, by simp, hml, Hid.out HS, Hid.out HT, Hid.out HP, Hid.out HW⟩
      case round =>
        obtain ⟨z, i, m2, hz, hi2, rfl, hml2, hS, hT, hI, hW⟩ := hrel
        have HS2 := hidden hS
        have HT2 := hidden hT
        have HI2 := hidden hI
        have HW2 := hidden hW
        cases i with
        | succ j =>
          obtain rfl : z = (j : Int) := by omega
          clear hz
          by_cases hj0 : j = 0
          · subst hj0
            have hca := hS.cell (j := a) (by omega)
            have hza := hS.thaw a
            clear hS hT hI hW
            have HN : Hid (∀ u n, Srow u g m2 tl → Srow (((u.drewN n).setCell ⟨g, a, none⟩ (.int .u32 ((m2.getD (a) 0 : Nat) : Int))).setCell ⟨g, a, none⟩ (.int .u32 ((m2.getD a 0 : Nat) : Int))) g (swp m2 a (a)) tl) := fun u n h0 => by
              have h1 := (h0.drewN n).set (j := a) (by omega) (m2.getD (a) 0)
              exact h1.set (j := a) (by rw [List.length_set]; omega) (m2.getD a 0)
            have HC : Hid (∀ u, Srow u g (swp m2 a (a)) tl → Calls Try.prog 96 #[.slice (some ⟨g, 0, none⟩) d.length cap, .int .i64 0, .int .i64 0, .int .i64 (a : Int)] u fun e w' => e = .returned (.tuple #[]) ∧ ∃ m, Srow w' g m tl ∧ Turned (swp m2 a (a)) m a (a) ∧ Heap m a 0 0 ∧ Only g u w') := fun u h0 => by
              have := sift_any u g cap 0 0 a (swp m2 a (a)) tl h0 (by omega) (by rw [swp_len]; omega) (by rw [swp_len]; omega) ((Hid.out HI2).sift (by omega) (by omega))
              rw [swp_len, hml2] at this
              exact this
            generalize hxa : m2.getD a 0 = xa at hca HN
            clear hxa
            go_wp2
            go_region
            all_goals go_wp2_with (go_at_call 96; refine (Hid.out HC _ (Hid.out HN _ _ (Hid.out HS2))).mono ?_; rintro e w1 ⟨rfl, k, hS3, hT3, hI3, hW3⟩; have HS3 := hidden hS3; have HT3 := hidden hT3; have HI3 := hidden hI3; have HW3 := hidden hW3; clear hS3 hT3 hI3 hW3)
            go_roundw
            case rel => exact ⟨(0 : Int) - 1, 0, k, rfl, by omega, by simp, by rw [(Hid.out HT3).len, swp_len]; exact hml2, Hid.out HS3, ((Hid.out HT2).swp ⟨by omega, by omega⟩ ⟨by omega, by omega⟩ (by omega)).trans ((Hid.out HT3).wide (Nat.le_refl _) (by omega)), (Hid.out HI2).step (by omega) (by omega) (Hid.out HT3) (Hid.out HI3), ((((Hid.out HW2).drewN _).setCell _ _).setCell _ _).trans (Hid.out HW3)⟩
            case measure => simp [intOf]; try omega
          · have hge : (0 : Int) ≤ (j : Int) := by omega
            have hj1 : ¬ a + j = a := by omega
            have hj2 : ¬ a = a + j := by omega
            have hca := hS.cell (j := a) (by omega)
            have hza := hS.thaw a
            have hcj := hS.cell (j := a + j) (by omega)
            have hzj := hS.thaw (a + j)
            clear hS hT hI hW
            have HN : Hid (∀ u n, Srow u g m2 tl → Srow (((u.drewN n).setCell ⟨g, a, none⟩ (.int .u32 ((m2.getD (a + j) 0 : Nat) : Int))).setCell ⟨g, a + j, none⟩ (.int .u32 ((m2.getD a 0 : Nat) : Int))) g (swp m2 a (a + j)) tl) := fun u n h0 => by
              have h1 := (h0.drewN n).set (j := a) (by omega) (m2.getD (a + j) 0)
              exact h1.set (j := a + j) (by rw [List.length_set]; omega) (m2.getD a 0)
            have HC : Hid (∀ u, Srow u g (swp m2 a (a + j)) tl → Calls Try.prog 96 #[.slice (some ⟨g, 0, none⟩) d.length cap, .int .i64 0, .int .i64 (j : Int), .int .i64 (a : Int)] u fun e w' => e = .returned (.tuple #[]) ∧ ∃ m, Srow w' g m tl ∧ Turned (swp m2 a (a + j)) m a (a + j) ∧ Heap m a 0 j ∧ Only g u w') := fun u h0 => by
              have := sift_any u g cap 0 j a (swp m2 a (a + j)) tl h0 (by omega) (by rw [swp_len]; omega) (by rw [swp_len]; omega) ((Hid.out HI2).sift (by omega) (by omega))
              rw [swp_len, hml2] at this
              exact this
            generalize hxa : m2.getD a 0 = xa at hca HN
            generalize hxj : m2.getD (a + j) 0 = xj at hcj HN
            clear hxa hxj
            go_wp2
            go_region
            all_goals go_wp2_with (go_at_call 96; refine (Hid.out HC _ (Hid.out HN _ _ (Hid.out HS2))).mono ?_; rintro e w1 ⟨rfl, k, hS3, hT3, hI3, hW3⟩; have HS3 := hidden hS3; have HT3 := hidden hT3; have HI3 := hidden hI3; have HW3 := hidden hW3; clear hS3 hT3 hI3 hW3)
            go_roundw
            case rel => exact ⟨(j : Int) - 1, j, k, rfl, by omega, by simp, by rw [(Hid.out HT3).len, swp_len]; exact hml2, Hid.out HS3, ((Hid.out HT2).swp ⟨by omega, by omega⟩ ⟨by omega, by omega⟩ (by omega)).trans ((Hid.out HT3).wide (Nat.le_refl _) (by omega)), (Hid.out HI2).step (by omega) (by omega) (Hid.out HT3) (Hid.out HI3), ((((Hid.out HW2).drewN _).setCell _ _).setCell _ _).trans (Hid.out HW3)⟩
            case measure => simp [intOf]; try omega
        | zero =>
          obtain rfl : z = -1 := by omega
          clear hz
          clear hS hT hI hW
          go_wp2
          go_end0
          exact ⟨rfl, m2, Hid.out HS2, Hid.out HT2, by rw [Hid.out HB]; exact (Hid.out HI2).sorted, Hid.out HW2⟩
end Go.Proofs.Ytodoenimlhldjaa
