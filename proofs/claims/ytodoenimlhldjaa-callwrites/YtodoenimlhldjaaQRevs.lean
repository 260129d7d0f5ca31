/- The library's turning round of a row, walked. -/
import Derived.Test.YtodoenimlhldjaaQHeaps
namespace Go.Proofs.Ytodoenimlhldjaa
open Go.ChangeShapes Go.WideShapes Go.ChangeAt Go.RowKit
set_option linter.unusedVariables false
set_option maxRecDepth 20000 in
set_option maxHeartbeats 4000000 in
theorem reverse_any (w : World) (g cap a b : Nat) (d : List Nat) (tl : List Value) (h : Srow w g d tl) (hab : a < b) (hb : b ≤ d.length) (hlen : d.length ≤ 1152921504606846976) :
    Calls Try.prog 89 #[.slice (some ⟨g, 0, none⟩) d.length cap, .int .i64 (a : Int), .int .i64 (b : Int)] w fun e w' => e = .returned (.tuple #[]) ∧ ∃ m, Srow w' g m tl ∧ Turned d m a b ∧ Only g w w' := by
  have H := hidden h
  clear h
  obtain ⟨c, hc⟩ : ∃ c, c + 1 = b := ⟨b - 1, by omega⟩
  have hsub : (b : Int) - 1 = (c : Int) := by omega
  have hcb : c < b := by omega
  have HB := hidden hc
  clear hc
  go_enter Try.func89, Try.ntmps89
  go_wp2
  go_loopw [6, 7] (fun x6 x7 wr => ∃ (i j : Nat) (m : List Nat), a ≤ i ∧ i ≤ b ∧ a ≤ j ∧ j < b ∧ x6 = .int .i64 (i : Int) ∧ x7 = .int .i64 (j : Int) ∧ m.length = d.length ∧ Srow wr g m tl ∧ Turned d m a b ∧ Only g w wr) (fun x6 x7 _ => b - (intOf x6).toNat)
  case atStart => exact ⟨a, c, d, by omega, by omega, by have := Hid.out HB; omega, by omega, rfl, rfl, rfl, Hid.out H, Turned.refl _ _ _, Only.refl _ _⟩
  case round =>
    obtain ⟨i, j, m, hi1, hi2, hj1, hj2, rfl, rfl, hml, hS, hT, hW⟩ := hrel
    have HS := hidden hS
    have HT := hidden hT
    have HW := hidden hW
    by_cases hij : i < j
    · obtain ⟨k, rfl⟩ : ∃ k, j = k + 1 := ⟨j - 1, by omega⟩
      have hij2 : (i : Int) < (k : Int) + 1 := by omega
      have hci := hS.cell (j := i) (by omega)
      have hzi := hS.thaw i
      have hcj := hS.cell (j := k + 1) (by omega)
      have hzj := hS.thaw (k + 1)
      have hne : ¬ k + 1 = i := by omega
      have hne2 : ¬ i = k + 1 := by omega
      clear hS hT hW
      have HN : Hid (∀ u n, Srow u g m tl → Srow (((u.drewN n).setCell ⟨g, i, none⟩ (.int .u32 ((m.getD (k + 1) 0 : Nat) : Int))).setCell ⟨g, k + 1, none⟩ (.int .u32 ((m.getD i 0 : Nat) : Int))) g (swp m i (k + 1)) tl) := fun u n h0 => by
        have h1 := (h0.drewN n).set (j := i) (by omega) (m.getD (k + 1) 0)
        exact h1.set (j := k + 1) (by rw [List.length_set]; omega) (m.getD i 0)
      generalize hxa : m.getD i 0 = xa at hci HN
      generalize hxj : m.getD (k + 1) 0 = xj at hcj HN
      clear hxa hxj
      go_wp2
      go_region
      all_goals go_wp2
      go_roundw
      case rel => exact ⟨i + 1, k, swp m i (k + 1), by omega, by omega, by omega, by omega, by simp, by simp, by rw [swp_len]; exact hml, Hid.out HN _ _ (Hid.out HS), (Hid.out HT).swp ⟨by omega, by omega⟩ ⟨by omega, by omega⟩ (by omega), ((((Hid.out HW).drewN _).setCell _ _).setCell _ _)⟩
      case measure => simp [intOf]; try omega
    · have hij2 : ¬ (i : Int) < (j : Int) := by omega
      clear hS hT hW
      go_wp2
      go_end0
      exact ⟨rfl, m, Hid.out HS, Hid.out HT, Hid.out HW⟩
end Go.Proofs.Ytodoenimlhldjaa
