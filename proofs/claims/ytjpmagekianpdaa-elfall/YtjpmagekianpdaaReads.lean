/- Numbers of a file, and pieces of it. -/
import Derived.Test.YtjpmagekianpdaaSegs
import Derived.Laws.Strings
namespace Go.Proofs.Ytjpmagekianpdaa
open Go.ChangeShapes Go.WideShapes Go.ChangeAt Go.RowKit
set_option linter.unusedVariables false
theorem rowCells {w : World} {ao : Option Addr} {l : List UInt8} {cap : Nat} (h : Row w ao l cap) (hp : 0 < l.length) : ∃ b off, ao = some ⟨b, off, none⟩ ∧ b < w.heap.size ∧ ∀ j, j < l.length → w.cell? ⟨b, off + j, none⟩ = some (.int .u8 ((l.getD j 0).toNat : Int)) := by
  rcases h.lies with h | ⟨b, off, e, hc⟩
  · rw [h] at hp; simp at hp
  · exact ⟨b, off, e, World.block_lt_of_cell? _ _ (hc 0 hp), hc⟩
theorem bt_range (l : List UInt8) (k : Nat) : 0 ≤ (((l.getD k 0).toNat : Nat) : Int) ∧ (((l.getD k 0).toNat : Nat) : Int) ≤ 255 := by
  have := UInt8.toNat_lt (l.getD k 0)
  omega
theorem word4_w32 (l : List UInt8) (k : Nat) : word4 ((l.getD k 0).toNat : Int) ((l.getD (k + 1) 0).toNat : Int) ((l.getD (k + 2) 0).toNat : Int) ((l.getD (k + 3) 0).toNat : Int) = (w32 l k : Int) := by
  unfold word4 w32 bt
  omega
theorem row_four {w : World} {ao : Option Addr} {l : List UInt8} {cap k : Nat} (h : Row w ao l cap) (hk : k + 3 < l.length) : ∃ b off x0 x1 x2 x3, ao = some ⟨b, off, none⟩ ∧ b < w.heap.size ∧ (0 ≤ x0 ∧ x0 ≤ 255) ∧ (0 ≤ x1 ∧ x1 ≤ 255) ∧ (0 ≤ x2 ∧ x2 ≤ 255) ∧ (0 ≤ x3 ∧ x3 ≤ 255) ∧ w.cell? ⟨b, off + (k : Int).toNat, none⟩ = some (.int .u8 x0) ∧ w.cell? ⟨b, off + ((k : Int) + 1).toNat, none⟩ = some (.int .u8 x1) ∧ w.cell? ⟨b, off + ((k : Int) + 2).toNat, none⟩ = some (.int .u8 x2) ∧ w.cell? ⟨b, off + ((k : Int) + 3).toNat, none⟩ = some (.int .u8 x3) ∧ word4 x0 x1 x2 x3 = (w32 l k : Int) := by
  obtain ⟨b, off, rfl, hlt, hc⟩ := rowCells h (by omega)
  have c0 := hc k (by omega)
  have c1 := hc (k + 1) (by omega)
  have c2 := hc (k + 2) (by omega)
  have c3 := hc (k + 3) (by omega)
  rw [show (k : Int).toNat = k by omega, show ((k : Int) + 1).toNat = k + 1 by omega, show ((k : Int) + 2).toNat = k + 2 by omega, show ((k : Int) + 3).toNat = k + 3 by omega]
  exact ⟨b, off, _, _, _, _, rfl, hlt, bt_range l k, bt_range l (k + 1), bt_range l (k + 2), bt_range l (k + 3), c0, c1, c2, c3, word4_w32 l k⟩
theorem bword_any (w : World) (ao : Option Addr) (l : List UInt8) (cap k : Nat) (h : Row w ao l cap) (hk : k + 3 < l.length) (hl : l.length ≤ 20000) : Calls Try.prog 23 #[.slice ao l.length cap, .int .i64 (k : Int)] w fun e w' => e = .returned (.int .u32 (w32 l k : Int)) ∧ Below w.heap.size w w' := by
  obtain ⟨b, off, x0, x1, x2, x3, rfl, hlt, b0, b1, b2, b3, c0, c1, c2, c3, hw⟩ := row_four h hk
  have := word_E4 b off l.length cap (k : Int) w (by omega) (by omega) hlt (by omega) (by omega) x0 b0 c0 x1 b1 c1 x2 b2 c2 x3 b3 c3
  rw [hw] at this
  refine this.mono ?_
  rintro e w' ⟨h1, h2⟩
  exact ⟨h1, by rw [h2]; exact below_new w _⟩
theorem rword_any (w : World) (ao : Option Addr) (l : List UInt8) (cap k : Nat) (h : Row w ao l cap) (hk : k + 3 < l.length) (hl : l.length ≤ 20000) : Calls Try.prog 25 #[.slice ao l.length cap, .int .i64 (k : Int)] w fun e w' => e = .returned (.int .u32 (w32 l k : Int)) ∧ w' = w := by
  obtain ⟨b, off, x0, x1, x2, x3, rfl, hlt, b0, b1, b2, b3, c0, c1, c2, c3, hw⟩ := row_four h hk
  have := rword_E4 b off l.length cap (k : Int) w (by omega) (by omega) hlt (by omega) (by omega) x0 b0 c0 x1 b1 c1 x2 b2 c2 x3 b3 c3
  rw [hw] at this
  exact this
theorem field_half (l : List UInt8) (k : Nat) : field32 (w32 l k : Int) 16 16 = (w16 l k : Int) := by
  have h1 := w16_w32 l k
  have h2 := w16_lt l k
  have h3 := w32_lt l k
  have e1 : (clip 16 0 31).toNat = 16 := by decide
  have e2 : (clip 16 0 (32 - clip 16 0 31)).toNat = 16 := by decide
  unfold field32
  rw [e1, e2]
  have e3 : ((2 : Int) ^ 16) = 65536 := by decide
  rw [e3]
  omega
theorem field_low (v : Nat) : field32 (v : Int) 0 3 = ((v % 8 : Nat) : Int) := by
  have e1 : (clip 0 0 31).toNat = 0 := by decide
  have e2 : (clip 3 0 (32 - clip 0 0 31)).toNat = 3 := by decide
  unfold field32
  rw [e1, e2]
  have e3 : ((2 : Int) ^ 3) = 8 := by decide
  have e4 : ((2 : Int) ^ 0) = 1 := by decide
  rw [e3, e4]
  omega
theorem half_any (w : World) (ao : Option Addr) (l : List UInt8) (cap k : Nat) (h : Row w ao l cap) (hk : k + 3 < l.length) (hl : l.length ≤ 20000) : Calls Try.prog 38 #[.slice ao l.length cap, .int .i64 (k : Int)] w fun e w' => e = .returned (.int .u32 (w16 l k : Int)) ∧ Below w.heap.size w w' := by
  have H23 := hidden (bword_any w ao l cap k h hk hl)
  have H47 := fun w => hidden (field_any (w32 l k : Int) 16 16 (by omega) (by have := w32_lt l k; omega) w)
  rw [field_half] at H47
  clear h
  generalize w32 l k = x at H23 H47
  generalize w16 l k = y at H47
  go_enter Try.func38, Try.ntmps38
  go_wp2_with (first | (go_at_call 23; with_reducible refine (Hid.out H23).mono ?_; rintro e w1 ⟨rfl, hb1⟩; have HB1 := hidden hb1; clear hb1) | (go_at_call 47; with_reducible refine (Hid.out (H47 _)).mono ?_; rintro e w2 ⟨rfl, hww⟩; rw [hww]; clear hww w2))
  go_ret
  exact ⟨rfl, Hid.out HB1⟩
theorem rowPiece {w : World} {b off : Nat} {l : List UInt8} {cap : Nat} (h : Row w (some ⟨b, off, none⟩) l cap) (k n : Nat) (hkn : k + n ≤ l.length) (c : Nat) (hc : n ≤ c) (hm : c ≤ maxLen) : Row w (some ⟨b, off + k, none⟩) ((l.drop k).take n) c := by
  have hlen : ((l.drop k).take n).length = n := by simp; omega
  refine ⟨by rw [hlen]; exact hc, hm, by simp, ?_⟩
  by_cases h0 : n = 0
  · left; subst h0; simp
  · right
    refine ⟨b, off + k, rfl, fun j hj => ?_⟩
    rw [hlen] at hj
    obtain ⟨b', off', e, hlt, hcl⟩ := rowCells h (by omega)
    cases e
    have := hcl (k + j) (by omega)
    rw [← Nat.add_assoc] at this
    rw [this]
    congr 3
    simp [List.getD_eq_getElem?_getD, hj]
set_option maxRecDepth 20000 in
theorem ecut_yes (w : World) (ao : Option Addr) (l : List UInt8) (cap k n : Nat) (h : Row w ao l cap) (hl : l.length ≤ 20000) (hk : k < 4294967296) (hn : n < 4294967296) (hkn : k + n ≤ l.length) : Calls Try.prog 39 #[.slice ao l.length cap, .int .u32 (k : Int), .int .u32 (n : Int)] w fun e w' => w' = w ∧ ∃ ao', e = .returned (.tuple #[.slice ao' n n, .bool true]) ∧ Row w ao' ((l.drop k).take n) n := by
  have h1 := h.len
  have h2 : cap ≤ 9223372036854775807 := h.max
  have s1 : ((k : Int) + (n : Int)) % 18446744073709551616 = (k : Int) + (n : Int) := by omega
  have s2 : (l.length : Int) % 18446744073709551616 = (l.length : Int) := by omega
  have hkn2 : ¬ (l.length : Int) < (k : Int) + (n : Int) := by omega
  have hkn3 : (k : Int) + (n : Int) ≤ (cap : Int) := by omega
  cases ao with
  | none =>
    have h0 := h.nil rfl
    have hl0 : l = [] := List.eq_nil_of_length_eq_zero (by omega)
    subst hl0
    simp only [List.length_nil] at hkn
    obtain rfl : k = 0 := by omega
    obtain rfl : n = 0 := by omega
    subst h0
    clear h
    go_enter Try.func39, Try.ntmps39
    go_wp2
    go_ret2
    exact ⟨rfl, _, rfl, Row.none _⟩
  | some a =>
    by_cases hn0 : n = 0
    · subst hn0
      have HR : Hid (∀ x, Row w (some x) ((l.drop k).take 0) 0) := fun x => ⟨by simp, by simp [maxLen], by simp, .inl (by simp)⟩
      clear h
      go_enter Try.func39, Try.ntmps39
      go_wp2
      go_ret2
      exact ⟨rfl, _, rfl, Hid.out HR _⟩
    · obtain ⟨b, off, e, hlt, hc⟩ := rowCells h (by omega)
      cases e
      have HR := hidden (rowPiece h k n hkn n (Nat.le_refl _) (by unfold maxLen; omega))
      have hn1 : (k : Int) ≤ (k : Int) + (n : Int) := by omega
      clear h hc
      go_enter Try.func39, Try.ntmps39
      go_wp2
      go_ret2
      exact ⟨rfl, _, rfl, Hid.out HR⟩
set_option maxRecDepth 20000 in
theorem ecut_no (w : World) (ao : Option Addr) (l : List UInt8) (cap k n : Nat) (h : Row w ao l cap) (hl : l.length ≤ 20000) (hk : k < 4294967296) (hn : n < 4294967296) (hkn : ¬ k + n ≤ l.length) : Calls Try.prog 39 #[.slice ao l.length cap, .int .u32 (k : Int), .int .u32 (n : Int)] w fun e w' => w' = w ∧ e = .returned (.tuple #[.slice none 0 0, .bool false]) := by
  have h1 := h.len
  have h2 : cap ≤ 9223372036854775807 := h.max
  have s1 : ((k : Int) + (n : Int)) % 18446744073709551616 = (k : Int) + (n : Int) := by omega
  have s2 : (l.length : Int) % 18446744073709551616 = (l.length : Int) := by omega
  have hkn2 : (l.length : Int) < (k : Int) + (n : Int) := by omega
  clear h
  go_enter Try.func39, Try.ntmps39
  go_wp2
  go_ret2
  exact ⟨rfl, rfl⟩
end Go.Proofs.Ytjpmagekianpdaa
