/- What Put answers, and the own answer of chapter 3 to it, walked over their text. -/
import Derived.Test.YtokicdmbibbkpaaBase
namespace Go.Proofs.Ytokicdmbibbkpaa
open Go.ChangeShapes Go.WideShapes Go.ChangeAt Go.RowKit
set_option linter.unusedVariables false
theorem or128 (v : Nat) : bits .or .u8 ((v : Int) % 256) 128 = (v : Int) % 128 + 128 := by
  rw [u8_or _ _ (by omega) (by omega) (by omega) (by omega)]
  have e : ((v : Int) % 256).toNat = v % 256 := by omega
  rw [e]
  have h : ∀ x : Nat, x < 256 → x ||| 128 = x % 128 + 128 := by decide +kernel
  have h2 := h (v % 256) (by omega)
  have e2 : (128 : Int).toNat = 128 := rfl
  rw [e2, h2]
  omega
theorem val_small (u : Nat) (h : u < 128) : Value.int .u8 (u : Int) = .int .u8 ((UInt8.ofNat u).toNat : Int) := by rw [toNat_ofNat (by omega)]
theorem val_great (u : Nat) : Value.int .u8 ((u : Int) % 128 + 128) = .int .u8 ((UInt8.ofNat (u % 128 + 128)).toNat : Int) := by
  rw [toNat_ofNat (by omega)]
  congr 1
theorem row_at {w : World} {base n : Nat} {v : Value} {l : List UInt8} (h : w.ownsRow base 5 1 v n (cellsU l)) : n = l.length := by have := h.1; rw [cellsU_len] at this; omega
theorem row_fin {w : World} {base n : Nat} {v : Value} {l l2 : List UInt8} (h : w.ownsRow base 5 1 v n (cellsU l)) (e : l = l2) : ∃ ao cap, v = .slice ao l2.length cap ∧ Row w ao l2 cap := by
  subst e
  have hn := row_at h
  subst hn
  exact row_of_own rfl h
theorem enc_step {L : List UInt8} {u v : Nat} (hL : L.length ≤ 9) (hu : u < 2 ^ (64 - 7 * L.length)) (hg : ¬ u < 128) (hE : L ++ encF (9 - L.length) u = enc v) :
    (L ++ [UInt8.ofNat (u % 128 + 128)]).length ≤ 9 ∧ u / 128 < 2 ^ (64 - 7 * (L ++ [UInt8.ofNat (u % 128 + 128)]).length) ∧ (L ++ [UInt8.ofNat (u % 128 + 128)]) ++ encF (9 - (L ++ [UInt8.ofNat (u % 128 + 128)]).length) (u / 128) = enc v := by
  have h9 : L.length ≠ 9 := by
    intro e
    rw [e] at hu
    have : (2 : Nat) ^ (64 - 7 * 9) = 2 := by decide
    omega
  rw [List.length_append, List.length_singleton]
  refine ⟨by omega, ?_, ?_⟩
  · rw [Nat.div_lt_iff_lt_mul (by omega)]
    have e : 2 ^ (64 - 7 * (L.length + 1)) * 128 = 2 ^ (64 - 7 * L.length) := by
      rw [show (128 : Nat) = 2 ^ 7 by decide, ← Nat.pow_add]
      congr 1
      omega
    rw [e]
    exact hu
  · rw [← hE, show 9 - L.length = (9 - (L.length + 1)) + 1 by omega, encF_great hg, List.append_assoc, List.singleton_append]
theorem enc_last {L : List UInt8} {u v : Nat} (hs : u < 128) (hE : L ++ encF (9 - L.length) u = enc v) : L ++ [UInt8.ofNat u] = enc v := by rw [← hE, encF_small hs]
set_option maxRecDepth 20000 in
set_option maxHeartbeats 2000000 in
theorem put_any (ao : Option Addr) (cap : Nat) (l : List UInt8) (v : Nat) (hv : v < 18446744073709551616) (w : World) (hl : Row w ao l cap) (hlen : l.length + 10 ≤ 140737488355328) :
    Calls Try.prog 8 #[.slice ao l.length cap, .int .u64 (v : Int)] w fun e w' => ∃ ao' cap', e = .returned (.slice ao' (l.length + (enc v).length) cap') ∧ Row w' ao' (l ++ enc v) cap' ∧ Below w.heap.size w w' := by
  have HL := hidden hl
  clear hl
  go_enter Try.func8, Try.ntmps8
  go_wp2
  go_loopw [1, 5] (fun x p wr => ∃ (u : Nat) (L : List UInt8), L.length ≤ 9 ∧ x = .int .u64 (u : Int) ∧ wr.ownsRow w.heap.size 5 1 p L.length (cellsU L) ∧ u < 2 ^ (64 - 7 * L.length) ∧ L ++ encF (9 - L.length) u = enc v ∧ Below w.heap.size w wr) (fun x _ _ => (intOf x).toNat)
  case atStart => exact ⟨v, [], by simp, rfl, World.ownsRow_nil _ _ _ _, by simpa using hv, rfl, Below.refl _ _⟩
  case round =>
    obtain ⟨u, L, hL, rfl, hown, hu, hE, hbel⟩ := hrel
    have hu64 : u < 18446744073709551616 := Nat.lt_of_lt_of_le hu (by
      have : 2 ^ (64 - 7 * L.length) ≤ 2 ^ 64 := Nat.pow_le_pow_right (by omega) (by omega)
      simpa using this)
    have HO := hidden hown
    have HU := hidden hu
    have HE := hidden hE
    have HB := hidden hbel
    have hsz : w.heap.size ≤ wr.heap.size := hbel.size
    clear hown hu hE hbel
    have ho := or128 u
    by_cases h128 : u < 128
    · go_wp2_with (first | (at_builtin; refine wpList_push rfl _ _ rfl w.heap.size _ L (UInt8.ofNat u) rfl rfl HO ?_ ?_ hsz ?_; exact val_small u h128; omega; intro v' w' hown' hbel'; obtain ⟨ap, cp, rfl, hrow⟩ := row_fin hown' (enc_last h128 HE); have HR := hidden hrow; have HB2 := hidden (Below.trans (Hid.out HB) hbel'); clear hown' hrow hbel') | (go_at_call 16; refine (behind_any ao ap cap cp l (enc v) w' (Row.later (Hid.out HL) (Hid.out HB2)) (Row.lies (Hid.out HR)) ?_).mono ?_; (have := enc_len v; omega); rintro e w'' ⟨ao', cap', rfl, hr', hb'⟩; have HR3 := hidden hr'; have HB3 := hidden (Below.trans (Hid.out HB2) (Below.mono hb' (Hid.out HB2).size)); clear hr' hb'))
      go_ret
      exact ⟨ao', cap', rfl, HR3, HB3⟩
    · go_wp2_with (at_builtin; refine wpList_push rfl _ _ rfl w.heap.size _ L (UInt8.ofNat (u % 128 + 128)) rfl rfl HO ?_ ?_ hsz ?_; exact val_great u; omega; intro v' w' hown' hbel'; have HO2 := hidden hown'; have HB2 := hidden hbel'; clear hown' hbel')
      go_roundw
      case rel =>
        have hs := enc_step hL HU h128 HE
        have HO3 : w'.ownsRow w.heap.size 5 1 v' (L ++ [UInt8.ofNat (u % 128 + 128)]).length (cellsU (L ++ [UInt8.ofNat (u % 128 + 128)])) := by simpa using Hid.out HO2
        exact ⟨u / 128, L ++ [UInt8.ofNat (u % 128 + 128)], hs.1, by go_num, HO3, hs.2.1, hs.2.2, Below.trans HB HB2⟩
      case measure => simp [intOf]; omega
set_option maxRecDepth 20000 in
set_option maxHeartbeats 2000000 in
theorem refPut_any (v : Nat) (hv : v < 18446744073709551616) (w : World) :
    Calls Try.prog 9 #[.int .u64 (v : Int)] w fun e w' => ∃ ao' cap', e = .returned (.slice ao' (enc v).length cap') ∧ Row w' ao' (enc v) cap' ∧ Below w.heap.size w w' := by
  go_enter Try.func9, Try.ntmps9
  go_wp2
  go_loopw [0, 3] (fun x p wr => ∃ (u : Nat) (L : List UInt8), L.length ≤ 9 ∧ x = .int .u64 (u : Int) ∧ wr.ownsRow w.heap.size 5 1 p L.length (cellsU L) ∧ u < 2 ^ (64 - 7 * L.length) ∧ L ++ encF (9 - L.length) u = enc v ∧ Below w.heap.size w wr) (fun x _ _ => (intOf x).toNat)
  case atStart => exact ⟨v, [], by simp, rfl, World.ownsRow_nil _ _ _ _, by simpa using hv, rfl, Below.refl _ _⟩
  case round =>
    obtain ⟨u, L, hL, rfl, hown, hu, hE, hbel⟩ := hrel
    have hu64 : u < 18446744073709551616 := Nat.lt_of_lt_of_le hu (by
      have : 2 ^ (64 - 7 * L.length) ≤ 2 ^ 64 := Nat.pow_le_pow_right (by omega) (by omega)
      simpa using this)
    have HO := hidden hown
    have HU := hidden hu
    have HE := hidden hE
    have HB := hidden hbel
    have hsz : w.heap.size ≤ wr.heap.size := hbel.size
    clear hown hu hE hbel
    by_cases h128 : u < 128
    · go_wp2_with (at_builtin; refine wpList_push rfl _ _ rfl w.heap.size _ L (UInt8.ofNat u) rfl rfl HO ?_ ?_ hsz ?_; exact val_small u h128; omega; intro v' w' hown' hbel'; obtain ⟨ap, cp, rfl, hrow⟩ := row_fin hown' (enc_last h128 HE); have HR := hidden hrow; have HB2 := hidden (Below.trans (Hid.out HB) hbel'); clear hown' hrow hbel')
      go_ret
      exact ⟨ap, cp, rfl, HR, HB2⟩
    · go_wp2_with (at_builtin; refine wpList_push rfl _ _ rfl w.heap.size _ L (UInt8.ofNat (u % 128 + 128)) rfl rfl HO ?_ ?_ hsz ?_; exact val_great u; omega; intro v' w' hown' hbel'; have HO2 := hidden hown'; have HB2 := hidden hbel'; clear hown' hbel')
      go_roundw
      case rel =>
        have hs := enc_step hL HU h128 HE
        have HO3 : w'.ownsRow w.heap.size 5 1 v' (L ++ [UInt8.ofNat (u % 128 + 128)]).length (cellsU (L ++ [UInt8.ofNat (u % 128 + 128)])) := by simpa using Hid.out HO2
        exact ⟨u / 128, L ++ [UInt8.ofNat (u % 128 + 128)], hs.1, by go_num, HO3, hs.2.1, hs.2.2, Below.trans HB HB2⟩
      case measure => simp [intOf]; omega
end Go.Proofs.Ytokicdmbibbkpaa
