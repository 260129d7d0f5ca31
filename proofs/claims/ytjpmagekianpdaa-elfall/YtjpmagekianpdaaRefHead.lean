/- Chapter 6's own answer to a header. -/
import Derived.Test.YtjpmagekianpdaaRightW
namespace Go.Proofs.Ytjpmagekianpdaa
open Go.ChangeShapes Go.WideShapes Go.ChangeAt Go.RowKit
set_option linter.unusedVariables false
theorem rw_any (w : World) (ao : Option Addr) (l : List UInt8) (cap k : Nat) (h : Row w ao l cap) (hk : k + 3 < l.length) (hl : l.length ≤ 20000) : Calls Try.prog 27 #[.slice ao l.length cap, .int .i64 (k : Int)] w fun e w' => e = .returned (.int .i64 (w32 l k : Int)) ∧ w' = w := by
  have H25 := hidden (rword_any w ao l cap k h hk hl)
  have hw := w32_lt l k
  clear h
  generalize w32 l k = x at H25 hw
  go_enter Try.func27, Try.ntmps27
  go_wp2_with (go_at_call 25; with_reducible refine (Hid.out H25).mono ?_; rintro e w1 ⟨rfl, hww⟩; rw [hww]; clear hww w1)
  go_ret
  exact ⟨rfl, rfl⟩
theorem rh_any (w : World) (ao : Option Addr) (l : List UInt8) (cap k : Nat) (h : Row w ao l cap) (hk : k + 3 < l.length) (hl : l.length ≤ 20000) : Calls Try.prog 26 #[.slice ao l.length cap, .int .i64 (k : Int)] w fun e w' => e = .returned (.int .i64 (w16 l k : Int)) ∧ w' = w := by
  have H25 := hidden (rword_any w ao l cap k h hk hl)
  have hw := w32_lt l k
  have he : ((w32 l k : Nat) : Int) / 65536 = ((w16 l k : Nat) : Int) := by rw [← w16_w32]; omega
  clear h
  generalize w32 l k = x at H25 hw he
  go_enter Try.func26, Try.ntmps26
  go_wp2_with (go_at_call 25; with_reducible refine (Hid.out H25).mono ?_; rintro e w1 ⟨rfl, hww⟩; rw [hww]; clear hww w1)
  go_ret
  exact ⟨rfl, rfl⟩
theorem within_any (w : World) (ao : Option Addr) (n cap a m : Nat) (hn : n ≤ 20000) : Calls Try.prog 28 #[.slice ao n cap, .int .i64 (a : Int), .int .i64 (m : Int)] w fun e w' => e = .returned (.bool (decide (a + m ≤ n))) ∧ w' = w := by
  by_cases h1 : a ≤ n
  · have k1 : (a : Int) ≤ (n : Int) := by omega
    by_cases h2 : a + m ≤ n
    · have k2 : (m : Int) ≤ (n : Int) - (a : Int) := by omega
      rw [decide_eq_true h2]
      go_enter Try.func28, Try.ntmps28
      go_wp2
      go_ret
      exact ⟨rfl, rfl⟩
    · have k2 : ¬ (m : Int) ≤ (n : Int) - (a : Int) := by omega
      rw [decide_eq_false h2]
      go_enter Try.func28, Try.ntmps28
      go_wp2
      go_ret
      exact ⟨rfl, rfl⟩
  · have k1 : ¬ (a : Int) ≤ (n : Int) := by omega
    rw [decide_eq_false (show ¬ a + m ≤ n by omega)]
    go_enter Try.func28, Try.ntmps28
    go_wp2
    go_ret
    exact ⟨rfl, rfl⟩
theorem seven_of {l : List UInt8} (h : 52 ≤ l.length) : ∃ a b c d x y z t, l = a :: b :: c :: d :: x :: y :: z :: t := by
  match l, h with
  | a :: b :: c :: d :: x :: y :: z :: t, _ => exact ⟨a, b, c, d, x, y, z, t, rfl⟩
theorem byte_eq {a : UInt8} {n : Nat} (h : a.toNat = n) (hn : n < 256) : a = UInt8.ofNat n := by
  rw [← h]
  simp
theorem magic_iff {l : List UInt8} (h : 52 ≤ l.length) : l.take 4 = magicB ↔ w32 l 0 = 2135247942 := by
  obtain ⟨a, b, c, d, x, y, z, t, rfl⟩ := seven_of h
  show [a, b, c, d] = magicB ↔ ((a.toNat * 256 + b.toNat) * 256 + c.toNat) * 256 + d.toNat = 2135247942
  have ha := UInt8.toNat_lt a
  have hb := UInt8.toNat_lt b
  have hc := UInt8.toNat_lt c
  have hd := UInt8.toNat_lt d
  constructor
  · intro e
    simp only [magicB, List.cons.injEq, and_true] at e
    obtain ⟨rfl, rfl, rfl, rfl⟩ := e
    rfl
  · intro e
    have e1 : a = 127 := byte_eq (n := 127) (by omega) (by omega)
    have e2 : b = 69 := byte_eq (n := 69) (by omega) (by omega)
    have e3 : c = 76 := byte_eq (n := 76) (by omega) (by omega)
    have e4 : d = 70 := byte_eq (n := 70) (by omega) (by omega)
    rw [e1, e2, e3, e4]
    rfl
theorem class_iff {l : List UInt8} (h : 52 ≤ l.length) : (l.drop 4).take 3 = classB ↔ (l.getD 4 0).toNat = 1 ∧ (l.getD 5 0).toNat = 2 ∧ (l.getD 6 0).toNat = 1 := by
  obtain ⟨a, b, c, d, x, y, z, t, rfl⟩ := seven_of h
  show [x, y, z] = classB ↔ x.toNat = 1 ∧ y.toNat = 2 ∧ z.toNat = 1
  constructor
  · intro e
    simp only [classB, List.cons.injEq, and_true] at e
    obtain ⟨rfl, rfl, rfl⟩ := e
    exact ⟨rfl, rfl, rfl⟩
  · rintro ⟨e1, e2, e3⟩
    rw [show x = 1 from byte_eq (n := 1) e1 (by omega), show y = 2 from byte_eq (n := 2) e2 (by omega), show z = 1 from byte_eq (n := 1) e3 (by omega)]
    rfl
def refHead (l : List UInt8) : Nat := if headE l ≠ 0 then headE l else if tableE l = false then 9 else 0
set_option maxRecDepth 20000 in
set_option maxHeartbeats 4000000 in
theorem rheader_any (w : World) (ao : Option Addr) (l : List UInt8) (cap : Nat) (h : Row w ao l cap) (hl : l.length ≤ 20000) : Calls Try.prog 24 #[.slice ao l.length cap] w fun e w' => e = .returned (.int .i64 (refHead l : Int)) ∧ w' = w := by
  have hbad : ∀ c, headE l = c → c ≠ 0 → refHead l = c := fun c hc h0 => by
    unfold refHead
    rw [if_pos (by rw [hc]; exact h0), hc]
  by_cases h1 : 16384 < l.length
  · have k1 : (16384 : Int) < (l.length : Int) := by omega
    have HE := hidden (hbad 2 (by unfold headE; rw [if_pos h1]) (by omega))
    clear h hbad
    go_enter Try.func24, Try.ntmps24
    go_wp2
    go_ret
    exact ⟨by rw [Hid.out HE]; rfl, rfl⟩
  have k1 : ¬ (16384 : Int) < (l.length : Int) := by omega
  by_cases h2 : l.length < 52
  · have k2 : (l.length : Int) < 52 := by omega
    have HE := hidden (hbad 3 (head_short h2) (by omega))
    clear h hbad
    go_enter Try.func24, Try.ntmps24
    go_wp2
    go_ret
    exact ⟨by rw [Hid.out HE]; rfl, rfl⟩
  have k2 : ¬ (l.length : Int) < 52 := by omega
  obtain ⟨b, off, rfl, hlt, hc⟩ := rowCells h (by omega)
  have c4 := hc 4 (by omega)
  have c5 := hc 5 (by omega)
  have c6 := hc 6 (by omega)
  have H26 : ∀ (k : Nat) (z : Int), z = (k : Int) → k ≤ 48 → Hid (Calls Try.prog 26 #[.slice (some ⟨b, off, none⟩) l.length cap, .int .i64 z] w fun e w' => e = .returned (.int .i64 (w16 l k : Int)) ∧ w' = w) := fun k z hz hk => by subst hz; exact rh_any w _ l cap k h (by omega) hl
  have H27 : ∀ (k : Nat) (z : Int), z = (k : Int) → k ≤ 48 → Hid (Calls Try.prog 27 #[.slice (some ⟨b, off, none⟩) l.length cap, .int .i64 z] w fun e w' => e = .returned (.int .i64 (w32 l k : Int)) ∧ w' = w) := fun k z hz hk => by subst hz; exact rw_any w _ l cap k h (by omega) hl
  have HH : Hid (headE l = if l.take 4 ≠ magicB then 6 else if (l.drop 4).take 3 ≠ classB then 7 else if w16 l 16 ≠ 2 then 9 else if w16 l 18 ≠ 8 then 8 else if w32 l 20 ≠ 1 ∨ w16 l 40 < 52 then 9 else 0) := by
    show headE l = _
    unfold headE
    rw [if_neg h1, if_neg h2]
  have j4 : (4 : Int) < (l.length : Int) := by omega
  have j5 : (5 : Int) < (l.length : Int) := by omega
  have j6 : (6 : Int) < (l.length : Int) := by omega
  have hmag := magic_iff (l := l) (by omega)
  have hcls := class_iff (l := l) (by omega)
  clear h hc
  by_cases h3 : w32 l 0 = 2135247942
  case neg =>
    have k3 : ¬ ((w32 l 0 : Nat) : Int) = 2135247942 := by omega
    have HE := hidden (hbad 6 (by rw [Hid.out HH, if_pos (fun e => h3 (hmag.1 e))]) (by omega))
    clear hbad hmag hcls
    go_enter Try.func24, Try.ntmps24
    go_wp2_with (first | (go_at_call 26; first | (with_reducible refine (Hid.out (H26 16 16 rfl (by omega))).mono ?_; rintro e w1 ⟨rfl, hww⟩; rw [hww]; clear hww w1) | (with_reducible refine (Hid.out (H26 18 18 rfl (by omega))).mono ?_; rintro e w1 ⟨rfl, hww⟩; rw [hww]; clear hww w1) | (with_reducible refine (Hid.out (H26 44 44 rfl (by omega))).mono ?_; rintro e w1 ⟨rfl, hww⟩; rw [hww]; clear hww w1) | (with_reducible refine (Hid.out (H26 40 40 rfl (by omega))).mono ?_; rintro e w1 ⟨rfl, hww⟩; rw [hww]; clear hww w1) | (with_reducible refine (Hid.out (H26 42 42 rfl (by omega))).mono ?_; rintro e w1 ⟨rfl, hww⟩; rw [hww]; clear hww w1)) | (go_at_call 27; first | (with_reducible refine (Hid.out (H27 0 0 rfl (by omega))).mono ?_; rintro e w1 ⟨rfl, hww⟩; rw [hww]; clear hww w1) | (with_reducible refine (Hid.out (H27 20 20 rfl (by omega))).mono ?_; rintro e w1 ⟨rfl, hww⟩; rw [hww]; clear hww w1) | (with_reducible refine (Hid.out (H27 28 28 rfl (by omega))).mono ?_; rintro e w1 ⟨rfl, hww⟩; rw [hww]; clear hww w1)))
    go_ret
    exact ⟨by rw [Hid.out HE]; rfl, rfl⟩
  have k3 : ((w32 l 0 : Nat) : Int) = 2135247942 := by omega
  rw [if_neg (fun e => e (hmag.2 h3))] at HH
  generalize (l.getD 4 0).toNat = x4 at c4 hcls
  generalize (l.getD 5 0).toNat = x5 at c5 hcls
  generalize (l.getD 6 0).toNat = x6 at c6 hcls
  by_cases h4 : x4 = 1 ∧ x5 = 2 ∧ x6 = 1
  case neg =>
    have HE := hidden (hbad 7 (by rw [Hid.out HH, if_pos (fun e => h4 (hcls.1 e))]) (by omega))
    clear hbad hmag hcls
    by_cases a4 : x4 = 1
    · subst a4
      by_cases a5 : x5 = 2
      · subst a5
        have a6 : ¬ (x6 : Int) = 1 := by omega
        go_enter Try.func24, Try.ntmps24
        go_wp2_with (first | (go_at_call 26; first | (with_reducible refine (Hid.out (H26 16 16 rfl (by omega))).mono ?_; rintro e w1 ⟨rfl, hww⟩; rw [hww]; clear hww w1) | (with_reducible refine (Hid.out (H26 18 18 rfl (by omega))).mono ?_; rintro e w1 ⟨rfl, hww⟩; rw [hww]; clear hww w1) | (with_reducible refine (Hid.out (H26 44 44 rfl (by omega))).mono ?_; rintro e w1 ⟨rfl, hww⟩; rw [hww]; clear hww w1) | (with_reducible refine (Hid.out (H26 40 40 rfl (by omega))).mono ?_; rintro e w1 ⟨rfl, hww⟩; rw [hww]; clear hww w1) | (with_reducible refine (Hid.out (H26 42 42 rfl (by omega))).mono ?_; rintro e w1 ⟨rfl, hww⟩; rw [hww]; clear hww w1)) | (go_at_call 27; first | (with_reducible refine (Hid.out (H27 0 0 rfl (by omega))).mono ?_; rintro e w1 ⟨rfl, hww⟩; rw [hww]; clear hww w1) | (with_reducible refine (Hid.out (H27 20 20 rfl (by omega))).mono ?_; rintro e w1 ⟨rfl, hww⟩; rw [hww]; clear hww w1) | (with_reducible refine (Hid.out (H27 28 28 rfl (by omega))).mono ?_; rintro e w1 ⟨rfl, hww⟩; rw [hww]; clear hww w1)))
        go_ret
        exact ⟨by rw [Hid.out HE]; rfl, rfl⟩
      · have a52 : ¬ (x5 : Int) = 2 := by omega
        go_enter Try.func24, Try.ntmps24
        go_wp2_with (first | (go_at_call 26; first | (with_reducible refine (Hid.out (H26 16 16 rfl (by omega))).mono ?_; rintro e w1 ⟨rfl, hww⟩; rw [hww]; clear hww w1) | (with_reducible refine (Hid.out (H26 18 18 rfl (by omega))).mono ?_; rintro e w1 ⟨rfl, hww⟩; rw [hww]; clear hww w1) | (with_reducible refine (Hid.out (H26 44 44 rfl (by omega))).mono ?_; rintro e w1 ⟨rfl, hww⟩; rw [hww]; clear hww w1) | (with_reducible refine (Hid.out (H26 40 40 rfl (by omega))).mono ?_; rintro e w1 ⟨rfl, hww⟩; rw [hww]; clear hww w1) | (with_reducible refine (Hid.out (H26 42 42 rfl (by omega))).mono ?_; rintro e w1 ⟨rfl, hww⟩; rw [hww]; clear hww w1)) | (go_at_call 27; first | (with_reducible refine (Hid.out (H27 0 0 rfl (by omega))).mono ?_; rintro e w1 ⟨rfl, hww⟩; rw [hww]; clear hww w1) | (with_reducible refine (Hid.out (H27 20 20 rfl (by omega))).mono ?_; rintro e w1 ⟨rfl, hww⟩; rw [hww]; clear hww w1) | (with_reducible refine (Hid.out (H27 28 28 rfl (by omega))).mono ?_; rintro e w1 ⟨rfl, hww⟩; rw [hww]; clear hww w1)))
        go_ret
        exact ⟨by rw [Hid.out HE]; rfl, rfl⟩
    · have a42 : ¬ (x4 : Int) = 1 := by omega
      go_enter Try.func24, Try.ntmps24
      go_wp2_with (first | (go_at_call 26; first | (with_reducible refine (Hid.out (H26 16 16 rfl (by omega))).mono ?_; rintro e w1 ⟨rfl, hww⟩; rw [hww]; clear hww w1) | (with_reducible refine (Hid.out (H26 18 18 rfl (by omega))).mono ?_; rintro e w1 ⟨rfl, hww⟩; rw [hww]; clear hww w1) | (with_reducible refine (Hid.out (H26 44 44 rfl (by omega))).mono ?_; rintro e w1 ⟨rfl, hww⟩; rw [hww]; clear hww w1) | (with_reducible refine (Hid.out (H26 40 40 rfl (by omega))).mono ?_; rintro e w1 ⟨rfl, hww⟩; rw [hww]; clear hww w1) | (with_reducible refine (Hid.out (H26 42 42 rfl (by omega))).mono ?_; rintro e w1 ⟨rfl, hww⟩; rw [hww]; clear hww w1)) | (go_at_call 27; first | (with_reducible refine (Hid.out (H27 0 0 rfl (by omega))).mono ?_; rintro e w1 ⟨rfl, hww⟩; rw [hww]; clear hww w1) | (with_reducible refine (Hid.out (H27 20 20 rfl (by omega))).mono ?_; rintro e w1 ⟨rfl, hww⟩; rw [hww]; clear hww w1) | (with_reducible refine (Hid.out (H27 28 28 rfl (by omega))).mono ?_; rintro e w1 ⟨rfl, hww⟩; rw [hww]; clear hww w1)))
      go_ret
      exact ⟨by rw [Hid.out HE]; rfl, rfl⟩
  rw [if_neg (fun e => e (hcls.2 h4))] at HH
  obtain ⟨rfl, rfl, rfl⟩ := h4
  clear hmag hcls
  by_cases h5 : w16 l 16 = 2
  case neg =>
    have k5 : ¬ ((w16 l 16 : Nat) : Int) = 2 := by omega
    have HE := hidden (hbad 9 (by rw [Hid.out HH, if_pos h5]) (by omega))
    clear hbad
    go_enter Try.func24, Try.ntmps24
    go_wp2_with (first | (go_at_call 26; first | (with_reducible refine (Hid.out (H26 16 16 rfl (by omega))).mono ?_; rintro e w1 ⟨rfl, hww⟩; rw [hww]; clear hww w1) | (with_reducible refine (Hid.out (H26 18 18 rfl (by omega))).mono ?_; rintro e w1 ⟨rfl, hww⟩; rw [hww]; clear hww w1) | (with_reducible refine (Hid.out (H26 44 44 rfl (by omega))).mono ?_; rintro e w1 ⟨rfl, hww⟩; rw [hww]; clear hww w1) | (with_reducible refine (Hid.out (H26 40 40 rfl (by omega))).mono ?_; rintro e w1 ⟨rfl, hww⟩; rw [hww]; clear hww w1) | (with_reducible refine (Hid.out (H26 42 42 rfl (by omega))).mono ?_; rintro e w1 ⟨rfl, hww⟩; rw [hww]; clear hww w1)) | (go_at_call 27; first | (with_reducible refine (Hid.out (H27 0 0 rfl (by omega))).mono ?_; rintro e w1 ⟨rfl, hww⟩; rw [hww]; clear hww w1) | (with_reducible refine (Hid.out (H27 20 20 rfl (by omega))).mono ?_; rintro e w1 ⟨rfl, hww⟩; rw [hww]; clear hww w1) | (with_reducible refine (Hid.out (H27 28 28 rfl (by omega))).mono ?_; rintro e w1 ⟨rfl, hww⟩; rw [hww]; clear hww w1)))
    go_ret
    exact ⟨by rw [Hid.out HE]; rfl, rfl⟩
  have k5 : ((w16 l 16 : Nat) : Int) = 2 := by omega
  rw [if_neg (by omega)] at HH
  by_cases h6 : w16 l 18 = 8
  case neg =>
    have k6 : ¬ ((w16 l 18 : Nat) : Int) = 8 := by omega
    have HE := hidden (hbad 8 (by rw [Hid.out HH, if_pos h6]) (by omega))
    clear hbad
    go_enter Try.func24, Try.ntmps24
    go_wp2_with (first | (go_at_call 26; first | (with_reducible refine (Hid.out (H26 16 16 rfl (by omega))).mono ?_; rintro e w1 ⟨rfl, hww⟩; rw [hww]; clear hww w1) | (with_reducible refine (Hid.out (H26 18 18 rfl (by omega))).mono ?_; rintro e w1 ⟨rfl, hww⟩; rw [hww]; clear hww w1) | (with_reducible refine (Hid.out (H26 44 44 rfl (by omega))).mono ?_; rintro e w1 ⟨rfl, hww⟩; rw [hww]; clear hww w1) | (with_reducible refine (Hid.out (H26 40 40 rfl (by omega))).mono ?_; rintro e w1 ⟨rfl, hww⟩; rw [hww]; clear hww w1) | (with_reducible refine (Hid.out (H26 42 42 rfl (by omega))).mono ?_; rintro e w1 ⟨rfl, hww⟩; rw [hww]; clear hww w1)) | (go_at_call 27; first | (with_reducible refine (Hid.out (H27 0 0 rfl (by omega))).mono ?_; rintro e w1 ⟨rfl, hww⟩; rw [hww]; clear hww w1) | (with_reducible refine (Hid.out (H27 20 20 rfl (by omega))).mono ?_; rintro e w1 ⟨rfl, hww⟩; rw [hww]; clear hww w1) | (with_reducible refine (Hid.out (H27 28 28 rfl (by omega))).mono ?_; rintro e w1 ⟨rfl, hww⟩; rw [hww]; clear hww w1)))
    go_ret
    exact ⟨by rw [Hid.out HE]; rfl, rfl⟩
  have k6 : ((w16 l 18 : Nat) : Int) = 8 := by omega
  rw [if_neg (by omega)] at HH
  by_cases h7 : w32 l 20 = 1
  case neg =>
    have k7 : ¬ ((w32 l 20 : Nat) : Int) = 1 := by omega
    have HE := hidden (hbad 9 (by rw [Hid.out HH, if_pos (.inl h7)]) (by omega))
    clear hbad
    go_enter Try.func24, Try.ntmps24
    go_wp2_with (first | (go_at_call 26; first | (with_reducible refine (Hid.out (H26 16 16 rfl (by omega))).mono ?_; rintro e w1 ⟨rfl, hww⟩; rw [hww]; clear hww w1) | (with_reducible refine (Hid.out (H26 18 18 rfl (by omega))).mono ?_; rintro e w1 ⟨rfl, hww⟩; rw [hww]; clear hww w1) | (with_reducible refine (Hid.out (H26 44 44 rfl (by omega))).mono ?_; rintro e w1 ⟨rfl, hww⟩; rw [hww]; clear hww w1) | (with_reducible refine (Hid.out (H26 40 40 rfl (by omega))).mono ?_; rintro e w1 ⟨rfl, hww⟩; rw [hww]; clear hww w1) | (with_reducible refine (Hid.out (H26 42 42 rfl (by omega))).mono ?_; rintro e w1 ⟨rfl, hww⟩; rw [hww]; clear hww w1)) | (go_at_call 27; first | (with_reducible refine (Hid.out (H27 0 0 rfl (by omega))).mono ?_; rintro e w1 ⟨rfl, hww⟩; rw [hww]; clear hww w1) | (with_reducible refine (Hid.out (H27 20 20 rfl (by omega))).mono ?_; rintro e w1 ⟨rfl, hww⟩; rw [hww]; clear hww w1) | (with_reducible refine (Hid.out (H27 28 28 rfl (by omega))).mono ?_; rintro e w1 ⟨rfl, hww⟩; rw [hww]; clear hww w1)))
    go_ret
    exact ⟨by rw [Hid.out HE]; rfl, rfl⟩
  have k7 : ((w32 l 20 : Nat) : Int) = 1 := by omega
  by_cases h8 : w16 l 40 < 52
  · have k8 : ((w16 l 40 : Nat) : Int) < 52 := by omega
    have HE := hidden (hbad 9 (by rw [Hid.out HH, if_pos (.inr h8)]) (by omega))
    clear hbad
    go_enter Try.func24, Try.ntmps24
    go_wp2_with (first | (go_at_call 26; first | (with_reducible refine (Hid.out (H26 16 16 rfl (by omega))).mono ?_; rintro e w1 ⟨rfl, hww⟩; rw [hww]; clear hww w1) | (with_reducible refine (Hid.out (H26 18 18 rfl (by omega))).mono ?_; rintro e w1 ⟨rfl, hww⟩; rw [hww]; clear hww w1) | (with_reducible refine (Hid.out (H26 44 44 rfl (by omega))).mono ?_; rintro e w1 ⟨rfl, hww⟩; rw [hww]; clear hww w1) | (with_reducible refine (Hid.out (H26 40 40 rfl (by omega))).mono ?_; rintro e w1 ⟨rfl, hww⟩; rw [hww]; clear hww w1) | (with_reducible refine (Hid.out (H26 42 42 rfl (by omega))).mono ?_; rintro e w1 ⟨rfl, hww⟩; rw [hww]; clear hww w1)) | (go_at_call 27; first | (with_reducible refine (Hid.out (H27 0 0 rfl (by omega))).mono ?_; rintro e w1 ⟨rfl, hww⟩; rw [hww]; clear hww w1) | (with_reducible refine (Hid.out (H27 20 20 rfl (by omega))).mono ?_; rintro e w1 ⟨rfl, hww⟩; rw [hww]; clear hww w1) | (with_reducible refine (Hid.out (H27 28 28 rfl (by omega))).mono ?_; rintro e w1 ⟨rfl, hww⟩; rw [hww]; clear hww w1)))
    go_ret
    exact ⟨by rw [Hid.out HE]; rfl, rfl⟩
  have k8 : ¬ ((w16 l 40 : Nat) : Int) < 52 := by omega
  have hz : headE l = 0 := by rw [Hid.out HH, if_neg (by omega)]
  have hR : refHead l = if tableE l = false then 9 else 0 := by unfold refHead; rw [if_neg (by rw [hz]; simp)]
  have HRR := hidden hR
  clear hbad HH hz hR
  by_cases h9 : 8 < w16 l 44
  · have k9 : (8 : Int) < ((w16 l 44 : Nat) : Int) := by omega
    have HE : Hid (refHead l = 9) := (Hid.out HRR).trans (if_pos (by unfold tableE; rw [decide_eq_false (show ¬ w16 l 44 ≤ 8 by omega)]; rfl))
    go_enter Try.func24, Try.ntmps24
    go_wp2_with (first | (go_at_call 26; first | (with_reducible refine (Hid.out (H26 16 16 rfl (by omega))).mono ?_; rintro e w1 ⟨rfl, hww⟩; rw [hww]; clear hww w1) | (with_reducible refine (Hid.out (H26 18 18 rfl (by omega))).mono ?_; rintro e w1 ⟨rfl, hww⟩; rw [hww]; clear hww w1) | (with_reducible refine (Hid.out (H26 44 44 rfl (by omega))).mono ?_; rintro e w1 ⟨rfl, hww⟩; rw [hww]; clear hww w1) | (with_reducible refine (Hid.out (H26 40 40 rfl (by omega))).mono ?_; rintro e w1 ⟨rfl, hww⟩; rw [hww]; clear hww w1) | (with_reducible refine (Hid.out (H26 42 42 rfl (by omega))).mono ?_; rintro e w1 ⟨rfl, hww⟩; rw [hww]; clear hww w1)) | (go_at_call 27; first | (with_reducible refine (Hid.out (H27 0 0 rfl (by omega))).mono ?_; rintro e w1 ⟨rfl, hww⟩; rw [hww]; clear hww w1) | (with_reducible refine (Hid.out (H27 20 20 rfl (by omega))).mono ?_; rintro e w1 ⟨rfl, hww⟩; rw [hww]; clear hww w1) | (with_reducible refine (Hid.out (H27 28 28 rfl (by omega))).mono ?_; rintro e w1 ⟨rfl, hww⟩; rw [hww]; clear hww w1)))
    go_ret
    exact ⟨by rw [Hid.out HE]; rfl, rfl⟩
  have k9 : ¬ (8 : Int) < ((w16 l 44 : Nat) : Int) := by omega
  have d9 : decide (w16 l 44 ≤ 8) = true := decide_eq_true (by omega)
  by_cases h10 : w16 l 44 = 0
  · have k10 : ((w16 l 44 : Nat) : Int) = 0 := by omega
    have HE : Hid (refHead l = 0) := (Hid.out HRR).trans (if_neg (by unfold tableE; rw [d9, decide_eq_true h10]; simp))
    clear d9
    go_enter Try.func24, Try.ntmps24
    go_wp2_with (first | (go_at_call 26; first | (with_reducible refine (Hid.out (H26 16 16 rfl (by omega))).mono ?_; rintro e w1 ⟨rfl, hww⟩; rw [hww]; clear hww w1) | (with_reducible refine (Hid.out (H26 18 18 rfl (by omega))).mono ?_; rintro e w1 ⟨rfl, hww⟩; rw [hww]; clear hww w1) | (with_reducible refine (Hid.out (H26 44 44 rfl (by omega))).mono ?_; rintro e w1 ⟨rfl, hww⟩; rw [hww]; clear hww w1) | (with_reducible refine (Hid.out (H26 40 40 rfl (by omega))).mono ?_; rintro e w1 ⟨rfl, hww⟩; rw [hww]; clear hww w1) | (with_reducible refine (Hid.out (H26 42 42 rfl (by omega))).mono ?_; rintro e w1 ⟨rfl, hww⟩; rw [hww]; clear hww w1)) | (go_at_call 27; first | (with_reducible refine (Hid.out (H27 0 0 rfl (by omega))).mono ?_; rintro e w1 ⟨rfl, hww⟩; rw [hww]; clear hww w1) | (with_reducible refine (Hid.out (H27 20 20 rfl (by omega))).mono ?_; rintro e w1 ⟨rfl, hww⟩; rw [hww]; clear hww w1) | (with_reducible refine (Hid.out (H27 28 28 rfl (by omega))).mono ?_; rintro e w1 ⟨rfl, hww⟩; rw [hww]; clear hww w1)))
    go_ret
    exact ⟨by rw [Hid.out HE]; rfl, rfl⟩
  have k10 : (0 : Int) < ((w16 l 44 : Nat) : Int) := by omega
  by_cases h11 : w16 l 42 = 32
  case neg =>
    have k11 : ¬ ((w16 l 42 : Nat) : Int) = 32 := by omega
    have HE : Hid (refHead l = 9) := (Hid.out HRR).trans (if_pos (by unfold tableE; rw [d9, decide_eq_false h10, decide_eq_false h11]; rfl))
    clear d9
    go_enter Try.func24, Try.ntmps24
    go_wp2_with (first | (go_at_call 26; first | (with_reducible refine (Hid.out (H26 16 16 rfl (by omega))).mono ?_; rintro e w1 ⟨rfl, hww⟩; rw [hww]; clear hww w1) | (with_reducible refine (Hid.out (H26 18 18 rfl (by omega))).mono ?_; rintro e w1 ⟨rfl, hww⟩; rw [hww]; clear hww w1) | (with_reducible refine (Hid.out (H26 44 44 rfl (by omega))).mono ?_; rintro e w1 ⟨rfl, hww⟩; rw [hww]; clear hww w1) | (with_reducible refine (Hid.out (H26 40 40 rfl (by omega))).mono ?_; rintro e w1 ⟨rfl, hww⟩; rw [hww]; clear hww w1) | (with_reducible refine (Hid.out (H26 42 42 rfl (by omega))).mono ?_; rintro e w1 ⟨rfl, hww⟩; rw [hww]; clear hww w1)) | (go_at_call 27; first | (with_reducible refine (Hid.out (H27 0 0 rfl (by omega))).mono ?_; rintro e w1 ⟨rfl, hww⟩; rw [hww]; clear hww w1) | (with_reducible refine (Hid.out (H27 20 20 rfl (by omega))).mono ?_; rintro e w1 ⟨rfl, hww⟩; rw [hww]; clear hww w1) | (with_reducible refine (Hid.out (H27 28 28 rfl (by omega))).mono ?_; rintro e w1 ⟨rfl, hww⟩; rw [hww]; clear hww w1)))
    go_ret
    exact ⟨by rw [Hid.out HE]; rfl, rfl⟩
  have k11 : ((w16 l 42 : Nat) : Int) = 32 := by omega
  have hq : tableE l = decide (w32 l 28 + 32 * w16 l 44 ≤ l.length) := by unfold tableE; rw [d9, decide_eq_false h10, decide_eq_true h11]; simp
  have H28 : Hid (Calls Try.prog 28 #[.slice (some ⟨b, off, none⟩) l.length cap, .int .i64 ((w32 l 28 : Nat) : Int), .int .i64 (32 * ((w16 l 44 : Nat) : Int))] w fun e w' => e = .returned (.bool (tableE l)) ∧ w' = w) := by
    have := within_any w (some ⟨b, off, none⟩) l.length cap (w32 l 28) (32 * w16 l 44) hl
    rw [hq, show ((32 * w16 l 44 : Nat) : Int) = 32 * ((w16 l 44 : Nat) : Int) by omega] at *
    exact this
  clear d9 hq
  cases ht : tableE l
  · rw [ht] at H28 HRR
    have HE : Hid (refHead l = 9) := (Hid.out HRR).trans (if_pos rfl)
    clear ht
    go_enter Try.func24, Try.ntmps24
    go_wp2_with (first | (go_at_call 26; first | (with_reducible refine (Hid.out (H26 16 16 rfl (by omega))).mono ?_; rintro e w1 ⟨rfl, hww⟩; rw [hww]; clear hww w1) | (with_reducible refine (Hid.out (H26 18 18 rfl (by omega))).mono ?_; rintro e w1 ⟨rfl, hww⟩; rw [hww]; clear hww w1) | (with_reducible refine (Hid.out (H26 44 44 rfl (by omega))).mono ?_; rintro e w1 ⟨rfl, hww⟩; rw [hww]; clear hww w1) | (with_reducible refine (Hid.out (H26 40 40 rfl (by omega))).mono ?_; rintro e w1 ⟨rfl, hww⟩; rw [hww]; clear hww w1) | (with_reducible refine (Hid.out (H26 42 42 rfl (by omega))).mono ?_; rintro e w1 ⟨rfl, hww⟩; rw [hww]; clear hww w1)) | (go_at_call 27; first | (with_reducible refine (Hid.out (H27 0 0 rfl (by omega))).mono ?_; rintro e w1 ⟨rfl, hww⟩; rw [hww]; clear hww w1) | (with_reducible refine (Hid.out (H27 20 20 rfl (by omega))).mono ?_; rintro e w1 ⟨rfl, hww⟩; rw [hww]; clear hww w1) | (with_reducible refine (Hid.out (H27 28 28 rfl (by omega))).mono ?_; rintro e w1 ⟨rfl, hww⟩; rw [hww]; clear hww w1)) | (go_at_call 28; with_reducible refine (Hid.out H28).mono ?_; rintro e w1 ⟨rfl, hww⟩; rw [hww]; clear hww w1))
    go_ret
    exact ⟨by rw [Hid.out HE]; rfl, rfl⟩
  · rw [ht] at H28 HRR
    have HE : Hid (refHead l = 0) := (Hid.out HRR).trans (if_neg (by simp))
    clear ht
    go_enter Try.func24, Try.ntmps24
    go_wp2_with (first | (go_at_call 26; first | (with_reducible refine (Hid.out (H26 16 16 rfl (by omega))).mono ?_; rintro e w1 ⟨rfl, hww⟩; rw [hww]; clear hww w1) | (with_reducible refine (Hid.out (H26 18 18 rfl (by omega))).mono ?_; rintro e w1 ⟨rfl, hww⟩; rw [hww]; clear hww w1) | (with_reducible refine (Hid.out (H26 44 44 rfl (by omega))).mono ?_; rintro e w1 ⟨rfl, hww⟩; rw [hww]; clear hww w1) | (with_reducible refine (Hid.out (H26 40 40 rfl (by omega))).mono ?_; rintro e w1 ⟨rfl, hww⟩; rw [hww]; clear hww w1) | (with_reducible refine (Hid.out (H26 42 42 rfl (by omega))).mono ?_; rintro e w1 ⟨rfl, hww⟩; rw [hww]; clear hww w1)) | (go_at_call 27; first | (with_reducible refine (Hid.out (H27 0 0 rfl (by omega))).mono ?_; rintro e w1 ⟨rfl, hww⟩; rw [hww]; clear hww w1) | (with_reducible refine (Hid.out (H27 20 20 rfl (by omega))).mono ?_; rintro e w1 ⟨rfl, hww⟩; rw [hww]; clear hww w1) | (with_reducible refine (Hid.out (H27 28 28 rfl (by omega))).mono ?_; rintro e w1 ⟨rfl, hww⟩; rw [hww]; clear hww w1)) | (go_at_call 28; with_reducible refine (Hid.out H28).mono ?_; rintro e w1 ⟨rfl, hww⟩; rw [hww]; clear hww w1))
    go_ret
    exact ⟨by rw [Hid.out HE]; rfl, rfl⟩
end Go.Proofs.Ytjpmagekianpdaa
