/- What is wrong with a header. -/
import Derived.Test.YtjpmagekianpdaaReads
namespace Go.Proofs.Ytjpmagekianpdaa
open Go.ChangeShapes Go.WideShapes Go.ChangeAt Go.RowKit
set_option linter.unusedVariables false
theorem bytes_ne {l m : List UInt8} (h : l ≠ m) : ((⟨l.toArray⟩ : ByteArray).toList == (⟨m.toArray⟩ : ByteArray).toList) = false := by
  rw [ByteArray.toList_eq, ByteArray.toList_eq]
  simpa using h
theorem str_piece {w : World} {b off : Nat} {l : List UInt8} {cap : Nat} (h : Row w (some ⟨b, off, none⟩) l cap) (k n c : Nat) (hkn : k + n ≤ l.length) : (convert 22 9 (.slice (some ⟨b, off + k, none⟩) n c)).run Try.prog w = .ok (.string ⟨((l.drop k).take n).toArray⟩) w := by
  have hr := rowPiece h k n hkn n (Nat.le_refl _) (by have := h.max; have := h.len; unfold maxLen at *; omega)
  have := run_str w _ _ c hr.lies
  have hlen : ((l.drop k).take n).length = n := by simp; omega
  rw [hlen] at this
  exact this
set_option maxRecDepth 20000 in
set_option maxHeartbeats 1000000 in
theorem headerError_any (w : World) (ao : Option Addr) (l : List UInt8) (cap : Nat) (h : Row w ao l cap) (hl : l.length ≤ 20000) : Calls Try.prog 20 #[.slice ao l.length cap] w fun e w' => e = .returned (.int .i64 (headE l : Int)) ∧ Below w.heap.size w w' := by
  unfold headE
  by_cases h1 : 16384 < l.length
  · rw [if_pos h1]
    have k1 : (16384 : Int) < (l.length : Int) := by omega
    clear h
    go_enter Try.func20, Try.ntmps20
    go_wp2
    go_ret
    exact ⟨rfl, Below.refl _ _⟩
  rw [if_neg h1]
  have k1 : ¬ (16384 : Int) < (l.length : Int) := by omega
  by_cases h2 : l.length < 52
  · rw [if_pos h2]
    have k2 : (l.length : Int) < 52 := by omega
    clear h
    go_enter Try.func20, Try.ntmps20
    go_wp2
    go_ret
    exact ⟨rfl, Below.refl _ _⟩
  rw [if_neg h2]
  have k2 : ¬ (l.length : Int) < 52 := by omega
  obtain ⟨b, off, rfl, hlt, hc⟩ := rowCells h (by omega)
  have v1 := str_piece h 0 4 cap (by omega)
  have v2 := str_piece h 4 3 (cap - 4) (by omega)
  simp only [List.drop_zero, Nat.add_zero] at v1
  have hcl := h.len
  have hcm : cap ≤ 9223372036854775807 := h.max
  have hcap : (52 : Int) ≤ (cap : Int) := by omega
  have H38 : Hid (∀ w1 (k : Nat) (z : Int), z = (k : Int) → Below w.heap.size w w1 → k ≤ 48 → Calls Try.prog 38 #[.slice (some ⟨b, off, none⟩) l.length cap, .int .i64 z] w1 fun e w' => e = .returned (.int .u32 (w16 l k : Int)) ∧ Below w1.heap.size w1 w') := fun w1 k z hz hb hk => by subst hz; exact half_any w1 _ l cap k (h.later hb) (by omega) hl
  have H23 : Hid (∀ w1, Below w.heap.size w w1 → Calls Try.prog 23 #[.slice (some ⟨b, off, none⟩) l.length cap, .int .i64 20] w1 fun e w' => e = .returned (.int .u32 (w32 l 20 : Int)) ∧ Below w1.heap.size w1 w') := fun w1 hb => bword_any w1 _ l cap 20 (h.later hb) (by omega) hl
  have H16 := hidden (Hid.out H38 w 16 16 rfl (Below.refl _ _) (by omega))
  clear h hc
  by_cases h3 : l.take 4 = magicB
  case neg =>
    rw [if_pos h3]
    have hne : (l.take 4 == [127, 69, 76, 70]) = false := beq_eq_false_iff_ne.2 h3
    generalize l.take 4 = m at v1 hne
    clear h3
    go_enter Try.func20, Try.ntmps20
    go_wp2
    go_ret
    exact ⟨rfl, Below.refl _ _⟩
  rw [if_neg (by rw [h3]; simp)]
  have u1 : (convert 22 9 (.slice (some ⟨b, off, none⟩) 4 cap)).run Try.prog w = .ok (.string ⟨#[127, 69, 76, 70]⟩) w := by
    rw [h3] at v1
    exact v1
  clear v1 h3
  by_cases h4 : (l.drop 4).take 3 = classB
  case neg =>
    rw [if_pos h4]
    have hne : ((l.drop 4).take 3 == [1, 2, 1]) = false := beq_eq_false_iff_ne.2 h4
    generalize (l.drop 4).take 3 = m at v2 hne
    clear h4
    go_enter Try.func20, Try.ntmps20
    go_wp2
    go_ret
    exact ⟨rfl, Below.refl _ _⟩
  rw [if_neg (by rw [h4]; simp)]
  have u2 : (convert 22 9 (.slice (some ⟨b, off + 4, none⟩) 3 (cap - 4))).run Try.prog w = .ok (.string ⟨#[1, 2, 1]⟩) w := by
    rw [h4] at v2
    exact v2
  clear v2 h4
  by_cases h5 : w16 l 16 = 2
  case neg =>
    rw [if_pos h5]
    have h52 : ¬ ((w16 l 16 : Nat) : Int) = 2 := by omega
    generalize w16 l 16 = x at H16 h52
    clear h5
    go_enter Try.func20, Try.ntmps20
    go_wp2_with (first | (go_at_call 38; first | (with_reducible refine (Hid.out H16).mono ?_; rintro e wa ⟨rfl, hb⟩; have HA := hidden hb; have H18 := hidden (Hid.out H38 wa 18 18 rfl hb (by omega)); clear hb H16) | (with_reducible refine (Hid.out H18).mono ?_; rintro e wb ⟨rfl, hb⟩; have HB := hidden (bthen (Hid.out HA) hb); have H20 := hidden (Hid.out H23 wb (Hid.out HB)); clear hb H18 HA) | (with_reducible refine (Hid.out H40).mono ?_; rintro e wd ⟨rfl, hb⟩; have HD := hidden (bthen (Hid.out HC) hb); clear hb H40)) | (go_at_call 23; with_reducible refine (Hid.out H20).mono ?_; rintro e wc ⟨rfl, hb⟩; have HC := hidden (bthen (Hid.out HB) hb); have H40 := hidden (Hid.out H38 wc 40 40 rfl (Hid.out HC) (by omega)); clear hb H20))
    go_ret
    exact ⟨rfl, Hid.out HA⟩
  rw [if_neg (by omega)]
  have h52 : ((w16 l 16 : Nat) : Int) = 2 := by omega
  by_cases h6 : w16 l 18 = 8
  case neg =>
    rw [if_pos h6]
    have h62 : ¬ ((w16 l 18 : Nat) : Int) = 8 := by omega
    go_enter Try.func20, Try.ntmps20
    go_wp2_with (first | (go_at_call 38; first | (with_reducible refine (Hid.out H16).mono ?_; rintro e wa ⟨rfl, hb⟩; have HA := hidden hb; have H18 := hidden (Hid.out H38 wa 18 18 rfl hb (by omega)); clear hb H16) | (with_reducible refine (Hid.out H18).mono ?_; rintro e wb ⟨rfl, hb⟩; have HB := hidden (bthen (Hid.out HA) hb); have H20 := hidden (Hid.out H23 wb (Hid.out HB)); clear hb H18 HA) | (with_reducible refine (Hid.out H40).mono ?_; rintro e wd ⟨rfl, hb⟩; have HD := hidden (bthen (Hid.out HC) hb); clear hb H40)) | (go_at_call 23; with_reducible refine (Hid.out H20).mono ?_; rintro e wc ⟨rfl, hb⟩; have HC := hidden (bthen (Hid.out HB) hb); have H40 := hidden (Hid.out H38 wc 40 40 rfl (Hid.out HC) (by omega)); clear hb H20))
    go_ret
    exact ⟨rfl, Hid.out HB⟩
  rw [if_neg (by omega)]
  have h62 : ((w16 l 18 : Nat) : Int) = 8 := by omega
  by_cases h7 : w32 l 20 = 1
  case neg =>
    rw [if_pos (.inl h7)]
    have h72 : ¬ ((w32 l 20 : Nat) : Int) = 1 := by omega
    go_enter Try.func20, Try.ntmps20
    go_wp2_with (first | (go_at_call 38; first | (with_reducible refine (Hid.out H16).mono ?_; rintro e wa ⟨rfl, hb⟩; have HA := hidden hb; have H18 := hidden (Hid.out H38 wa 18 18 rfl hb (by omega)); clear hb H16) | (with_reducible refine (Hid.out H18).mono ?_; rintro e wb ⟨rfl, hb⟩; have HB := hidden (bthen (Hid.out HA) hb); have H20 := hidden (Hid.out H23 wb (Hid.out HB)); clear hb H18 HA) | (with_reducible refine (Hid.out H40).mono ?_; rintro e wd ⟨rfl, hb⟩; have HD := hidden (bthen (Hid.out HC) hb); clear hb H40)) | (go_at_call 23; with_reducible refine (Hid.out H20).mono ?_; rintro e wc ⟨rfl, hb⟩; have HC := hidden (bthen (Hid.out HB) hb); have H40 := hidden (Hid.out H38 wc 40 40 rfl (Hid.out HC) (by omega)); clear hb H20))
    go_ret
    exact ⟨rfl, Hid.out HC⟩
  have h72 : ((w32 l 20 : Nat) : Int) = 1 := by omega
  by_cases h8 : w16 l 40 < 52
  · rw [if_pos (.inr h8)]
    have h82 : ((w16 l 40 : Nat) : Int) < 52 := by omega
    go_enter Try.func20, Try.ntmps20
    go_wp2_with (first | (go_at_call 38; first | (with_reducible refine (Hid.out H16).mono ?_; rintro e wa ⟨rfl, hb⟩; have HA := hidden hb; have H18 := hidden (Hid.out H38 wa 18 18 rfl hb (by omega)); clear hb H16) | (with_reducible refine (Hid.out H18).mono ?_; rintro e wb ⟨rfl, hb⟩; have HB := hidden (bthen (Hid.out HA) hb); have H20 := hidden (Hid.out H23 wb (Hid.out HB)); clear hb H18 HA) | (with_reducible refine (Hid.out H40).mono ?_; rintro e wd ⟨rfl, hb⟩; have HD := hidden (bthen (Hid.out HC) hb); clear hb H40)) | (go_at_call 23; with_reducible refine (Hid.out H20).mono ?_; rintro e wc ⟨rfl, hb⟩; have HC := hidden (bthen (Hid.out HB) hb); have H40 := hidden (Hid.out H38 wc 40 40 rfl (Hid.out HC) (by omega)); clear hb H20))
    go_ret
    exact ⟨rfl, Hid.out HD⟩
  · rw [if_neg (by omega)]
    have h82 : ¬ ((w16 l 40 : Nat) : Int) < 52 := by omega
    go_enter Try.func20, Try.ntmps20
    go_wp2_with (first | (go_at_call 38; first | (with_reducible refine (Hid.out H16).mono ?_; rintro e wa ⟨rfl, hb⟩; have HA := hidden hb; have H18 := hidden (Hid.out H38 wa 18 18 rfl hb (by omega)); clear hb H16) | (with_reducible refine (Hid.out H18).mono ?_; rintro e wb ⟨rfl, hb⟩; have HB := hidden (bthen (Hid.out HA) hb); have H20 := hidden (Hid.out H23 wb (Hid.out HB)); clear hb H18 HA) | (with_reducible refine (Hid.out H40).mono ?_; rintro e wd ⟨rfl, hb⟩; have HD := hidden (bthen (Hid.out HC) hb); clear hb H40)) | (go_at_call 23; with_reducible refine (Hid.out H20).mono ?_; rintro e wc ⟨rfl, hb⟩; have HC := hidden (bthen (Hid.out HB) hb); have H40 := hidden (Hid.out H38 wc 40 40 rfl (Hid.out HC) (by omega)); clear hb H20))
    go_ret
    exact ⟨rfl, Hid.out HD⟩
end Go.Proofs.Ytjpmagekianpdaa
