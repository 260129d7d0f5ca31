/- VintMany, walked. -/
import Derived.Test.YtokicdmbibbkpaaGets
import Derived.Test.YtokicdmbibbkpaaAwake
namespace Go.Proofs.Ytokicdmbibbkpaa
open Go.ChangeShapes Go.WideShapes Go.ChangeAt Go.RowKit
set_option linter.unusedVariables false
/-- The bytes of the first k numbers, one behind the other. -/
def flat (ns : List Nat) : Nat → List UInt8
  | 0 => []
  | k + 1 => flat ns k ++ enc (ns.getD k 0)
theorem flat_len (ns : List Nat) : ∀ k, (flat ns k).length ≤ 10 * k
  | 0 => by simp [flat]
  | k + 1 => by
    have := flat_len ns k
    have := enc_len (ns.getD k 0)
    simp only [flat, List.length_append]
    omega
theorem flat_more (ns : List Nat) (k : Nat) : ∀ d, ∃ rest, flat ns (k + d) = flat ns k ++ rest
  | 0 => ⟨[], by simp⟩
  | d + 1 => by
    obtain ⟨rest, h⟩ := flat_more ns k d
    exact ⟨rest ++ enc (ns.getD (k + d) 0), by rw [← Nat.add_assoc, flat, h, List.append_assoc]⟩
theorem get_flat (ns : List Nat) (hns : ∀ x ∈ ns, x < 18446744073709551616) (k n : Nat) (h : k < n) : getI (flat ns n) ((flat ns k).length : Int) = (ns.getD k 0, (flat ns (k + 1)).length, 0) := by
  obtain ⟨d, rfl⟩ : ∃ d, n = (k + 1) + d := ⟨n - (k + 1), by omega⟩
  obtain ⟨rest, hr⟩ := flat_more ns (k + 1) d
  have hx : ns.getD k 0 < 18446744073709551616 := by
    by_cases hk : k < ns.length
    · rw [List.getD_eq_getElem?_getD, List.getElem?_eq_getElem hk, Option.getD_some]
      exact hns _ (List.getElem_mem hk)
    · rw [List.getD_eq_getElem?_getD, List.getElem?_eq_none (by omega)]
      simp
  rw [hr, flat, get_enc _ _ _ hx, List.length_append]
theorem get64 {ns : List Nat} (hns : ∀ x ∈ ns, x < 18446744073709551616) (k : Nat) : ns.getD k 0 < 18446744073709551616 := by
  by_cases hk : k < ns.length
  · rw [List.getD_eq_getElem?_getD, List.getElem?_eq_getElem hk, Option.getD_some]
    exact hns _ (List.getElem_mem hk)
  · rw [List.getD_eq_getElem?_getD, List.getElem?_eq_none (by omega)]
    simp
/-- The numbers lie where a slice of them begins. -/
def Nums (w : World) (ao : Option Addr) (ns : List Nat) (n : Nat) : Prop :=
  n = 0 ∨ ∃ b off, ao = some ⟨b, off, none⟩ ∧ b < w.heap.size ∧ ∀ j, j < n → w.cell? ⟨b, off + j, none⟩ = some (.int .u64 ((ns.getD j 0 : Nat) : Int))
theorem get_flat_any (w : World) (ns : List Nat) (hns : ∀ x ∈ ns, x < 18446744073709551616) (n k : Nat) (hn : n ≤ 200) (hk : k < n) (ap : Option Addr) (cp : Nat) (hr : Row w ap (flat ns n) cp) :
    Calls Try.prog 11 #[.slice ap (flat ns n).length cp, .int .i64 ((flat ns k).length : Int)] w fun e w' => e = .returned (.tuple #[.int .u64 ((ns.getD k 0 : Nat) : Int), .int .i64 ((flat ns (k + 1)).length : Int), .int .i64 0]) ∧ w' = w := by
  have h := get_any ap cp (flat ns n) ((flat ns k).length : Int) w hr (by have := flat_len ns n; omega)
  rw [get_flat ns hns k n hk] at h
  exact h
theorem get_flat_end (w : World) (ns : List Nat) (n : Nat) (hn : n ≤ 200) (ap : Option Addr) (cp : Nat) (hr : Row w ap (flat ns n) cp) :
    Calls Try.prog 11 #[.slice ap (flat ns n).length cp, .int .i64 ((flat ns n).length : Int)] w fun e w' => e = .returned (.tuple #[.int .u64 0, .int .i64 0, .int .i64 3]) ∧ w' = w := by
  have h := get_any ap cp (flat ns n) ((flat ns n).length : Int) w hr (by have := flat_len ns n; omega)
  rw [get_end] at h
  exact h
theorem put_flat (w : World) (ns : List Nat) (hns : ∀ x ∈ ns, x < 18446744073709551616) (k : Nat) (hk : k < 200) (ap : Option Addr) (cp : Nat) (hr : Row w ap (flat ns k) cp) :
    Calls Try.prog 8 #[.slice ap (flat ns k).length cp, .int .u64 ((ns.getD k 0 : Nat) : Int)] w fun e w' => ∃ ao' cap', e = .returned (.slice ao' (flat ns (k + 1)).length cap') ∧ Row w' ao' (flat ns (k + 1)) cap' ∧ Below w.heap.size w w' := by
  have h := put_any ap cp (flat ns k) (ns.getD k 0) (get64 hns k) w hr (by have := flat_len ns k; omega)
  rw [← List.length_append] at h
  exact h
set_option maxRecDepth 20000 in
set_option maxHeartbeats 800000 in
theorem few_walk (ns : List Nat) (hns : Hid (∀ x ∈ ns, x < 18446744073709551616)) (ao : Option Addr) (n cap : Nat) (hn : n ≤ 200) (hnc : n ≤ cap) (hcap : cap ≤ 9223372036854775807) (w : World) (hr : Nums w ao ns n) :
    Calls Try.prog 5 #[.slice ao n cap] w fun e w' => e = .returned (.bool true) ∧ Below w.heap.size w w' := by
  have HN := hidden hr
  clear hr
  go_enter Try.func5, Try.ntmps5
  go_wp2
  go_loopw [3, 4] (fun p i wr => ∃ (k : Nat) (ap : Option Addr) (cp : Nat), k ≤ n ∧ i = .int .i64 (k : Int) ∧ p = .slice ap (flat ns k).length cp ∧ Row wr ap (flat ns k) cp ∧ Below w.heap.size w wr) (fun _ i _ => n - (intOf i).toNat)
  case atStart => exact ⟨0, none, 0, by omega, rfl, rfl, Row.none _, Below.refl _ _⟩
  case round =>
    obtain ⟨k, ap, cp, hk, rfl, rfl, hrow, hbel⟩ := hrel
    have HR := hidden hrow
    have HB := hidden hbel
    clear hrow hbel
    by_cases hkn : k < n
    · obtain ⟨b, off, rfl, hlt, hc⟩ : ∃ b off, ao = some ⟨b, off, none⟩ ∧ b < w.heap.size ∧ ∀ j, j < n → w.cell? ⟨b, off + j, none⟩ = some (.int .u64 ((ns.getD j 0 : Nat) : Int)) := by
        rcases Hid.out HN with h | h
        · omega
        · exact h
      have hcl := ((Hid.out HB).cell (p := ⟨b, off + k, none⟩) hlt).trans (hc k hkn)
      have hb64 := get64 hns k
      have H8 := hidden (put_flat wr ns hns k (by omega) ap cp (Hid.out HR))
      clear hc
      generalize hx0 : ns.getD k 0 = x at hcl hb64 H8
      clear hx0
      go_wp2_with (go_at_call 8; refine (Hid.out H8).mono ?_; rintro e w1 ⟨a1, c1, rfl, hr1, hb1⟩; have HR1 := hidden hr1; have HB1 := hidden (Below.trans (Hid.out HB) (Below.mono hb1 (Hid.out HB).size)); clear hr1 hb1)
      go_roundw
      case rel => first | exact ⟨k + 1, a1, c1, by omega, by go_num, rfl, HR1, HB1⟩ | ((repeat apply Exists.intro); exact ⟨⟨k + 1, a1, c1, by omega, by go_num, rfl, HR1, HB1⟩, rfl⟩)
      case measure => simp [intOf]; omega
    · go_wp2
      go_loop [5, 6] (fun p i => ∃ (m : Nat), m ≤ k ∧ i = .int .i64 (m : Int) ∧ p = .int .i64 ((flat ns m).length : Int)) (fun _ i => k - (intOf i).toNat)
      case atStart => exact ⟨0, by omega, rfl, rfl⟩
      case round =>
        obtain ⟨m, hm, rfl, rfl⟩ := hrel
        have hl1 := flat_len ns m
        have hl2 := flat_len ns (m + 1)
        have hl3 := flat_len ns k
        by_cases hmn : m < k
        · obtain ⟨b, off, rfl, hlt, hc⟩ : ∃ b off, ao = some ⟨b, off, none⟩ ∧ b < w.heap.size ∧ ∀ j, j < n → w.cell? ⟨b, off + j, none⟩ = some (.int .u64 ((ns.getD j 0 : Nat) : Int)) := by
            rcases Hid.out HN with h | h
            · omega
            · exact h
          have hcl := ((Hid.out HB).cell (p := ⟨b, off + m, none⟩) hlt).trans (hc m (by omega))
          have hlt2 : (flat ns m).length < (flat ns (m + 1)).length := by
            have := enc_pos (ns.getD m 0)
            simp only [flat, List.length_append]
            omega
          have H11 := hidden (get_flat_any wr ns hns k m (by omega) hmn ap cp (Hid.out HR))
          clear hc
          generalize hx0 : ns.getD m 0 = x at hcl H11
          generalize hF : (flat ns (m + 1)).length = F at hlt2 H11 hl2
          have HF := hidden hF
          clear hF hx0
          go_wp2_with (go_at_call 11; refine (Hid.out H11).mono ?_; rintro e w1 ⟨rfl, hww⟩; rw [hww]; clear hww w1)
          go_round
          case rel => first | exact ⟨m + 1, by omega, by go_num, by rw [Hid.out HF]⟩ | ((repeat apply Exists.intro); exact ⟨⟨m + 1, by omega, by go_num, by rw [Hid.out HF]⟩, rfl⟩)
          case measure => simp [intOf]; omega
        · have hm2 : k = m := by omega
          subst hm2
          have H11 := hidden (get_flat_end wr ns k (by omega) ap cp (Hid.out HR))
          go_wp2_with (first | (go_at_call 11; refine (Hid.out H11).mono ?_; rintro e w1 ⟨rfl, hww⟩; rw [hww]; clear hww w1) | (go_at_call 7; refine (awake_any _).mono ?_; rintro e w3 ⟨rfl, hb3⟩; have HB3 := hidden (Below.trans (Hid.out HB) (Below.mono hb3 (Hid.out HB).size)); clear hb3))
          go_ret
          exact ⟨rfl, Hid.out HB3⟩
set_option maxRecDepth 20000 in
set_option maxHeartbeats 800000 in
theorem most_walk (ns : List Nat) (hns : Hid (∀ x ∈ ns, x < 18446744073709551616)) (b off len cap : Nat) (hn : 200 < len) (hnc : len ≤ cap) (hcap : cap ≤ 9223372036854775807) (w : World) (hr : Nums w (some ⟨b, off, none⟩) ns 200) :
    Calls Try.prog 5 #[.slice (some ⟨b, off, none⟩) len cap] w fun e w' => e = .returned (.bool true) ∧ Below w.heap.size w w' := by
  have HN := hidden hr
  clear hr
  have hgd : decide ((200 : Int) < (len : Int)) = true := by simp; omega
  go_enter Try.func5, Try.ntmps5
  go_wp2
  go_loopw [3, 4] (fun p i wr => ∃ (k : Nat) (ap : Option Addr) (cp : Nat), k ≤ 200 ∧ i = .int .i64 (k : Int) ∧ p = .slice ap (flat ns k).length cp ∧ Row wr ap (flat ns k) cp ∧ Below w.heap.size w wr) (fun _ i _ => 200 - (intOf i).toNat)
  case atStart => exact ⟨0, none, 0, by omega, rfl, rfl, Row.none _, Below.refl _ _⟩
  case round =>
    obtain ⟨k, ap, cp, hk, rfl, rfl, hrow, hbel⟩ := hrel
    have HR := hidden hrow
    have HB := hidden hbel
    clear hrow hbel
    by_cases hkn : k < 200
    · obtain ⟨hlt, hc⟩ : b < w.heap.size ∧ ∀ j, j < 200 → w.cell? ⟨b, off + j, none⟩ = some (.int .u64 ((ns.getD j 0 : Nat) : Int)) := by
        rcases Hid.out HN with h | h
        · omega
        · obtain ⟨b2, off2, e, h1, h2⟩ := h; cases e; exact ⟨h1, h2⟩
      have hcl := ((Hid.out HB).cell (p := ⟨b, off + k, none⟩) hlt).trans (hc k hkn)
      have hb64 := get64 hns k
      have H8 := hidden (put_flat wr ns hns k (by omega) ap cp (Hid.out HR))
      clear hc
      generalize hx0 : ns.getD k 0 = x at hcl hb64 H8
      clear hx0
      go_wp2_with (go_at_call 8; refine (Hid.out H8).mono ?_; rintro e w1 ⟨a1, c1, rfl, hr1, hb1⟩; have HR1 := hidden hr1; have HB1 := hidden (Below.trans (Hid.out HB) (Below.mono hb1 (Hid.out HB).size)); clear hr1 hb1)
      go_roundw
      case rel => first | exact ⟨k + 1, a1, c1, by omega, by go_num, rfl, HR1, HB1⟩ | ((repeat apply Exists.intro); exact ⟨⟨k + 1, a1, c1, by omega, by go_num, rfl, HR1, HB1⟩, rfl⟩)
      case measure => simp [intOf]; omega
    · go_wp2
      go_loop [5, 6] (fun p i => ∃ (m : Nat), m ≤ k ∧ i = .int .i64 (m : Int) ∧ p = .int .i64 ((flat ns m).length : Int)) (fun _ i => k - (intOf i).toNat)
      case atStart => exact ⟨0, by omega, rfl, rfl⟩
      case round =>
        obtain ⟨m, hm, rfl, rfl⟩ := hrel
        have hl1 := flat_len ns m
        have hl2 := flat_len ns (m + 1)
        have hl3 := flat_len ns k
        by_cases hmn : m < k
        · obtain ⟨hlt, hc⟩ : b < w.heap.size ∧ ∀ j, j < 200 → w.cell? ⟨b, off + j, none⟩ = some (.int .u64 ((ns.getD j 0 : Nat) : Int)) := by
            rcases Hid.out HN with h | h
            · omega
            · obtain ⟨b2, off2, e, h1, h2⟩ := h; cases e; exact ⟨h1, h2⟩
          have hcl := ((Hid.out HB).cell (p := ⟨b, off + m, none⟩) hlt).trans (hc m (by omega))
          have hlt2 : (flat ns m).length < (flat ns (m + 1)).length := by
            have := enc_pos (ns.getD m 0)
            simp only [flat, List.length_append]
            omega
          have H11 := hidden (get_flat_any wr ns hns k m (by omega) hmn ap cp (Hid.out HR))
          clear hc
          generalize hx0 : ns.getD m 0 = x at hcl H11
          generalize hF : (flat ns (m + 1)).length = F at hlt2 H11 hl2
          have HF := hidden hF
          clear hF hx0
          go_wp2_with (go_at_call 11; refine (Hid.out H11).mono ?_; rintro e w1 ⟨rfl, hww⟩; rw [hww]; clear hww w1)
          go_round
          case rel => first | exact ⟨m + 1, by omega, by go_num, by rw [Hid.out HF]⟩ | ((repeat apply Exists.intro); exact ⟨⟨m + 1, by omega, by go_num, by rw [Hid.out HF]⟩, rfl⟩)
          case measure => simp [intOf]; omega
        · have hm2 : k = m := by omega
          subst hm2
          have H11 := hidden (get_flat_end wr ns k (by omega) ap cp (Hid.out HR))
          go_wp2_with (first | (go_at_call 11; refine (Hid.out H11).mono ?_; rintro e w1 ⟨rfl, hww⟩; rw [hww]; clear hww w1) | (go_at_call 7; refine (awake_any _).mono ?_; rintro e w3 ⟨rfl, hb3⟩; have HB3 := hidden (Below.trans (Hid.out HB) (Below.mono hb3 (Hid.out HB).size)); clear hb3))
          go_ret
          exact ⟨rfl, Hid.out HB3⟩
end Go.Proofs.Ytokicdmbibbkpaa
