/- VintBack, walked. -/
import Derived.Test.YtokicdmbibbkpaaGetTexts
import Derived.Test.YtokicdmbibbkpaaAwake
namespace Go.Proofs.Ytokicdmbibbkpaa
open Go.ChangeShapes Go.WideShapes Go.ChangeAt Go.RowKit
set_option linter.unusedVariables false
theorem Row.front {w : World} {ao : Option Addr} {l : List UInt8} {cap : Nat} (h : Row w ao l cap) (n : Nat) : Row w ao (l.take n) cap := by
  refine ⟨?_, h.max, h.nil, ?_⟩
  · have := h.len; simp; omega
  · rcases h.lies with h | ⟨b, off, ha, hc⟩
    · exact .inl (by simp [h])
    · refine .inr ⟨b, off, ha, fun j hj => ?_⟩
      have hj2 : j < n ∧ j < l.length := by simp at hj; omega
      rw [hc j hj2.2]
      congr 3
      simp [List.getD_eq_getElem?_getD, hj2.1]
theorem getT_enc (a t rest : List UInt8) (most : Int) (n : Nat) (hn : n < 18446744073709551616) (h1 : (n : Int) ≤ most) (h2 : n = t.length) : getT (a ++ enc n ++ (t ++ rest)) (a.length : Int) most = (t, a.length + (enc n).length + n, 0) := by
  unfold getT
  rw [get_enc a (t ++ rest) n hn, if_neg (by simp), if_neg (by simp; omega), if_neg (by simp; omega)]
  simp only [Prod.mk.injEq, and_true]
  rw [← List.length_append, List.drop_left, h2, List.take_left]
theorem getT_short (a t : List UInt8) (most : Int) (n : Nat) (hn : n < 18446744073709551616) (h1 : (n : Int) ≤ most) (h2 : t.length < n) : getT (a ++ enc n ++ t) (a.length : Int) most = ([], 0, 3) := by
  unfold getT
  rw [get_enc a t n hn, if_neg (by simp), if_neg (by simp; omega), if_pos (by simp; omega)]
theorem getT_big (a t : List UInt8) (most : Int) (n : Nat) (hn : n < 18446744073709551616) (h1 : most < (n : Int)) : getT (a ++ enc n ++ t) (a.length : Int) most = ([], 0, 2) := by
  unfold getT
  rw [get_enc a t n hn, if_neg (by simp), if_pos (.inr h1)]
/-- The bytes that VintBack makes. -/
def backs (v : Nat) (t : List UInt8) : List UInt8 := ([7] ++ enc v) ++ enc t.length ++ t
theorem backs_len (v : Nat) (t : List UInt8) : (backs v t).length = 1 + (enc v).length + (enc t.length).length + t.length := by
  simp [backs]; omega
theorem back_calls (w : World) (ap : Option Addr) (cp v k : Nat) (t : List UInt8) (hv : v < 18446744073709551616) (ht : t.length ≤ 3000) (hk : k ≤ t.length) (hr : Row w ap (backs v t) cp) :
    Calls Try.prog 11 #[.slice ap (backs v t).length cp, .int .i64 1] w (fun e w' => e = .returned (.tuple #[.int .u64 (v : Int), .int .i64 ((1 + (enc v).length : Nat) : Int), .int .i64 0]) ∧ w' = w) ∧
    Calls Try.prog 13 #[.slice ap (backs v t).length cp, .int .i64 ((1 + (enc v).length : Nat) : Int), .int .i64 (t.length : Int)] w (fun e w' => e = .returned (.tuple #[.string ⟨t.toArray⟩, .int .i64 ((backs v t).length : Int), .int .i64 0]) ∧ w' = w) ∧
    (k ≠ 0 → Calls Try.prog 13 #[.slice ap ((backs v t).length - k) cp, .int .i64 ((1 + (enc v).length : Nat) : Int), .int .i64 (t.length : Int)] w (fun e w' => e = .returned (.tuple #[.string ⟨#[]⟩, .int .i64 0, .int .i64 3]) ∧ w' = w)) ∧
    Calls Try.prog 13 #[.slice ap (backs v t).length cp, .int .i64 ((1 + (enc v).length : Nat) : Int), .int .i64 ((t.length : Int) - 1)] w (fun e w' => e = .returned (.tuple #[.string ⟨#[]⟩, .int .i64 0, .int .i64 2]) ∧ w' = w) := by
  have h1 := enc_len v
  have h2 := enc_len t.length
  have hl := backs_len v t
  have hal : ([7] ++ enc v).length = 1 + (enc v).length := by simp; omega
  refine ⟨?_, ?_, ?_, ?_⟩
  · have h := get_any ap cp (backs v t) 1 w hr (by omega)
    have e : getI (backs v t) 1 = (v, 1 + (enc v).length, 0) := by
      have := get_enc [7] (enc t.length ++ t) v hv
      simpa [backs] using this
    rw [e] at h
    exact h
  · have h := getText_any ap cp (backs v t) ((1 + (enc v).length : Nat) : Int) (t.length : Int) (by omega) (by omega) w hr (by omega)
    have e := getT_enc ([7] ++ enc v) t [] (t.length : Int) t.length (by omega) (by omega) rfl
    rw [List.append_nil, hal, show 1 + (enc v).length + (enc t.length).length + t.length = (backs v t).length from hl.symm] at e
    unfold backs at h e ⊢
    rw [e] at h
    exact h
  · intro hk0
    have hf := hr.front ((backs v t).length - k)
    have e2 : (backs v t).take ((backs v t).length - k) = ([7] ++ enc v) ++ enc t.length ++ t.take (t.length - k) := by
      rw [hl]
      unfold backs
      rw [List.take_append, List.take_of_length_le (by simp; omega)]
      congr 2
      simp
      omega
    have h := getText_any ap cp _ ((1 + (enc v).length : Nat) : Int) (t.length : Int) (by omega) (by omega) w hf (by simp; omega)
    have e := getT_short ([7] ++ enc v) (t.take (t.length - k)) (t.length : Int) t.length (by omega) (by omega) (by simp; omega)
    rw [hal] at e
    rw [List.length_take, Nat.min_eq_left (by omega), e2, e] at h
    exact h
  · have h := getText_any ap cp (backs v t) ((1 + (enc v).length : Nat) : Int) ((t.length : Int) - 1) (by omega) (by omega) w hr (by omega)
    have e := getT_big ([7] ++ enc v) t ((t.length : Int) - 1) t.length (by omega) (by omega)
    rw [hal] at e
    unfold backs at h ⊢
    rw [e] at h
    exact h
structure Four (w : World) (ap : Option Addr) (cp v k : Nat) (t : List UInt8) (A L : Nat) : Prop where
  c0 : Calls Try.prog 11 #[.slice ap L cp, .int .i64 1] w (fun e w' => e = .returned (.tuple #[.int .u64 (v : Int), .int .i64 (A : Int), .int .i64 0]) ∧ w' = w)
  c1 : Calls Try.prog 13 #[.slice ap L cp, .int .i64 (A : Int), .int .i64 (t.length : Int)] w (fun e w' => e = .returned (.tuple #[.string ⟨t.toArray⟩, .int .i64 (L : Int), .int .i64 0]) ∧ w' = w)
  c2 : k ≠ 0 → Calls Try.prog 13 #[.slice ap (L - k) cp, .int .i64 (A : Int), .int .i64 (t.length : Int)] w (fun e w' => e = .returned (.tuple #[.string ⟨#[]⟩, .int .i64 0, .int .i64 3]) ∧ w' = w)
  c3 : Calls Try.prog 13 #[.slice ap L cp, .int .i64 (A : Int), .int .i64 ((t.length : Int) - 1)] w (fun e w' => e = .returned (.tuple #[.string ⟨#[]⟩, .int .i64 0, .int .i64 2]) ∧ w' = w)
theorem back_bundle (v k : Nat) (t : List UInt8) (hv : v < 18446744073709551616) (ht : t.length ≤ 3000) (hk : k ≤ t.length) : ∃ A L : Nat, t.length + 3 ≤ L ∧ L ≤ 4000 ∧ A ≤ 11 ∧
    (∀ w : World, Calls Try.prog 8 #[.slice (some ⟨w.heap.size, 0, none⟩) 1 1, .int .u64 (v : Int)] (w.alloc (.cells #[.int .u8 7] 5)) fun e w' => ∃ ao' cap', e = .returned (.slice ao' A cap') ∧ Row w' ao' ([7] ++ enc v) cap' ∧ Below w.heap.size w w') ∧
    (∀ (w : World) ap cp, Row w ap ([7] ++ enc v) cp → Calls Try.prog 10 #[.slice ap A cp, .string ⟨t.toArray⟩] w fun e w' => ∃ ao' cap', e = .returned (.slice ao' L cap') ∧ L ≤ cap' ∧ cap' ≤ 9223372036854775807 ∧ Four w' ao' cap' v k t A L ∧ Below w.heap.size w w') := by
  have h1 := enc_len v
  have h2 := enc_len t.length
  have h3 := enc_pos v
  have h4 := enc_pos t.length
  have hl := backs_len v t
  have hal : ([7] ++ enc v).length = 1 + (enc v).length := by simp; omega
  refine ⟨1 + (enc v).length, (backs v t).length, by omega, by omega, by omega, ?_, ?_⟩
  · intro w
    refine (put_any (some ⟨w.heap.size, 0, none⟩) 1 [7] v hv (w.alloc (.cells #[.int .u8 7] 5)) ?_ (by simp)).mono ?_
    · refine ⟨by simp, by simp [maxLen], by simp, .inr ⟨_, 0, rfl, fun j hj => ?_⟩⟩
      have : j = 0 := by simp at hj; omega
      subst this
      rw [cell_of_row _ _ _ _ _ _ (heap_alloc_new w _)]
      rfl
    · rintro e w' ⟨ao', cap', rfl, hr, hb⟩
      refine ⟨ao', cap', rfl, hr, ?_⟩
      exact ((Below.refl _ w).alloc (Nat.le_refl _) _).trans (hb.mono (by simp))
  · intro w ap cp hr
    have h := putText_any ap cp ([7] ++ enc v) t w hr (by rw [hal]; omega)
    rw [hal] at h
    refine h.mono ?_
    rintro e w' ⟨ao', cap', rfl, hr', hb⟩
    have hr2 : Row w' ao' (backs v t) cap' := hr'
    obtain ⟨c0, c1, c2, c3⟩ := back_calls w' ao' cap' v k t hv ht hk hr2
    exact ⟨ao', cap', by rw [hl], hr2.len, hr2.max, ⟨c0, c1, c2, c3⟩, hb⟩
theorem long_back (v : Int) (s : ByteArray) (cut : Int) (w : World) (h : 3000 < s.size) (h2 : s.size ≤ 9223372036854775807) :
    Calls Try.prog 4 #[.int .u64 v, .string s, .int .i64 cut] w fun e w' => e = .returned (.bool true) ∧ Below w.heap.size w w' := by
  go_enter Try.func4, Try.ntmps4
  go_wp2_with (go_at_call 7; refine (awake_any _).mono ?_; rintro e w' ⟨rfl, hb⟩)
  go_ret
  exact ⟨rfl, by assumption⟩
set_option maxRecDepth 20000 in
set_option maxHeartbeats 2000000 in
theorem back_walk (v : Nat) (t : List UInt8) (cut : Int) (hv : v < 18446744073709551616) (ht : t.length ≤ 3000) (hc1 : -9223372036854775808 ≤ cut) (hc2 : cut ≤ 9223372036854775807) (w : World) :
    Calls Try.prog 4 #[.int .u64 (v : Int), .string ⟨t.toArray⟩, .int .i64 cut] w fun e w' => e = .returned (.bool true) ∧ Below w.heap.size w w' := by
  have hpos : (0 : Int) < (t.length : Int) + 1 := by omega
  obtain ⟨k, hK⟩ : ∃ k : Nat, cut % ((t.length : Int) + 1) = (k : Int) := ⟨(cut % ((t.length : Int) + 1)).toNat, by have := Int.emod_nonneg cut (show ((t.length : Int) + 1) ≠ 0 by omega); omega⟩
  have hk : k ≤ t.length := by have := Int.emod_lt_of_pos cut hpos; omega
  obtain ⟨A, L, hL1, hL2, hA, H8, H10⟩ := back_bundle v k t hv ht hk
  have G8 := hidden H8
  have G10 := hidden H10
  clear H8 H10
  by_cases hk0 : k = 0
  · subst hk0
    go_enter Try.func4, Try.ntmps4
    go_wp2_with (first | (go_at_call 8; refine (Hid.out G8 _).mono ?_; rintro e w1 ⟨a1, c1, rfl, hr1, hb1⟩; have HR1 := hidden hr1; have HB1 := hidden hb1; clear hr1 hb1) | (go_at_call 10; refine (Hid.out G10 _ _ _ (Hid.out HR1)).mono ?_; rintro e w2 ⟨a2, c2, rfl, hcl2, hcm2, hf2, hb2⟩; have HF2 := hidden hf2; have HB2 := hidden (Below.trans (Hid.out HB1) (Below.mono hb2 (Hid.out HB1).size)); clear hf2 hb2) | (go_at_call 11; refine (Hid.out HF2).c0.mono ?_; rintro e w3 ⟨rfl, hww⟩; rw [hww]; clear hww w3) | (go_at_call 15; refine (place_any _ _ hpos (by omega) hc1 hc2 _).mono ?_; rintro e w3 ⟨rfl, hww⟩; rw [hww, hK]; clear hww w3) | (go_at_call 13; (first | (with_reducible refine (Hid.out HF2).c1.mono ?_) | (with_reducible refine (Hid.out HF2).c3.mono ?_)); rintro e w3 ⟨rfl, hww⟩; rw [hww]; clear hww w3) | (go_at_call 7; refine (awake_any _).mono ?_; rintro e w3 ⟨rfl, hb3⟩; have HB3 := hidden (Below.trans (Hid.out HB2) (Below.mono hb3 (Hid.out HB2).size)); clear hb3))
    go_ret
    exact ⟨rfl, Hid.out HB3⟩
  · have hkb : ((k : Int) == 0) = false := beq_eq_false_iff_ne.2 (by omega)
    go_enter Try.func4, Try.ntmps4
    go_wp2_with (first | (go_at_call 8; refine (Hid.out G8 _).mono ?_; rintro e w1 ⟨a1, c1, rfl, hr1, hb1⟩; have HR1 := hidden hr1; have HB1 := hidden hb1; clear hr1 hb1) | (go_at_call 10; refine (Hid.out G10 _ _ _ (Hid.out HR1)).mono ?_; rintro e w2 ⟨a2, c2, rfl, hcl2, hcm2, hf2, hb2⟩; have HF2 := hidden hf2; have HB2 := hidden (Below.trans (Hid.out HB1) (Below.mono hb2 (Hid.out HB1).size)); clear hf2 hb2) | (go_at_call 11; refine (Hid.out HF2).c0.mono ?_; rintro e w3 ⟨rfl, hww⟩; rw [hww]; clear hww w3) | (go_at_call 15; refine (place_any _ _ hpos (by omega) hc1 hc2 _).mono ?_; rintro e w3 ⟨rfl, hww⟩; rw [hww, hK]; clear hww w3) | (go_at_call 13; (first | (with_reducible refine (Hid.out HF2).c1.mono ?_) | (with_reducible refine ((Hid.out HF2).c2 hk0).mono ?_) | (with_reducible refine (Hid.out HF2).c3.mono ?_)); rintro e w3 ⟨rfl, hww⟩; rw [hww]; clear hww w3) | (go_at_call 7; refine (awake_any _).mono ?_; rintro e w3 ⟨rfl, hb3⟩; have HB3 := hidden (Below.trans (Hid.out HB2) (Below.mono hb3 (Hid.out HB2).size)); clear hb3))
    go_ret
    exact ⟨rfl, Hid.out HB3⟩
end Go.Proofs.Ytokicdmbibbkpaa
