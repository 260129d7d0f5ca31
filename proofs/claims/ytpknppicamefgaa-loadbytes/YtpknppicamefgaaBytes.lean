/- Bytes of a page, told and set, by package page and by chapter 4's own answer. -/
import Derived.Test.YtpknppicamefgaaSmall
namespace Go.Proofs.Ytpknppicamefgaa
open Go.ChangeShapes Go.WideShapes Go.ChangeAt Go.RowKit
set_option linter.unusedVariables false
theorem byte_any (w : World) (b : Nat) (l : List UInt8) (p n i : Int) (h : Pg 109 w b l p n) : Calls Try.prog 47 #[.pointer (some ⟨b, 0, none⟩), .int .i64 i] w fun e w' => e = .returned (.int .u8 ((getB l i).toNat : Int)) ∧ w' = w := by
  by_cases hi : inB i
  · have hg : getB l i = l.getD i.toNat 0 := by unfold getB; rw [if_pos hi]
    rw [hg]
    obtain ⟨h0, h1⟩ := hi
    have hc := h.byte (j := i.toNat) (by omega)
    clear h hg
    generalize l.getD i.toNat 0 = v at hc
    go_enter Try.func47, Try.ntmps47
    go_wp2_with (go_at_call 69; refine (there_yes _ _ h0 h1).mono ?_; rintro e w1 ⟨rfl, hww⟩; rw [hww]; clear hww w1)
    go_ret
    exact ⟨rfl, rfl⟩
  · have hg : getB l i = 0 := by unfold getB; rw [if_neg hi]
    rw [hg]
    have H := hidden (there_no i w hi)
    clear h hg hi
    go_enter Try.func47, Try.ntmps47
    go_wp2_with (go_at_call 69; refine (Hid.out H).mono ?_; rintro e w1 ⟨rfl, hww⟩; rw [hww]; clear hww w1)
    go_ret
    exact ⟨rfl, rfl⟩
theorem setByte_any (w : World) (b : Nat) (l : List UInt8) (p n i : Int) (v : UInt8) (hn0 : 0 ≤ n) (hn1 : n < 9223372036854775807) (h : Pg 109 w b l p n) :
    Calls Try.prog 81 #[.pointer (some ⟨b, 0, none⟩), .int .i64 i, .int .u8 (v.toNat : Int)] w fun e w' => e = .returned (.tuple #[]) ∧ Pg 109 w' b (setB l i v) p (cntB n i) ∧ Only b w w' := by
  by_cases hi : inB i
  · have hg : setB l i v = l.set i.toNat v := by unfold setB; rw [if_pos hi]
    have hn : cntB n i = n + 1 := by unfold cntB; rw [if_pos hi]
    rw [hg, hn]
    obtain ⟨h0, h1⟩ := hi
    have hc := h.byte (j := i.toNat) (by omega)
    have hz := h.thaw i.toNat
    have h2 := h.setByte (j := i.toNat) (by omega) v
    have H3 := hidden (h2.setCount (n + 1))
    have H2 := hidden (add_any _ b n hn0 hn1 h2.count (h2.thaw 257))
    clear h hg hn h2
    generalize l.getD i.toNat 0 = v0 at hc
    go_enter Try.func81, Try.ntmps81
    go_wp2_with (first | (go_at_call 69; refine (there_yes _ _ h0 h1).mono ?_; rintro e w1 ⟨rfl, hww⟩; rw [hww]; clear hww w1) | (go_at_call 88; refine (Hid.out H2).mono ?_; rintro e w1 ⟨rfl, hww⟩; rw [hww]; clear hww w1))
    go_end0
    exact ⟨rfl, Hid.out H3, ((Only.refl b w).setCell _ _).setCell _ _⟩
  · have hg : setB l i v = l := by unfold setB; rw [if_neg hi]
    have hn : cntB n i = n := by unfold cntB; rw [if_neg hi]
    rw [hg, hn]
    have H := hidden (there_no i w hi)
    have H3 := hidden h
    clear h hg hi hn
    go_enter Try.func81, Try.ntmps81
    go_wp2_with (go_at_call 69; refine (Hid.out H).mono ?_; rintro e w1 ⟨rfl, hww⟩; rw [hww]; clear hww w1)
    first | go_end0 | refine bodyPost_ret (results_none rfl _ _ _) rfl ?_
    exact ⟨rfl, Hid.out H3, Only.refl b w⟩
/-- Place: what is left, from 0 on. -/
theorem place_any (v : Int) (m : Int) (hm : 0 < m) (hm2 : m < 4611686018427387904) (w : World) : Calls Try.prog 16 #[.int .i64 v, .int .i64 m] w fun e w' => e = .returned (.int .i64 (v % m)) ∧ w' = w := by
  have hne : ¬ m = 0 := by omega
  have h1 := Int.emod_nonneg v hne
  have h2 := Int.emod_lt_of_pos v hm
  have h3 := @Int.tmod_eq_emod v m
  have h4 : (m.natAbs : Int) = m := by omega
  have hb1 : v.tmod m < m := by rw [h3]; split <;> omega
  have hb2 : -m ≤ v.tmod m := by rw [h3]; split <;> omega
  have he : v % m = if v.tmod m < 0 then v.tmod m + m else v.tmod m := by
    rw [h3]
    split <;> (split <;> omega)
  clear h1 h2 h3 h4
  rw [he]
  clear he
  by_cases h0 : v.tmod m < 0
  · rw [if_pos h0]
    go_enter Try.func16, Try.ntmps16
    go_wp2
    go_ret
    exact ⟨rfl, rfl⟩
  · rw [if_neg h0]
    go_enter Try.func16, Try.ntmps16
    go_wp2
    go_ret
    exact ⟨rfl, rfl⟩
end Go.Proofs.Ytpknppicamefgaa
