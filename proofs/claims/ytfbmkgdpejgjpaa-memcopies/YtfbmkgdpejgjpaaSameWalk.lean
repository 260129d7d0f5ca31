/- MemSame, walked. -/
import Derived.Test.YtfbmkgdpejgjpaaTwos
namespace Go.Proofs.Ytfbmkgdpejgjpaa
open Go.ChangeShapes Go.WideShapes Go.ChangeAt Go.RowKit
set_option linter.unusedVariables false
theorem two_made {w w1 w2 : World} {s t : MS} {F : AM} {C : Nat} (hs : Own w w1 s) (ht : Own w1 w2 t) (hf : s.abs = F) (hg : t.abs = F) (hc : s.c ≤ C) : Two w w2 s t s.mb t.mb F F C :=
  ⟨hs.later ht.below, ht.wide hs.below, apart_new hs ht, rfl, rfl, hf, hg, hc⟩
theorem two_full {w w2 : World} {s t : MS} {ms mt : Nat} {F G : AM} {C : Nat} (h : Two w w2 s t ms mt F G C) : Full F := by
  rw [← h.f]
  exact full_of h.a.mem
theorem few_true {ps : List Part4} (h : few ps = true) : ps.length ≤ 8 ∧ ∀ p ∈ ps, p.data.length ≤ 600 := by
  unfold few at h
  rw [Bool.and_eq_true, List.all_eq_true, decide_eq_true_eq] at h
  refine ⟨h.2, fun p hp => ?_⟩
  have := h.1 p (by rw [List.take_of_length_le (by omega)]; exact hp)
  simpa using this
set_option maxRecDepth 20000 in
set_option maxHeartbeats 4000000 in
theorem same_walk (ao : Option Addr) (cap : Nat) (ps : List Part4) (a : Nat) (v : UInt8) (w : World) (h : Pieces w ao ps) (hlen : ps.length ≤ 9223372036854775807) (ha : a < 4294967296) :
    Calls Try.prog 6 #[.slice ao ps.length cap, .int .u32 (a : Int), .int .u8 (v.toNat : Int)] w fun e w' => e = .returned (.bool true) ∧ Below w.heap.size w w' := by
  have H39 := hidden (few_any w ao cap ps h hlen)
  cases hfew : few ps with
  | false =>
    rw [hfew] at H39
    clear hfew h
    go_enter Try.func6, Try.ntmps6
    go_wp2_with (first | (go_at_call 39; with_reducible refine (Hid.out H39).mono ?_; rintro e w0 ⟨rfl, hww⟩; rw [hww]; clear hww w0) | (go_at_call 37; with_reducible refine (awake_any _).mono ?_; rintro e w1 ⟨rfl, hb⟩; have HB1 := hidden hb; clear hb))
    go_ret
    exact ⟨rfl, Hid.out HB1⟩
  | true =>
    rw [hfew] at H39
    obtain ⟨h8, hd⟩ := few_true hfew
    have H40 := hidden (memory_any w ao cap ps h h8 hd)
    have H40b : Hid (∀ u, Below w.heap.size w u → Calls Try.prog 40 #[.slice ao ps.length cap] u fun e w' => ∃ s, e = .returned (.pointer (some ⟨s.mb, 0, none⟩)) ∧ Own u w' s ∧ s.abs = memOf ps ∧ s.most = 64 ∧ s.ks.length ≤ 32 ∧ s.ts = [] ∧ s.c ≤ 4800) := fun u hu => memory_any u ao cap ps (h.later hu) h8 hd
    have hC : 4800 < 1099511627776 := by omega
    have hC1 : 4800 + 1 < 1099511627776 := by omega
    clear hfew h h8 hd hlen
    generalize memOf ps = F at H40 H40b
    cases hth : (F (pageOf a)).isSome with
    | false =>
      have HB2 : Hid (Full F → seen (apoke F a v) = seen F) := fun hf => (seen_poke hf a v).2 (by rw [hth]; simp)
      go_enter Try.func6, Try.ntmps6
      go_wp2_with (first | (go_at_call 39; with_reducible refine (Hid.out H39).mono ?_; rintro e w0 ⟨rfl, hww⟩; rw [hww]; clear hww w0) | (go_at_call 40; with_reducible refine (Hid.out H40).mono ?_; rintro e w1 ⟨s, rfl, ho, hab, _, _, _, hcc⟩; have HO1 := hidden ho; have HA1 := hidden hab; have HC1 := hidden hcc; clear ho hab hcc H40) | (go_at_call 40; with_reducible refine (Hid.out H40b _ (Own.below (Hid.out HO1))).mono ?_; rintro e w2 ⟨t, rfl, ho, hab, _, _, _, _⟩; have HT := hidden (two_made (Hid.out HO1) ho (Hid.out HA1) hab (Hid.out HC1)); have HFU := hidden (two_full (Hid.out HT)); clear ho hab H40b HO1 HA1 HC1) | (go_at_call 20; with_reducible refine (Two.same (Hid.out HT) true (Iff.intro (fun _ => rfl) (fun _ => rfl))).mono ?_; rintro e w3 ⟨rfl, ht⟩; have HT3 := hidden ht; clear ht HT) | (go_at_call 28; with_reducible refine (Two.peek (Hid.out HT3) ha).mono ?_; rintro e w4 ⟨rfl, ht⟩; have HT4 := hidden ht; clear ht HT3) | (go_at_call 21; with_reducible refine (Two.poke (Hid.out HT4) v ha hC).mono ?_; rintro e w5 ⟨rfl, s5, ht⟩; rw [hth]; have HT5 := hidden ht; clear ht HT4) | (go_at_call 24; with_reducible refine (Two.mapped (Hid.out HT5) ha).mono ?_; rintro e w6 ⟨rfl, ht⟩; rw [hth]; have HT6 := hidden ht; clear ht HT5) | (go_at_call 20; with_reducible refine (Two.same (Hid.out HT6) true (Iff.intro (fun _ => Hid.out HB2 (Hid.out HFU)) (fun _ => rfl))).mono ?_; rintro e w7 ⟨rfl, ht⟩; have HT7 := hidden ht; clear ht HT6) | (go_at_call 21; with_reducible refine (Two.poke (Hid.out HT7) (getA F a) ha hC1).mono ?_; rintro e w8 ⟨rfl, s8, ht⟩; rw [poke_back (Hid.out HFU)] at ht; have HT8 := hidden ht; clear ht HT7) | (go_at_call 20; with_reducible refine (Two.same (Hid.out HT8) true (Iff.intro (fun _ => rfl) (fun _ => rfl))).mono ?_; rintro e w9 ⟨rfl, ht⟩; have HT9 := hidden ht; clear ht HT8) | (go_at_call 20; with_reducible refine (Two.swap (Hid.out HT9)).mono ?_; intro e w10 hsw; obtain ⟨rfl, ht⟩ := hsw rfl; have HT10 := hidden ht; clear ht HT9) | (go_at_call 19; with_reducible refine (Two.copy (Hid.out HT10)).mono ?_; rintro e w11 ⟨mc, c, rfl, ht, hoc, hmc, hcp, _⟩; have HT11 := hidden ht; have HOC := hidden hoc; have HMC := hidden hmc; have HCP := hidden hcp; clear ht hoc hmc hcp HT10) | (go_at_call 20; with_reducible refine (same_copy (Own.mem (Two.a (Hid.out HT11))) (Own.mem (Hid.out HOC)) (Hid.out HCP) (Two.ms (Hid.out HT11)) (Hid.out HMC)).mono ?_; rintro e w12 ⟨rfl, hb⟩; have HB12 := hidden (Below.trans (Own.below (Hid.out HOC)) (Below.mono hb (Own.below (Hid.out HOC)).size)); clear hb HT11 HOC) | (go_at_call 37; with_reducible refine (awake_any _).mono ?_; rintro e w13 ⟨rfl, hb⟩; have HB13 := hidden (Below.trans (Hid.out HB12) (Below.mono hb (Hid.out HB12).size)); clear hb))
      go_ret
      exact ⟨rfl, Hid.out HB13⟩
    | true =>
      by_cases hv : getA F a = v
      · subst hv
        have HB2 : Hid (Full F → seen (apoke F a (getA F a)) = seen F) := fun hf => (seen_poke hf a _).2 fun _ => rfl
        go_enter Try.func6, Try.ntmps6
        go_wp2_with (first | (go_at_call 39; with_reducible refine (Hid.out H39).mono ?_; rintro e w0 ⟨rfl, hww⟩; rw [hww]; clear hww w0) | (go_at_call 40; with_reducible refine (Hid.out H40).mono ?_; rintro e w1 ⟨s, rfl, ho, hab, _, _, _, hcc⟩; have HO1 := hidden ho; have HA1 := hidden hab; have HC1 := hidden hcc; clear ho hab hcc H40) | (go_at_call 40; with_reducible refine (Hid.out H40b _ (Own.below (Hid.out HO1))).mono ?_; rintro e w2 ⟨t, rfl, ho, hab, _, _, _, _⟩; have HT := hidden (two_made (Hid.out HO1) ho (Hid.out HA1) hab (Hid.out HC1)); have HFU := hidden (two_full (Hid.out HT)); clear ho hab H40b HO1 HA1 HC1) | (go_at_call 20; with_reducible refine (Two.same (Hid.out HT) true (Iff.intro (fun _ => rfl) (fun _ => rfl))).mono ?_; rintro e w3 ⟨rfl, ht⟩; have HT3 := hidden ht; clear ht HT) | (go_at_call 28; with_reducible refine (Two.peek (Hid.out HT3) ha).mono ?_; rintro e w4 ⟨rfl, ht⟩; have HT4 := hidden ht; clear ht HT3) | (go_at_call 21; with_reducible refine (Two.poke (Hid.out HT4) (getA F a) ha hC).mono ?_; rintro e w5 ⟨rfl, s5, ht⟩; rw [hth]; have HT5 := hidden ht; clear ht HT4) | (go_at_call 24; with_reducible refine (Two.mapped (Hid.out HT5) ha).mono ?_; rintro e w6 ⟨rfl, ht⟩; rw [hth]; have HT6 := hidden ht; clear ht HT5) | (go_at_call 20; with_reducible refine (Two.same (Hid.out HT6) true (Iff.intro (fun _ => Hid.out HB2 (Hid.out HFU)) (fun _ => rfl))).mono ?_; rintro e w7 ⟨rfl, ht⟩; have HT7 := hidden ht; clear ht HT6) | (go_at_call 21; with_reducible refine (Two.poke (Hid.out HT7) (getA F a) ha hC1).mono ?_; rintro e w8 ⟨rfl, s8, ht⟩; rw [poke_back (Hid.out HFU)] at ht; have HT8 := hidden ht; clear ht HT7) | (go_at_call 20; with_reducible refine (Two.same (Hid.out HT8) true (Iff.intro (fun _ => rfl) (fun _ => rfl))).mono ?_; rintro e w9 ⟨rfl, ht⟩; have HT9 := hidden ht; clear ht HT8) | (go_at_call 20; with_reducible refine (Two.swap (Hid.out HT9)).mono ?_; intro e w10 hsw; obtain ⟨rfl, ht⟩ := hsw rfl; have HT10 := hidden ht; clear ht HT9) | (go_at_call 19; with_reducible refine (Two.copy (Hid.out HT10)).mono ?_; rintro e w11 ⟨mc, c, rfl, ht, hoc, hmc, hcp, _⟩; have HT11 := hidden ht; have HOC := hidden hoc; have HMC := hidden hmc; have HCP := hidden hcp; clear ht hoc hmc hcp HT10) | (go_at_call 20; with_reducible refine (same_copy (Own.mem (Two.a (Hid.out HT11))) (Own.mem (Hid.out HOC)) (Hid.out HCP) (Two.ms (Hid.out HT11)) (Hid.out HMC)).mono ?_; rintro e w12 ⟨rfl, hb⟩; have HB12 := hidden (Below.trans (Own.below (Hid.out HOC)) (Below.mono hb (Own.below (Hid.out HOC)).size)); clear hb HT11 HOC) | (go_at_call 37; with_reducible refine (awake_any _).mono ?_; rintro e w13 ⟨rfl, hb⟩; have HB13 := hidden (Below.trans (Hid.out HB12) (Below.mono hb (Hid.out HB12).size)); clear hb))
        go_ret
        exact ⟨rfl, Hid.out HB13⟩
      · have HB2 : Hid (Full F → (false = true ↔ seen (apoke F a v) = seen F)) := fun hf => by rw [seen_poke hf, hth]; simp [hv]
        have hx : ¬ ((getA F a).toNat : Int) = (v.toNat : Int) := fun e => hv (UInt8.toNat_inj.1 (by omega))
        clear hv
        go_enter Try.func6, Try.ntmps6
        go_wp2_with (first | (go_at_call 39; with_reducible refine (Hid.out H39).mono ?_; rintro e w0 ⟨rfl, hww⟩; rw [hww]; clear hww w0) | (go_at_call 40; with_reducible refine (Hid.out H40).mono ?_; rintro e w1 ⟨s, rfl, ho, hab, _, _, _, hcc⟩; have HO1 := hidden ho; have HA1 := hidden hab; have HC1 := hidden hcc; clear ho hab hcc H40) | (go_at_call 40; with_reducible refine (Hid.out H40b _ (Own.below (Hid.out HO1))).mono ?_; rintro e w2 ⟨t, rfl, ho, hab, _, _, _, _⟩; have HT := hidden (two_made (Hid.out HO1) ho (Hid.out HA1) hab (Hid.out HC1)); have HFU := hidden (two_full (Hid.out HT)); clear ho hab H40b HO1 HA1 HC1) | (go_at_call 20; with_reducible refine (Two.same (Hid.out HT) true (Iff.intro (fun _ => rfl) (fun _ => rfl))).mono ?_; rintro e w3 ⟨rfl, ht⟩; have HT3 := hidden ht; clear ht HT) | (go_at_call 28; with_reducible refine (Two.peek (Hid.out HT3) ha).mono ?_; rintro e w4 ⟨rfl, ht⟩; have HT4 := hidden ht; clear ht HT3) | (go_at_call 21; with_reducible refine (Two.poke (Hid.out HT4) v ha hC).mono ?_; rintro e w5 ⟨rfl, s5, ht⟩; rw [hth]; have HT5 := hidden ht; clear ht HT4) | (go_at_call 24; with_reducible refine (Two.mapped (Hid.out HT5) ha).mono ?_; rintro e w6 ⟨rfl, ht⟩; rw [hth]; have HT6 := hidden ht; clear ht HT5) | (go_at_call 20; with_reducible refine (Two.same (Hid.out HT6) false (Hid.out HB2 (Hid.out HFU))).mono ?_; rintro e w7 ⟨rfl, ht⟩; have HT7 := hidden ht; clear ht HT6) | (go_at_call 21; with_reducible refine (Two.poke (Hid.out HT7) (getA F a) ha hC1).mono ?_; rintro e w8 ⟨rfl, s8, ht⟩; rw [poke_back (Hid.out HFU)] at ht; have HT8 := hidden ht; clear ht HT7) | (go_at_call 20; with_reducible refine (Two.same (Hid.out HT8) true (Iff.intro (fun _ => rfl) (fun _ => rfl))).mono ?_; rintro e w9 ⟨rfl, ht⟩; have HT9 := hidden ht; clear ht HT8) | (go_at_call 20; with_reducible refine (Two.swap (Hid.out HT9)).mono ?_; intro e w10 hsw; obtain ⟨rfl, ht⟩ := hsw rfl; have HT10 := hidden ht; clear ht HT9) | (go_at_call 19; with_reducible refine (Two.copy (Hid.out HT10)).mono ?_; rintro e w11 ⟨mc, c, rfl, ht, hoc, hmc, hcp, _⟩; have HT11 := hidden ht; have HOC := hidden hoc; have HMC := hidden hmc; have HCP := hidden hcp; clear ht hoc hmc hcp HT10) | (go_at_call 20; with_reducible refine (same_copy (Own.mem (Two.a (Hid.out HT11))) (Own.mem (Hid.out HOC)) (Hid.out HCP) (Two.ms (Hid.out HT11)) (Hid.out HMC)).mono ?_; rintro e w12 ⟨rfl, hb⟩; have HB12 := hidden (Below.trans (Own.below (Hid.out HOC)) (Below.mono hb (Own.below (Hid.out HOC)).size)); clear hb HT11 HOC) | (go_at_call 37; with_reducible refine (awake_any _).mono ?_; rintro e w13 ⟨rfl, hb⟩; have HB13 := hidden (Below.trans (Hid.out HB12) (Below.mono hb (Hid.out HB12).size)); clear hb))
        go_ret
        exact ⟨rfl, Hid.out HB13⟩
end Go.Proofs.Ytfbmkgdpejgjpaa
