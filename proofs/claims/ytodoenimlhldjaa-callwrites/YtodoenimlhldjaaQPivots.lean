/- The library's choice of a pivot, walked. -/
import Derived.Test.YtodoenimlhldjaaQMedians
namespace Go.Proofs.Ytodoenimlhldjaa
open Go.ChangeShapes Go.WideShapes Go.ChangeAt Go.RowKit
set_option linter.unusedVariables false
theorem Ms.start {w : World} {g : Nat} {d : List Nat} {tl : List Value} (h : Srow w g d tl) : Ms (w.alloc (.cells #[.int .i64 0] 3)) (w.alloc (.cells #[.int .i64 0] 3)) g w.heap.size d tl := by
  have hlt : g < w.heap.size := (Array.getElem?_eq_some_iff.1 h).1
  exact ⟨(Below.heap_alloc w _ g hlt).trans h, ⟨0, by show (w.heap.push _)[w.heap.size]? = _; rw [Array.getElem?_push_size]⟩, Only.refl _ _, by omega⟩
theorem Ms.below {w u : World} {g : Nat} {d : List Nat} {tl : List Value} (h : Ms (w.alloc (.cells #[.int .i64 0] 3)) u g w.heap.size d tl) : Below w.heap.size w u := by
  have h1 : Below w.heap.size w (w.alloc (.cells #[.int .i64 0] 3)) := ⟨rfl, rfl, rfl, by show w.heap.size ≤ (w.heap.push _).size; rw [Array.size_push]; omega, fun k hk => Below.heap_alloc w _ k hk⟩
  exact h1.trans (h.only.below (Nat.le_refl _))
set_option maxRecDepth 20000 in
set_option maxHeartbeats 4000000 in
theorem pivot_any (w : World) (g cap a b : Nat) (d : List Nat) (tl : List Value) (h : Srow w g d tl) (hab : a + 12 < b) (hb : b ≤ d.length) (hlen : d.length ≤ 1152921504606846976) :
    Calls Try.prog 88 #[.slice (some ⟨g, 0, none⟩) d.length cap, .int .i64 (a : Int), .int .i64 (b : Int)] w fun e w' => ∃ (x : Nat) (hint : Int), e = .returned (.tuple #[.int .i64 (x : Int), .int .i64 hint]) ∧ InB a b x ∧ Srow w' g d tl ∧ Below w.heap.size w w' := by
  obtain ⟨n, hn⟩ : ∃ n, b = a + n := ⟨b - a, by omega⟩
  have hsub : (b : Int) - (a : Int) = (n : Int) := by omega
  obtain ⟨q, hq⟩ : ∃ q, q = n / 4 := ⟨_, rfl⟩
  have hquo : (n : Int) / 4 = (q : Int) := by omega
  have hq2 : 4 * q ≤ n ∧ n < 4 * q + 4 := by omega
  have hnb : a + n ≤ b ∧ b ≤ a + n := by omega
  have h8 : (8 : Int) ≤ (n : Int) := by omega
  have H0 := hidden (Ms.start h)
  have HI1 : Hid (InB a b (a + q)) := ⟨by omega, by omega⟩
  have HI2 : Hid (InB a b (a + q * 2)) := ⟨by omega, by omega⟩
  have HI3 : Hid (InB a b (a + q * 3)) := ⟨by omega, by omega⟩
  clear h hq hn
  by_cases h50 : 50 ≤ n
  · have h502 : (50 : Int) ≤ (n : Int) := by omega
    have HA1 : Hid (Calls Try.prog 99 #[.slice (some ⟨g, 0, none⟩) d.length cap, .int .i64 ((a : Int) + (q : Int)), .pointer (some ⟨w.heap.size, 0, none⟩)] (w.alloc (.cells #[.int .i64 0] 3)) fun e w' => ∃ (x : Nat), e = .returned (.int .i64 (x : Int)) ∧ InB a b x ∧ Ms (w.alloc (.cells #[.int .i64 0] 3)) w' g w.heap.size d tl) := by
      have := Ms.adjacent (Hid.out H0) (lo := a) (hi := b) (a := a + q) cap hb hlen (by omega) (by omega)
      rwa [Int.natCast_add] at this
    have HA2 : Hid (∀ u, Ms (w.alloc (.cells #[.int .i64 0] 3)) u g w.heap.size d tl → Calls Try.prog 99 #[.slice (some ⟨g, 0, none⟩) d.length cap, .int .i64 ((a : Int) + (q : Int) * 2), .pointer (some ⟨w.heap.size, 0, none⟩)] u fun e w' => ∃ (x : Nat), e = .returned (.int .i64 (x : Int)) ∧ InB a b x ∧ Ms (w.alloc (.cells #[.int .i64 0] 3)) w' g w.heap.size d tl) := fun u hu => by
      have := Ms.adjacent hu (lo := a) (hi := b) (a := a + q * 2) cap hb hlen (by omega) (by omega)
      rwa [Int.natCast_add, Int.natCast_mul] at this
    have HA3 : Hid (∀ u, Ms (w.alloc (.cells #[.int .i64 0] 3)) u g w.heap.size d tl → Calls Try.prog 99 #[.slice (some ⟨g, 0, none⟩) d.length cap, .int .i64 ((a : Int) + (q : Int) * 3), .pointer (some ⟨w.heap.size, 0, none⟩)] u fun e w' => ∃ (x : Nat), e = .returned (.int .i64 (x : Int)) ∧ InB a b x ∧ Ms (w.alloc (.cells #[.int .i64 0] 3)) w' g w.heap.size d tl) := fun u hu => by
      have := Ms.adjacent hu (lo := a) (hi := b) (a := a + q * 3) cap hb hlen (by omega) (by omega)
      rwa [Int.natCast_add, Int.natCast_mul] at this
    go_enter Try.func88, Try.ntmps88
    go_wp2_with (first
      | (go_at_call 100; refine (Ms.median (Hid.out H3) cap hb hlen (Hid.out HX1) (Hid.out HX2) (Hid.out HX3)).mono ?_; rintro e w4 ⟨x4, rfl, hx, hM⟩; have HX4 := hidden hx; have H4 := hidden hM; obtain ⟨z, hz⟩ := hM.cnt; have hcz := hz.cell; clear hx hM hz H3)
      | (go_at_call 99; refine (Hid.out HA3 _ (Hid.out H2)).mono ?_; rintro e w3 ⟨x3, rfl, hx, hM⟩; have HX3 := hidden hx; have H3 := hidden hM; clear hx hM H2 HA3)
      | (go_at_call 99; refine (Hid.out HA2 _ (Hid.out H1)).mono ?_; rintro e w2 ⟨x2, rfl, hx, hM⟩; have HX2 := hidden hx; have H2 := hidden hM; clear hx hM H1 HA2)
      | (go_at_call 99; refine (Hid.out HA1).mono ?_; rintro e w1 ⟨x1, rfl, hx, hM⟩; have HX1 := hidden hx; have H1 := hidden hM; clear hx hM H0 HA1))
    all_goals (go_ret2; exact ⟨x4, _, rfl, Hid.out HX4, (Hid.out H4).row, (Hid.out H4).below⟩)
  · have h502 : ¬ (50 : Int) ≤ (n : Int) := by omega
    have HA1 : Hid (Calls Try.prog 100 #[.slice (some ⟨g, 0, none⟩) d.length cap, .int .i64 ((a : Int) + (q : Int)), .int .i64 ((a : Int) + (q : Int) * 2), .int .i64 ((a : Int) + (q : Int) * 3), .pointer (some ⟨w.heap.size, 0, none⟩)] (w.alloc (.cells #[.int .i64 0] 3)) fun e w' => ∃ (x : Nat), e = .returned (.int .i64 (x : Int)) ∧ InB a b x ∧ Ms (w.alloc (.cells #[.int .i64 0] 3)) w' g w.heap.size d tl) := by
      have := Ms.median (Hid.out H0) cap hb hlen (Hid.out HI1) (Hid.out HI2) (Hid.out HI3)
      rwa [Int.natCast_add, Int.natCast_add, Int.natCast_add, Int.natCast_mul, Int.natCast_mul] at this
    go_enter Try.func88, Try.ntmps88
    go_wp2_with (go_at_call 100; refine (Hid.out HA1).mono ?_; rintro e w4 ⟨x4, rfl, hx, hM⟩; have HX4 := hidden hx; have H4 := hidden hM; obtain ⟨z, hz⟩ := hM.cnt; have hcz := hz.cell; clear hx hM hz)
    all_goals (go_ret2; exact ⟨x4, _, rfl, Hid.out HX4, (Hid.out H4).row, (Hid.out H4).below⟩)
end Go.Proofs.Ytodoenimlhldjaa
